/-
  The pool of layer 10: mathematics of what its frames and the memory behind it hold; how they lie; the calls that only look.
-/
import Derived.Test.YtlmdijijlbmddaaMoves
import Derived.Test.YtlmdijijlbmddaaDoneIn
import Derived.Test.YtlmdijijlbmddaaHeads
import Derived.LaidEqlPtr
import Derived.BigQuiet
import Derived.Deep.QuietTactic
import Derived.Deep.MidRow
import Derived.Recover
import Derived.Deep.RegionWith
namespace Go.Proofs.Ytlmdijijlbmddaa.pool
open Go.RowKit

/-- A tile. -/
structure TV where
  file : Int
  no : Int
  kind : Int
  el : List Int
  deriving DecidableEq
/-- A frame that holds one. -/
structure FV where
  t : TV
  pins : Nat
  dirty : Bool
  num : Int
  deriving DecidableEq
/-- A note of what the memory behind the pool was asked. -/
structure LV where
  k : Int
  a : Int
  n : Int
  deriving DecidableEq
/-- The pool and its memory: the frames from the least recently used one on. -/
structure PS where
  size : Nat
  fr : List FV
  L : List TV
  log : List LV
  deriving DecidableEq

def TV.is (t : TV) (f n : Int) : Bool := t.file == f && t.no == n
def FV.is (v : FV) (f n : Int) : Bool := v.t.is f n
def FV.pinned (v : FV) (f n : Int) : Bool := v.t.is f n && decide (0 < v.pins)

/-- Where a frame lies: its block, its elements', and their room. -/
structure FL where
  b : Nat
  g : Nat
  c : Nat

/-- Four elements. -/
structure El (w : World) (g c : Nat) (el : List Int) : Prop where
  len : el.length = 4
  cap : 4 ≤ c ∧ c ≤ 9223372036854775807
  cur : ∃ cur, Blk w g 2 cur ∧ ∀ (k : Nat) (x : Int), el[k]? = some x → cur[k]? = some (.int .i64 x)
def frC (f : FL) (v : FV) : Array Value := #[.int .i64 v.t.file, .int .i64 v.t.no, .int .i64 v.t.kind, .slice (some ⟨f.g, 0, none⟩) 4 f.c, .int .i64 (v.pins : Int), .bool v.dirty, .int .i64 v.num]
structure FrAt (w : World) (f : FL) (v : FV) : Prop where
  blk : Blk w f.b 82 (frC f v)
  el : El w f.g f.c v.t.el

section
variable {w w' : World} {S : Nat → Prop} {g c : Nat} {el : List Int} {f : FL} {v : FV}
theorem El.keep (h : El w g c el) (hk : Keep S w w') (hn : ¬ S g) : El w' g c el := by
  obtain ⟨cur, hb, hc⟩ := h.cur
  exact ⟨h.len, h.cap, cur, hk.blk hb hn, hc⟩
theorem El.typ (h : El w g c el) : Typ w g 2 := by
  obtain ⟨cur, hb, _⟩ := h.cur
  exact hb.typ
theorem El.at_ (h : El w g c el) {k : Nat} {x : Int} (hx : el[k]? = some x) : w.cell? ⟨g, k, none⟩ = some (.int .i64 x) := by
  obtain ⟨cur, hb, hc⟩ := h.cur
  exact (hb.cell k).trans (hc k x hx)
theorem El.reads (h : El w g c el) : Reads w w.heap.size 1 (some ⟨g, 0, none⟩) 4 (el.map iv) := by
  refine ⟨by rw [List.length_map, h.len], fun _ => ⟨_, rfl, h.typ.lt, fun j u hu => ?_⟩⟩
  rw [List.getElem?_map] at hu
  obtain ⟨x, hx, rfl⟩ := Option.map_eq_some_iff.1 hu
  rw [Addr.add_mid, Nat.zero_add]
  exact h.at_ hx
theorem El.of_own {B : Nat} (hl : el.length = 4) (h : w.ownsRow B 2 1 (.slice (some ⟨g, 0, none⟩) 4 c) 4 (el.map iv)) : El w g c el := by
  rcases h.2 with ⟨e, _⟩ | ⟨g', cap, cur, e, _, hh, hc, hm, hs, ht⟩
  · cases e
  · injection e with e1 e2 e3
    injection e1 with e1
    injection e1 with e1
    subst e1 e3
    refine ⟨hl, ⟨hc, by unfold maxLen at hm; omega⟩, cur, hh, fun k x hx => ?_⟩
    have hk : k < 4 := by rw [← hl]; exact (List.getElem?_eq_some_iff.1 hx).1
    have h2 : (cur.toList.take (4 * 1))[k]? = some (iv x) := by rw [ht, List.getElem?_map, hx]; rfl
    rw [List.getElem?_take_of_lt (by omega), Array.getElem?_toList] at h2
    exact h2
theorem El.set_ (h : El w g c el) {k : Nat} (hk : k < 4) (x : Int) : El (w.setCell ⟨g, k, none⟩ (.int .i64 x)) g c (el.set k x) := by
  obtain ⟨cur, hb, hc⟩ := h.cur
  refine ⟨by rw [List.length_set]; exact h.len, h.cap, _, hb.set_ k _, fun j y hy => ?_⟩
  by_cases hj : k = j
  · subst hj
    rw [List.getElem?_set_self (by rw [h.len]; exact hk)] at hy
    injection hy with hy
    subst hy
    have hlt : k < el.length := by rw [h.len]; exact hk
    have := hc k _ (List.getElem?_eq_getElem hlt)
    exact Array.getElem?_setIfInBounds_self_of_lt (Array.getElem?_eq_some_iff.1 this).1
  · rw [List.getElem?_set_ne hj] at hy
    rw [Array.getElem?_setIfInBounds_ne hj]
    exact hc j y hy
theorem FrAt.keep (h : FrAt w f v) (hk : Keep S w w') (h1 : ¬ S f.b) (h2 : ¬ S f.g) : FrAt w' f v := ⟨hk.blk h.blk h1, h.el.keep hk h2⟩
end

/-! ### A tile and a key as results -/
theorem load_tile (w : World) (g : Nat) (x y z u : Value) (hb : Blk w g 43 #[x, y, z, u]) : (loadVar 43 ⟨g, 0, none⟩).run Try.prog w = .ok (.agg #[x, y, z, u]) w := by
  have h1 : w.rangeAt g 0 [x, y, z, u] := fun j v hv => by
    rw [Nat.zero_add, hb.cell]
    simpa using hv
  exact run_loadVar_mid w g 0 43 [x, y, z, u] _ h1 Try.underlying43 rfl (by kernel_rfl)
theorem results_tile {fn : Func} {t : Tmp} {tmps : Array Value} {w : World} {g : Nat} {x y z u : Value} (h : fn.results = #[.cell t 43]) (ht : tmps.getD t undef = .pointer (some ⟨g, 0, none⟩)) (hb : Blk w g 43 #[x, y, z, u]) : (results fn tmps).run Try.prog w = .ok (.agg #[x, y, z, u]) w := by
  have h1 := load_tile w g x y z u hb
  rw [Array.getD_eq_getD_getElem?] at ht
  simp [results, h, ht, h1, asAddr]
theorem results_tile2 {fn : Func} {t i : Tmp} {tmps : Array Value} {w : World} {g : Nat} {x y z u v : Value} (h : fn.results = #[.cell t 43, .tmp i]) (ht : tmps.getD t undef = .pointer (some ⟨g, 0, none⟩)) (hv : tmps.getD i undef = v) (hb : Blk w g 43 #[x, y, z, u]) : (results fn tmps).run Try.prog w = .ok (.tuple #[.agg #[x, y, z, u], v]) w := by
  have h1 := load_tile w g x y z u hb
  rw [Array.getD_eq_getD_getElem?] at ht hv
  simp [results, h, ht, h1, hv, asAddr]
theorem blk_tile {W : World} {g : Nat} {a b c d : Value} (x y z u : Value) (h : Blk W g 43 #[a, b, c, d]) : Blk ((((W.setCell ⟨g, 0, none⟩ x).setCell ⟨g, 1, none⟩ y).setCell ⟨g, 2, none⟩ z).setCell ⟨g, 3, none⟩ u) g 43 #[x, y, z, u] :=
  (((h.set_ 0 x).set_ 1 y).set_ 2 z).set_ 3 u
theorem load_key (w : World) (g : Nat) (x y : Value) (hb : Blk w g 29 #[x, y]) : (loadVar 29 ⟨g, 0, none⟩).run Try.prog w = .ok (.agg #[x, y]) w := by
  have h1 : w.rangeAt g 0 [x, y] := fun j v hv => by
    rw [Nat.zero_add, hb.cell]
    simpa using hv
  exact run_loadVar_mid w g 0 29 [x, y] _ h1 Try.underlying29 rfl (by kernel_rfl)
theorem results_key {fn : Func} {t : Tmp} {tmps : Array Value} {w : World} {g : Nat} {x y : Value} (h : fn.results = #[.cell t 29]) (ht : tmps.getD t undef = .pointer (some ⟨g, 0, none⟩)) (hb : Blk w g 29 #[x, y]) : (results fn tmps).run Try.prog w = .ok (.agg #[x, y]) w := by
  have h1 := load_key w g x y hb
  rw [Array.getD_eq_getD_getElem?] at ht
  simp [results, h, ht, h1, asAddr]

/-- A tile as a value, and a key. -/
abbrev tvv (t : TV) (g c : Nat) : Value := .agg #[.int .i64 t.file, .int .i64 t.no, .int .i64 t.kind, .slice (some ⟨g, 0, none⟩) 4 c]
abbrev kvv (f n : Int) : Value := .agg #[.int .i64 f, .int .i64 n]

theorem keyof_any (a b d : Int) (A : Option Addr) (n c : Nat) (w : World) : Calls Try.prog 56 #[.agg #[.int .i64 a, .int .i64 b, .int .i64 d, .slice A n c]] w fun e w' => e = .returned (kvv a b) ∧ Below w.heap.size w w' := by
  have hb0 : Below w.heap.size w ((w.alloc (.cells #[.int .i64 a, .int .i64 b, .int .i64 d, .slice A n c] 43)).alloc (.cells #[.int .i64 a, .int .i64 b] 29)) := ((Below.refl _ _).alloc (Nat.le_refl _) _).alloc (by simp) _
  have hy := Blk.new (w.alloc (.cells #[.int .i64 a, .int .i64 b, .int .i64 d, .slice A n c] 43)) 29 #[.int .i64 a, .int .i64 b]
  rw [World.size_alloc] at hy
  have HY := Lib.hid hy
  have HB := Lib.hid hb0
  clear hy hb0
  go_enter Try.func56, Try.ntmps56
  go_wp2
  refine bodyPost_ret (results_key rfl rfl HY.out) rfl ?_
  exact ⟨rfl, HB.out⟩

/-! ### Of four elements in new memory -/
theorem infoI64 : (Try.prog.info? 2).map (fun i => (i.zero, i.size, i.bytes)) = some (some (.int .i64 0), 1, 8) := by kernel_rfl
theorem run_neqnil (w : World) (A : Option Addr) (n c n' c' : Nat) : (binOp .eql 41 (.slice A n c) (.slice none n' c')).run Try.prog w = .ok (.bool A.isNone) w := Lib.run_eql_slice_nil w _ _ A n c n' c' Try.underlying41
theorem own_four {w : World} {B : Nat} {v : Value} {xs : List Value} (h : w.ownsRow B 2 1 v 4 xs) : ∃ g c, v = .slice (some ⟨g, 0, none⟩) 4 c ∧ B ≤ g ∧ g < w.heap.size := by
  rcases h.2 with ⟨_, e⟩ | ⟨g, cap, cur, e, hb, hh, _⟩
  · exact absurd e (by decide)
  · exact ⟨g, cap, e, hb, (Array.getElem?_eq_some_iff.1 hh).1⟩

set_option maxHeartbeats 1000000 in
theorem clonei_any {g c : Nat} {el : List Int} {w : World} (h : El w g c el) : Calls Try.prog 64 #[.slice (some ⟨g, 0, none⟩) 4 c] w fun e w' => ∃ g' c', e = .returned (.slice (some ⟨g', 0, none⟩) 4 c') ∧ w.heap.size ≤ g' ∧ El w' g' c' el ∧ Below w.heap.size w w' := by
  obtain ⟨i0, hi, hz0, hz1, hz2⟩ := info_parts infoI64
  have hr := h.reads
  have HL := Lib.hid h.len
  have q := run_neqnil
  have z5 : ∀ w, Sem.run Try.prog (Go.sizeOf 2) w = .ok 1 w := fun w => by simp [Go.sizeOf, typeInfo, hi, hz1]
  clear h
  go_enter Try.func64, Try.ntmps64
  go_wp2_with (at_builtin; refine wpList_append_any _ rfl _ _ 41 rfl w.heap.size 2 i0 (.int .i64 0) 1 8 Try.underlying41 hi hz0 hz1 hz2 rfl (by decide) _ _ _ rfl (World.ownsRow_made w #[] 0 (Nat.le_refl _) (Nat.zero_le _) rfl) w.heap.size (some ⟨g, 0, none⟩) 4 c (el.map iv) rfl (hr.alloc (Nat.le_refl _) _) (iv_one el) (by unfold maxLen; omega) (by omega) (by simp) ?_)
  intro v' w1 hown hgrow hat
  have hB : Below w.heap.size w w1 := ((Below.refl _ w).alloc (Nat.le_refl _) _).grown hgrow (by simp) (by intro k hk; simp [Value.ownBlock] at hk; omega)
  have hH : w1.ownsRow w.heap.size 2 1 v' 4 (el.map iv) := by simpa using hown
  obtain ⟨g', c', rfl, hg, _⟩ := own_four hH
  have HB := Lib.hid hB
  have HH := Lib.hid (El.of_own HL.out hH)
  have HG := Lib.hid hg
  clear hat hB hH hown hgrow hr hg
  go_wp2
  go_ret
  exact ⟨g', c', rfl, HG.out, HH.out, HB.out⟩

set_option maxHeartbeats 1000000 in
theorem copied_any (t : TV) (g c : Nat) (w : World) (h : El w g c t.el) : Calls Try.prog 60 #[tvv t g c] w fun e w' => ∃ g' c', e = .returned (tvv t g' c') ∧ w.heap.size ≤ g' ∧ El w' g' c' t.el ∧ Below w.heap.size w w' := by
  obtain ⟨f, n, k, el⟩ := t
  unfold tvv
  simp only at h ⊢
  obtain ⟨w1, hw1⟩ : ∃ w1, (w.alloc (.cells #[.int .i64 f, .int .i64 n, .int .i64 k, .slice (some ⟨g, 0, none⟩) 4 c] 43)).alloc (.cells #[.int .i64 0, .int .i64 0, .int .i64 0, .slice none 0 0] 43) = w1 := ⟨_, rfl⟩
  have hb1 : Below w.heap.size w w1 := by rw [← hw1]; exact ((Below.refl _ _).alloc (Nat.le_refl _) _).alloc (by simp) _
  have hs1 : w1.heap.size = w.heap.size + 2 := by rw [← hw1]; simp
  have hx1 : Blk w1 w.heap.size 43 #[.int .i64 f, .int .i64 n, .int .i64 k, .slice (some ⟨g, 0, none⟩) 4 c] := by rw [← hw1]; exact (Blk.new w _ _).alloc _
  have hy1 : Blk w1 (w.heap.size + 1) 43 #[.int .i64 0, .int .i64 0, .int .i64 0, .slice none 0 0] := by
    rw [← hw1]
    have := Blk.new (w.alloc (.cells #[.int .i64 f, .int .i64 n, .int .i64 k, .slice (some ⟨g, 0, none⟩) 4 c] 43)) 43 #[.int .i64 0, .int .i64 0, .int .i64 0, .slice none 0 0]
    rwa [World.size_alloc] at this
  have h1 : El w1 g c el := h.keep (Keep.of_below (S := fun _ => False) hb1) (fun h => h)
  have HC := Lib.hid (clonei_any h1)
  have x3 := hx1.cell 3
  have HX := Lib.hid hx1
  have HY := Lib.hid hy1
  have HB := Lib.hid hb1
  clear h h1 hx1 hy1 hb1
  go_enter Try.func60, Try.ntmps60
  go_wp2_with (go_at_call 64; refine HC.out.mono ?_; rintro e w2 ⟨g', c', rfl, hg, he, hb⟩; have hx2 := HX.out.below hb (by omega); have hy2 := HY.out.below hb (by omega); have x0 := hx2.cell 0; have x1 := hx2.cell 1; have x2 := hx2.cell 2; have z3 := hx2.cell 3; have f3 := hx2.frozen 3; have y0 := hy2.cell 0; have y1 := hy2.cell 1; have y2 := hy2.cell 2; have y3 := hy2.cell 3; have g0 := hy2.frozen 0; have g1 := hy2.frozen 1; have g2 := hy2.frozen 2; have g3 := hy2.frozen 3; have hlt := hy2.lt; have HX2 := Lib.hid hx2; have HY2 := Lib.hid hy2; have HB2 := Lib.hid hb; have HE2 := Lib.hid he; have HG2 := Lib.hid hg; clear hx2 hy2 hb he hg)
  have hk : Keep (fun i => i = w.heap.size ∨ i = w.heap.size + 1) w2 (((((w2.setCell ⟨w.heap.size, 3, none⟩ (.slice (some ⟨g', 0, none⟩) 4 c')).setCell ⟨w.heap.size + 1, 0, none⟩ (.int .i64 f)).setCell ⟨w.heap.size + 1, 1, none⟩ (.int .i64 n)).setCell ⟨w.heap.size + 1, 2, none⟩ (.int .i64 k)).setCell ⟨w.heap.size + 1, 3, none⟩ (.slice (some ⟨g', 0, none⟩) 4 c')) :=
    (((((Keep.refl _ _).setCell _ _ (fun _ => .inl rfl)).setCell _ _ (fun _ => .inr rfl)).setCell _ _ (fun _ => .inr rfl)).setCell _ _ (fun _ => .inr rfl)).setCell _ _ (fun _ => .inr rfl)
  refine bodyPost_ret (results_tile rfl rfl (blk_tile _ _ _ _ (HY2.out.far (p := ⟨w.heap.size, 3, none⟩) (by simp) _))) rfl ?_
  exact ⟨g', c', rfl, by have := HG2.out; omega, HE2.out.keep hk (by have := HG2.out; omega), (HB.out.trans (HB2.out.mono (by omega))).trans (hk.below (by omega) (fun i hi e => by omega))⟩

set_option maxHeartbeats 1000000 in
theorem ptwin_any (t : TV) (g c : Nat) (w : World) (h : El w g c t.el) : Calls Try.prog 171 #[tvv t g c] w fun e w' => ∃ g' c', e = .returned (tvv t g' c') ∧ w.heap.size ≤ g' ∧ El w' g' c' t.el ∧ Below w.heap.size w w' := by
  obtain ⟨f, n, k, el⟩ := t
  unfold tvv
  simp only at h ⊢
  obtain ⟨i0, hi, hz0, hz1, hz2⟩ := info_parts infoI64
  obtain ⟨w1, hw1⟩ : ∃ w1, (w.alloc (.cells #[.int .i64 f, .int .i64 n, .int .i64 k, .slice (some ⟨g, 0, none⟩) 4 c] 43)).alloc (.cells #[.int .i64 0, .int .i64 0, .int .i64 0, .slice none 0 0] 43) = w1 := ⟨_, rfl⟩
  have hb1 : Below w.heap.size w w1 := by rw [← hw1]; exact ((Below.refl _ _).alloc (Nat.le_refl _) _).alloc (by simp) _
  have hs1 : w1.heap.size = w.heap.size + 2 := by rw [← hw1]; simp
  have hx1 : Blk w1 w.heap.size 43 #[.int .i64 f, .int .i64 n, .int .i64 k, .slice (some ⟨g, 0, none⟩) 4 c] := by rw [← hw1]; exact (Blk.new w _ _).alloc _
  have hy1 : Blk w1 (w.heap.size + 1) 43 #[.int .i64 0, .int .i64 0, .int .i64 0, .slice none 0 0] := by
    rw [← hw1]
    have := Blk.new (w.alloc (.cells #[.int .i64 f, .int .i64 n, .int .i64 k, .slice (some ⟨g, 0, none⟩) 4 c] 43)) 43 #[.int .i64 0, .int .i64 0, .int .i64 0, .slice none 0 0]
    rwa [World.size_alloc] at this
  have h1 : El w1 g c el := h.keep (Keep.of_below (S := fun _ => False) hb1) (fun h => h)
  have hr := h1.reads
  have HL := Lib.hid h.len
  have x3 := hx1.cell 3
  have HX := Lib.hid hx1
  have HY := Lib.hid hy1
  have HB := Lib.hid hb1
  clear h h1 hx1 hy1 hb1
  go_enter Try.func171, Try.ntmps171
  go_wp2_with (at_builtin; refine wpList_append_any _ rfl _ _ 41 rfl w1.heap.size 2 i0 (.int .i64 0) 1 8 Try.underlying41 hi hz0 hz1 hz2 rfl (by decide) _ 0 [] rfl (World.ownsRow_nil _ _ _ _) w1.heap.size (some ⟨g, 0, none⟩) 4 c (el.map iv) rfl hr (iv_one el) (by unfold maxLen; omega) (by omega) (Nat.le_refl _) ?_)
  intro v' w2 hown hgrow hat
  have hb : Below w1.heap.size w1 w2 := (Below.refl _ w1).grown hgrow (Nat.le_refl _) (by intro k hk; simp [Value.ownBlock] at hk)
  have hH : w2.ownsRow (w.heap.size + 2) 2 1 v' 4 (el.map iv) := hown
  obtain ⟨g', c', rfl, hg, _⟩ := own_four hH
  have he := El.of_own HL.out hH
  have hx2 := HX.out.below hb (by omega)
  have hy2 := HY.out.below hb (by omega)
  have x0 := hx2.cell 0; have x1 := hx2.cell 1; have x2 := hx2.cell 2; have z3 := hx2.cell 3; have f3 := hx2.frozen 3; have y0 := hy2.cell 0; have y1 := hy2.cell 1; have y2 := hy2.cell 2; have y3 := hy2.cell 3; have g0 := hy2.frozen 0; have g1 := hy2.frozen 1; have g2 := hy2.frozen 2; have g3 := hy2.frozen 3; have hlt := hy2.lt; have HX2 := Lib.hid hx2; have HY2 := Lib.hid hy2; have HB2 := Lib.hid hb; have HE2 := Lib.hid he; have HG2 := Lib.hid hg
  clear hx2 hy2 hb he hg hat hH hown hgrow hr x3
  go_wp2
  have hk : Keep (fun i => i = w.heap.size ∨ i = w.heap.size + 1) w2 (((((w2.setCell ⟨w.heap.size, 3, none⟩ (.slice (some ⟨g', 0, none⟩) 4 c')).setCell ⟨w.heap.size + 1, 0, none⟩ (.int .i64 f)).setCell ⟨w.heap.size + 1, 1, none⟩ (.int .i64 n)).setCell ⟨w.heap.size + 1, 2, none⟩ (.int .i64 k)).setCell ⟨w.heap.size + 1, 3, none⟩ (.slice (some ⟨g', 0, none⟩) 4 c')) :=
    (((((Keep.refl _ _).setCell _ _ (fun _ => .inl rfl)).setCell _ _ (fun _ => .inr rfl)).setCell _ _ (fun _ => .inr rfl)).setCell _ _ (fun _ => .inr rfl)).setCell _ _ (fun _ => .inr rfl)
  refine bodyPost_ret (results_tile rfl rfl (blk_tile _ _ _ _ (HY2.out.far (p := ⟨w.heap.size, 3, none⟩) (by simp) _))) rfl ?_
  exact ⟨g', c', rfl, by have := HG2.out; omega, HE2.out.keep hk (by have := HG2.out; omega), (HB.out.trans (HB2.out.mono (by omega))).trans (hk.below (by omega) (fun i hi e => by omega))⟩

/-! ### What is asked of a frame -/
section
variable {w : World} {f : FL} {v : FV}
set_option maxHeartbeats 1000000 in
theorem find1_any (h : FrAt w f v) (C : Nat) (a b : Int) (hC : Blk w C 29 #[.int .i64 a, .int .i64 b]) : Calls Try.prog 82 #[.pointer (some ⟨f.b, 0, none⟩), .pointer (some ⟨C, 0, none⟩)] w fun e w' => e = .returned (.bool (v.is a b)) ∧ Below w.heap.size w w' := by
  obtain ⟨⟨vf, vn, vk, el⟩, pins, dirty, num⟩ := v
  have hb := h.blk
  unfold frC at hb
  simp only at hb
  have c0 := hb.cell 0
  have c1 := hb.cell 1
  have c2 := hb.cell 2
  have c3 := hb.cell 3
  have k0 := hC.cell 0
  have k1 := hC.cell 1
  unfold FV.is TV.is
  simp only
  have HC : Hid (∀ W, Below w.heap.size w W → W.cell? ⟨f.b, 0, none⟩ = some (.int .i64 vf) ∧ W.cell? ⟨f.b, 1, none⟩ = some (.int .i64 vn) ∧ W.cell? ⟨f.b, 2, none⟩ = some (.int .i64 vk) ∧ W.cell? ⟨f.b, 3, none⟩ = some (.slice (some ⟨f.g, 0, none⟩) 4 f.c) ∧ W.cell? ⟨C, 0, none⟩ = some (.int .i64 a) ∧ W.cell? ⟨C, 1, none⟩ = some (.int .i64 b)) := Lib.hid (fun W hW => ⟨(hb.below hW hb.lt).cell 0, (hb.below hW hb.lt).cell 1, (hb.below hW hb.lt).cell 2, (hb.below hW hb.lt).cell 3, (hC.below hW hC.lt).cell 0, (hC.below hW hC.lt).cell 1⟩)
  clear hb hC h c0 c1 c2 c3 k0 k1
  have HK : Hid (∀ W, Calls Try.prog 56 #[.agg #[.int .i64 vf, .int .i64 vn, .int .i64 vk, .slice (some ⟨f.g, 0, none⟩) 4 f.c]] W fun e w' => e = .returned (kvv vf vn) ∧ Below W.heap.size W w') := Lib.hid (fun W => keyof_any vf vn vk _ 4 f.c W)
  go_enter Try.func82, Try.ntmps82
  go_wp2
  refine wp_region_steps_on (fun W => Below w.heap.size w W) (fun i v _ => v = ([.pointer (some ⟨f.b, 0, none⟩), .pointer (some ⟨f.b, 0, none⟩), .pointer (some ⟨f.b, 0, none⟩), .agg #[.int .i64 vf, .int .i64 vn, .int .i64 vk, .slice (some ⟨f.g, 0, none⟩) 4 f.c], kvv vf vn, kvv a b, .bool (vf == a && vn == b), .bool (vf == a && vn == b)] : List Value).getD i undef) (by kernel_rfl) 11 rfl (by kernel_rfl) ((Below.refl _ _).drew) ?_ ?_
  · intro i hi
    have hi2 : i < 8 := hi
    clear hi
    rcases i with _ | i
    · refine step_value (.pointer (some ⟨f.b, 0, none⟩)) rfl ?_
      intro a8 w8 hS ho hn
      have o0 : a8.tmps[0]? = some _ := (ho 0 (by kernel_rfl)).trans rfl
      clear ho hn
      refine ⟨wanted_free rfl, ?_, rfl⟩
      go_simp
    rcases i with _ | i
    · refine step_value (.pointer (some ⟨f.b, 0, none⟩)) rfl ?_
      intro a8 w8 hS ho hn
      obtain ⟨_, n4, rfl⟩ := hn 0 4 (by kernel_rfl) rfl
      clear ho hn
      refine ⟨wanted_free rfl, ?_, rfl⟩
      go_simp
    rcases i with _ | i
    · refine step_value (.pointer (some ⟨f.b, 0, none⟩)) rfl ?_
      intro a8 w8 hS ho hn
      obtain ⟨_, n5, rfl⟩ := hn 1 5 (by kernel_rfl) rfl
      clear ho hn
      refine ⟨wanted_free rfl, ?_, rfl⟩
      go_simp
    rcases i with _ | i
    · refine step_value (.agg #[.int .i64 vf, .int .i64 vn, .int .i64 vk, .slice (some ⟨f.g, 0, none⟩) 4 f.c]) rfl ?_
      intro a8 w8 hS ho hn
      obtain ⟨_, n6, rfl⟩ := hn 2 6 (by kernel_rfl) rfl
      clear ho hn
      refine ⟨wanted_free rfl, ?_, rfl⟩
      obtain ⟨c0, c1, c2, c3, k0, k1⟩ := HC.out w8 hS
      go_simp
    rcases i with _ | i
    · refine step_call 56 #[.agg #[.int .i64 vf, .int .i64 vn, .int .i64 vk, .slice (some ⟨f.g, 0, none⟩) 4 f.c]] rfl ?_
      intro a8 w8 hS ho hn
      obtain ⟨_, n7, rfl⟩ := hn 3 7 (by kernel_rfl) rfl
      clear ho hn
      refine ⟨wanted_free rfl, by go_simp, ?_⟩
      refine ((HK.out w8)).mono ?_
      rintro e w9 ⟨rfl, hw⟩
      exact ⟨_, rfl, hS.trans (hw.mono hS.size), rfl, fun j u _ h => h⟩
    rcases i with _ | i
    · refine step_value (kvv a b) rfl ?_
      intro a8 w8 hS ho hn
      have o1 : a8.tmps[1]? = some _ := (ho 1 (by kernel_rfl)).trans rfl
      clear ho hn
      refine ⟨wanted_free rfl, ?_, rfl⟩
      obtain ⟨c0, c1, c2, c3, k0, k1⟩ := HC.out w8 hS
      go_simp
    rcases i with _ | i
    · refine step_value (.bool (vf == a && vn == b)) rfl ?_
      intro a8 w8 hS ho hn
      obtain ⟨_, n8, rfl⟩ := hn 4 8 (by kernel_rfl) rfl
      obtain ⟨_, n9, rfl⟩ := hn 5 9 (by kernel_rfl) rfl
      clear ho hn
      refine ⟨wanted_free rfl, ?_, rfl⟩
      go_simp
      by_cases h1 : vf = a <;> by_cases h2 : vn = b <;> simp [h1, h2]
    rcases i with _ | i
    · refine step_value (.bool (vf == a && vn == b)) rfl ?_
      intro a8 w8 hS ho hn
      obtain ⟨_, n10, rfl⟩ := hn 6 10 (by kernel_rfl) rfl
      clear ho hn
      refine ⟨wanted_free rfl, ?_, rfl⟩
      go_simp
    omega
  · intro f w9 hS hR
    have h3 : f 3 = _ := hR 7 3 rfl
    simp only [putAll, List.foldl_cons, List.foldl_nil, Act.put, List.setIfInBounds_toArray, List.set_cons_succ, List.set_cons_zero, h3, List.getD_cons_zero, List.getD_cons_succ]
    clear hR h3
    go_wp2
    go_ret
    exact ⟨rfl, hS⟩
end
end Go.Proofs.Ytlmdijijlbmddaa.pool

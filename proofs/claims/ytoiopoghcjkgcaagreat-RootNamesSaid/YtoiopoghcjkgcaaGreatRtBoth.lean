/-
  The root of layer 6: Both.
-/
import Derived.Test.YtoiopoghcjkgcaaGreatRtSort
namespace Go.Proofs.YtoiopoghcjkgcaaGreat.root
open Go.RowKit Go.Proofs.YtoiopoghcjkgcaaGreat.crc

/-- The roots of the first k slots that count. -/
def cntL (L : Nat → List UInt8) : Nat → List RV
  | 0 => []
  | k + 1 => cntL L k ++ if countsR k (L k) = true then [candR (L k)] else []
def bothE (er : Nat → Int) : Int := if er 0 = 0 then er 1 else er 0
def bothL (er : Nat → Int) (L : Nat → List UInt8) : List RV := if bothE er = 0 then sortR (cntL L 2) else []
theorem cntL_le (L : Nat → List UInt8) : ∀ k, (cntL L k).length ≤ k
  | 0 => Nat.le_refl _
  | k + 1 => by
    unfold cntL
    rw [List.length_append]
    have := cntL_le L k
    split <;> simp <;> omega

/-- What Both has gathered. -/
structure BI (w4 : World) (q : Nat) (l : List RV) (W : World) : Prop where
  keep : Keep (fun i => i = q) w4 W
  c : ∃ A c, Blk W q 49 #[.slice A l.length c] ∧ W.ownsRow w4.heap.size 35 3 (.slice A l.length c) l.length (rowsR l)
theorem own_turned {W W' : World} {base B size n : Nat} {e : TypeId} {v : Value} {xs : List Value} {row : Option Nat} (h : W.ownsRow base e size v n xs) (hg : W.grownBy W' row) (hr : ∀ r, row = some r → B ≤ r ∧ ∃ o : Obj, W.heap[r]? = some o ∧ o.isCells = false) : W'.ownsRow base e size v n xs := by
  refine ⟨h.1, ?_⟩
  rcases h.2 with ⟨rfl, h0⟩ | ⟨g, cap, cur, rfl, hb, hh, hrest⟩
  · exact .inl ⟨rfl, h0⟩
  · exact .inr ⟨g, cap, cur, rfl, hb, (show Blk W' g e cur from blk_own (show Blk W g e cur from hh) hg hr), hrest⟩
theorem BI.own {w4 W W' : World} {q : Nat} {l : List RV} {row : Option Nat} (h : BI w4 q l W) (hg : W.grownBy W' row) (hr : ∀ r, row = some r → w4.heap.size ≤ r ∧ ∃ o : Obj, W.heap[r]? = some o ∧ o.isCells = false) : BI w4 q l W' := by
  obtain ⟨h1, A, c, h2, h3⟩ := h
  exact ⟨h1.grown hg (fun g e hlt => by have := (hr g e).1; omega), A, c, blk_own h2 hg hr, own_turned h3 hg hr⟩
theorem BI.moved {w4 W W' : World} {q : Nat} {l : List RV} (h : BI w4 q l W) (hb : Below W.heap.size W W') : BI w4 q l W' := by
  obtain ⟨h1, A, c, h2, h3⟩ := h
  exact ⟨h1.trans (Keep.of_below (S := fun _ => False) hb) (fun _ _ h => h.elim), A, c, h2.below hb h2.lt, own_stay h3 hb⟩
theorem reads_turn {W W' : World} {A : Option Addr} {n : Nat} {l : List Value} {row : Option Nat} (h : Reads W W.heap.size 1 A n l) (hg : W.grownBy W' row) (hr : ∀ r, row = some r → ∃ o : Obj, W.heap[r]? = some o ∧ o.isCells = false) : Reads W' W'.heap.size 1 A n l := by
  refine ⟨h.1, fun h0 => ?_⟩
  obtain ⟨ad, e, hlt, hc⟩ := h.2 h0
  refine ⟨ad, e, Nat.lt_of_lt_of_le hlt hg.size, fun j u hu => ?_⟩
  have hcj := hc j u hu
  have hne : some ad.block ≠ row := fun e => by
    obtain ⟨o, ho, hn⟩ := hr ad.block e.symm
    unfold World.cell? at hcj
    rw [block_of_add, ho] at hcj
    cases o <;> simp_all [Obj.isCells]
  exact (World.cell?_of_block (by rw [block_of_add]; exact hg.block ad.block hlt hne)).trans hcj

/-- A slot is about to be looked at. -/
structure BM (w4 : World) (q : Nat) (L : Nat → List UInt8) (er : Nat → Int) (k : Nat) (v : Value) (W : World) : Prop where
  lt : k < 2
  no : ∀ j, j < k → er j = 0
  v : ∃ A c, v = .slice A (L k).length c ∧ Reads W W.heap.size 1 A (L k).length ((L k).map bv)
  bi : BI w4 q (cntL L k) W
theorem BM.own {w4 W W' : World} {q k : Nat} {L : Nat → List UInt8} {er : Nat → Int} {v : Value} {row : Option Nat} (h : BM w4 q L er k v W) (hg : W.grownBy W' row) (hr : ∀ r, row = some r → w4.heap.size ≤ r ∧ ∃ o : Obj, W.heap[r]? = some o ∧ o.isCells = false) : BM w4 q L er k v W' := by
  obtain ⟨A, c, hv, hR⟩ := h.v
  exact ⟨h.lt, h.no, ⟨A, c, hv, reads_turn hR hg (fun r e => (hr r e).2)⟩, h.bi.own hg hr⟩
/-- Its loop variable, boxed. -/
structure BA (w4 : World) (q : Nat) (L : Nat → List UInt8) (er : Nat → Int) (fr : Nat → Act) (k : Nat) (v : Value) (a' : Act) (W : World) : Prop where
  m : BM w4 q L er k v W
  b : ∃ rb, w4.heap.size ≤ rb ∧ a' = fr rb ∧ Blk W rb 82 #[.int .i64 (k : Int), v]
theorem BA.own {w4 W W' : World} {q k : Nat} {L : Nat → List UInt8} {er : Nat → Int} {fr : Nat → Act} {v : Value} {a' : Act} {row : Option Nat} (h : BA w4 q L er fr k v a' W) (hg : W.grownBy W' row) (hr : ∀ r, row = some r → w4.heap.size ≤ r ∧ ∃ o : Obj, W.heap[r]? = some o ∧ o.isCells = false) : BA w4 q L er fr k v a' W' := by
  obtain ⟨rb, h1, h2, h3⟩ := h.b
  exact ⟨h.m.own hg hr, rb, h1, h2, blk_own h3 hg hr⟩
/-- What stands where a slot's error is answered. -/
structure BX (w w4 : World) (q : Nat) (E : Int) (W : World) : Prop where
  ne : E ≠ 0
  below : Below w.heap.size w W
  x : Blk W q 49 #[.slice none 0 0]
  y : Blk W (q + 1) 25 #[.int .i64 E]
theorem BX.own {w w4 W W' : World} {q : Nat} {E : Int} {row : Option Nat} (h : BX w w4 q E W) (hw : w.heap.size ≤ w4.heap.size) (hg : W.grownBy W' row) (hr : ∀ r, row = some r → w4.heap.size ≤ r ∧ ∃ o : Obj, W.heap[r]? = some o ∧ o.isCells = false) : BX w w4 q E W' :=
  ⟨h.ne, h.below.grown hg h.below.size (fun k e => by have := (hr k e).1; omega), blk_own h.x hg hr, blk_own h.y hg hr⟩

theorem infoRoot : (Tryz.prog.info? 35).map (fun i => (i.zero, i.size, i.bytes)) = some (some (.agg #[.int .u64 0, .int .i64 0, .int .u32 0]), 3, 24) := by kernel_rfl
theorem load_cell1 {w : World} {a : Addr} {t : TypeId} {v : Value} (h : w.cell? a = some v) (ht : ∀ w, (isAgg t).run Tryz.prog w = .ok false w) : (loadVar t a).run Tryz.prog w = .ok v w := by
  simp [loadVar, ht, h]

theorem results_two {fn : Func} {t i : Tmp} {tmps : Array Value} {w : World} {g h : Nat} {x y : Value} (hr : fn.results = #[.cell t 49, .cell i 25]) (ht : tmps.getD t undef = .pointer (some ⟨g, 0, none⟩)) (hv : tmps.getD i undef = .pointer (some ⟨h, 0, none⟩)) (hx : w.cell? ⟨g, 0, none⟩ = some x) (hy : w.cell? ⟨h, 0, none⟩ = some y) : (results fn tmps).run Tryz.prog w = .ok (.tuple #[x, y]) w := by
  have u1 := Tryz.underlying49
  have u2 := Tryz.underlying25
  have h1 : (loadVar 49 ⟨g, 0, none⟩).run Tryz.prog w = .ok x w := load_cell1 hx (fun w => by simp [isAgg, run_underlying u1])
  have h2 : (loadVar 25 ⟨h, 0, none⟩).run Tryz.prog w = .ok y w := load_cell1 hy (fun w => by simp [isAgg, run_underlying u2])
  rw [Array.getD_eq_getD_getElem?] at ht hv
  simp [results, hr, ht, hv, h1, h2, asAddr]
/-- What stands where Both answers. -/
theorem fin_two {w W : World} {q D n c base : Nat} {x y : Value} {A : Option Addr} {xs : List Value} (v : Value) (E : Value) (hw : Below w.heap.size w W) (hq : w.heap.size ≤ q) (hD : q + 1 < D) (hx : Blk W q 49 #[x]) (hy : Blk W (q + 1) 25 #[y]) (hK : W.heap[D]? = some (.deferred (some []))) (hb : q + 1 < base) (ho : W.ownsRow base 35 3 (.slice A n c) n xs) :
    ((W.setCell ⟨q, 0, none⟩ v).setCell ⟨q + 1, 0, none⟩ E).heap[D]? = some (.deferred (some [])) ∧
    (((W.setCell ⟨q, 0, none⟩ v).setCell ⟨q + 1, 0, none⟩ E).putObj D (.deferred none)).cell? ⟨q, 0, none⟩ = some v ∧
    (((W.setCell ⟨q, 0, none⟩ v).setCell ⟨q + 1, 0, none⟩ E).putObj D (.deferred none)).cell? ⟨q + 1, 0, none⟩ = some E ∧
    (((W.setCell ⟨q, 0, none⟩ v).setCell ⟨q + 1, 0, none⟩ E).putObj D (.deferred none)).ownsRow w.heap.size 35 3 (.slice A n c) n xs ∧
    Below w.heap.size w (((W.setCell ⟨q, 0, none⟩ v).setCell ⟨q + 1, 0, none⟩ E).putObj D (.deferred none)) := by
  have h1 := (hx.set_ 0 v).far (p := ⟨q + 1, 0, none⟩) (by simp) E
  have h2 := (hy.far (p := ⟨q, 0, none⟩) (by simp) v).set_ 0 E
  have hk : Keep (fun i => i = q ∨ i = q + 1) W ((W.setCell ⟨q, 0, none⟩ v).setCell ⟨q + 1, 0, none⟩ E) := ((Keep.refl _ _).setCell _ _ (fun _ => .inl rfl)).setCell _ _ (fun _ => .inr rfl)
  generalize ((W.setCell ⟨q, 0, none⟩ v).setCell ⟨q + 1, 0, none⟩ E) = W2 at *
  have hDl : D < W.heap.size := (Array.getElem?_eq_some_iff.1 hK).1
  have hKD := (hk.block D hDl (by omega)).trans hK
  have hp : Keep (fun k => k = D) W2 (W2.putObj D (.deferred none)) := (Keep.refl _ _).grown (grownBy_putObj' _ D _) (fun k e _ => by injection e with e; exact e.symm)
  have ho2 := hk.own ho (fun g e e2 => by have := (own_is ho g e).1; omega)
  have ho3 := own_turned (B := 0) ho2 (grownBy_putObj' W2 D (.deferred none)) (fun r e => by injection e with e; subst e; exact ⟨Nat.zero_le _, _, hKD, rfl⟩)
  refine ⟨hKD, (hp.blk h1 (by omega)).cell 0, (hp.blk h2 (by omega)).cell 0, own_mono ho3 (by omega), ?_⟩
  exact (hw.trans (hk.below hw.size (fun i hi e => by omega))).trans (hp.below (Nat.le_trans hw.size hk.size) (fun i hi e => by omega))

section
attribute [local go_sem] Oper.semAt_some
set_option maxRecDepth 100000 in
set_option maxHeartbeats 4000000 in
theorem rboth_any (p : Option Addr) (er : Nat → Int) (L : Nat → List UInt8) (w : World) (hS : Slots p (fun W => Below w.heap.size w W) er L) :
    Calls Tryz.prog 13 #[.pointer p] w fun e w' => ∃ A c, e = .returned (.tuple #[.slice A (bothL er L).length c, .int .i64 (bothE er)]) ∧ w'.ownsRow w.heap.size 35 3 (.slice A (bothL er L).length c) (bothL er L).length (rowsR (bothL er L)) ∧ Below w.heap.size w w' := by
  obtain ⟨q, hq⟩ : ∃ q, w.heap.size = q := ⟨_, rfl⟩
  obtain ⟨E, hE⟩ : ∃ E, bothE er = E := ⟨_, rfl⟩
  obtain ⟨R, hR⟩ : ∃ R, bothL er L = R := ⟨_, rfl⟩
  rw [hE, hR]
  have HE := Lib.hid hE
  have HR := Lib.hid hR
  have HS := Lib.hid hS
  clear hE hR hS
  refine (callsIn_wide (n := 7)).1 ?_
  refine callsIn_of_wp_marks Tryz.func13 rfl trivial ?_
  simp only [Tryz.ntmps13, List.size_toArray, List.length_cons, List.length_nil, Nat.reduceAdd, Nat.reduceSub, Array.replicate_succ, Array.replicate_zero, List.push_toArray, List.append_toArray, List.nil_append, List.cons_append]
  gi_wp2
  refine wpIn_scope_wide ?_
  gi_wp2
  refine wpIn_label ?_
  gi_wp2_with (refine ⟨trivial, ?_⟩; gi_at_call 36; refine (callsIn_wide.2 (rslots_any p _)).mono ?_; rintro e w4 ⟨rfl, hw4⟩)
  have hs4 : w4.heap.size = q + 4 := by rw [← hw4, ← hq]; simp
  have hb4 : Below w.heap.size w w4 := by rw [← hw4]; exact ((((Below.refl _ w).alloc (Nat.le_refl _) _).alloc (by simp) _).alloc (by simp; omega) _).alloc (by simp; omega) _
  have hx4 : Blk w4 q 49 #[.slice none 0 0] := by rw [← hw4, ← hq]; exact (((Blk.new w _ _).alloc _).alloc _).alloc _
  have hy4 : Blk w4 (q + 1) 25 #[.int .i64 0] := by
    have h := ((Blk.new (w.alloc (.cells #[.slice none 0 0] 49)) 25 #[.int .i64 0]).alloc (.cells #[.slice none 0 0] 49)).alloc (.cells #[.pointer p] 24)
    rw [hw4] at h
    simpa only [World.size_alloc, hq] using h
  have hc4 : Blk w4 (q + 1 + 1) 49 #[.slice none 0 0] := by
    have h := (Blk.new ((w.alloc (.cells #[.slice none 0 0] 49)).alloc (.cells #[.int .i64 0] 25)) 49 #[.slice none 0 0]).alloc (.cells #[.pointer p] 24)
    rw [hw4] at h
    simpa only [World.size_alloc, hq] using h
  have hp4 : Blk w4 (q + 1 + 1 + 1) 24 #[.pointer p] := by
    have h := Blk.new (((w.alloc (.cells #[.slice none 0 0] 49)).alloc (.cells #[.int .i64 0] 25)).alloc (.cells #[.slice none 0 0] 49)) 24 #[.pointer p]
    rw [hw4] at h
    simpa only [World.size_alloc, hq] using h
  have hBI0 : BI w4 (q + 1 + 1) (cntL L 0) w4 := ⟨Keep.refl _ _, none, 0, hc4, World.ownsRow_nil _ _ _ _⟩
  have HX4 := Lib.hid hx4
  have HY4 := Lib.hid hy4
  have HP4 := Lib.hid hp4
  have HB4 := Lib.hid hb4
  have HQ := Lib.hid hq
  have HS4 := Lib.hid hs4
  have HBW : Hid (∀ W, Keep (fun i => i = q + 1 + 1) w4 W → Below w.heap.size w W) := Lib.hid (fun W h => HB4.out.trans (h.below (by rw [HS4.out, HQ.out]; omega) (fun i hi e => by rw [HQ.out] at hi; omega)))
  clear hw4 hx4 hy4 hc4 hp4 hb4
  obtain ⟨i0, hi, hz0, hz1, hz2⟩ := info_parts infoRoot
  refine wpIn_rangeFunc_movesV rfl (by omega) (gf := 60) (lb := #[.pointer (some ⟨q + 1 + 1 + 1, 0, none⟩)]) rfl trivial (enters_of Tryz.func60 (by kernel_rfl) rfl)
    (slots_moves 6 (by omega) (q + 1 + 1 + 1) HS.out w4) (Below.refl _ _) (fun _ _ => rfl)
    (fun k W => k ≤ 2 ∧ (∀ j, j < k → er j = 0) ∧ BI w4 (q + 1 + 1) (cntL L k) W)
    (BM w4 (q + 1 + 1) L er)
    (fun W => (er 0 = 0 ∧ er 1 = 0) ∧ BI w4 (q + 1 + 1) (cntL L 2) W)
    (fun c W => c = .ret ∧ BX w w4 q E W)
    (fun k W W' row hs hg hr => ⟨hs.1, hs.2.1, hs.2.2.own hg hr⟩)
    (fun _ W W' row hs hg hr => ⟨hs.1, hs.2.own hg hr⟩)
    (fun c W W' row hs hg hr => ⟨hs.1, hs.2.own (by rw [HS4.out, HQ.out]; omega) hg hr⟩)
    (fun k W hs => ⟨hs.1, (hs.2.2.keep.blk HP4.out (by omega)).cell 0, HBW.out W hs.2.2.keep⟩)
    (fun k W W' hs hx i o hi ho => by
      rcases hx with ⟨x, hx⟩ | hz
      · exact (hx.2.2.block i (Array.getElem?_eq_some_iff.1 hi).1).trans hi
      · rw [hz.2]; exact hi)
    (fun k x W W' hs hx => ⟨hx.1, hs.2.1, hx.2.1, hs.2.2.moved hx.2.2⟩)
    (fun k W W' hs hz => by
      obtain ⟨rfl, rfl⟩ := hz
      exact ⟨⟨hs.2.1 0 (by omega), hs.2.1 1 (by omega)⟩, hs.2.2⟩)
    ⟨by omega, fun j hj => by omega, hBI0⟩
    (fun k v a' W => BA w4 (q + 1 + 1) L er (fun rb => { tmps := #[.pointer p, undef, .pointer (some ⟨q, 0, none⟩), .pointer (some ⟨q + 1, 0, none⟩), .pointer (some ⟨q + 1 + 1, 0, none⟩), .pointer (some ⟨rb, 0, none⟩), .int .i64 (er k), undef, undef, .pointer p, .func (.func 60) #[] #[.pointer (some ⟨q + 1 + 1 + 1, 0, none⟩)], .agg #[.int .i64 (k : Int), v], .int .i64 (er k), undef, undef, undef, undef, undef, undef, undef, undef, undef, undef, undef, undef, undef, undef, undef, undef, undef], defers := [] }) k v a' W) (fun k v a' _ W W' row hs hg hr => hs.own hg hr)
    ?assign ?body ?done ?stop
  case assign =>
    intro l k v W K hI hK
    obtain ⟨A, c, rfl, hR⟩ := hI.v
    have HK := Lib.hid hK
    have HI := Lib.hid hI
    have HRD := Lib.hid hR
    clear hK hI hR
    unfold slAt
    gi_wp2
    exact HK.out _ _ (KeepsFrom.of_grownBy (World.grownBy_alloc W _ none) (fun j e => by cases e)) ⟨⟨HI.out.lt, HI.out.no, ⟨A, c, rfl, (HRD.out.alloc (Nat.le_refl _) _).more (by simp)⟩, HI.out.bi.moved ((Below.refl _ W).alloc (Nat.le_refl _) _)⟩, W.heap.size, HI.out.bi.keep.size, rfl, Blk.new W _ _⟩
  case body =>
    rintro l k v a' W ⟨hM, rb, hrb, rfl, hbx⟩
    obtain ⟨A, c, rfl, hRd⟩ := hM.v
    have hk2 := hM.lt
    have hno := hM.no
    have hwq : q + 4 ≤ W.heap.size := by have := hM.bi.keep.size; omega
    have b0 := hbx.cell 0
    have b1 := hbx.cell 1
    have hBi := hM.bi
    clear hM
    by_cases he : er k = 0
    case neg =>
      have hne : (er k != 0) = true := by rw [bne_iff_ne]; exact he
      have hEk : er k = E := by
        have h := HE.out
        unfold bothE at h
        rcases k with _ | _ | k
        · rw [if_neg he] at h; exact h
        · rw [if_pos (hno 0 (by omega))] at h; exact h
        · omega
      have hX := hBi.keep.blk HX4.out (by omega)
      have hY := hBi.keep.blk HY4.out (by omega)
      have x0 := hX.cell 0
      have x0f := hX.frozen 0
      have y0 := hY.cell 0
      have y0f := hY.frozen 0
      have HFIN : Hid (KeepsFrom w4.heap.size W ((W.setCell ⟨q, 0, none⟩ (.slice none 0 0)).setCell ⟨q + 1, 0, none⟩ (.int .i64 (er k))) ∧ BX w w4 q E ((W.setCell ⟨q, 0, none⟩ (.slice none 0 0)).setCell ⟨q + 1, 0, none⟩ (.int .i64 (er k)))) := Lib.hid ⟨((KeepsOthers.setCell _ _ _).trans (KeepsOthers.setCell _ _ _)).from _, by rw [← hEk]; exact he, by
        have hb := HBW.out W hBi.keep
        exact (hb.setCell (Nat.le_of_eq HQ.out) _).setCell (by show w.heap.size ≤ q + 1; rw [HQ.out]; omega) _, (hX.set_ 0 _).far (by simp) _, by
        have := (hY.far (p := ⟨q, 0, none⟩) (by simp) (.slice none 0 0)).set_ 0 (.int .i64 (er k))
        rw [← hEk]
        exact this⟩
      clear hBi hX hY hRd hbx b0 b1 hno hEk he
      gi_wp2
      exact ⟨HFIN.out.1, rfl, HFIN.out.2⟩
    case pos =>
      have hne : (er k != 0) = false := by rw [bne_eq_false_iff_eq]; exact he
      have HNO : Hid (∀ j, j < k + 1 → er j = 0) := Lib.hid (fun j hj => by
        rcases Nat.lt_or_ge j k with h | h
        · exact hno j h
        · obtain rfl : j = k := by omega
          exact he)
      have HRT := Lib.hid (rroot_any k A c (L k).length (L k) W hk2 rfl hRd)
      obtain ⟨cb, hcb⟩ : ∃ b, countsR k (L k) = b := ⟨_, rfl⟩
      have hcr : cntR k (L k) = if cb = true then candR (L k) else noR := by unfold cntR; rw [hcb]
      have hcl : cntL L (k + 1) = cntL L k ++ if cb = true then [candR (L k)] else [] := by
        show cntL L k ++ (if countsR k (L k) = true then [candR (L k)] else []) = _
        rw [hcb]
      rw [hcr, hcb] at HRT
      have HCL := Lib.hid hcl
      have HBI := Lib.hid hBi
      have HK2 := Lib.hid hk2
      generalize (L k).length = n at *
      clear hcr hcl hBi hk2 hcb hno he hRd
      have hfw : (Fence.wide.inRound l).fn 37 := trivial
      cases cb
      · simp only [Bool.false_eq_true, if_false, List.append_nil] at HRT HCL
        unfold rtv at HRT
        gi_wp2_with (refine ⟨trivial, ?_⟩; gi_at_call 37; refine (CallsIn.inRound l (callsIn_wide.2 HRT.out)).mono ?_; rintro e w5 ⟨rfl, b5⟩; have B5 := Lib.hid b5; clear b5)
        have hbb := B5.out.alloc B5.out.size (.cells #[.int .u64 noR.n, .int .i64 noR.len, .int .u32 noR.sm] 35)
        refine ⟨⟨hbb.size, fun i o _ hi _ => (hbb.block i (Array.getElem?_eq_some_iff.1 hi).1).trans hi⟩, by have := HK2.out; omega, HNO.out, ?_⟩
        rw [HCL.out]
        exact HBI.out.moved hbb
      · simp only [if_true] at HRT HCL
        obtain ⟨T, hT⟩ : ∃ T, candR (L k) = T := ⟨_, rfl⟩
        rw [hT] at HRT HCL
        obtain ⟨m, hm⟩ : ∃ m, (cntL L k).length = m := ⟨_, rfl⟩
        have hm2 : m ≤ 2 := by have := cntL_le L k; have := HK2.out; omega
        have HFIN : Hid (∀ w5, Below W.heap.size W w5 → ∃ A1 c1, w5.cell? ⟨q + 1 + 1, 0, none⟩ = some (.slice A1 m c1) ∧
            (((w5.alloc (.cells #[.int .u64 T.n, .int .i64 T.len, .int .u32 T.sm] 35)).alloc (.cells #[.int .u64 T.n, .int .i64 T.len, .int .u32 T.sm] 35)).ownsRow w4.heap.size 35 3 (.slice A1 m c1) m (rowsR (cntL L k)) ∧
            ∀ v' w9, w9.ownsRow w4.heap.size 35 3 v' (m + 1) (rowsR (cntL L k) ++ encR T) → (((w5.alloc (.cells #[.int .u64 T.n, .int .i64 T.len, .int .u32 T.sm] 35)).alloc (.cells #[.int .u64 T.n, .int .i64 T.len, .int .u32 T.sm] 35))).grownBy w9 (Value.slice A1 m c1).ownBlock →
              w9.cell? ⟨q + 1 + 1, 0, none⟩ = some (.slice A1 m c1) ∧ w9.frozen? ⟨q + 1 + 1, 0, none⟩ = false ∧ ∃ A' c', v' = .slice A' (m + 1) c' ∧ KeepsFrom w4.heap.size W (w9.setCell ⟨q + 1 + 1, 0, none⟩ v') ∧ BI w4 (q + 1 + 1) (cntL L (k + 1)) (w9.setCell ⟨q + 1 + 1, 0, none⟩ v'))) := Lib.hid (fun w5 b5 => by
          have hbi := HBI.out.moved b5
          obtain ⟨hkp, A1, c1, hB, hO⟩ := hbi
          rw [hm] at hB hO
          obtain ⟨w7, hw7⟩ : ∃ w7, ((w5.alloc (.cells #[.int .u64 T.n, .int .i64 T.len, .int .u32 T.sm] 35)).alloc (.cells #[.int .u64 T.n, .int .i64 T.len, .int .u32 T.sm] 35)) = w7 := ⟨_, rfl⟩
          have hb7 : Below w5.heap.size w5 w7 := by rw [← hw7]; exact ((Below.refl _ _).alloc (Nat.le_refl _) _).alloc (by simp) _
          rw [hw7]
          have hO7 := own_stay hO hb7
          have hB7 := hB.below hb7 hB.lt
          have hkp7 : Keep (fun i => i = q + 1 + 1) w4 w7 := hkp.trans (Keep.of_below (S := fun _ => False) hb7) (fun _ _ h => h.elim)
          have h57 : Below W.heap.size W w7 := b5.trans (hb7.mono b5.size)
          refine ⟨A1, c1, hB.cell 0, hO7, fun v' w9 ho hg => ?_⟩
          have hin := own_is hO7
          have hk1 : Keep (fun i => w4.heap.size ≤ i) w7 w9 := (Keep.refl _ _).grown hg (fun g e _ => (hin g e).1)
          have hq4 : q + 1 + 1 < w4.heap.size := by rw [HS4.out]; omega
          have hB9 := hk1.blk hB7 (by omega)
          obtain ⟨A', c', hv'⟩ : ∃ A' c', v' = .slice A' (m + 1) c' := by
            rcases ho.2 with ⟨_, h0⟩ | ⟨g, cap, cur, e, _⟩
            · omega
            · exact ⟨_, cap, e⟩
          have hkq : Keep (fun i => i = q + 1 + 1) w9 (w9.setCell ⟨q + 1 + 1, 0, none⟩ v') := (Keep.refl _ _).setCell _ _ (fun _ => rfl)
          refine ⟨hB9.cell 0, hB9.frozen 0, A', c', hv', ⟨?_, fun i o hBi hi ho' => ?_⟩, ?_⟩
          · exact Nat.le_trans h57.size (Nat.le_trans hk1.size hkq.size)
          · have hil : i < W.heap.size := (Array.getElem?_eq_some_iff.1 hi).1
            have hi7 := (h57.block i hil).trans hi
            have hir : some i ≠ (Value.slice A1 m c1).ownBlock := fun e => by
              obtain ⟨_, _, cur, hcb⟩ := hin i e.symm
              unfold Blk at hcb
              rw [hi7] at hcb
              injection hcb with hcb
              subst hcb
              cases ho'
            exact (Below.heap_setCell w9 ⟨q + 1 + 1, 0, none⟩ v' i (by show i ≠ q + 1 + 1; omega)).trans ((hg.block i (Nat.lt_of_lt_of_le hil h57.size) hir).trans hi7)
          · have hln : (cntL L (k + 1)).length = m + 1 := by rw [HCL.out, List.length_append, hm]; rfl
            have hrw : rowsR (cntL L (k + 1)) = rowsR (cntL L k) ++ encR T := by rw [HCL.out]; simp [rowsR]
            refine ⟨(hkp7.trans hk1 (fun i hi e => by omega)).trans hkq (fun _ _ e => e), A', c', ?_, ?_⟩
            · rw [hln, ← hv']
              exact hB9.set_ 0 v'
            · rw [hln, hrw, ← hv']
              exact hkq.own ho (fun g e => by have := (own_is ho g e).1; omega))
        have h1c : ∀ u ∈ encR T, u.oneCell' = true := fun u hu => rowsR_one [T] u (by simpa [rowsR] using hu)
        have H1C := Lib.hid h1c
        have HSZ : Hid (w4.heap.size ≤ W.heap.size) := Lib.hid HBI.out.keep.size
        have HNEW : Hid (∀ (W8 : World) j u, (encR T)[j]? = some u → (W8.alloc (.cells #[.int .u64 T.n, .int .i64 T.len, .int .u32 T.sm] 35)).cell? ((⟨W8.heap.size, 0, none⟩ : Addr).add j) = some u) := Lib.hid (fun W8 j u hu => by
          rw [Addr.add_mid, Nat.zero_add, (Blk.new W8 35 _).cell j, List.getElem?_toArray]
          exact hu)
        clear hT hm h1c HCL
        unfold rtv at HRT
        gi_wp2_with (first
          | (refine ⟨trivial, ?_⟩; gi_at_call 37; refine (CallsIn.inRound l (callsIn_wide.2 HRT.out)).mono ?_; rintro e w5 ⟨rfl, b5⟩; have B5 := Lib.hid b5; obtain ⟨A1, c1, q2, o7, hf⟩ := HFIN.out w5 b5; have O7 := Lib.hid o7; have HF := Lib.hid hf
             have q3 : (w5.alloc (.cells #[.int .u64 T.n, .int .i64 T.len, .int .u32 T.sm] 35)).cell? ⟨q + 1 + 1, 0, none⟩ = some (.slice A1 m c1) := (World.cell?_alloc_lt w5 _ ⟨q + 1 + 1, 0, none⟩ (by show q + 1 + 1 < w5.heap.size; have := b5.size; omega)).trans q2
             clear b5 o7 hf)
          | (gi_at_builtin; refine wpListIn_append_own _ rfl _ _ 49 rfl w4.heap.size 35 i0 (.agg #[.int .u64 0, .int .i64 0, .int .u32 0]) 3 24 Tryz.underlying49 hi hz0 hz1 hz2 rfl (by decide) _ m _ rfl O7.out ⟨w5.heap.size + 1, 0, none⟩ 1 1 (encR T) rfl rfl (by have h := HNEW.out (w5.alloc (.cells #[.int .u64 T.n, .int .i64 T.len, .int .u32 T.sm] 35)); rw [World.size_alloc] at h; exact h) H1C.out (by unfold maxLen; omega) (by omega) (by have h1 := B5.out.size; have h2 := HSZ.out; simp; omega) ?_; intro v' w9 hown hgrow _; obtain ⟨cq9, fq9, A', c', rfl, hf9⟩ := HF.out v' w9 hown hgrow; have HF9 := Lib.hid hf9; clear hown hgrow hf9))
        exact ⟨HF9.out.1, by have := HK2.out; omega, HNO.out, HF9.out.2⟩
  case done =>
    rintro D W hD ⟨⟨h0, h1⟩, hBi⟩ hK
    have hE0 : E = 0 := by
      have h := HE.out
      unfold bothE at h
      rw [if_pos h0, h1] at h
      exact h.symm
    have hR0 : R = sortR (cntL L 2) := by
      have h := HR.out
      unfold bothL at h
      rw [HE.out, if_pos hE0] at h
      exact h.symm
    subst hE0
    have hlen : (cntL L 2).length = R.length := by rw [hR0, sortR_length]
    have hle := cntL_le L 2
    obtain ⟨hkp, A, c, hB, hO⟩ := hBi
    have hC := rorder_any (cntL L 2) W rfl hle hO
    rw [← hR0] at hC
    rw [hlen] at hB hO hC
    have cq := hB.cell 0
    have hXW := hkp.blk HX4.out (by omega)
    have hYW := hkp.blk HY4.out (by omega)
    have hown := own_is hO
    have HCO := Lib.hid hC
    have HFIN : Hid (∀ w8, w8.ownsRow w4.heap.size 35 3 (.slice A R.length c) R.length (rowsR R) → Keep (fun i => (Value.slice A R.length c).ownBlock = some i) W w8 → w8.cell? ⟨q + 1 + 1, 0, none⟩ = some (.slice A R.length c) ∧ w8.cell? ⟨q, 0, none⟩ = some (.slice none 0 0) ∧ w8.frozen? ⟨q, 0, none⟩ = false ∧ w8.cell? ⟨q + 1, 0, none⟩ = some (.int .i64 0) ∧ w8.frozen? ⟨q + 1, 0, none⟩ = false ∧ Below w.heap.size w w8 ∧ Blk w8 q 49 #[.slice none 0 0] ∧ Blk w8 (q + 1) 25 #[.int .i64 0] ∧ w8.heap[D]? = some (.deferred (some []))) := Lib.hid (fun w8 ho hk => by
      have hge : ∀ i, i < w4.heap.size → ¬ (Value.slice A R.length c).ownBlock = some i := fun i hi e => by have := (hown i e).1; omega
      have e1 := hk.blk hB (hge _ (by omega))
      have e2 := hk.blk hXW (hge _ (by omega))
      have e3 := hk.blk hYW (hge _ (by omega))
      refine ⟨e1.cell 0, e2.cell 0, e2.frozen 0, e3.cell 0, e3.frozen 0, (HBW.out W hkp).trans (hk.below (HBW.out W hkp).size (fun i hi e => hge i (by rw [HQ.out] at hi; omega) e)), e2, e3, ?_⟩
      refine (hk.block D (Array.getElem?_eq_some_iff.1 hK).1 (fun e => ?_)).trans hK
      obtain ⟨_, _, cur, hcb⟩ := hown D e
      unfold Blk at hcb
      rw [hK] at hcb
      cases hcb)
    have hDq : q + 1 < D := by omega
    generalize hn : R.length = n at *
    have HN := Lib.hid hn
    clear hn
    clear hB hO hC hown hkp hXW hYW hK hR0 h0 h1 hlen hle
    gi_wp2_with (refine ⟨trivial, ?_⟩; gi_at_call 38; refine (callsIn_wide.2 HCO.out).mono ?_; rintro e w8 ⟨rfl, o8, k8⟩; obtain ⟨z0, z1, z2, z3, z4, hb8, hx8, hy8, hd8⟩ := HFIN.out w8 o8 k8; have HF := Lib.hid (fin_two (.slice A n c) (.int .i64 0) hb8 (Nat.le_of_eq HQ.out) hDq hx8 hy8 hd8 (show q + 1 < w4.heap.size by omega) o8); clear o8 k8 hb8 hx8 hy8 hd8)
    refine ⟨by simp, .inl ⟨_, _, rfl, run_takeDeferred HF.out.1, ?_⟩⟩
    refine ⟨_, results_two rfl rfl rfl HF.out.2.1 HF.out.2.2.1, ?_⟩
    rw [HN.out]
    exact ⟨A, c, rfl, HF.out.2.2.2.1, HF.out.2.2.2.2⟩
  case stop =>
    rintro D c' W hD ⟨rfl, hX⟩ hK
    have hR0 : R = [] := by
      have h := HR.out
      unfold bothL at h
      rw [HE.out, if_neg hX.ne] at h
      exact h.symm
    subst hR0
    have hDl : D < W.heap.size := (Array.getElem?_eq_some_iff.1 hK).1
    have hp : Keep (fun k => k = D) W (W.putObj D (.deferred none)) := (Keep.refl _ _).grown (grownBy_putObj' _ D _) (fun k e _ => by injection e with e; exact e.symm)
    have e1 := (hp.blk hX.x (by omega)).cell 0
    have e2 := (hp.blk hX.y (by omega)).cell 0
    have hb := hX.below.trans (hp.below hX.below.size (fun i hi e => by rw [HQ.out] at hi; omega))
    have HE1 := Lib.hid e1
    have HE2 := Lib.hid e2
    have HBB := Lib.hid hb
    have HK := Lib.hid hK
    clear e1 e2 hb hp hDl hX hK
    gi_wp2
    refine ⟨by simp, .inl ⟨_, _, rfl, run_takeDeferred HK.out, ?_⟩⟩
    exact ⟨_, results_two rfl rfl rfl HE1.out HE2.out, none, 0, rfl, World.ownsRow_nil _ _ _ _, HBB.out⟩
end
end Go.Proofs.YtoiopoghcjkgcaaGreat.root

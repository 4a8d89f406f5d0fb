/-
  Layer 13 (mold): the iterator of what two lists have for each axis.
  Layer 13 (mold): the iterator of an array's indices along its axes.
  Layer 13 (mold): where the element at a position comes from.
-/
import Derived.Test.YtkabdkblcgklmaaMoMold
import Derived.Test.YtkabdkblcgklmaaDoneIn
import Derived.Test.YtkabdkblcgklmaaMovesV
import Derived.Test.YtkabdkblcgklmaaWriter
namespace Go.Proofs.Ytkabdkblcgklmaa.mo
open Go.RowKit Go.Proofs.Ytkabdkblcgklmaa.arr

structure SdPre (C0 C1 : Nat) (A B : Option Addr) (c d : Nat) (l m : List Int) (W : World) : Prop where
  c0 : Blk W C0 22 #[.slice A l.length c]
  c1 : Blk W C1 22 #[.slice B m.length d]
  ra : Reads W W.heap.size 1 A l.length (l.map iv)
  rb : Reads W W.heap.size 1 B m.length (m.map iv)
theorem SdPre.below {C0 C1 : Nat} {A B : Option Addr} {c d : Nat} {l m : List Int} {W W' : World} (h : SdPre C0 C1 A B c d l m W) (hb : Below W.heap.size W W') : SdPre C0 C1 A B c d l m W' :=
  ⟨h.c0.below hb h.c0.lt, h.c1.below hb h.c1.lt, (h.ra.below hb).more hb.size, (h.rb.below hb).more hb.size⟩
def sdAt (l m : List Int) (k : Nat) (_ : Unit) : Array Value := #[.int .i64 (l.getD k 0), .int .i64 (m.getD k 0)]
def sdX (N k : Nat) (_ : Unit) (W W' : World) : Prop := k < N ∧ Below W.heap.size W W'
def sdZ (N k : Nat) (W W' : World) : Prop := k = N ∧ W' = W

section
attribute [local go_sem] Oper.semAt_some
end
end Go.Proofs.Ytkabdkblcgklmaa.mo

namespace Go.Proofs.Ytkabdkblcgklmaa.mo
open Go.RowKit Go.Proofs.Ytkabdkblcgklmaa.arr

/-- Spans as a list of cells. -/
def spL (L : List Sp) : List Value := (L.map spC).flatten
theorem spL_length : ∀ L : List Sp, (spL L).length = L.length * 3
  | [] => rfl
  | s :: L => by
    show (spC s ++ spL L).length = (L.length + 1) * 3
    rw [List.length_append, spL_length L]
    show 3 + _ = _
    omega
theorem spL_at : ∀ (L : List Sp) (k i : Nat) (s : Sp), L[k]? = some s → i < 3 → (spL L)[k * 3 + i]? = (spC s)[i]?
  | [], k, i, s, h, _ => by simp at h
  | t :: L, 0, i, s, h, hi => by
    have e : t = s := by simpa using h
    subst e
    show (spC t ++ spL L)[0 * 3 + i]? = _
    rw [Nat.zero_mul, Nat.zero_add, List.getElem?_append_left (by exact hi)]
  | t :: L, k + 1, i, s, h, hi => by
    show (spC t ++ spL L)[(k + 1) * 3 + i]? = _
    have hl : (spC t).length = 3 := rfl
    rw [List.getElem?_append_right (by rw [hl]; omega), hl, show (k + 1) * 3 + i - 3 = k * 3 + i by omega]
    exact spL_at L k i s (by simpa using h) hi
def lensI (L : List Sp) : List Int := L.map Sp.len
/-- A span's numbers are not great. -/
def spOk (s : Sp) : Prop := -10000 ≤ s.frm ∧ s.frm ≤ 10000 ∧ 0 ≤ s.has ∧ s.has ≤ 4096
/-- The number of elements behind k axes. -/
def behN (L : List Sp) (k : Nat) : Nat := (prodI ((lensI L).drop k)).toNat
/-- The array's index along axis k. -/
def ixV (L : List Sp) (n k : Nat) : Int := match L[k]? with | some s => (((n / behN L (k + 1)) % s.len.toNat : Nat) : Int) + s.frm | none => 0
theorem lens_pos {L : List Sp} (hok : okShape (lensI L) = true) (hp : 0 < prodI (lensI L)) {k : Nat} {s : Sp} (hs : L[k]? = some s) : 1 ≤ s.len ∧ s.len ≤ 4096 := by
  have hm : s.len ∈ lensI L := List.mem_map.2 ⟨s, List.mem_of_getElem? hs, rfl⟩
  obtain ⟨h0, h1⟩ := lenOk_iff.1 (List.all_eq_true.1 (okShape_iff.1 hok).2.1 _ hm)
  refine ⟨?_, h1⟩
  rcases Int.lt_or_le 0 s.len with h | h
  · omega
  · exfalso
    have h0 : s.len = 0 := by omega
    have hz : ∀ l : List Int, (0 : Int) ∈ l → prodI l = 0 := by
      intro l
      induction l with
      | nil => intro h; cases h
      | cons x l ih =>
        intro h
        show x * prodI l = 0
        rcases List.mem_cons.1 h with h | h
        · rw [← h, Int.zero_mul]
        · rw [ih h, Int.mul_zero]
    rw [h0] at hm
    rw [hz _ hm] at hp
    omega
theorem prodI_take_drop (l : List Int) (k : Nat) : prodI l = prodI (l.take k) * prodI (l.drop k) := by
  rw [← prodI_append, List.take_append_drop]
theorem beh_bounds {L : List Sp} (hok : okShape (lensI L) = true) (k : Nat) : prodI ((lensI L).drop k) = (behN L k : Int) ∧ behN L k ≤ 281474976710656 := by
  have h := prodI_four (all_drop (okShape_iff.1 hok).2.1 k) (by have := (okShape_iff.1 hok).1; rw [List.length_drop]; omega)
  unfold behN
  omega
theorem beh_step {L : List Sp} (hok : okShape (lensI L) = true) {k : Nat} {s : Sp} (hs : L[k]? = some s) : (behN L k : Int) = s.len * (behN L (k + 1) : Int) := by
  have hk : k < (lensI L).length := by
    unfold lensI
    rw [List.length_map]
    exact (List.getElem?_eq_some_iff.1 hs).1
  rw [← (beh_bounds hok k).1, ← (beh_bounds hok (k + 1)).1, List.drop_eq_getElem_cons hk]
  have e0 : (lensI L)[k]? = some s.len := by
    unfold lensI
    rw [List.getElem?_map, hs]
    rfl
  have e : (lensI L)[k] = s.len := (List.getElem?_eq_some_iff.1 e0).2
  rw [e]
  rfl
theorem beh_pos {L : List Sp} (hok : okShape (lensI L) = true) (hp : 0 < prodI (lensI L)) (k : Nat) : 0 < behN L k := by
  have h := prodI_take_drop (lensI L) k
  have hb := beh_bounds hok k
  rcases Nat.eq_zero_or_pos (behN L k) with h0 | h0
  · rw [hb.1, h0] at h
    rw [h] at hp
    simp at hp
  · exact h0

def inAt (L : List Sp) (n k : Nat) (_ : Unit) : Array Value := #[.int .i64 (ixV L n k), .agg (match L[k]? with | some s => #[.int .i64 s.len, .int .i64 s.frm, .int .i64 s.has] | none => #[])]
def inX (N k : Nat) (_ : Unit) (W W' : World) : Prop := k < N ∧ Below W.heap.size W W'
def inZ (N k : Nat) (W W' : World) : Prop := k = N ∧ Below W.heap.size W W'

section
attribute [local go_sem] Oper.semAt_some
end
end Go.Proofs.Ytkabdkblcgklmaa.mo

namespace Go.Proofs.Ytkabdkblcgklmaa.mo
open Go.RowKit Go.Proofs.Ytkabdkblcgklmaa.arr

theorem mo_own_turned {W W' : World} {base B size n : Nat} {e : TypeId} {v : Value} {xs : List Value} {row : Option Nat} (h : W.ownsRow base e size v n xs) (hg : W.grownBy W' row) (hr : ∀ r, row = some r → B ≤ r ∧ ∃ o : Obj, W.heap[r]? = some o ∧ o.isCells = false) : W'.ownsRow base e size v n xs := by
  refine ⟨h.1, ?_⟩
  rcases h.2 with ⟨rfl, h0⟩ | ⟨g, cap, cur, rfl, hb, hh, hrest⟩
  · exact .inl ⟨rfl, h0⟩
  · refine .inr ⟨g, cap, cur, rfl, hb, ?_, hrest⟩
    refine (hg.block g (Array.getElem?_eq_some_iff.1 hh).1 (fun e => ?_)).trans hh
    obtain ⟨_, o, ho, hc⟩ := hr g e.symm
    rw [hh] at ho
    injection ho with ho
    subst ho
    cases hc
theorem mo_blk_turned {W W' : World} {g B : Nat} {t : TypeId} {cs : Array Value} {row : Option Nat} (h : Blk W g t cs) (hg : W.grownBy W' row) (hr : ∀ r, row = some r → B ≤ r ∧ ∃ o : Obj, W.heap[r]? = some o ∧ o.isCells = false) : Blk W' g t cs :=
  h.grown hg (fun e => by
    obtain ⟨_, o, ho, hc⟩ := hr g e.symm
    unfold Blk at h
    rw [h] at ho
    injection ho with ho
    subst ho
    cases hc)
theorem mo_keeps_below {W W' : World} (B : Nat) (h : Below W.heap.size W W') : KeepsFrom B W W' :=
  ⟨h.size, fun k _ _ hk _ => (h.block k (Array.getElem?_eq_some_iff.1 hk).1).trans hk⟩
theorem mo_keeps_on {B : Nat} {W W1 W2 : World} (h : KeepsFrom B W W1) (k : KeepsFrom B W1 W2) : KeepsFrom B W W2 :=
  ⟨Nat.le_trans h.size k.size, fun i o hB hi ho => k.same i o hB (h.same i o hB hi ho) ho⟩
theorem mo_keeps_set {B : Nat} {W : World} {g i : Nat} (hg : g < B) (v : Value) : KeepsFrom B W (W.setCell ⟨g, i, none⟩ v) :=
  ⟨by simp [World.setCell], fun k o hB hk _ => (Below.heap_setCell W ⟨g, i, none⟩ v k (by simp; omega)).trans hk⟩
def hasV (L : List Sp) (k : Nat) : Int := match L[k]? with | some s => s.has | none => 0
def badB (L : List Sp) (n k : Nat) : Bool := decide (ixV L n k < 0) || decide (hasV L k ≤ ixV L n k)
def srcP (L : List Sp) (n : Nat) : Nat → Int
  | 0 => 0
  | k + 1 => srcP L n k * hasV L k + ixV L n k
def anyBad (L : List Sp) (n N : Nat) : Bool := (List.range N).any (badB L n)
def srcF (L : List Sp) (n : Nat) : Int × Int := if anyBad L n L.length = true then (-1, 0) else (0, srcP L n L.length)
theorem anyBad_succ (L : List Sp) (n k : Nat) : anyBad L n (k + 1) = (anyBad L n k || badB L n k) := by
  unfold anyBad
  rw [List.range_succ, List.any_append]
  simp
theorem anyBad_on {L : List Sp} {n k N : Nat} (h : badB L n k = true) (hk : k < N) : anyBad L n N = true := by
  unfold anyBad
  rw [List.any_eq_true]
  exact ⟨k, List.mem_range.2 hk, h⟩
theorem srcP_bounds {L : List Sp} (hsp : ∀ s ∈ L, spOk s) (n : Nat) : ∀ k, anyBad L n k = false → 0 ≤ srcP L n k ∧ srcP L n k < 4096 ^ k
  | 0, _ => ⟨Int.le_refl _, by show (0 : Int) < 1; decide⟩
  | k + 1, h => by
    rw [anyBad_succ, Bool.or_eq_false_iff] at h
    obtain ⟨h0, h1⟩ := srcP_bounds hsp n k h.1
    have hb := h.2
    unfold badB at hb
    rw [Bool.or_eq_false_iff, decide_eq_false_iff_not, decide_eq_false_iff_not] at hb
    have hh : 0 ≤ hasV L k ∧ hasV L k ≤ 4096 := by
      unfold hasV
      cases hs : L[k]? with
      | none => simp
      | some s => have := hsp s (List.mem_of_getElem? hs); exact ⟨this.2.2.1, this.2.2.2⟩
    show 0 ≤ srcP L n k * hasV L k + ixV L n k ∧ srcP L n k * hasV L k + ixV L n k < 4096 ^ (k + 1)
    rw [Int.pow_succ]
    have h3 : (srcP L n k + 1) * hasV L k ≤ 4096 ^ k * 4096 := Int.mul_le_mul (by omega) hh.2 hh.1 (by omega)
    rw [Int.add_mul, Int.one_mul] at h3
    have h4 := Int.mul_nonneg h0 hh.1
    omega

/-- What stands while the axes are walked. -/
structure SrcI (w W3 : World) (P O : Int) (W : World) : Prop where
  keep : Keep (fun i => i = w.heap.size ∨ i = w.heap.size + 1) W3 W
  of_ : Blk W w.heap.size 3 #[.int .i64 O]
  pl : Blk W (w.heap.size + 1) 3 #[.int .i64 P]
theorem SrcI.own {w W3 W W' : World} {P O : Int} {row : Option Nat} (h : SrcI w W3 P O W) (hg : W.grownBy W' row) (hr : ∀ r, row = some r → W3.heap.size ≤ r ∧ ∃ o : Obj, W.heap[r]? = some o ∧ o.isCells = false) : SrcI w W3 P O W' :=
  ⟨h.keep.grown hg (fun g e hlt => by have := (hr g e).1; omega), mo_blk_turned h.of_ hg hr, mo_blk_turned h.pl hg hr⟩
theorem SrcI.below {w W3 W W' : World} {P O : Int} (h : SrcI w W3 P O W) (hb : Below W.heap.size W W') : SrcI w W3 P O W' :=
  ⟨h.keep.trans (Keep.of_below (S := fun _ => False) hb) (fun _ _ e => e.elim), h.of_.below hb h.of_.lt, h.pl.below hb h.pl.lt⟩

theorem mo_load1 {w : World} {a : Addr} {t : TypeId} {v : Value} (h : w.cell? a = some v) (ht : ∀ w, (isAgg t).run Try.prog w = .ok false w) : (loadVar t a).run Try.prog w = .ok v w := by
  simp [loadVar, ht, h]
theorem results_int2 {fn : Func} {t i : Tmp} {tmps : Array Value} {w : World} {g h : Nat} {x y : Value} (hr : fn.results = #[.cell t 3, .cell i 3]) (ht : tmps.getD t undef = .pointer (some ⟨g, 0, none⟩)) (hv : tmps.getD i undef = .pointer (some ⟨h, 0, none⟩)) (hb : Blk w g 3 #[x]) (hc : Blk w h 3 #[y]) : (results fn tmps).run Try.prog w = .ok (.tuple #[x, y]) w := by
  have h1 : (loadVar 3 ⟨g, 0, none⟩).run Try.prog w = .ok x w := mo_load1 (hb.cell 0) Try.isAgg3
  have h2 : (loadVar 3 ⟨h, 0, none⟩).run Try.prog w = .ok y w := mo_load1 (hc.cell 0) Try.isAgg3
  rw [Array.getD_eq_getD_getElem?] at ht hv
  simp [results, hr, ht, h1, hv, h2, asAddr]
theorem SrcI.set {w W3 W : World} {P O : Int} (h : SrcI w W3 P O W) (O' P' : Int) : SrcI w W3 P' O' ((W.setCell ⟨w.heap.size, 0, none⟩ (.int .i64 O')).setCell ⟨w.heap.size + 1, 0, none⟩ (.int .i64 P')) := by
  have h1 : Keep (fun i => i = w.heap.size ∨ i = w.heap.size + 1) W (W.setCell ⟨w.heap.size, 0, none⟩ (.int .i64 O')) := (Keep.refl _ _).setCell _ _ (fun _ => .inl rfl)
  have h2 := h1.setCell ⟨w.heap.size + 1, 0, none⟩ (.int .i64 P') (fun _ => .inr rfl)
  exact ⟨h.keep.trans h2 (fun _ _ e => e), (h.of_.set_ 0 _).far (by simp) _, (h.pl.far (by simp) _).set_ 0 _⟩
theorem SrcI.put {w W3 W : World} {P O : Int} (h : SrcI w W3 P O W) (P' : Int) : SrcI w W3 P' O (W.setCell ⟨w.heap.size + 1, 0, none⟩ (.int .i64 P')) := by
  have h2 : Keep (fun i => i = w.heap.size ∨ i = w.heap.size + 1) W (W.setCell ⟨w.heap.size + 1, 0, none⟩ (.int .i64 P')) := (Keep.refl _ _).setCell _ _ (fun _ => .inr rfl)
  exact ⟨h.keep.trans h2 (fun _ _ e => e), h.of_.far (by simp) _, h.pl.set_ 0 _⟩
theorem SrcI.fin {w W3 W : World} {P O : Int} {D : Nat} (h : SrcI w W3 P O W) (hb3 : Below w.heap.size w W3) (hs : w.heap.size + 1 < W3.heap.size) (hD : W3.heap.size ≤ D) (hK : W.heap[D]? = some (.deferred (some []))) :
    (((W.setCell ⟨w.heap.size, 0, none⟩ (.int .i64 O)).setCell ⟨w.heap.size + 1, 0, none⟩ (.int .i64 P)).drew).heap[D]? = some (.deferred (some [])) ∧
    Blk ((((W.setCell ⟨w.heap.size, 0, none⟩ (.int .i64 O)).setCell ⟨w.heap.size + 1, 0, none⟩ (.int .i64 P)).drew).putObj D (.deferred none)) w.heap.size 3 #[.int .i64 O] ∧
    Blk ((((W.setCell ⟨w.heap.size, 0, none⟩ (.int .i64 O)).setCell ⟨w.heap.size + 1, 0, none⟩ (.int .i64 P)).drew).putObj D (.deferred none)) (w.heap.size + 1) 3 #[.int .i64 P] ∧
    Below w.heap.size w ((((W.setCell ⟨w.heap.size, 0, none⟩ (.int .i64 O)).setCell ⟨w.heap.size + 1, 0, none⟩ (.int .i64 P)).drew).putObj D (.deferred none)) := by
  have h2 := h.set O P
  have hDl : D < W.heap.size := (Array.getElem?_eq_some_iff.1 hK).1
  obtain ⟨W2, hW2⟩ : ∃ W2, ((W.setCell ⟨w.heap.size, 0, none⟩ (.int .i64 O)).setCell ⟨w.heap.size + 1, 0, none⟩ (.int .i64 P)) = W2 := ⟨_, rfl⟩
  have hk : Keep (fun i => i = w.heap.size ∨ i = w.heap.size + 1) W W2 := by
    rw [← hW2]
    exact (Keep.setCell (S := fun i => i = w.heap.size ∨ i = w.heap.size + 1) (Keep.refl _ _) _ _ (fun _ => .inl rfl)).setCell ⟨w.heap.size + 1, 0, none⟩ (.int .i64 P) (fun _ => .inr rfl)
  rw [hW2] at h2 ⊢
  have hp : Keep (fun k => k = D) W2.drew (W2.drew.putObj D (.deferred none)) := (Keep.refl _ _).grown (grownBy_putObj' _ D _) (fun k e _ => by injection e with e; exact e.symm)
  have hKD : W2.heap[D]? = some (.deferred (some [])) := (hk.block D hDl (by omega)).trans hK
  have hbw : Below w.heap.size w W2 := hb3.trans (h2.keep.below hb3.size (fun i hi e => by omega))
  refine ⟨hKD, hp.blk (Blk.drew h2.of_) (by omega), hp.blk (Blk.drew h2.pl) (by omega), ?_⟩
  exact (hbw.drew).trans (hp.below (by have := hbw.size; exact this) (fun i hi e => by omega))

section
attribute [local go_sem] Oper.semAt_some
end
end Go.Proofs.Ytkabdkblcgklmaa.mo

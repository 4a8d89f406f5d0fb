/-
  Layer 16 (fold), its laws: a column that grows in a box.
-/
import Derived.Test.YtkabdkblcgklmaaFoTimesM
namespace Go.Proofs.Ytkabdkblcgklmaa.foldTimes
open Go.RowKit Go.Proofs.Ytkabdkblcgklmaa.arr Go.Proofs.Ytkabdkblcgklmaa.sc Go.Proofs.Ytkabdkblcgklmaa.fo

/-- A box at gy holds an array whose shape's list lies at gs, and whose elements are the first j ones of cb, in a row of its own. -/
structure ColF (w8 : World) (gy gs : Nat) (kb L : Int) (cb : Nat → Int) (j : Nat) (W : World) : Prop where
  b : Below w8.heap.size w8 W
  g : Blk W gs 3 #[.int .i64 L]
  o : ∃ A c, Blk W gy 25 #[.int .i64 kb, .slice (some ⟨gs, 0, none⟩) 1 1, .slice A j c] ∧ W.ownsRow (gy + 1) 2 1 (.slice A j c) j ((apL cb j).map iv)
theorem ColF.below {w8 W W' : World} {gy gs j : Nat} {kb L : Int} {cb : Nat → Int} (h : ColF w8 gy gs kb L cb j W) (hb : Below W.heap.size W W') : ColF w8 gy gs kb L cb j W' := by
  obtain ⟨h1, h2, A, c, h3, h4⟩ := h
  exact ⟨below_on h1 hb, blk_up h2 hb, A, c, blk_up h3 hb, arown_stay h4 hb (fun g hg => (arown_lt h4 g hg).2)⟩
/-- One more: what append answers, stored. -/
theorem ColF.push {w8 W W9 : World} {gy gs j : Nat} {kb L : Int} {cb : Nat → Int} (h : ColF w8 gy gs kb L cb j W) (hgy : w8.heap.size ≤ gy) (hgs : gs < gy) {A : Option Addr} {c : Nat} (he : Blk W gy 25 #[.int .i64 kb, .slice (some ⟨gs, 0, none⟩) 1 1, .slice A j c]) (x : Int) (hx : cb j = x) (v' : Value)
    (ho : W9.ownsRow (gy + 1) 2 1 v' (j + 1) ((apL cb j).map iv ++ [.int .i64 x])) (hk1 : Keep (fun i => gy + 1 ≤ i) W W9) :
    W9.cell? ⟨gy, 2, none⟩ = some (.slice A j c) ∧ W9.frozen? ⟨gy, 2, none⟩ = false ∧ (∃ A' c2, v' = .slice A' (j + 1) c2) ∧ ColF w8 gy gs kb L cb (j + 1) (W9.setCell ⟨gy, 2, none⟩ v') := by
  have hb9 := hk1.blk he (by omega)
  obtain ⟨A', c2, hv'⟩ := own_form ho
  have hkq : Keep (fun i => i = gy) W9 (W9.setCell ⟨gy, 2, none⟩ v') := (Keep.refl _ _).setCell _ _ (fun _ => rfl)
  have hkk : Keep (fun i => gy ≤ i) W (W9.setCell ⟨gy, 2, none⟩ v') := (hk1.more (S' := fun i => gy ≤ i) (fun i _ h => by omega)).trans hkq (fun i _ h => by omega)
  refine ⟨hb9.cell 2, hb9.frozen 2, ⟨A', c2, hv'⟩, h.b.trans (hkk.below (h.b.size) (fun i hi e => by omega)), hkk.blk h.g (by omega), A', c2, ?_, ?_⟩
  · rw [← hv']
    exact hb9.set_ 2 v'
  · rw [← hv', apL_succ, List.map_append, hx]
    exact hkq.own ho (fun g hg e => by have := (arown_lt ho g hg).1; omega)
/-- The append itself. -/
theorem col_app {W : World} {gy j : Nat} {cb : Nat → Int} {A : Option Addr} {c : Nat} (ho : W.ownsRow (gy + 1) 2 1 (.slice A j c) j ((apL cb j).map iv)) (hgy : gy + 1 ≤ W.heap.size) (hj : j ≤ 5000) (x : Int) (g1 : Nat) (hg1 : Blk W g1 2 #[.int .i64 x]) :
    ∃ v' W9, (Builtin.append_ #[23, 23] 23 #[.slice A j c, .slice (some ⟨g1, 0, none⟩) 1 1]).run Try.prog W = .ok v' W9 ∧ W9.ownsRow (gy + 1) 2 1 v' (j + 1) ((apL cb j).map iv ++ [.int .i64 x]) ∧ Keep (fun i => gy + 1 ≤ i) W W9 := by
  obtain ⟨i0, hi, hz0, hz1, hz2⟩ := info_parts arInfoI64
  obtain ⟨v', W9, h1, h2, h3, _⟩ := run_append_own (P := Try.prog) (w := W) (gy + 1) 23 23 2 i0 (.int .i64 0) 1 8 Try.underlying23 hi hz0 hz1 hz2 rfl (by decide) (.slice A j c) j _ ho ⟨g1, 0, none⟩ 1 1 [.int .i64 x] rfl (fun k u hu => by
    rw [Addr.add_mid, Nat.zero_add, hg1.cell k, List.getElem?_toArray]
    exact hu) (by intro u hu; rw [List.mem_singleton] at hu; subst hu; rfl) (by unfold maxLen; omega) (by omega) hgy
  exact ⟨v', W9, h1, h2, (Keep.refl _ _).grown h3 (fun g hg _ => (arown_lt ho g hg).1)⟩
end Go.Proofs.Ytkabdkblcgklmaa.foldTimes

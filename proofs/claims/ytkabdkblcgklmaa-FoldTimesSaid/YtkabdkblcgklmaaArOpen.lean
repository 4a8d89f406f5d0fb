/-
  Layer 11 (array): how a list of numbers opens as an argument.
-/
import Derived.Test.YtkabdkblcgklmaaArForm
import Derived.Test.YtkabdkblcgklmaaOpen
namespace Go.Proofs.Ytkabdkblcgklmaa.arr
open Go.ChangeShapes Go.WideShapes Go.ChangeAt Go.RowKit Go.Deep

theorem arcellsInt : Try.prog.cellsOf 3 = 1 := by kernel_rfl
/-- A list of numbers of 64 bits in memory, as an argument. -/
structure IArg (W : World) (A : Option Addr) (c : Nat) (l : List Int) : Prop where
  reads : Reads W W.heap.size 1 A l.length (l.map iv)
  cap : l.length ≤ c
  big : c ≤ 9223372036854775807
  fine : ∀ z ∈ l, -9223372036854775808 ≤ z ∧ z ≤ 9223372036854775807

section
variable {H : Type} {enc : TypeId × Value → H} {W : World} {fuel : Nat}
set_option maxRecDepth 100000 in
theorem aropen_cells {t e : TypeId} (ht : Try.prog.underlying t = some (.slice e)) (he : Try.prog.underlying e = some (.int .i64)) (hC : Try.prog.cellsOf e = 1) {v : Value} {x : DataW H × List MemPlace} (h : DataW.trod enc Try.prog W 0 (fun _ => true) true fuel t [v] = some x) :
    ∃ A c l, v = .slice A (l : List Int).length c ∧ IArg W A c l := by
  rcases open_ints ht he hC h with ⟨hcs, hx⟩ | ⟨a, len', cap', zs, hcs, _, hl, hm, hz, hx, hcell, hwz⟩
  · injection hcs with hcs
    subst hcs
    exact ⟨none, 0, [], rfl, ⟨Reads.none_, Nat.le_refl _, by omega, fun z hz => by cases hz⟩⟩
  · injection hcs with hcs
    subst hcs
    simp only [if_true] at hz
    have hlen : (zs.take len').length = len' := by rw [List.length_take]; omega
    refine ⟨some a, cap', zs.take len', by rw [hlen], ⟨?_, by rw [hlen]; exact hl, by unfold maxLen at hm; omega, fun z hzm => i64_of_wf (hwz z (List.mem_of_mem_take hzm))⟩⟩
    rw [hlen]
    refine ⟨by rw [List.length_map, hlen]; omega, fun h0 => ⟨a, rfl, ?_, fun j u hu => ?_⟩⟩
    · have := block_lt_of_cell (hcell 0 (by omega))
      rwa [block_of_add] at this
    · have hj : j < len' := by
        have := (List.getElem?_eq_some_iff.1 hu).1
        rwa [List.length_map, hlen] at this
      have hjz : j < zs.length := by omega
      rw [hcell j hjz, ← hu, List.getElem?_map, List.getElem?_take_of_lt hj, List.getElem?_eq_getElem hjz]
      simp [iv, List.getD, List.getElem?_eq_getElem hjz]
set_option maxRecDepth 100000 in
theorem aropen_ints {base : Nat} {v : Value} {d : DataW H} {p : List MemPlace} (hval : Value.okWide Try.prog W .any base 22 v) (h : DataW.Trod enc Try.prog W 0 (fun _ => true) true 22 v d p) :
    ∃ A c l, v = .slice A (l : List Int).length c ∧ IArg W A c l := by
  obtain ⟨a0, len, cap, rfl⟩ := okWide_slice Try.underlying22 hval
  obtain ⟨fuel, hf⟩ := h
  exact aropen_cells Try.underlying22 Try.underlying3 arcellsInt hf
end
end Go.Proofs.Ytkabdkblcgklmaa.arr

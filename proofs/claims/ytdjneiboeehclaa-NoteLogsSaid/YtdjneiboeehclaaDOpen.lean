/-
  How the arguments of layer 3's statements open: lists of calls, crashes.
-/
import Derived.Test.YtdjneiboeehclaaDOps
import Derived.Test.YtdjneiboeehclaaOpen
namespace Go.Proofs.Ytdjneiboeehclaa
open Go.ChangeShapes Go.WideShapes Go.ChangeAt Go.RowKit Go.Deep

theorem cellsInt : Try.prog.cellsOf 3 = 1 := by kernel_rfl

section
variable {H : Type} {enc : TypeId × Value → H} {W : World} {base : Nat} {fuel : Nat}

set_option maxRecDepth 100000 in
theorem sl_bytes {v : Value} {x : DataW H × List MemPlace} (h : DataW.trod enc Try.prog W 0 (fun _ => true) true fuel 24 [v] = some x) :
    ∃ A c L, v = .slice A (L : List UInt8).length c ∧ Sl W W.heap.size A c (L.map bv) := by
  rcases open_ints Try.underlying24 Try.underlying5 cellsU8 h with ⟨hcs, hx⟩ | ⟨a, len', cap', zs, hcs, _, hl, hm, hz, hx, hcell, hwz⟩
  · injection hcs with hcs
    subst hcs
    exact ⟨none, 0, [], rfl, ⟨Reads.none_, Nat.le_refl _, by omega⟩⟩
  · injection hcs with hcs
    subst hcs
    simp only [if_true] at hz
    have hlen : ((zs.take len').map fun z => UInt8.ofNat z.toNat).length = len' := by rw [List.length_map, List.length_take]; omega
    refine ⟨some a, cap', (zs.take len').map fun z => UInt8.ofNat z.toNat, by rw [hlen], ⟨?_, by rw [List.length_map, hlen]; exact hl, by unfold maxLen at hm; omega⟩⟩
    rw [List.length_map, hlen]
    refine ⟨by rw [List.length_map, hlen]; omega, fun h0 => ⟨a, rfl, ?_, fun j u hu => ?_⟩⟩
    · have := lt_of_cell (hcell 0 (by omega))
      rwa [block_of_add] at this
    · have hj : j < len' := by
        have := (List.getElem?_eq_some_iff.1 hu).1
        rwa [List.length_map, hlen] at this
      have hjz : j < zs.length := by omega
      rw [hcell j hjz, ← hu, List.getElem?_map, List.getElem?_map, List.getElem?_take_of_lt hj, List.getElem?_eq_getElem hjz]
      have hb := hwz zs[j] (List.getElem_mem hjz)
      have m1 : IntKind.u8.min = 0 := rfl
      have m2 : IntKind.u8.max = 255 := rfl
      simp only [Lit.wf, Bool.and_eq_true, decide_eq_true_eq] at hb
      simp [bv, List.getD, List.getElem?_eq_getElem hjz]
      omega

end

end Go.Proofs.Ytdjneiboeehclaa

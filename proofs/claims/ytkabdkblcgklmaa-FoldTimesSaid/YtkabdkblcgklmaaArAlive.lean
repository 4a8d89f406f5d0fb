/-
  Layer 11 (array): the statements' 'text' and 'alive'.
-/
import Derived.Test.YtkabdkblcgklmaaArNew
import Derived.Deep.DeepCutAuto
namespace Go.Proofs.Ytkabdkblcgklmaa.arr
open Go.RowKit

theorem lit_reads (w : World) (t : TypeId) (xs : List Value) : Reads (w.alloc (.cells xs.toArray t)) (w.alloc (.cells xs.toArray t)).heap.size 1 (some ⟨w.heap.size, 0, none⟩) xs.length xs := by
  refine ⟨by rw [Nat.mul_one], fun _ => ⟨_, rfl, by simp, fun j u hu => ?_⟩⟩
  rw [Addr.add_mid, Nat.zero_add, (Blk.new w t _).cell j, List.getElem?_toArray]
  exact hu
theorem five_text : okA ⟨1, [], [-5]⟩ = true ∧ textV ⟨1, [], [-5]⟩ = [194, 175, 53] := by
  have h : okA ⟨1, [], [-5]⟩ = true := by decide
  refine ⟨h, ?_⟩
  unfold textV
  rw [if_pos h]
  show Lib.join [numB (-5)] [32] = _
  rw [Lib.join_one]
  show [194, 175] ++ Lib.decDigits 5 = _
  rw [Lib.decDigits_one (by decide)]
  rfl
theorem two_text : okA ⟨1, [2], [1, -2]⟩ = true ∧ textV ⟨1, [2], [1, -2]⟩ = [49, 32, 194, 175, 50] := by
  have h : okA ⟨1, [2], [1, -2]⟩ = true := by decide
  refine ⟨h, ?_⟩
  unfold textV
  rw [if_pos h]
  show Lib.join [numB 1, numB (-2)] [32] = _
  rw [Lib.join_cons]
  show Lib.decDigits 1 ++ ([32] ++ ([194, 175] ++ Lib.decDigits 2) ++ []) = _
  rw [Lib.decDigits_one (by decide), Lib.decDigits_one (by decide)]
  rfl

end Go.Proofs.Ytkabdkblcgklmaa.arr

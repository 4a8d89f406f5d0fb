/-
  Layer 11 (array): tellsShape, the text of the elements, Text.
-/
import Derived.Test.YtkabdkblcgklmaaArCheck
namespace Go.Proofs.Ytkabdkblcgklmaa.arr
open Go.RowKit

theorem elems_size {a : AV} (hl : a.el.length ≤ 4096) (hf : ∀ z ∈ a.el, -9223372036854775808 ≤ z ∧ z ≤ 9223372036854775807) : (elemsB a).length ≤ 1000000 := by
  unfold elemsB
  split
  · unfold charsB
    have := flat_le (B := 5) (a.el.map charB) (fun x hx => by
      obtain ⟨c, _, rfl⟩ := List.mem_map.1 hx
      exact charB_length c)
    rw [List.length_map] at this
    rw [List.length_append, List.length_append]
    simp only [List.length_cons, List.length_nil]
    omega
  · split
    · simp
    · unfold numsB
      have := join_le (sep := [32]) (B := 22) (a.el.map numB) (fun x hx => by
        obtain ⟨z, hz, rfl⟩ := List.mem_map.1 hx
        exact numB_length (hf z hz).1 (hf z hz).2)
      rw [List.length_map] at this
      simp only [List.length_cons, List.length_nil] at this
      omega

end Go.Proofs.Ytkabdkblcgklmaa.arr

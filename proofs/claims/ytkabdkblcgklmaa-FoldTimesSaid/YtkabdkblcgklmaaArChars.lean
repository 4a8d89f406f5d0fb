/-
  Layer 11 (array): the text of characters.
-/
import Derived.Test.YtkabdkblcgklmaaArText
namespace Go.Proofs.Ytkabdkblcgklmaa.arr
open Go.RowKit

theorem wrap32 {x : Int} (h0 : 0 ≤ x) (h1 : x ≤ 1114111) : IntKind.i32.wrap x = x := by
  have e1 : (2 : Int) ^ IntKind.i32.bits = 4294967296 := rfl
  have e2 : (2 : Int) ^ (IntKind.i32.bits - 1) = 2147483648 := rfl
  unfold IntKind.wrap
  simp [e1, e2]
  omega
theorem charB_39 : charB 39 = Lib.encodeRune 39 ++ [39] := rfl
theorem charB_ne {x : Int} (h : ¬ x = 39) : charB x = Lib.encodeRune x := by
  unfold charB
  rw [if_neg h, List.append_nil]
theorem ch_len (l : List Int) (j : Nat) : ([39] ++ ((l.take j).map charB).flatten).length ≤ 1 + l.length * 5 := by
  rw [List.length_append]
  have := flat_le (B := 5) ((l.take j).map charB) (fun x hx => by
    obtain ⟨c, _, rfl⟩ := List.mem_map.1 hx
    exact charB_length c)
  rw [List.length_map, List.length_take] at this
  have h2 : min j l.length * 5 ≤ l.length * 5 := by omega
  simp only [List.length_cons, List.length_nil]
  omega

end Go.Proofs.Ytkabdkblcgklmaa.arr

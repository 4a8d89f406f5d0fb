/-
  The Writer's Num: its sizes, what fits, the iterator of a number's bytes (the lowest one first, without end), and the bytes that are put.
-/
import Derived.Test.YtkebbjodkhjbmaaPut
namespace Go.Proofs.Ytkebbjodkhjbmaa
open Go.RowKit

/-! ### PLAIN -/
/-- Byte number k of n, the lowest one being 0. -/
def lowByte (n k : Nat) : UInt8 := UInt8.ofNat (n / 256 ^ k % 256)
/-- A number of size bytes, the highest one first. -/
def be (size n : Nat) : List UInt8 := (List.range size).map fun i => lowByte n (size - 1 - i)
def sized (size : Int) : Bool := size = 1 || size = 2 || size = 4 || size = 8
def fitsB (size n : Nat) : Bool := decide (n < 256 ^ size)
theorem be_length (size n : Nat) : (be size n).length = size := by simp [be]
theorem lowByte_toNat (n k : Nat) : (lowByte n k).toNat = n / 256 ^ k % 256 := by
  unfold lowByte
  rw [UInt8.toNat_ofNat']
  exact Nat.mod_mod_of_dvd _ (by decide)

theorem bv_low (n k : Nat) : bv (lowByte n k) = .int .u8 ((n : Int) / 256 ^ k % 256) := by
  unfold bv
  rw [lowByte_toNat]
  simp

theorem shr_fits (size n : Nat) : ((n : Int) / 2 ^ (8 * size) == 0) = fitsB size n := by
  unfold fitsB
  rw [show (2 : Int) ^ (8 * size) = ((256 ^ size : Nat) : Int) from by rw [Int.pow_mul]; simp]
  rw [show ((n : Int) / ((256 ^ size : Nat) : Int)) = ((n / 256 ^ size : Nat) : Int) from rfl]
  rw [Bool.eq_iff_iff, beq_iff_eq, decide_eq_true_iff, ← Nat.div_eq_zero_iff_lt (Nat.pow_pos (by decide))]
  omega

open Classical in
/-- How many rounds are over, told by J. -/
noncomputable def over (J : Nat → World → Prop) (W : World) : Nat := if h : ∃ k, J k W then Classical.choose h else 0
theorem over_eq {J : Nat → World → Prop} {W : World} {k : Nat} (hu : ∀ k k' W, J k W → J k' W → k = k') (h : J k W) : over J W = k := by
  have hex : ∃ k, J k W := ⟨k, h⟩
  unfold over
  rw [dif_pos hex]
  exact hu _ _ W (Classical.choose_spec hex) h

section
attribute [local go_sem] Oper.semAt_some
end

end Go.Proofs.Ytkebbjodkhjbmaa

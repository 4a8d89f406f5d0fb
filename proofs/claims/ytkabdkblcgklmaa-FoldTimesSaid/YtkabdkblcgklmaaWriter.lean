/-
  The Writer's Num: its sizes, what fits, the iterator of a number's bytes (the lowest one first, without end), and the bytes that are put.
  The Writer's Num, whole: an error and nothing written, or the number's bytes behind what was written.
  The Writer's other calls: Int, Raw, Text, Len, Bytes.
-/
import Derived.Test.YtkabdkblcgklmaaPut
import Derived.WalkMore
namespace Go.Proofs.Ytkabdkblcgklmaa
open Go.RowKit

/-! ### PLAIN -/
/-- Byte number k of n, the lowest one being 0. -/
def lowByte (n k : Nat) : UInt8 := UInt8.ofNat (n / 256 ^ k % 256)
/-- A number of size bytes, the highest one first. -/
def be (size n : Nat) : List UInt8 := (List.range size).map fun i => lowByte n (size - 1 - i)
def sized (size : Int) : Bool := size = 1 || size = 2 || size = 4 || size = 8
def fitsB (size n : Nat) : Bool := decide (n < 256 ^ size)
theorem be_length (size n : Nat) : (be size n).length = size := by simp [be]
theorem lowByte_toNat (n k : Nat) : (lowByte n k).toNat = n / 256 ^ k % 256 := by
  unfold lowByte
  rw [UInt8.toNat_ofNat']
  exact Nat.mod_mod_of_dvd _ (by decide)

theorem bv_low (n k : Nat) : bv (lowByte n k) = .int .u8 ((n : Int) / 256 ^ k % 256) := by
  unfold bv
  rw [lowByte_toNat]
  simp

theorem shr_fits (size n : Nat) : ((n : Int) / 2 ^ (8 * size) == 0) = fitsB size n := by
  unfold fitsB
  rw [show (2 : Int) ^ (8 * size) = ((256 ^ size : Nat) : Int) from by rw [Int.pow_mul]; simp]
  rw [show ((n : Int) / ((256 ^ size : Nat) : Int)) = ((n / 256 ^ size : Nat) : Int) from rfl]
  rw [Bool.eq_iff_iff, beq_iff_eq, decide_eq_true_iff, ← Nat.div_eq_zero_iff_lt (Nat.pow_pos (by decide))]
  omega

open Classical in
/-- How many rounds are over, told by J. -/
noncomputable def over (J : Nat → World → Prop) (W : World) : Nat := if h : ∃ k, J k W then Classical.choose h else 0
theorem over_eq {J : Nat → World → Prop} {W : World} {k : Nat} (hu : ∀ k k' W, J k W → J k' W → k = k') (h : J k W) : over J W = k := by
  have hex : ∃ k, J k W := ⟨k, h⟩
  unfold over
  rw [dif_pos hex]
  exact hu _ _ W (Classical.choose_spec hex) h

section
attribute [local go_sem] Oper.semAt_some
end

end Go.Proofs.Ytkabdkblcgklmaa

namespace Go.Proofs.Ytkabdkblcgklmaa
open Go.RowKit

/-- The room of eight bytes, k rounds over. -/
def roomArr (size n k : Nat) : Array Value := ((List.range 8).map fun i => if size ≤ i + k ∧ i < size then bv (lowByte n (size - 1 - i)) else .int .u8 0).toArray

theorem roomArr_zero (size n : Nat) : roomArr size n 0 = #[.int .u8 0, .int .u8 0, .int .u8 0, .int .u8 0, .int .u8 0, .int .u8 0, .int .u8 0, .int .u8 0] := by
  have h : ∀ i, ¬ (size ≤ i + 0 ∧ i < size) := fun i => by omega
  unfold roomArr
  simp only [if_neg (h _)]
  rfl

theorem roomArr_step (size n k r : Nat) (h : r + 1 + k = size) (h8 : size ≤ 8) : (roomArr size n k).setIfInBounds r (bv (lowByte n k)) = roomArr size n (k + 1) := by
  apply Array.ext
  · simp [roomArr]
  · intro i h1 h2
    have hi : i < 8 := by simpa [roomArr] using h2
    rw [Array.getElem_setIfInBounds (by simpa [roomArr] using hi)]
    simp only [roomArr, List.getElem_toArray, List.getElem_map, List.getElem_range]
    by_cases e : r = i
    · subst e
      rw [if_pos rfl, if_pos ⟨by omega, by omega⟩]
      congr 2
      omega
    · rw [if_neg e]
      by_cases g : size ≤ i + k ∧ i < size
      · rw [if_pos g, if_pos ⟨by omega, g.2⟩]
      · rw [if_neg g, if_neg (by omega)]

theorem blk_own {W W' : World} {B g : Nat} {t : TypeId} {cs : Array Value} {row : Option Nat} (h : Blk W g t cs) (hg : W.grownBy W' row) (hr : ∀ r, row = some r → B ≤ r ∧ ∃ o : Obj, W.heap[r]? = some o ∧ o.isCells = false) : Blk W' g t cs :=
  h.grown hg (fun e => by
    obtain ⟨_, o, ho, hc⟩ := hr g e.symm
    rw [show W.heap[g]? = _ from h] at ho
    cases ho
    cases hc)

theorem wpIn_scope_wide {n : Nat} {P : Program} {c : Code} {Q : Exit → Act → World → Prop} {a : Act} {w : World} (h : c.wpIn Fence.wide n P (Exit.noGoto Q) a w) : (Code.scope c).wpIn Fence.wide n P Q a w :=
  wpIn_wide.2 (wp_scope_straight (wpIn_wide.1 h))

theorem sized_of {size : Nat} (hs : size = 1 ∨ size = 2 ∨ size = 4 ∨ size = 8) : sized (size : Int) = true := by
  unfold sized
  rcases hs with rfl | rfl | rfl | rfl <;> rfl

section
attribute [local go_sem] Oper.semAt_some
end
end Go.Proofs.Ytkabdkblcgklmaa

namespace Go.Proofs.Ytkabdkblcgklmaa
open Go.RowKit

theorem wrap_u64 (n : Int) : IntKind.u64.wrap n = ((n % 18446744073709551616).toNat : Int) := by
  rw [Int.toNat_of_nonneg (by omega)]
  simp [IntKind.wrap, IntKind.bits, IntKind.signed]

end Go.Proofs.Ytkabdkblcgklmaa

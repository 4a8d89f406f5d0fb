/-
  The document's own answers for layer 2: a register's step, sums, a sum's bytes, what is sealed, what is opened.
-/
import Derived.Test.YtkebbjodkhjbmaaCrcM
import Derived.Test.YtkebbjodkhjbmaaByt
import Derived.Laws.BitsAllLaws
namespace Go.Proofs.Ytkebbjodkhjbmaa.crc
open Go.RowKit

/-- A register as a value. -/
def rv (c : BitVec 32) : Value := .int .u32 (c.toNat : Int)

theorem stp_nat (c : BitVec 32) (b : Bool) : ((stp c b).toNat : Nat) = if (c.toNat ^^^ b.toNat) % 2 = 1 then (c.toNat / 2) ^^^ 3988292384 else c.toNat / 2 := by
  have hb : (c.getLsbD 0 ^^ b) = decide ((c.toNat ^^^ b.toNat) % 2 = 1) := by
    rw [← Nat.testBit_zero, Nat.testBit_xor]
    congr 1
    cases b <;> rfl
  unfold stp
  rw [hb, BitVec.toNat_xor, BitVec.toNat_ushiftRight, Nat.shiftRight_eq_div_pow, Nat.pow_one]
  by_cases h : (c.toNat ^^^ b.toNat) % 2 = 1
  · rw [if_pos h]
    simp [h, sel]
    rfl
  · rw [if_neg h]
    simp [h, sel]

/-- The bits of bytes, each byte's lowest one first. -/
def bitsB (l : List UInt8) : List Bool := l.flatMap fun x => bitsOf x.toNat 8
theorem bitsB_append (l m : List UInt8) : bitsB (l ++ m) = bitsB l ++ bitsB m := List.flatMap_append
theorem bitsB_length (l : List UInt8) : (bitsB l).length = 8 * l.length := by
  induction l with
  | nil => rfl
  | cons x l ih =>
    show (bitsOf x.toNat 8 ++ bitsB l).length = _
    rw [List.length_append, bitsOf_length, ih, List.length_cons]
    omega
theorem bitsOf_snoc (w k : Nat) : bitsOf w (k + 1) = bitsOf w k ++ [w.testBit k] := by
  unfold bitsOf
  rw [List.range_succ, List.map_append]
  rfl
theorem run_snoc (c : BitVec 32) (l : List Bool) (b : Bool) : run c (l ++ [b]) = stp (run c l) b := by
  rw [run_append]
  rfl

end Go.Proofs.Ytkebbjodkhjbmaa.crc

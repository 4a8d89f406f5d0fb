/-
  CRC-32, without any program: a byte at once, and registers as polynomials: their product, and the powers that stand for noughts.
  The code of layer 2: a byte's bits, what a byte leaves of an empty register, a step.
  The code of layer 2: what a byte leaves of an empty register.
  The code of layer 2: products of registers, noughts, joins; sums.
  The code of layer 2: sums.
-/
import Derived.Test.YtdjneiboeehclaaRef2
import Derived.Test.YtdjneiboeehclaaWriter
namespace Go.Proofs.Ytdjneiboeehclaa.crc

/-- Noughts' steps over noughts only shift. -/
theorem run_shift : ∀ (k : Nat) (h : BitVec 32), (∀ i, i < k → h.getLsbD i = false) → run h (List.replicate k false) = h >>> k
  | 0, h, _ => by simp [run_nil]
  | k + 1, h, h0 => by
    rw [List.replicate_succ, run_cons]
    have hs : stp h false = h >>> 1 := by
      unfold stp
      rw [h0 0 (by omega)]
      simp [sel]
    rw [hs, run_shift k _ (fun i hi => by rw [BitVec.getLsbD_ushiftRight, Nat.add_comm]; exact h0 _ (by omega))]
    apply BitVec.eq_of_getLsbD_eq
    intro i _
    simp only [BitVec.getLsbD_ushiftRight]
    congr 1
    omega

theorem run_byte (c : BitVec 32) (x : Nat) (hx : x < 256) : run c (bitsOf x 8) = (c >>> 8) ^^^ run 0#32 (bitsOf (c.toNat % 256 ^^^ x) 8) := by
  have hy : c.toNat % 256 ^^^ x < 2 ^ 8 := Nat.xor_lt_two_pow (by omega) (by omega)
  rw [run_bits 8 _ _ (by omega), run_bits 8 _ _ (by omega), Nat.mod_eq_of_lt (show x < 2 ^ 8 by omega), Nat.mod_eq_of_lt hy, BitVec.zero_xor, BitVec.ofNat_xor, run_zeros_linear, run_zeros_linear, ← BitVec.xor_assoc]
  congr 1
  have hc : c = (c ^^^ BitVec.ofNat 32 (c.toNat % 256)) ^^^ BitVec.ofNat 32 (c.toNat % 256) := by rw [xor_xor]
  have hlo : ∀ i, (BitVec.ofNat 32 (c.toNat % 256)).getLsbD i = (decide (i < 8) && c.getLsbD i) := by
    intro i
    rw [BitVec.getLsbD_ofNat, show (256 : Nat) = 2 ^ 8 from rfl, Nat.testBit_mod_two_pow, ← BitVec.testBit_toNat]
    by_cases h : i < 8
    · have : i < 32 := by omega
      simp [h, this]
    · simp [h]
  have h1 : run (c ^^^ BitVec.ofNat 32 (c.toNat % 256)) (List.replicate 8 false) = c >>> 8 := by
    rw [run_shift 8 _ (fun i hi => by rw [BitVec.getLsbD_xor, hlo]; simp [hi])]
    apply BitVec.eq_of_getLsbD_eq
    intro i hi
    rw [BitVec.getLsbD_ushiftRight, BitVec.getLsbD_ushiftRight, BitVec.getLsbD_xor, hlo]
    have : ¬ 8 + i < 8 := by omega
    simp [this]
  have h2 := run_zeros_linear 8 (c ^^^ BitVec.ofNat 32 (c.toNat % 256)) (BitVec.ofNat 32 (c.toNat % 256))
  rw [← hc, h1] at h2
  exact h2

/-- The power 0. -/
def one : BitVec 32 := 2147483648#32
/-- The power k. -/
def Z (k : Nat) : BitVec 32 := run one (List.replicate k false)
def prodTo (a b : BitVec 32) : Nat → BitVec 32
  | 0 => 0#32
  | i + 1 => prodTo a b i ^^^ (if a.getLsbD (31 - i) = true then run b (List.replicate i false) else 0#32)
def prod (a b : BitVec 32) : BitVec 32 := prodTo a b 32

theorem run_Z (k i : Nat) : run (Z k) (List.replicate i false) = Z (k + i) := by
  unfold Z
  rw [← run_append, List.replicate_append_replicate]
theorem prodTo_Z (a : BitVec 32) (k : Nat) : ∀ i, prodTo a (Z k) i = run (prodTo a one i) (List.replicate k false)
  | 0 => (run_zero k).symm
  | i + 1 => by
    unfold prodTo
    rw [run_zeros_linear, prodTo_Z a k i]
    congr 1
    split
    · rw [run_Z, Nat.add_comm, ← run_Z]
      rfl
    · exact (run_zero k).symm
theorem one_bit (i : Nat) : one.getLsbD i = decide (i = 31) := by
  by_cases h : i < 32
  · have : ∀ j : Fin 32, one.getLsbD j.val = decide (j.val = 31) := by decide
    exact this ⟨i, h⟩
  · rw [BitVec.getLsbD_of_ge _ _ (by omega)]
    have : ¬ i = 31 := by omega
    simp [this]
theorem prodTo_one (a : BitVec 32) : ∀ i, i ≤ 32 → ∀ j, j < 32 → (prodTo a one i).getLsbD j = (decide (32 ≤ i + j) && a.getLsbD j)
  | 0, _, j, hj => by
    have : decide (32 ≤ 0 + j) = false := by simp; omega
    rw [this]
    simp [prodTo]
  | i + 1, hi, j, hj => by
    unfold prodTo
    rw [BitVec.getLsbD_xor, prodTo_one a i (by omega) j hj]
    have hr : run one (List.replicate i false) = one >>> i := run_shift i one (fun k hk => by
      rw [one_bit]
      have : ¬ k = 31 := by omega
      simp [this])
    by_cases hj2 : j = 31 - i
    · subst hj2
      have h1 : ¬ 32 ≤ i + (31 - i) := by omega
      have h2 : 32 ≤ i + 1 + (31 - i) := by omega
      have h3 : i + (31 - i) = 31 := by omega
      by_cases ha : a.getLsbD (31 - i) = true
      · rw [if_pos ha, hr, BitVec.getLsbD_ushiftRight, one_bit, ha]
        simp [h2, h3]
      · rw [if_neg ha]
        simp [h1, h2, ha]
    · have h3 : (if a.getLsbD (31 - i) = true then run one (List.replicate i false) else 0#32).getLsbD j = false := by
        split
        · rw [hr, BitVec.getLsbD_ushiftRight, one_bit]
          have : ¬ i + j = 31 := by omega
          simp [this]
        · simp
      rw [h3, Bool.xor_false]
      have h4 : (32 ≤ i + 1 + j) = (32 ≤ i + j) := by
        apply propext
        constructor <;> intro h <;> omega
      simp only [h4]
theorem prod_one (a : BitVec 32) : prod a one = a := by
  apply BitVec.eq_of_getLsbD_eq
  intro j hj
  unfold prod
  rw [prodTo_one a 32 (Nat.le_refl _) j hj]
  have : 32 ≤ 32 + j := by omega
  simp [this]
/-- To multiply by the power k is to go on by k noughts. -/
theorem prod_Z (a : BitVec 32) (k : Nat) : prod a (Z k) = run a (List.replicate k false) := by
  have h := prodTo_Z a k 32
  have h1 : prodTo a one 32 = a := prod_one a
  rw [h1] at h
  exact h
theorem prod_ZZ (k i : Nat) : prod (Z k) (Z i) = Z (k + i) := by rw [prod_Z, run_Z]
theorem Z_zero : Z 0 = one := rfl
theorem Z_byte : Z 8 = 8388608#32 := by decide

theorem and_bit (a : BitVec 32) (i : Nat) : decide ((a.toNat &&& 2 ^ i) ≠ 0) = a.getLsbD i := by
  rw [← BitVec.testBit_toNat]
  cases h : a.toNat.testBit i
  · have : a.toNat &&& 2 ^ i = 0 := by
      apply Nat.eq_of_testBit_eq
      intro j
      rw [Nat.testBit_and, Nat.testBit_two_pow, Nat.zero_testBit]
      by_cases e : i = j
      · subst e; rw [h]; rfl
      · simp [e]
    simp [this]
  · have : a.toNat &&& 2 ^ i ≠ 0 := by
      intro e
      have h2 := congrArg (fun x => x.testBit i) e
      simp only [Nat.testBit_and, Nat.testBit_two_pow, Nat.zero_testBit, h] at h2
      simp at h2
    simp [this]

end Go.Proofs.Ytdjneiboeehclaa.crc

namespace Go.Proofs.Ytdjneiboeehclaa.crc
open Go.RowKit

section
attribute [local go_sem] Oper.semAt_some
end

end Go.Proofs.Ytdjneiboeehclaa.crc

namespace Go.Proofs.Ytdjneiboeehclaa.crc
open Go.RowKit

section
attribute [local go_sem] Oper.semAt_some
end
end Go.Proofs.Ytdjneiboeehclaa.crc

namespace Go.Proofs.Ytdjneiboeehclaa.crc
open Go.RowKit

theorem and_pow (a : BitVec 32) (k : Nat) (hk : k < 32) : bits .and .u32 (a.toNat : Int) ((2147483648 : Int) / 2 ^ k) = ((a.toNat &&& 2 ^ (31 - k) : Nat) : Int) := by
  have h0 : ((2147483648 : Int) / 2 ^ k) = ((2 ^ (31 - k) : Nat) : Int) := by
    have h : (2147483648 : Nat) / 2 ^ k = 2 ^ (31 - k) := by rw [show (2147483648 : Nat) = 2 ^ 31 from rfl, Nat.pow_div (by omega) (by omega)]
    rw [← h]
    simp
  have h1 : 2 ^ (31 - k) ≤ 2 ^ 31 := Nat.pow_le_pow_right (by omega) (by omega)
  have ha := a.isLt
  rw [h0]
  exact u32_and_nat a.toNat (2 ^ (31 - k)) (by omega) (by omega)

theorem and_one_i64 (n : Int) : bits .and .i64 n 1 = n % 2 := by
  have h1 : (BitVec.ofInt 64 1).toNat = 2 ^ 1 - 1 := by decide
  have key : (BitVec.ofInt 64 n &&& BitVec.ofInt 64 1).toNat = (n % ((2 ^ 64 : Nat) : Int)).toNat % 2 ^ 1 := by
    rw [BitVec.toNat_and, BitVec.toNat_ofInt, h1, Nat.and_two_pow_sub_one_eq_mod]
  show IntKind.i64.wrap ((BitVec.ofInt 64 n &&& BitVec.ofInt 64 1).toNat : Nat) = n % 2
  rw [key, IntKind.wrap_i64]
  omega

end Go.Proofs.Ytdjneiboeehclaa.crc

namespace Go.Proofs.Ytdjneiboeehclaa.crc
open Go.RowKit

end Go.Proofs.Ytdjneiboeehclaa.crc

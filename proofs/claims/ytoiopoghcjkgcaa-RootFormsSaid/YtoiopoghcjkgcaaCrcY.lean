/-
  The code of layer 2: products of registers, noughts, joins; sums.
-/
import Derived.Test.YtoiopoghcjkgcaaCrcX
namespace Go.Proofs.Ytoiopoghcjkgcaa.crc
open Go.RowKit

theorem and_pow (a : BitVec 32) (k : Nat) (hk : k < 32) : bits .and .u32 (a.toNat : Int) ((2147483648 : Int) / 2 ^ k) = ((a.toNat &&& 2 ^ (31 - k) : Nat) : Int) := by
  have h0 : ((2147483648 : Int) / 2 ^ k) = ((2 ^ (31 - k) : Nat) : Int) := by
    have h : (2147483648 : Nat) / 2 ^ k = 2 ^ (31 - k) := by rw [show (2147483648 : Nat) = 2 ^ 31 from rfl, Nat.pow_div (by omega) (by omega)]
    rw [← h]
    simp
  have h1 : 2 ^ (31 - k) ≤ 2 ^ 31 := Nat.pow_le_pow_right (by omega) (by omega)
  have ha := a.isLt
  rw [h0]
  exact u32_and_nat a.toNat (2 ^ (31 - k)) (by omega) (by omega)

theorem and_one_i64 (n : Int) : bits .and .i64 n 1 = n % 2 := by
  have h1 : (BitVec.ofInt 64 1).toNat = 2 ^ 1 - 1 := by decide
  have key : (BitVec.ofInt 64 n &&& BitVec.ofInt 64 1).toNat = (n % ((2 ^ 64 : Nat) : Int)).toNat % 2 ^ 1 := by
    rw [BitVec.toNat_and, BitVec.toNat_ofInt, h1, Nat.and_two_pow_sub_one_eq_mod]
  show IntKind.i64.wrap ((BitVec.ofInt 64 n &&& BitVec.ofInt 64 1).toNat : Nat) = n % 2
  rw [key, IntKind.wrap_i64]
  omega

end Go.Proofs.Ytoiopoghcjkgcaa.crc

/-
  The code of layer 2: products of registers, noughts, joins; sums.
-/
import Derived.Test.YtlhonndnoegmbaaCrcX
namespace Go.Proofs.Ytlhonndnoegmbaa.crc
open Go.RowKit

theorem and_pow (a : BitVec 32) (k : Nat) (hk : k < 32) : bits .and .u32 (a.toNat : Int) ((2147483648 : Int) / 2 ^ k) = ((a.toNat &&& 2 ^ (31 - k) : Nat) : Int) := by
  have h0 : ((2147483648 : Int) / 2 ^ k) = ((2 ^ (31 - k) : Nat) : Int) := by
    have h : (2147483648 : Nat) / 2 ^ k = 2 ^ (31 - k) := by rw [show (2147483648 : Nat) = 2 ^ 31 from rfl, Nat.pow_div (by omega) (by omega)]
    rw [← h]
    simp
  have h1 : 2 ^ (31 - k) ≤ 2 ^ 31 := Nat.pow_le_pow_right (by omega) (by omega)
  have ha := a.isLt
  rw [h0]
  exact u32_and_nat a.toNat (2 ^ (31 - k)) (by omega) (by omega)

set_option maxHeartbeats 1000000 in
theorem cproduct_any (a b : BitVec 32) (w : World) : Calls Try.prog 25 #[.int .u32 3988292384, rv a, rv b] w fun e w' => e = .returned (rv (prod a b)) ∧ w = w' := by
  have HP : Hid (prod a b = prodTo a b 32) := Lib.hid rfl
  have hstep := fun c => cstep_any c w
  have HS := Lib.hid hstep
  clear hstep
  unfold rv
  go_enter Try.func25, Try.ntmps25
  go_wp2
  go_loopw [2, 7, 9] (fun s r i wr => ∃ k, k ≤ 32 ∧ i = .int .i64 ((k : Nat) : Int) ∧ r = rv (prodTo a b k) ∧ s = rv (run b (List.replicate k false)) ∧ wr = w) (fun _ _ i _ => 32 - (intOf i).toNat)
  case atStart => exact ⟨0, by omega, rfl, rfl, rfl, rfl⟩
  case round =>
    obtain ⟨k, hk, rfl, rfl, rfl, rfl⟩ := hrel
    by_cases hlt : k < 32
    · have ha := and_pow a k hlt
      have hb := and_bit a (31 - k)
      have hp1 : prodTo a b (k + 1) = prodTo a b k ^^^ (if a.getLsbD (31 - k) = true then run b (List.replicate k false) else 0#32) := rfl
      have hrr : run b (List.replicate (k + 1) false) = stp (run b (List.replicate k false)) false := by rw [List.replicate_succ', run_snoc]
      rw [← hb] at hp1
      generalize (a.toNat &&& 2 ^ (31 - k) : Nat) = t at *
      have HR := Lib.hid hrr
      have HP1 := Lib.hid hp1
      have HST := Lib.hid (HS.out (run b (List.replicate k false)))
      generalize run b (List.replicate k false) = q at *
      generalize prodTo a b k = p at *
      clear hrr hp1 hb
      have hx := u32_xor_nat p.toNat q.toNat p.isLt q.isLt
      rw [← BitVec.toNat_xor] at hx
      unfold rv at HST ⊢
      by_cases ht : t = 0
      · subst ht
        go_wp2_with (go_at_call 37; refine HST.out.mono ?_; rintro e _ ⟨rfl, rfl⟩)
        refine ⟨⟨k + 1, by omega, by go_num, ?_, by rw [HR.out], trivial⟩, by simp [intOf]; omega⟩
        rw [HP1.out]
        simp
      · have ht' : ((t : Int) == 0) = false := by simp; omega
        go_wp2_with (go_at_call 37; refine HST.out.mono ?_; rintro e _ ⟨rfl, rfl⟩)
        refine ⟨⟨k + 1, by omega, by go_num, ?_, by rw [HR.out], trivial⟩, by simp [intOf]; omega⟩
        rw [HP1.out]
        simp [ht]
    · obtain rfl : k = 32 := by omega
      rw [← HP.out]
      go_wp2
      go_ret
      exact ⟨rfl, rfl⟩

theorem and_one_i64 (n : Int) : bits .and .i64 n 1 = n % 2 := by
  have h1 : (BitVec.ofInt 64 1).toNat = 2 ^ 1 - 1 := by decide
  have key : (BitVec.ofInt 64 n &&& BitVec.ofInt 64 1).toNat = (n % ((2 ^ 64 : Nat) : Int)).toNat % 2 ^ 1 := by
    rw [BitVec.toNat_and, BitVec.toNat_ofInt, h1, Nat.and_two_pow_sub_one_eq_mod]
  show IntKind.i64.wrap ((BitVec.ofInt 64 n &&& BitVec.ofInt 64 1).toNat : Nat) = n % 2
  rw [key, IntKind.wrap_i64]
  omega

set_option maxHeartbeats 1000000 in
theorem czeros_any (n : Nat) (hn : n ≤ 9223372036854775807) (w : World) : Calls Try.prog 26 #[.int .u32 3988292384, .int .i64 n] w fun e w' => e = .returned (rv (Z (8 * n))) ∧ w = w' := by
  have hprod := fun a b => cproduct_any a b w
  have HP := Lib.hid hprod
  clear hprod
  go_enter Try.func26, Try.ntmps26
  go_wp2
  go_loopw [1, 5, 6] (fun m f s wr => ∃ (j q d : Nat), m = .int .i64 ((q : Nat) : Int) ∧ q = n / 2 ^ j ∧ d = 2 ^ j * q ∧ d ≤ n ∧ f = rv (Z (8 * (n - d))) ∧ s = rv (Z (8 * 2 ^ j)) ∧ wr = w) (fun m _ _ _ => (intOf m).toNat)
  case atStart => exact ⟨0, n, n, rfl, by simp, by simp, by omega, by simp [Z_zero]; rfl, by simp [Z_byte]; rfl, rfl⟩
  case round =>
    obtain ⟨j, q, d, rfl, hq, hd, hdn, rfl, rfl, rfl⟩ := hrel
    by_cases h0 : 0 < q
    · have hqn : q ≤ 9223372036854775807 := by rw [hq]; exact Nat.le_trans (Nat.div_le_self _ _) hn
      have h1 := and_one_i64 (q : Int)
      have hq' : q / 2 = n / 2 ^ (j + 1) := by rw [hq, Nat.div_div_eq_div_mul, Nat.pow_succ]
      have hd' : 2 ^ (j + 1) * (q / 2) = d - 2 ^ j * (q % 2) := by
        rw [hd, Nat.pow_succ, Nat.mul_assoc, ← Nat.mul_sub]
        congr 1
        omega
      have hdd : 2 ^ j * (q % 2) ≤ d := by rw [hd]; exact Nat.mul_le_mul_left _ (Nat.mod_le _ _)
      have hsq : prod (Z (8 * 2 ^ j)) (Z (8 * 2 ^ j)) = Z (8 * 2 ^ (j + 1)) := by
        rw [prod_ZZ]
        congr 1
        rw [Nat.pow_succ]
        omega
      have HSQ := Lib.hid (HP.out (Z (8 * 2 ^ j)) (Z (8 * 2 ^ j)))
      rw [hsq] at HSQ
      have HF := Lib.hid (HP.out (Z (8 * (n - d))) (Z (8 * 2 ^ j)))
      rw [prod_ZZ] at HF
      have HQ := Lib.hid hq'
      rcases Nat.mod_two_eq_zero_or_one q with e | e
      · have e' : (q : Int) % 2 = 0 := by omega
        rw [e, Nat.mul_zero, Nat.sub_zero] at hd'
        rw [e'] at h1
        have HD := Lib.hid hd'
        clear hsq HF hdd hd hd' hq hq'
        go_wp2_with (go_at_call 25; refine HSQ.out.mono ?_; rintro e _ ⟨rfl, rfl⟩)
        exact ⟨⟨j + 1, q / 2, d, by go_num, HQ.out, HD.out.symm, hdn, rfl, rfl, trivial⟩, by simp [intOf]; omega⟩
      · have e' : (q : Int) % 2 = 1 := by omega
        rw [e, Nat.mul_one] at hd' hdd
        rw [e'] at h1
        have hnd : 8 * (n - d) + 8 * 2 ^ j = 8 * (n - (d - 2 ^ j)) := by omega
        rw [hnd] at HF
        have hle : d - 2 ^ j ≤ n := by omega
        have HD := Lib.hid hd'
        clear hsq hdd hd hd' hq hq' hnd
        go_wp2_with (go_at_call 25; first | (refine HF.out.mono ?_; clear HF; rintro e _ ⟨rfl, rfl⟩) | (refine HSQ.out.mono ?_; rintro e _ ⟨rfl, rfl⟩))
        exact ⟨⟨j + 1, q / 2, d - 2 ^ j, by go_num, HQ.out, HD.out.symm, hle, rfl, rfl, trivial⟩, by simp [intOf]; omega⟩
    · obtain rfl : q = 0 := by omega
      have hd0 : d = 0 := by rw [hd, Nat.mul_zero]
      subst hd0
      clear hq hd
      rw [show (((0 : Nat) : Int)) = 0 from rfl, Nat.sub_zero]
      go_wp2
      go_ret
      exact ⟨rfl, rfl⟩

/-- Join: a negative number of bytes, or the sum of both. -/
theorem cjoin_neg (f s : BitVec 32) (n : Int) (w : World) (hn : n < 0) : Calls Try.prog 14 #[rv f, rv s, .int .i64 n] w fun e w' => e = .returned (.tuple #[rv 0#32, .int .i64 2]) ∧ w = w' := by
  unfold rv
  go_enter Try.func14, Try.ntmps14
  go_wp2
  go_ret2
  exact ⟨rfl, rfl⟩

theorem cjoin_any (f s : BitVec 32) (n : Nat) (w : World) (hn : n ≤ 9223372036854775807) : Calls Try.prog 14 #[rv f, rv s, .int .i64 n] w fun e w' => e = .returned (.tuple #[rv (join f s (8 * n)), .int .i64 0]) ∧ w = w' := by
  have HZ := Lib.hid (czeros_any n hn w)
  have HP := Lib.hid (cproduct_any f (Z (8 * n)) w)
  rw [prod_Z] at HP
  have hx := u32_xor_nat s.toNat (run f (List.replicate (8 * n) false)).toNat s.isLt (run f (List.replicate (8 * n) false)).isLt
  have hj : join f s (8 * n) = s ^^^ run f (List.replicate (8 * n) false) := by unfold join; rw [BitVec.xor_comm]
  rw [← BitVec.toNat_xor, ← hj] at hx
  generalize join f s (8 * n) = r at hx
  generalize run f (List.replicate (8 * n) false) = q at *
  clear hj
  unfold rv at *
  go_enter Try.func14, Try.ntmps14
  go_wp2_with (first
    | (go_at_call 26; refine HZ.out.mono ?_; rintro e _ ⟨rfl, rfl⟩)
    | (go_at_call 25; refine HP.out.mono ?_; rintro e _ ⟨rfl, rfl⟩))
  go_ret2
  exact ⟨rfl, rfl⟩

end Go.Proofs.Ytlhonndnoegmbaa.crc

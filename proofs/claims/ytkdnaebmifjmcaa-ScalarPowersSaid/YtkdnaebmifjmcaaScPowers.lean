/-
  The walk of the statement ScalarPowers.
-/
import Derived.Test.YtkdnaebmifjmcaaScLive
namespace Go.Proofs.Ytkdnaebmifjmcaa.scalarPowers
open Go.RowKit Go.Proofs.Ytkdnaebmifjmcaa.sc

theorem pow_nat (x : Int) (n : Nat) : powV x (n : Int) = fitV (x ^ n) ∧ powE x (n : Int) = fitE (x ^ n) := by
  have h1 : inR 1 = true := by decide
  have hm : inR (-1) = true := by decide
  have h0 : inR 0 = true := by decide
  unfold powV powE
  by_cases hc : (n : Int) = 0 ∨ x = 1
  · rw [if_pos hc, if_pos hc]
    have e : x ^ n = 1 := by
      rcases hc with h | rfl
      · obtain rfl : n = 0 := by omega
        rw [Int.pow_zero]
      · exact Int.one_pow
    rw [e]
    exact ⟨((fit_yes h1).1).symm, ((fit_yes h1).2).symm⟩
  rw [if_neg hc, if_neg hc]
  by_cases hx : x = -1
  · subst hx
    rw [if_pos rfl, if_pos rfl]
    have e : ∀ m : Nat, (-1 : Int) ^ (2 * m) = 1 := fun m => by rw [Int.pow_mul]; exact Int.one_pow
    by_cases hp : (n : Int) % 2 = 0
    · rw [if_pos hp]
      obtain ⟨m, hm2⟩ : ∃ m, n = 2 * m := ⟨n / 2, by omega⟩
      rw [hm2, e]
      exact ⟨((fit_yes h1).1).symm, ((fit_yes h1).2).symm⟩
    · rw [if_neg hp]
      obtain ⟨m, hm2⟩ : ∃ m, n = 2 * m + 1 := ⟨n / 2, by omega⟩
      rw [hm2, Int.pow_succ, e]
      exact ⟨((fit_yes hm).1).symm, ((fit_yes hm).2).symm⟩
  rw [if_neg hx, if_neg hx, if_neg (show ¬ (n : Int) < 0 by omega), if_neg (show ¬ (n : Int) < 0 by omega)]
  by_cases hz : x = 0
  · subst hz
    rw [if_pos rfl, if_pos rfl]
    obtain ⟨m, hm2⟩ : ∃ m, n = m + 1 := ⟨n - 1, by omega⟩
    rw [hm2, Int.pow_succ, Int.mul_zero]
    exact ⟨((fit_yes h0).1).symm, ((fit_yes h0).2).symm⟩
  rw [if_neg hz, if_neg hz, Int.toNat_natCast]
  exact ⟨rfl, rfl⟩
theorem pow_rec (x : Int) (n : Nat) : (powE x (n : Int) = 0 ∧ powV x ((n : Int) + 1) = fitV (powV x (n : Int) * x) ∧ powE x ((n : Int) + 1) = fitE (powV x (n : Int) * x)) ∨ (powE x (n : Int) = 7 ∧ powE x ((n : Int) + 1) = 7) := by
  have e : (n : Int) + 1 = ((n + 1 : Nat) : Int) := by omega
  rw [e, (pow_nat x n).1, (pow_nat x n).2, (pow_nat x (n + 1)).1, (pow_nat x (n + 1)).2]
  cases h : inR (x ^ n)
  · right
    refine ⟨(fit_no h).2, (fit_no ?_).2⟩
    have h2 : 2 ≤ x.natAbs := by
      refine Nat.lt_of_not_le (fun hle => ?_)
      have e1 : (x ^ n).natAbs = x.natAbs ^ n := Int.natAbs_pow _ _
      have e2 : x.natAbs ^ n ≤ 1 ^ n := Nat.pow_le_pow_left hle n
      rw [Nat.one_pow] at e2
      have := inR_no.1 h
      omega
    rw [Int.pow_succ]
    exact inR_not.2 (pow_grow h2 (inR_not.1 h))
  · left
    refine ⟨(fit_yes h).2, ?_, ?_⟩
    · rw [(fit_yes h).1, Int.pow_succ]
    · rw [(fit_yes h).1, Int.pow_succ]
set_option maxRecDepth 100000 in
set_option maxHeartbeats 4000000 in
theorem walk (x y : Int) (hx : InR x) (hy : InR y) (w : World) : Calls Try.prog 5 #[.int .i64 x, .int .i64 y] w fun e w' => e = .returned (.bool true) ∧ Below w.heap.size w w' := by
  have HA := Lib.hid alive12_any
  by_cases h1 : y < 1
  · clear hx hy
    go_enter Try.func5, Try.ntmps5
    go_wp2_with (first
      | (go_at_call 21; refine (HA.out _).mono ?_; rintro e w0 ⟨rfl, b0⟩))
    go_ret
    exact ⟨rfl, b0⟩
  obtain ⟨n, hn⟩ := Int.eq_ofNat_of_zero_le (a := y - 1) (by omega)
  obtain rfl : y = (n : Int) + 1 := by omega
  have hyr : InR (n : Int) := by unfold InR at *; omega
  have hs : (n : Int) + 1 - 1 = (n : Int) := by omega
  have hb : (n : Int) ≤ 9223372036854775806 := by have := hy.2; omega
  rcases pow_rec x n with ⟨p1, p2, p3⟩ | ⟨p1, p2⟩
  · obtain ⟨m, hm⟩ : ∃ m, powV x (n : Int) = m := ⟨_, rfl⟩
    have hmr : InR m := by rw [← hm]; exact powV_in _ _
    rw [hm] at p2 p3
    obtain ⟨v, hv⟩ : ∃ v, fitV (m * x) = v := ⟨_, rfl⟩
    obtain ⟨e, he⟩ : ∃ e, fitE (m * x) = e := ⟨_, rfl⟩
    have H1 : Hid (TwoAt 8 x ((n : Int) + 1) v e) := two_at hx hy (p2.trans hv) (p3.trans he)
    have H2 : Hid (TwoAt 8 x (n : Int) m 0) := two_at hx hyr hm p1
    have H3 : Hid (TwoAt 3 m x v e) := two_at hmr hx hv he
    clear hx hy hn hyr p1 p2 p3 hm hmr hv he
    go_enter Try.func5, Try.ntmps5
    go_wp2_with (first
      | (go_at_call 21; refine (HA.out _).mono ?_; rintro e w0 ⟨rfl, b0⟩)
      | (go_at_call 22; (have l0 := Z2.out; clear l0); (with_reducible refine (H3.out _).mono ?_); rintro e w3 ⟨rfl, b3⟩; have Z3 : Hid (3 = 3) := Lib.hid rfl)
      | (go_at_call 22; (have l0 := Z1.out; clear l0); (with_reducible refine (H2.out _).mono ?_); rintro e w2 ⟨rfl, b2⟩; have Z2 : Hid (2 = 2) := Lib.hid rfl)
      | (go_at_call 22; (with_reducible refine (H1.out _).mono ?_); rintro e w1 ⟨rfl, b1⟩; have Z1 : Hid (1 = 1) := Lib.hid rfl))
    go_ret
    exact ⟨rfl, below_on (below_on (below_on b0 b1) b2) b3⟩
  · obtain ⟨v, hv⟩ : ∃ v, powV x ((n : Int) + 1) = v := ⟨_, rfl⟩
    obtain ⟨m, hm⟩ : ∃ m, powV x (n : Int) = m := ⟨_, rfl⟩
    have H1 : Hid (TwoAt 8 x ((n : Int) + 1) v 7) := two_at hx hy hv p2
    have H2 : Hid (TwoAt 8 x (n : Int) m 7) := two_at hx hyr hm p1
    clear hx hy hn hyr p1 p2 hm hv
    go_enter Try.func5, Try.ntmps5
    go_wp2_with (first
      | (go_at_call 21; refine (HA.out _).mono ?_; rintro e w0 ⟨rfl, b0⟩)
      | (go_at_call 22; (have l0 := Z1.out; clear l0); (with_reducible refine (H2.out _).mono ?_); rintro e w2 ⟨rfl, b2⟩; have Z2 : Hid (2 = 2) := Lib.hid rfl)
      | (go_at_call 22; (with_reducible refine (H1.out _).mono ?_); rintro e w1 ⟨rfl, b1⟩; have Z1 : Hid (1 = 1) := Lib.hid rfl))
    go_ret
    exact ⟨rfl, below_on (below_on b0 b1) b2⟩
theorem call (x : Int) (hx0 : -9223372036854775808 ≤ x) (hx1 : x ≤ 9223372036854775807) (y : Int) (hy0 : -9223372036854775808 ≤ y) (hy1 : y ≤ 9223372036854775807) (w : World) :
    Calls Try.prog 5 #[.int .i64 x, .int .i64 y] w fun e w' => e = .returned (.bool true) ∧ Below w.heap.size w w' := walk x y ⟨hx0, hx1⟩ ⟨hy0, hy1⟩ w
end Go.Proofs.Ytkdnaebmifjmcaa.scalarPowers

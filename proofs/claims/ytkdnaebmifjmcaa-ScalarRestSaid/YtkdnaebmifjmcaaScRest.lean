/-
  The walk of the statement ScalarRest.
-/
import Derived.Test.YtkdnaebmifjmcaaScLive
namespace Go.Proofs.Ytkdnaebmifjmcaa.scalarRest
open Go.RowKit Go.Proofs.Ytkdnaebmifjmcaa.sc

theorem rem_same (x y k : Int) : twoV 5 x (y + x * k) = (if x = 0 then y else remF y x) ∧ twoV 5 x y = (if x = 0 then y else remF y x) := by
  refine ⟨?_, rfl⟩
  show (if x = 0 then y + x * k else remF (y + x * k) x) = _
  by_cases h : x = 0
  · subst h
    rw [if_pos rfl, if_pos rfl, Int.zero_mul, Int.add_zero]
  · rw [if_neg h, if_neg h]
    unfold remF
    rw [Int.add_mul_fmod_self_left]
set_option maxRecDepth 100000 in
set_option maxHeartbeats 4000000 in
theorem walk (x y k : Int) (hx : InR x) (hy : InR y) (hk : InR k) (w : World) : Calls Try.prog 8 #[.int .i64 x, .int .i64 y, .int .i64 k] w fun e w' => e = .returned (.bool true) ∧ Below w.heap.size w w' := by
  have HA := Lib.hid alive12_any
  cases h1 : inR (x * k)
  · have H1 : Hid (TwoAt 3 x k 0 7) := two_at hx hk (fit_no h1).1 (fit_no h1).2
    clear hx hy hk h1
    go_enter Try.func8, Try.ntmps8
    go_wp2_with (first
      | (go_at_call 21; refine (HA.out _).mono ?_; rintro e w0 ⟨rfl, b0⟩)
      | (go_at_call 22; (with_reducible refine (H1.out _).mono ?_); rintro e w1 ⟨rfl, b1⟩; have Z1 : Hid (1 = 1) := Lib.hid rfl))
    go_ret
    exact ⟨rfl, below_on b0 b1⟩
  obtain ⟨p, hp⟩ : ∃ p, x * k = p := ⟨_, rfl⟩
  have hpr : InR p := by rw [← hp]; exact inR_is.1 h1
  have H1 : Hid (TwoAt 3 x k p 0) := two_at hx hk (by rw [← hp]; exact (fit_yes h1).1) (fit_yes h1).2
  cases h2 : inR (y + p)
  · have H2 : Hid (TwoAt 1 y p 0 7) := two_at hy hpr (fit_no h2).1 (fit_no h2).2
    clear hx hy hk h1 h2 hp hpr
    go_enter Try.func8, Try.ntmps8
    go_wp2_with (first
      | (go_at_call 21; refine (HA.out _).mono ?_; rintro e w0 ⟨rfl, b0⟩)
      | (go_at_call 22; (have l0 := Z1.out; clear l0); (with_reducible refine (H2.out _).mono ?_); rintro e w2 ⟨rfl, b2⟩; have Z2 : Hid (2 = 2) := Lib.hid rfl)
      | (go_at_call 22; (with_reducible refine (H1.out _).mono ?_); rintro e w1 ⟨rfl, b1⟩; have Z1 : Hid (1 = 1) := Lib.hid rfl))
    go_ret
    exact ⟨rfl, below_on (below_on b0 b1) b2⟩
  obtain ⟨z, hz⟩ : ∃ z, y + p = z := ⟨_, rfl⟩
  have hzr : InR z := by rw [← hz]; exact inR_is.1 h2
  have H2 : Hid (TwoAt 1 y p z 0) := two_at hy hpr (by rw [← hz]; exact (fit_yes h2).1) (fit_yes h2).2
  obtain ⟨r1, r2⟩ := rem_same x y k
  rw [hp, hz] at r1
  obtain ⟨r, hr⟩ : ∃ r, (if x = 0 then y else remF y x) = r := ⟨_, rfl⟩
  rw [hr] at r1 r2
  have H3 : Hid (TwoAt 5 x y r 0) := two_at hx hy r2 rfl
  have H4 : Hid (TwoAt 5 x z r 0) := two_at hx hzr r1 rfl
  clear hx hy hk h1 h2 hp hpr hz hzr r1 r2 hr
  go_enter Try.func8, Try.ntmps8
  go_wp2_with (first
    | (go_at_call 21; refine (HA.out _).mono ?_; rintro e w0 ⟨rfl, b0⟩)
    | (go_at_call 22; (have l0 := Z3.out; clear l0); (with_reducible refine (H4.out _).mono ?_); rintro e w4 ⟨rfl, b4⟩; have Z4 : Hid (4 = 4) := Lib.hid rfl)
    | (go_at_call 22; (have l0 := Z2.out; clear l0); (with_reducible refine (H3.out _).mono ?_); rintro e w3 ⟨rfl, b3⟩; have Z3 : Hid (3 = 3) := Lib.hid rfl)
    | (go_at_call 22; (have l0 := Z1.out; clear l0); (with_reducible refine (H2.out _).mono ?_); rintro e w2 ⟨rfl, b2⟩; have Z2 : Hid (2 = 2) := Lib.hid rfl)
    | (go_at_call 22; (with_reducible refine (H1.out _).mono ?_); rintro e w1 ⟨rfl, b1⟩; have Z1 : Hid (1 = 1) := Lib.hid rfl))
  go_ret
  exact ⟨rfl, below_on (below_on (below_on (below_on b0 b1) b2) b3) b4⟩
theorem call (x : Int) (hx0 : -9223372036854775808 ≤ x) (hx1 : x ≤ 9223372036854775807) (y : Int) (hy0 : -9223372036854775808 ≤ y) (hy1 : y ≤ 9223372036854775807) (k : Int) (hk0 : -9223372036854775808 ≤ k) (hk1 : k ≤ 9223372036854775807) (w : World) :
    Calls Try.prog 8 #[.int .i64 x, .int .i64 y, .int .i64 k] w fun e w' => e = .returned (.bool true) ∧ Below w.heap.size w w' := walk x y k ⟨hx0, hx1⟩ ⟨hy0, hy1⟩ ⟨hk0, hk1⟩ w
end Go.Proofs.Ytkdnaebmifjmcaa.scalarRest

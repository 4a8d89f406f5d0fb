/-
  The walk of the statement ScalarTruths.
-/
import Derived.Test.YtkdnaebmifjmcaaScLive
namespace Go.Proofs.Ytkdnaebmifjmcaa.scalarTruths
open Go.RowKit Go.Proofs.Ytkdnaebmifjmcaa.sc
set_option maxRecDepth 100000 in
set_option maxHeartbeats 4000000 in
theorem walk (x y : Int) (hx : InR x) (hy : InR y) (w : World) : Calls Try.prog 10 #[.int .i64 x, .int .i64 y] w fun e w' => e = .returned (.bool true) ∧ Below w.heap.size w w' := by
  have HA := Lib.hid alive12_any
  by_cases h1 : isT x = true
  · by_cases h2 : isT y = true
    · rcases isT_iff.1 h1 with rfl | rfl <;> rcases isT_iff.1 h2 with rfl | rfl
      · have H1 : Hid (TwoAt 15 0 0 0 0) := two_at (by decide) (by decide) (by decide) (by decide)
        have H2 : Hid (TwoAt 16 0 0 0 0) := two_at (by decide) (by decide) (by decide) (by decide)
        have H3 : Hid (OneAt 17 0 1 0) := one_at (by decide) (by decide) (by decide)
        have H4 : Hid (OneAt 17 0 1 0) := one_at (by decide) (by decide) (by decide)
        have H5 : Hid (TwoAt 16 1 1 1 0) := two_at (by decide) (by decide) (by decide) (by decide)
        have H6 : Hid (TwoAt 15 1 1 1 0) := two_at (by decide) (by decide) (by decide) (by decide)
        have H7 : Hid (OneAt 17 1 0 0) := one_at (by decide) (by decide) (by decide)
        clear hx hy h1 h2
        go_enter Try.func10, Try.ntmps10
        go_wp2_with (first
          | (go_at_call 21; refine (HA.out _).mono ?_; rintro e w0 ⟨rfl, b0⟩)
          | (go_at_call 31; (have l0 := Z6.out; clear l0); (with_reducible refine (H7.out _).mono ?_); rintro e w7 ⟨rfl, b7⟩; have Z7 : Hid (7 = 7) := Lib.hid rfl)
          | (go_at_call 22; (have l0 := Z5.out; clear l0); (with_reducible refine (H6.out _).mono ?_); rintro e w6 ⟨rfl, b6⟩; have Z6 : Hid (6 = 6) := Lib.hid rfl)
          | (go_at_call 22; (have l0 := Z4.out; clear l0); (with_reducible refine (H5.out _).mono ?_); rintro e w5 ⟨rfl, b5⟩; have Z5 : Hid (5 = 5) := Lib.hid rfl)
          | (go_at_call 31; (have l0 := Z3.out; clear l0); (with_reducible refine (H4.out _).mono ?_); rintro e w4 ⟨rfl, b4⟩; have Z4 : Hid (4 = 4) := Lib.hid rfl)
          | (go_at_call 31; (have l0 := Z2.out; clear l0); (with_reducible refine (H3.out _).mono ?_); rintro e w3 ⟨rfl, b3⟩; have Z3 : Hid (3 = 3) := Lib.hid rfl)
          | (go_at_call 22; (have l0 := Z1.out; clear l0); (with_reducible refine (H2.out _).mono ?_); rintro e w2 ⟨rfl, b2⟩; have Z2 : Hid (2 = 2) := Lib.hid rfl)
          | (go_at_call 22; (with_reducible refine (H1.out _).mono ?_); rintro e w1 ⟨rfl, b1⟩; have Z1 : Hid (1 = 1) := Lib.hid rfl))
        go_ret
        exact ⟨rfl, below_on (below_on (below_on (below_on (below_on (below_on (below_on b0 b1) b2) b3) b4) b5) b6) b7⟩
      · have H1 : Hid (TwoAt 15 0 1 0 0) := two_at (by decide) (by decide) (by decide) (by decide)
        have H2 : Hid (TwoAt 16 0 1 1 0) := two_at (by decide) (by decide) (by decide) (by decide)
        have H3 : Hid (OneAt 17 0 1 0) := one_at (by decide) (by decide) (by decide)
        have H4 : Hid (OneAt 17 1 0 0) := one_at (by decide) (by decide) (by decide)
        have H5 : Hid (TwoAt 16 1 0 1 0) := two_at (by decide) (by decide) (by decide) (by decide)
        have H6 : Hid (TwoAt 15 1 0 0 0) := two_at (by decide) (by decide) (by decide) (by decide)
        have H7 : Hid (OneAt 17 1 0 0) := one_at (by decide) (by decide) (by decide)
        clear hx hy h1 h2
        go_enter Try.func10, Try.ntmps10
        go_wp2_with (first
          | (go_at_call 21; refine (HA.out _).mono ?_; rintro e w0 ⟨rfl, b0⟩)
          | (go_at_call 31; (have l0 := Z6.out; clear l0); (with_reducible refine (H7.out _).mono ?_); rintro e w7 ⟨rfl, b7⟩; have Z7 : Hid (7 = 7) := Lib.hid rfl)
          | (go_at_call 22; (have l0 := Z5.out; clear l0); (with_reducible refine (H6.out _).mono ?_); rintro e w6 ⟨rfl, b6⟩; have Z6 : Hid (6 = 6) := Lib.hid rfl)
          | (go_at_call 22; (have l0 := Z4.out; clear l0); (with_reducible refine (H5.out _).mono ?_); rintro e w5 ⟨rfl, b5⟩; have Z5 : Hid (5 = 5) := Lib.hid rfl)
          | (go_at_call 31; (have l0 := Z3.out; clear l0); (with_reducible refine (H4.out _).mono ?_); rintro e w4 ⟨rfl, b4⟩; have Z4 : Hid (4 = 4) := Lib.hid rfl)
          | (go_at_call 31; (have l0 := Z2.out; clear l0); (with_reducible refine (H3.out _).mono ?_); rintro e w3 ⟨rfl, b3⟩; have Z3 : Hid (3 = 3) := Lib.hid rfl)
          | (go_at_call 22; (have l0 := Z1.out; clear l0); (with_reducible refine (H2.out _).mono ?_); rintro e w2 ⟨rfl, b2⟩; have Z2 : Hid (2 = 2) := Lib.hid rfl)
          | (go_at_call 22; (with_reducible refine (H1.out _).mono ?_); rintro e w1 ⟨rfl, b1⟩; have Z1 : Hid (1 = 1) := Lib.hid rfl))
        go_ret
        exact ⟨rfl, below_on (below_on (below_on (below_on (below_on (below_on (below_on b0 b1) b2) b3) b4) b5) b6) b7⟩
      · have H1 : Hid (TwoAt 15 1 0 0 0) := two_at (by decide) (by decide) (by decide) (by decide)
        have H2 : Hid (TwoAt 16 1 0 1 0) := two_at (by decide) (by decide) (by decide) (by decide)
        have H3 : Hid (OneAt 17 1 0 0) := one_at (by decide) (by decide) (by decide)
        have H4 : Hid (OneAt 17 0 1 0) := one_at (by decide) (by decide) (by decide)
        have H5 : Hid (TwoAt 16 0 1 1 0) := two_at (by decide) (by decide) (by decide) (by decide)
        have H6 : Hid (TwoAt 15 0 1 0 0) := two_at (by decide) (by decide) (by decide) (by decide)
        have H7 : Hid (OneAt 17 0 1 0) := one_at (by decide) (by decide) (by decide)
        clear hx hy h1 h2
        go_enter Try.func10, Try.ntmps10
        go_wp2_with (first
          | (go_at_call 21; refine (HA.out _).mono ?_; rintro e w0 ⟨rfl, b0⟩)
          | (go_at_call 31; (have l0 := Z6.out; clear l0); (with_reducible refine (H7.out _).mono ?_); rintro e w7 ⟨rfl, b7⟩; have Z7 : Hid (7 = 7) := Lib.hid rfl)
          | (go_at_call 22; (have l0 := Z5.out; clear l0); (with_reducible refine (H6.out _).mono ?_); rintro e w6 ⟨rfl, b6⟩; have Z6 : Hid (6 = 6) := Lib.hid rfl)
          | (go_at_call 22; (have l0 := Z4.out; clear l0); (with_reducible refine (H5.out _).mono ?_); rintro e w5 ⟨rfl, b5⟩; have Z5 : Hid (5 = 5) := Lib.hid rfl)
          | (go_at_call 31; (have l0 := Z3.out; clear l0); (with_reducible refine (H4.out _).mono ?_); rintro e w4 ⟨rfl, b4⟩; have Z4 : Hid (4 = 4) := Lib.hid rfl)
          | (go_at_call 31; (have l0 := Z2.out; clear l0); (with_reducible refine (H3.out _).mono ?_); rintro e w3 ⟨rfl, b3⟩; have Z3 : Hid (3 = 3) := Lib.hid rfl)
          | (go_at_call 22; (have l0 := Z1.out; clear l0); (with_reducible refine (H2.out _).mono ?_); rintro e w2 ⟨rfl, b2⟩; have Z2 : Hid (2 = 2) := Lib.hid rfl)
          | (go_at_call 22; (with_reducible refine (H1.out _).mono ?_); rintro e w1 ⟨rfl, b1⟩; have Z1 : Hid (1 = 1) := Lib.hid rfl))
        go_ret
        exact ⟨rfl, below_on (below_on (below_on (below_on (below_on (below_on (below_on b0 b1) b2) b3) b4) b5) b6) b7⟩
      · have H1 : Hid (TwoAt 15 1 1 1 0) := two_at (by decide) (by decide) (by decide) (by decide)
        have H2 : Hid (TwoAt 16 1 1 1 0) := two_at (by decide) (by decide) (by decide) (by decide)
        have H3 : Hid (OneAt 17 1 0 0) := one_at (by decide) (by decide) (by decide)
        have H4 : Hid (OneAt 17 1 0 0) := one_at (by decide) (by decide) (by decide)
        have H5 : Hid (TwoAt 16 0 0 0 0) := two_at (by decide) (by decide) (by decide) (by decide)
        have H6 : Hid (TwoAt 15 0 0 0 0) := two_at (by decide) (by decide) (by decide) (by decide)
        have H7 : Hid (OneAt 17 0 1 0) := one_at (by decide) (by decide) (by decide)
        clear hx hy h1 h2
        go_enter Try.func10, Try.ntmps10
        go_wp2_with (first
          | (go_at_call 21; refine (HA.out _).mono ?_; rintro e w0 ⟨rfl, b0⟩)
          | (go_at_call 31; (have l0 := Z6.out; clear l0); (with_reducible refine (H7.out _).mono ?_); rintro e w7 ⟨rfl, b7⟩; have Z7 : Hid (7 = 7) := Lib.hid rfl)
          | (go_at_call 22; (have l0 := Z5.out; clear l0); (with_reducible refine (H6.out _).mono ?_); rintro e w6 ⟨rfl, b6⟩; have Z6 : Hid (6 = 6) := Lib.hid rfl)
          | (go_at_call 22; (have l0 := Z4.out; clear l0); (with_reducible refine (H5.out _).mono ?_); rintro e w5 ⟨rfl, b5⟩; have Z5 : Hid (5 = 5) := Lib.hid rfl)
          | (go_at_call 31; (have l0 := Z3.out; clear l0); (with_reducible refine (H4.out _).mono ?_); rintro e w4 ⟨rfl, b4⟩; have Z4 : Hid (4 = 4) := Lib.hid rfl)
          | (go_at_call 31; (have l0 := Z2.out; clear l0); (with_reducible refine (H3.out _).mono ?_); rintro e w3 ⟨rfl, b3⟩; have Z3 : Hid (3 = 3) := Lib.hid rfl)
          | (go_at_call 22; (have l0 := Z1.out; clear l0); (with_reducible refine (H2.out _).mono ?_); rintro e w2 ⟨rfl, b2⟩; have Z2 : Hid (2 = 2) := Lib.hid rfl)
          | (go_at_call 22; (with_reducible refine (H1.out _).mono ?_); rintro e w1 ⟨rfl, b1⟩; have Z1 : Hid (1 = 1) := Lib.hid rfl))
        go_ret
        exact ⟨rfl, below_on (below_on (below_on (below_on (below_on (below_on (below_on b0 b1) b2) b3) b4) b5) b6) b7⟩
    · have h2 : isT y = false := by simpa using h2
      have HB : (isT x && isT y) = false := by rw [h2, Bool.and_false]
      have H1 : Hid (TwoAt 15 x y 0 5) := two_at hx hy (by show (if (isT x && isT y) = true then _ else _) = _; rw [HB]; rfl) (by show (if (isT x && isT y) = true then _ else _) = _; rw [HB]; rfl)
      have H2 : Hid (TwoAt 16 x y 0 5) := two_at hx hy (by show (if (isT x && isT y) = true then _ else _) = _; rw [HB]; rfl) (by show (if (isT x && isT y) = true then _ else _) = _; rw [HB]; rfl)
      have H3 : Hid (OneAt 17 x (1 - x) 0) := one_at hx (by show (if isT x = true then _ else _) = _; rw [h1]; rfl) (by show (if isT x = true then _ else _) = _; rw [h1]; rfl)
      have H4 : Hid (OneAt 17 y 0 5) := one_at hy (by show (if isT y = true then _ else _) = _; rw [h2]; rfl) (by show (if isT y = true then _ else _) = _; rw [h2]; rfl)
      have h2n : ¬ (y = 0 ∨ y = 1) := fun e => by rw [isT_iff.2 e] at h2; cases h2
      have y0 : (y == 0) = false := by simp; omega
      have y1 : (y == 1) = false := by simp; omega
      clear h2n
      clear hx hy HB
      rcases isT_iff.1 h1 with rfl | rfl
      all_goals
        clear h1 h2
        go_enter Try.func10, Try.ntmps10
        go_wp2_with (first
          | (go_at_call 21; refine (HA.out _).mono ?_; rintro e w0 ⟨rfl, b0⟩)
          | (go_at_call 31; (have l0 := Z3.out; clear l0); (with_reducible refine (H4.out _).mono ?_); rintro e w4 ⟨rfl, b4⟩; have Z4 : Hid (4 = 4) := Lib.hid rfl)
          | (go_at_call 31; (have l0 := Z2.out; clear l0); (with_reducible refine (H3.out _).mono ?_); rintro e w3 ⟨rfl, b3⟩; have Z3 : Hid (3 = 3) := Lib.hid rfl)
          | (go_at_call 22; (have l0 := Z1.out; clear l0); (with_reducible refine (H2.out _).mono ?_); rintro e w2 ⟨rfl, b2⟩; have Z2 : Hid (2 = 2) := Lib.hid rfl)
          | (go_at_call 22; (with_reducible refine (H1.out _).mono ?_); rintro e w1 ⟨rfl, b1⟩; have Z1 : Hid (1 = 1) := Lib.hid rfl))
        go_ret
        exact ⟨rfl, below_on (below_on (below_on (below_on b0 b1) b2) b3) b4⟩
  · have h1 : isT x = false := by simpa using h1
    have HB : (isT x && isT y) = false := by rw [h1, Bool.false_and]
    by_cases h2 : isT y = true
    ·
      have H1 : Hid (TwoAt 15 x y 0 5) := two_at hx hy (by show (if (isT x && isT y) = true then _ else _) = _; rw [HB]; rfl) (by show (if (isT x && isT y) = true then _ else _) = _; rw [HB]; rfl)
      have H2 : Hid (TwoAt 16 x y 0 5) := two_at hx hy (by show (if (isT x && isT y) = true then _ else _) = _; rw [HB]; rfl) (by show (if (isT x && isT y) = true then _ else _) = _; rw [HB]; rfl)
      have H3 : Hid (OneAt 17 x 0 5) := one_at hx (by show (if isT x = true then _ else _) = _; rw [h1]; rfl) (by show (if isT x = true then _ else _) = _; rw [h1]; rfl)
      have H4 : Hid (OneAt 17 y (1 - y) 0) := one_at hy (by show (if isT y = true then _ else _) = _; rw [h2]; rfl) (by show (if isT y = true then _ else _) = _; rw [h2]; rfl)
      have h1n : ¬ (x = 0 ∨ x = 1) := fun e => by rw [isT_iff.2 e] at h1; cases h1
      have x0 : (x == 0) = false := by simp; omega
      have x1 : (x == 1) = false := by simp; omega
      clear h1n
      clear hx hy HB
      rcases isT_iff.1 h2 with rfl | rfl
      all_goals
        clear h1 h2
        go_enter Try.func10, Try.ntmps10
        go_wp2_with (first
          | (go_at_call 21; refine (HA.out _).mono ?_; rintro e w0 ⟨rfl, b0⟩)
          | (go_at_call 31; (have l0 := Z3.out; clear l0); (with_reducible refine (H4.out _).mono ?_); rintro e w4 ⟨rfl, b4⟩; have Z4 : Hid (4 = 4) := Lib.hid rfl)
          | (go_at_call 31; (have l0 := Z2.out; clear l0); (with_reducible refine (H3.out _).mono ?_); rintro e w3 ⟨rfl, b3⟩; have Z3 : Hid (3 = 3) := Lib.hid rfl)
          | (go_at_call 22; (have l0 := Z1.out; clear l0); (with_reducible refine (H2.out _).mono ?_); rintro e w2 ⟨rfl, b2⟩; have Z2 : Hid (2 = 2) := Lib.hid rfl)
          | (go_at_call 22; (with_reducible refine (H1.out _).mono ?_); rintro e w1 ⟨rfl, b1⟩; have Z1 : Hid (1 = 1) := Lib.hid rfl))
        go_ret
        exact ⟨rfl, below_on (below_on (below_on (below_on b0 b1) b2) b3) b4⟩
    · have h2 : isT y = false := by simpa using h2
      have H1 : Hid (TwoAt 15 x y 0 5) := two_at hx hy (by show (if (isT x && isT y) = true then _ else _) = _; rw [HB]; rfl) (by show (if (isT x && isT y) = true then _ else _) = _; rw [HB]; rfl)
      have H2 : Hid (TwoAt 16 x y 0 5) := two_at hx hy (by show (if (isT x && isT y) = true then _ else _) = _; rw [HB]; rfl) (by show (if (isT x && isT y) = true then _ else _) = _; rw [HB]; rfl)
      have H3 : Hid (OneAt 17 x 0 5) := one_at hx (by show (if isT x = true then _ else _) = _; rw [h1]; rfl) (by show (if isT x = true then _ else _) = _; rw [h1]; rfl)
      have H4 : Hid (OneAt 17 y 0 5) := one_at hy (by show (if isT y = true then _ else _) = _; rw [h2]; rfl) (by show (if isT y = true then _ else _) = _; rw [h2]; rfl)
      have h1n : ¬ (x = 0 ∨ x = 1) := fun e => by rw [isT_iff.2 e] at h1; cases h1
      have x0 : (x == 0) = false := by simp; omega
      have x1 : (x == 1) = false := by simp; omega
      clear h1n
      have h2n : ¬ (y = 0 ∨ y = 1) := fun e => by rw [isT_iff.2 e] at h2; cases h2
      have y0 : (y == 0) = false := by simp; omega
      have y1 : (y == 1) = false := by simp; omega
      clear h2n
      clear hx hy HB
      clear h1 h2
      go_enter Try.func10, Try.ntmps10
      go_wp2_with (first
        | (go_at_call 21; refine (HA.out _).mono ?_; rintro e w0 ⟨rfl, b0⟩)
        | (go_at_call 31; (have l0 := Z3.out; clear l0); (with_reducible refine (H4.out _).mono ?_); rintro e w4 ⟨rfl, b4⟩; have Z4 : Hid (4 = 4) := Lib.hid rfl)
        | (go_at_call 31; (have l0 := Z2.out; clear l0); (with_reducible refine (H3.out _).mono ?_); rintro e w3 ⟨rfl, b3⟩; have Z3 : Hid (3 = 3) := Lib.hid rfl)
        | (go_at_call 22; (have l0 := Z1.out; clear l0); (with_reducible refine (H2.out _).mono ?_); rintro e w2 ⟨rfl, b2⟩; have Z2 : Hid (2 = 2) := Lib.hid rfl)
        | (go_at_call 22; (with_reducible refine (H1.out _).mono ?_); rintro e w1 ⟨rfl, b1⟩; have Z1 : Hid (1 = 1) := Lib.hid rfl))
      go_ret
      exact ⟨rfl, below_on (below_on (below_on (below_on b0 b1) b2) b3) b4⟩
theorem call (x : Int) (hx0 : -9223372036854775808 ≤ x) (hx1 : x ≤ 9223372036854775807) (y : Int) (hy0 : -9223372036854775808 ≤ y) (hy1 : y ≤ 9223372036854775807) (w : World) :
    Calls Try.prog 10 #[.int .i64 x, .int .i64 y] w fun e w' => e = .returned (.bool true) ∧ Below w.heap.size w w' := walk x y ⟨hx0, hx1⟩ ⟨hy0, hy1⟩ w
end Go.Proofs.Ytkdnaebmifjmcaa.scalarTruths

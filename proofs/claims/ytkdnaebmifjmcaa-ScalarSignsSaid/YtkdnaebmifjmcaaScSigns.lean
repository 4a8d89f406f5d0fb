/-
  The walk of the statement ScalarSigns.
-/
import Derived.Test.YtkdnaebmifjmcaaScLive
namespace Go.Proofs.Ytkdnaebmifjmcaa.scalarSigns
open Go.RowKit Go.Proofs.Ytkdnaebmifjmcaa.sc
set_option maxRecDepth 100000 in
set_option maxHeartbeats 4000000 in
theorem walk (x y : Int) (hx : InR x) (hy : InR y) (w : World) : Calls Try.prog 9 #[.int .i64 x, .int .i64 y] w fun e w' => e = .returned (.bool true) ∧ Below w.heap.size w w' := by
  have HA := Lib.hid alive12_any
  have hsg : ∀ n : Int, (0 < n → oneV 3 n = 1) ∧ (n < 0 → oneV 3 n = -1) := fun n => by
    refine ⟨fun h => ?_, fun h => ?_⟩
    · show (if 0 < n then (1 : Int) else _) = _
      rw [if_pos h]
    · show (if 0 < n then (1 : Int) else if n < 0 then -1 else 0) = _
      rw [if_neg (by omega), if_pos h]
  by_cases hl : x = -9223372036854775808
  · subst hl
    have H1 : Hid (OneAt 3 (-9223372036854775808) (-1) 0) := one_at hx (by decide) (by decide)
    have H2 : Hid (OneAt 3 y (oneV 3 y) 0) := one_at hy rfl rfl
    have H3 : Hid (OneAt 5 (-9223372036854775808) 0 7) := one_at hx (by decide) (by decide)
    have H4 : Hid (OneAt 2 (-9223372036854775808) 0 7) := one_at hx (by decide) (by decide)
    generalize oneV 3 y = t at *
    clear hx hy hsg
    go_enter Try.func9, Try.ntmps9
    go_wp2_with (first
      | (go_at_call 21; refine (HA.out _).mono ?_; rintro e w0 ⟨rfl, b0⟩)
      | (go_at_call 31; (have l0 := Z3.out; clear l0); (with_reducible refine (H4.out _).mono ?_); rintro e w4 ⟨rfl, b4⟩; have Z4 : Hid (4 = 4) := Lib.hid rfl)
      | (go_at_call 31; (have l0 := Z2.out; clear l0); (with_reducible refine (H3.out _).mono ?_); rintro e w3 ⟨rfl, b3⟩; have Z3 : Hid (3 = 3) := Lib.hid rfl)
      | (go_at_call 31; (have l0 := Z1.out; clear l0); (with_reducible refine (H2.out _).mono ?_); rintro e w2 ⟨rfl, b2⟩; have Z2 : Hid (2 = 2) := Lib.hid rfl)
      | (go_at_call 31; (with_reducible refine (H1.out _).mono ?_); rintro e w1 ⟨rfl, b1⟩; have Z1 : Hid (1 = 1) := Lib.hid rfl))
    go_ret
    exact ⟨rfl, below_on (below_on (below_on (below_on b0 b1) b2) b3) b4⟩
  have hl2 : (x == -9223372036854775808) = false := by simp [hl]
  have hnr : InR (-x) := by unfold InR at *; omega
  have HP : ∀ (s t : Int), oneV 3 x = s → oneV 3 y = t → Hid (OneAt 3 x s 0) ∧ Hid (OneAt 3 y t 0) := fun s t h1 h2 => ⟨one_at hx h1 rfl, one_at hy h2 rfl⟩
  have H4 : Hid (OneAt 2 x (-x) 0) := one_at hx (fit_yes (inR_is.2 hnr)).1 (fit_yes (inR_is.2 hnr)).2
  have H5 : Hid (OneAt 2 (-x) x 0) := one_at hnr (by show fitV (- -x) = x; rw [Int.neg_neg]; exact (fit_yes (inR_is.2 hx)).1) (by show fitE (- -x) = 0; rw [Int.neg_neg]; exact (fit_yes (inR_is.2 hx)).2)
  have hpv : Hid (inR (x * y) = false → TwoAt 3 x y 0 7) := Lib.hid (fun h => (two_at (f := 3) (v := 0) (e := 7) hx hy (fit_no h).1 (fit_no h).2).out)
  have hpw : Hid (inR (x * y) = true → TwoAt 3 x y (x * y) 0) := Lib.hid (fun h => (two_at (f := 3) (v := x * y) (e := 0) hx hy (fit_yes h).1 (fit_yes h).2).out)
  have hfx : inR x = true := inR_is.2 hx
  rcases Int.lt_trichotomy x 0 with hx0 | hx0 | hx0
  · have e1 : oneV 3 x = -1 := (hsg x).2 hx0
    have x0 : (x == 0) = false := by simp; omega
    have xp : ¬ 0 < x := by omega
    have H3 : Hid (OneAt 5 x (-x) 0) := one_at hx (by show fitV (if x < 0 then -x else x) = _; rw [if_pos hx0]; exact (fit_yes (inR_is.2 hnr)).1) (by show fitE (if x < 0 then -x else x) = _; rw [if_pos hx0]; exact (fit_yes (inR_is.2 hnr)).2)
    have m1 : (-1 : Int) * -x = x := by omega
    have H6 : Hid (TwoAt 3 (-1) (-x) x 0) := two_at (by decide) hnr (by show fitV ((-1 : Int) * -x) = x; rw [m1]; exact (fit_yes hfx).1) (by show fitE ((-1 : Int) * -x) = 0; rw [m1]; exact (fit_yes hfx).2)
    have an : ¬ -x < 0 := by omega
    cases hin : inR (x * y)
    · have HPW := Lib.hid (hpv.out hin)
      have H1 := (HP _ _ e1 rfl).1
      have H2 := (HP _ _ e1 rfl).2
      generalize oneV 3 y = t at *
      obtain ⟨X, hX⟩ : ∃ X, -x = X := ⟨_, rfl⟩
      rw [hX] at H3 H4 H5 H6 an
      clear hx hy hsg HP hpv hpw hnr hl hfx e1 m1 hin hX hx0
      go_enter Try.func9, Try.ntmps9
      go_wp2_with (first
        | (go_at_call 21; refine (HA.out _).mono ?_; rintro e w0 ⟨rfl, b0⟩)
        | (go_at_call 22; (have l0 := Z6.out; clear l0); (with_reducible refine (HPW.out _).mono ?_); rintro e w7 ⟨rfl, b7⟩; have Z7 : Hid (7 = 7) := Lib.hid rfl)
        | (go_at_call 22; (have l0 := Z5.out; clear l0); (with_reducible refine (H6.out _).mono ?_); rintro e w6 ⟨rfl, b6⟩; have Z6 : Hid (6 = 6) := Lib.hid rfl)
        | (go_at_call 31; (have l0 := Z4.out; clear l0); (with_reducible refine (H5.out _).mono ?_); rintro e w5 ⟨rfl, b5⟩; have Z5 : Hid (5 = 5) := Lib.hid rfl)
        | (go_at_call 31; (have l0 := Z3.out; clear l0); (with_reducible refine (H4.out _).mono ?_); rintro e w4 ⟨rfl, b4⟩; have Z4 : Hid (4 = 4) := Lib.hid rfl)
        | (go_at_call 31; (have l0 := Z2.out; clear l0); (with_reducible refine (H3.out _).mono ?_); rintro e w3 ⟨rfl, b3⟩; have Z3 : Hid (3 = 3) := Lib.hid rfl)
        | (go_at_call 31; (have l0 := Z1.out; clear l0); (with_reducible refine (H2.out _).mono ?_); rintro e w2 ⟨rfl, b2⟩; have Z2 : Hid (2 = 2) := Lib.hid rfl)
        | (go_at_call 31; (with_reducible refine (H1.out _).mono ?_); rintro e w1 ⟨rfl, b1⟩; have Z1 : Hid (1 = 1) := Lib.hid rfl))
      go_ret
      exact ⟨rfl, below_on (below_on (below_on (below_on (below_on (below_on (below_on b0 b1) b2) b3) b4) b5) b6) b7⟩
    · have HPW0 := hpw.out hin
      obtain ⟨p, hp⟩ : ∃ p, x * y = p := ⟨_, rfl⟩
      rw [hp] at HPW0
      have HPW := Lib.hid HPW0
      have hpr : InR p := by rw [← hp]; exact inR_is.1 hin
      obtain ⟨X, hX⟩ : ∃ X, -x = X := ⟨_, rfl⟩
      rw [hX] at H3 H4 H5 H6 an
      rcases Int.lt_trichotomy y 0 with hy0 | hy0 | hy0
      · have pp : 0 < p := by rw [← hp]; exact Int.mul_pos_of_neg_of_neg hx0 hy0
        have e2 : oneV 3 y = -1 := (hsg y).2 hy0
        have H7 : Hid (OneAt 3 p (1) 0) := one_at hpr ((hsg p).1 pp) rfl
        have H1 := (HP _ _ e1 e2).1
        have H2 := (HP _ _ e1 e2).2
        clear hx hy hsg HP hpv hpw hnr hl hfx e1 e2 m1 hin hX hp hpr HPW0 hx0 hy0 pp
        go_enter Try.func9, Try.ntmps9
        go_wp2_with (first
          | (go_at_call 21; refine (HA.out _).mono ?_; rintro e w0 ⟨rfl, b0⟩)
          | (go_at_call 31; (have l0 := Z7.out; clear l0); (with_reducible refine (H7.out _).mono ?_); rintro e w8 ⟨rfl, b8⟩; have Z8 : Hid (8 = 8) := Lib.hid rfl)
          | (go_at_call 22; (have l0 := Z6.out; clear l0); (with_reducible refine (HPW.out _).mono ?_); rintro e w7 ⟨rfl, b7⟩; have Z7 : Hid (7 = 7) := Lib.hid rfl)
          | (go_at_call 22; (have l0 := Z5.out; clear l0); (with_reducible refine (H6.out _).mono ?_); rintro e w6 ⟨rfl, b6⟩; have Z6 : Hid (6 = 6) := Lib.hid rfl)
          | (go_at_call 31; (have l0 := Z4.out; clear l0); (with_reducible refine (H5.out _).mono ?_); rintro e w5 ⟨rfl, b5⟩; have Z5 : Hid (5 = 5) := Lib.hid rfl)
          | (go_at_call 31; (have l0 := Z3.out; clear l0); (with_reducible refine (H4.out _).mono ?_); rintro e w4 ⟨rfl, b4⟩; have Z4 : Hid (4 = 4) := Lib.hid rfl)
          | (go_at_call 31; (have l0 := Z2.out; clear l0); (with_reducible refine (H3.out _).mono ?_); rintro e w3 ⟨rfl, b3⟩; have Z3 : Hid (3 = 3) := Lib.hid rfl)
          | (go_at_call 31; (have l0 := Z1.out; clear l0); (with_reducible refine (H2.out _).mono ?_); rintro e w2 ⟨rfl, b2⟩; have Z2 : Hid (2 = 2) := Lib.hid rfl)
          | (go_at_call 31; (with_reducible refine (H1.out _).mono ?_); rintro e w1 ⟨rfl, b1⟩; have Z1 : Hid (1 = 1) := Lib.hid rfl))
        go_ret
        exact ⟨rfl, below_on (below_on (below_on (below_on (below_on (below_on (below_on (below_on b0 b1) b2) b3) b4) b5) b6) b7) b8⟩
      · obtain rfl : p = 0 := by rw [← hp, hy0, Int.mul_zero]
        have e2 : oneV 3 y = 0 := by rw [hy0]; decide
        have H7 : Hid (OneAt 3 0 (0) 0) := one_at hpr (by decide) rfl
        have H1 := (HP _ _ e1 e2).1
        have H2 := (HP _ _ e1 e2).2
        clear hx hy hsg HP hpv hpw hnr hl hfx e1 e2 m1 hin hX hp hpr HPW0 hx0 hy0
        go_enter Try.func9, Try.ntmps9
        go_wp2_with (first
          | (go_at_call 21; refine (HA.out _).mono ?_; rintro e w0 ⟨rfl, b0⟩)
          | (go_at_call 31; (have l0 := Z7.out; clear l0); (with_reducible refine (H7.out _).mono ?_); rintro e w8 ⟨rfl, b8⟩; have Z8 : Hid (8 = 8) := Lib.hid rfl)
          | (go_at_call 22; (have l0 := Z6.out; clear l0); (with_reducible refine (HPW.out _).mono ?_); rintro e w7 ⟨rfl, b7⟩; have Z7 : Hid (7 = 7) := Lib.hid rfl)
          | (go_at_call 22; (have l0 := Z5.out; clear l0); (with_reducible refine (H6.out _).mono ?_); rintro e w6 ⟨rfl, b6⟩; have Z6 : Hid (6 = 6) := Lib.hid rfl)
          | (go_at_call 31; (have l0 := Z4.out; clear l0); (with_reducible refine (H5.out _).mono ?_); rintro e w5 ⟨rfl, b5⟩; have Z5 : Hid (5 = 5) := Lib.hid rfl)
          | (go_at_call 31; (have l0 := Z3.out; clear l0); (with_reducible refine (H4.out _).mono ?_); rintro e w4 ⟨rfl, b4⟩; have Z4 : Hid (4 = 4) := Lib.hid rfl)
          | (go_at_call 31; (have l0 := Z2.out; clear l0); (with_reducible refine (H3.out _).mono ?_); rintro e w3 ⟨rfl, b3⟩; have Z3 : Hid (3 = 3) := Lib.hid rfl)
          | (go_at_call 31; (have l0 := Z1.out; clear l0); (with_reducible refine (H2.out _).mono ?_); rintro e w2 ⟨rfl, b2⟩; have Z2 : Hid (2 = 2) := Lib.hid rfl)
          | (go_at_call 31; (with_reducible refine (H1.out _).mono ?_); rintro e w1 ⟨rfl, b1⟩; have Z1 : Hid (1 = 1) := Lib.hid rfl))
        go_ret
        exact ⟨rfl, below_on (below_on (below_on (below_on (below_on (below_on (below_on (below_on b0 b1) b2) b3) b4) b5) b6) b7) b8⟩
      · have pp : p < 0 := by rw [← hp]; exact Int.mul_neg_of_neg_of_pos hx0 hy0
        have e2 : oneV 3 y = 1 := (hsg y).1 hy0
        have H7 : Hid (OneAt 3 p (-1) 0) := one_at hpr ((hsg p).2 pp) rfl
        have H1 := (HP _ _ e1 e2).1
        have H2 := (HP _ _ e1 e2).2
        clear hx hy hsg HP hpv hpw hnr hl hfx e1 e2 m1 hin hX hp hpr HPW0 hx0 hy0 pp
        go_enter Try.func9, Try.ntmps9
        go_wp2_with (first
          | (go_at_call 21; refine (HA.out _).mono ?_; rintro e w0 ⟨rfl, b0⟩)
          | (go_at_call 31; (have l0 := Z7.out; clear l0); (with_reducible refine (H7.out _).mono ?_); rintro e w8 ⟨rfl, b8⟩; have Z8 : Hid (8 = 8) := Lib.hid rfl)
          | (go_at_call 22; (have l0 := Z6.out; clear l0); (with_reducible refine (HPW.out _).mono ?_); rintro e w7 ⟨rfl, b7⟩; have Z7 : Hid (7 = 7) := Lib.hid rfl)
          | (go_at_call 22; (have l0 := Z5.out; clear l0); (with_reducible refine (H6.out _).mono ?_); rintro e w6 ⟨rfl, b6⟩; have Z6 : Hid (6 = 6) := Lib.hid rfl)
          | (go_at_call 31; (have l0 := Z4.out; clear l0); (with_reducible refine (H5.out _).mono ?_); rintro e w5 ⟨rfl, b5⟩; have Z5 : Hid (5 = 5) := Lib.hid rfl)
          | (go_at_call 31; (have l0 := Z3.out; clear l0); (with_reducible refine (H4.out _).mono ?_); rintro e w4 ⟨rfl, b4⟩; have Z4 : Hid (4 = 4) := Lib.hid rfl)
          | (go_at_call 31; (have l0 := Z2.out; clear l0); (with_reducible refine (H3.out _).mono ?_); rintro e w3 ⟨rfl, b3⟩; have Z3 : Hid (3 = 3) := Lib.hid rfl)
          | (go_at_call 31; (have l0 := Z1.out; clear l0); (with_reducible refine (H2.out _).mono ?_); rintro e w2 ⟨rfl, b2⟩; have Z2 : Hid (2 = 2) := Lib.hid rfl)
          | (go_at_call 31; (with_reducible refine (H1.out _).mono ?_); rintro e w1 ⟨rfl, b1⟩; have Z1 : Hid (1 = 1) := Lib.hid rfl))
        go_ret
        exact ⟨rfl, below_on (below_on (below_on (below_on (below_on (below_on (below_on (below_on b0 b1) b2) b3) b4) b5) b6) b7) b8⟩
  · subst hx0
    have H1a : oneV 3 0 = 0 := by decide
    have H3 : Hid (OneAt 5 0 0 0) := one_at hx (by decide) (by decide)
    have H6 : Hid (TwoAt 3 0 0 0 0) := two_at (by decide) (by decide) (by decide) (by decide)
    have hz : (0 : Int) * y = 0 := Int.zero_mul y
    rw [hz] at hpw
    have HPW := Lib.hid (hpw.out (by decide))
    have H7 : Hid (OneAt 3 0 0 0) := one_at (by decide) (by decide) (by decide)
    have n0 : -(0 : Int) = 0 := by decide
    rw [n0] at H4 H5
    have H1 := (HP 0 _ H1a rfl).1
    have H2 := (HP 0 _ H1a rfl).2
    have hty : InR (oneV 3 y) := sgnV_in y
    generalize oneV 3 y = t at *
    unfold InR at hty
    clear hx hy hsg HP hpv hpw hz hnr hl hfx H1a n0
    go_enter Try.func9, Try.ntmps9
    go_wp2_with (first
      | (go_at_call 21; refine (HA.out _).mono ?_; rintro e w0 ⟨rfl, b0⟩)
      | (go_at_call 31; (have l0 := Z7.out; clear l0); (with_reducible refine (H7.out _).mono ?_); rintro e w8 ⟨rfl, b8⟩; have Z8 : Hid (8 = 8) := Lib.hid rfl)
      | (go_at_call 22; (have l0 := Z6.out; clear l0); (with_reducible refine (HPW.out _).mono ?_); rintro e w7 ⟨rfl, b7⟩; have Z7 : Hid (7 = 7) := Lib.hid rfl)
      | (go_at_call 22; (have l0 := Z5.out; clear l0); (with_reducible refine (H6.out _).mono ?_); rintro e w6 ⟨rfl, b6⟩; have Z6 : Hid (6 = 6) := Lib.hid rfl)
      | (go_at_call 31; (have l0 := Z4.out; clear l0); (with_reducible refine (H5.out _).mono ?_); rintro e w5 ⟨rfl, b5⟩; have Z5 : Hid (5 = 5) := Lib.hid rfl)
      | (go_at_call 31; (have l0 := Z3.out; clear l0); (with_reducible refine (H4.out _).mono ?_); rintro e w4 ⟨rfl, b4⟩; have Z4 : Hid (4 = 4) := Lib.hid rfl)
      | (go_at_call 31; (have l0 := Z2.out; clear l0); (with_reducible refine (H3.out _).mono ?_); rintro e w3 ⟨rfl, b3⟩; have Z3 : Hid (3 = 3) := Lib.hid rfl)
      | (go_at_call 31; (have l0 := Z1.out; clear l0); (with_reducible refine (H2.out _).mono ?_); rintro e w2 ⟨rfl, b2⟩; have Z2 : Hid (2 = 2) := Lib.hid rfl)
      | (go_at_call 31; (with_reducible refine (H1.out _).mono ?_); rintro e w1 ⟨rfl, b1⟩; have Z1 : Hid (1 = 1) := Lib.hid rfl))
    go_ret
    exact ⟨by simp, below_on (below_on (below_on (below_on (below_on (below_on (below_on (below_on b0 b1) b2) b3) b4) b5) b6) b7) b8⟩
  · have e1 : oneV 3 x = 1 := (hsg x).1 hx0
    have x0 : (x == 0) = false := by simp; omega
    have xp : 0 < x := by omega
    have H3 : Hid (OneAt 5 x (x) 0) := one_at hx (by show fitV (if x < 0 then -x else x) = _; rw [if_neg (by omega)]; exact (fit_yes (inR_is.2 hx)).1) (by show fitE (if x < 0 then -x else x) = _; rw [if_neg (by omega)]; exact (fit_yes (inR_is.2 hx)).2)
    have m1 : (1 : Int) * x = x := by omega
    have H6 : Hid (TwoAt 3 (1) (x) x 0) := two_at (by decide) hx (by show fitV ((1 : Int) * x) = x; rw [m1]; exact (fit_yes hfx).1) (by show fitE ((1 : Int) * x) = 0; rw [m1]; exact (fit_yes hfx).2)
    have an : ¬ x < 0 := by omega
    cases hin : inR (x * y)
    · have HPW := Lib.hid (hpv.out hin)
      have H1 := (HP _ _ e1 rfl).1
      have H2 := (HP _ _ e1 rfl).2
      generalize oneV 3 y = t at *
      obtain ⟨X, hX⟩ : ∃ X, -x = X := ⟨_, rfl⟩
      rw [hX] at H4 H5
      clear hx hy hsg HP hpv hpw hnr hl hfx e1 m1 hin hX hx0
      go_enter Try.func9, Try.ntmps9
      go_wp2_with (first
        | (go_at_call 21; refine (HA.out _).mono ?_; rintro e w0 ⟨rfl, b0⟩)
        | (go_at_call 22; (have l0 := Z6.out; clear l0); (with_reducible refine (HPW.out _).mono ?_); rintro e w7 ⟨rfl, b7⟩; have Z7 : Hid (7 = 7) := Lib.hid rfl)
        | (go_at_call 22; (have l0 := Z5.out; clear l0); (with_reducible refine (H6.out _).mono ?_); rintro e w6 ⟨rfl, b6⟩; have Z6 : Hid (6 = 6) := Lib.hid rfl)
        | (go_at_call 31; (have l0 := Z4.out; clear l0); (with_reducible refine (H5.out _).mono ?_); rintro e w5 ⟨rfl, b5⟩; have Z5 : Hid (5 = 5) := Lib.hid rfl)
        | (go_at_call 31; (have l0 := Z3.out; clear l0); (with_reducible refine (H4.out _).mono ?_); rintro e w4 ⟨rfl, b4⟩; have Z4 : Hid (4 = 4) := Lib.hid rfl)
        | (go_at_call 31; (have l0 := Z2.out; clear l0); (with_reducible refine (H3.out _).mono ?_); rintro e w3 ⟨rfl, b3⟩; have Z3 : Hid (3 = 3) := Lib.hid rfl)
        | (go_at_call 31; (have l0 := Z1.out; clear l0); (with_reducible refine (H2.out _).mono ?_); rintro e w2 ⟨rfl, b2⟩; have Z2 : Hid (2 = 2) := Lib.hid rfl)
        | (go_at_call 31; (with_reducible refine (H1.out _).mono ?_); rintro e w1 ⟨rfl, b1⟩; have Z1 : Hid (1 = 1) := Lib.hid rfl))
      go_ret
      exact ⟨rfl, below_on (below_on (below_on (below_on (below_on (below_on (below_on b0 b1) b2) b3) b4) b5) b6) b7⟩
    · have HPW0 := hpw.out hin
      obtain ⟨p, hp⟩ : ∃ p, x * y = p := ⟨_, rfl⟩
      rw [hp] at HPW0
      have HPW := Lib.hid HPW0
      have hpr : InR p := by rw [← hp]; exact inR_is.1 hin
      obtain ⟨X, hX⟩ : ∃ X, -x = X := ⟨_, rfl⟩
      rw [hX] at H4 H5
      rcases Int.lt_trichotomy y 0 with hy0 | hy0 | hy0
      · have pp : p < 0 := by rw [← hp]; exact Int.mul_neg_of_pos_of_neg hx0 hy0
        have e2 : oneV 3 y = -1 := (hsg y).2 hy0
        have H7 : Hid (OneAt 3 p (-1) 0) := one_at hpr ((hsg p).2 pp) rfl
        have H1 := (HP _ _ e1 e2).1
        have H2 := (HP _ _ e1 e2).2
        clear hx hy hsg HP hpv hpw hnr hl hfx e1 e2 m1 hin hX hp hpr HPW0 hx0 hy0 pp
        go_enter Try.func9, Try.ntmps9
        go_wp2_with (first
          | (go_at_call 21; refine (HA.out _).mono ?_; rintro e w0 ⟨rfl, b0⟩)
          | (go_at_call 31; (have l0 := Z7.out; clear l0); (with_reducible refine (H7.out _).mono ?_); rintro e w8 ⟨rfl, b8⟩; have Z8 : Hid (8 = 8) := Lib.hid rfl)
          | (go_at_call 22; (have l0 := Z6.out; clear l0); (with_reducible refine (HPW.out _).mono ?_); rintro e w7 ⟨rfl, b7⟩; have Z7 : Hid (7 = 7) := Lib.hid rfl)
          | (go_at_call 22; (have l0 := Z5.out; clear l0); (with_reducible refine (H6.out _).mono ?_); rintro e w6 ⟨rfl, b6⟩; have Z6 : Hid (6 = 6) := Lib.hid rfl)
          | (go_at_call 31; (have l0 := Z4.out; clear l0); (with_reducible refine (H5.out _).mono ?_); rintro e w5 ⟨rfl, b5⟩; have Z5 : Hid (5 = 5) := Lib.hid rfl)
          | (go_at_call 31; (have l0 := Z3.out; clear l0); (with_reducible refine (H4.out _).mono ?_); rintro e w4 ⟨rfl, b4⟩; have Z4 : Hid (4 = 4) := Lib.hid rfl)
          | (go_at_call 31; (have l0 := Z2.out; clear l0); (with_reducible refine (H3.out _).mono ?_); rintro e w3 ⟨rfl, b3⟩; have Z3 : Hid (3 = 3) := Lib.hid rfl)
          | (go_at_call 31; (have l0 := Z1.out; clear l0); (with_reducible refine (H2.out _).mono ?_); rintro e w2 ⟨rfl, b2⟩; have Z2 : Hid (2 = 2) := Lib.hid rfl)
          | (go_at_call 31; (with_reducible refine (H1.out _).mono ?_); rintro e w1 ⟨rfl, b1⟩; have Z1 : Hid (1 = 1) := Lib.hid rfl))
        go_ret
        exact ⟨rfl, below_on (below_on (below_on (below_on (below_on (below_on (below_on (below_on b0 b1) b2) b3) b4) b5) b6) b7) b8⟩
      · obtain rfl : p = 0 := by rw [← hp, hy0, Int.mul_zero]
        have e2 : oneV 3 y = 0 := by rw [hy0]; decide
        have H7 : Hid (OneAt 3 0 (0) 0) := one_at hpr (by decide) rfl
        have H1 := (HP _ _ e1 e2).1
        have H2 := (HP _ _ e1 e2).2
        clear hx hy hsg HP hpv hpw hnr hl hfx e1 e2 m1 hin hX hp hpr HPW0 hx0 hy0
        go_enter Try.func9, Try.ntmps9
        go_wp2_with (first
          | (go_at_call 21; refine (HA.out _).mono ?_; rintro e w0 ⟨rfl, b0⟩)
          | (go_at_call 31; (have l0 := Z7.out; clear l0); (with_reducible refine (H7.out _).mono ?_); rintro e w8 ⟨rfl, b8⟩; have Z8 : Hid (8 = 8) := Lib.hid rfl)
          | (go_at_call 22; (have l0 := Z6.out; clear l0); (with_reducible refine (HPW.out _).mono ?_); rintro e w7 ⟨rfl, b7⟩; have Z7 : Hid (7 = 7) := Lib.hid rfl)
          | (go_at_call 22; (have l0 := Z5.out; clear l0); (with_reducible refine (H6.out _).mono ?_); rintro e w6 ⟨rfl, b6⟩; have Z6 : Hid (6 = 6) := Lib.hid rfl)
          | (go_at_call 31; (have l0 := Z4.out; clear l0); (with_reducible refine (H5.out _).mono ?_); rintro e w5 ⟨rfl, b5⟩; have Z5 : Hid (5 = 5) := Lib.hid rfl)
          | (go_at_call 31; (have l0 := Z3.out; clear l0); (with_reducible refine (H4.out _).mono ?_); rintro e w4 ⟨rfl, b4⟩; have Z4 : Hid (4 = 4) := Lib.hid rfl)
          | (go_at_call 31; (have l0 := Z2.out; clear l0); (with_reducible refine (H3.out _).mono ?_); rintro e w3 ⟨rfl, b3⟩; have Z3 : Hid (3 = 3) := Lib.hid rfl)
          | (go_at_call 31; (have l0 := Z1.out; clear l0); (with_reducible refine (H2.out _).mono ?_); rintro e w2 ⟨rfl, b2⟩; have Z2 : Hid (2 = 2) := Lib.hid rfl)
          | (go_at_call 31; (with_reducible refine (H1.out _).mono ?_); rintro e w1 ⟨rfl, b1⟩; have Z1 : Hid (1 = 1) := Lib.hid rfl))
        go_ret
        exact ⟨rfl, below_on (below_on (below_on (below_on (below_on (below_on (below_on (below_on b0 b1) b2) b3) b4) b5) b6) b7) b8⟩
      · have pp : 0 < p := by rw [← hp]; exact Int.mul_pos hx0 hy0
        have e2 : oneV 3 y = 1 := (hsg y).1 hy0
        have H7 : Hid (OneAt 3 p (1) 0) := one_at hpr ((hsg p).1 pp) rfl
        have H1 := (HP _ _ e1 e2).1
        have H2 := (HP _ _ e1 e2).2
        clear hx hy hsg HP hpv hpw hnr hl hfx e1 e2 m1 hin hX hp hpr HPW0 hx0 hy0 pp
        go_enter Try.func9, Try.ntmps9
        go_wp2_with (first
          | (go_at_call 21; refine (HA.out _).mono ?_; rintro e w0 ⟨rfl, b0⟩)
          | (go_at_call 31; (have l0 := Z7.out; clear l0); (with_reducible refine (H7.out _).mono ?_); rintro e w8 ⟨rfl, b8⟩; have Z8 : Hid (8 = 8) := Lib.hid rfl)
          | (go_at_call 22; (have l0 := Z6.out; clear l0); (with_reducible refine (HPW.out _).mono ?_); rintro e w7 ⟨rfl, b7⟩; have Z7 : Hid (7 = 7) := Lib.hid rfl)
          | (go_at_call 22; (have l0 := Z5.out; clear l0); (with_reducible refine (H6.out _).mono ?_); rintro e w6 ⟨rfl, b6⟩; have Z6 : Hid (6 = 6) := Lib.hid rfl)
          | (go_at_call 31; (have l0 := Z4.out; clear l0); (with_reducible refine (H5.out _).mono ?_); rintro e w5 ⟨rfl, b5⟩; have Z5 : Hid (5 = 5) := Lib.hid rfl)
          | (go_at_call 31; (have l0 := Z3.out; clear l0); (with_reducible refine (H4.out _).mono ?_); rintro e w4 ⟨rfl, b4⟩; have Z4 : Hid (4 = 4) := Lib.hid rfl)
          | (go_at_call 31; (have l0 := Z2.out; clear l0); (with_reducible refine (H3.out _).mono ?_); rintro e w3 ⟨rfl, b3⟩; have Z3 : Hid (3 = 3) := Lib.hid rfl)
          | (go_at_call 31; (have l0 := Z1.out; clear l0); (with_reducible refine (H2.out _).mono ?_); rintro e w2 ⟨rfl, b2⟩; have Z2 : Hid (2 = 2) := Lib.hid rfl)
          | (go_at_call 31; (with_reducible refine (H1.out _).mono ?_); rintro e w1 ⟨rfl, b1⟩; have Z1 : Hid (1 = 1) := Lib.hid rfl))
        go_ret
        exact ⟨rfl, below_on (below_on (below_on (below_on (below_on (below_on (below_on (below_on b0 b1) b2) b3) b4) b5) b6) b7) b8⟩
theorem call (x : Int) (hx0 : -9223372036854775808 ≤ x) (hx1 : x ≤ 9223372036854775807) (y : Int) (hy0 : -9223372036854775808 ≤ y) (hy1 : y ≤ 9223372036854775807) (w : World) :
    Calls Try.prog 9 #[.int .i64 x, .int .i64 y] w fun e w' => e = .returned (.bool true) ∧ Below w.heap.size w w' := walk x y ⟨hx0, hx1⟩ ⟨hy0, hy1⟩ w
end Go.Proofs.Ytkdnaebmifjmcaa.scalarSigns

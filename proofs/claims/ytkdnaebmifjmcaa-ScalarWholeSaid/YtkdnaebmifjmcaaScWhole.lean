/-
  The walk of the statement ScalarWhole.
-/
import Derived.Test.YtkdnaebmifjmcaaScSo
namespace Go.Proofs.Ytkdnaebmifjmcaa.scalarWhole
open Go.RowKit Go.Proofs.Ytkdnaebmifjmcaa.sc

abbrev OfAt (n : Int) (X : Value) : Prop := ∀ W, Calls Try.prog 24 #[.int .i64 n] W fun e w' => e = .returned X ∧ Below W.heap.size W w'
abbrev PlusAt (X Y Z : Value) : Prop := ∀ W, Calls Try.prog 25 #[X, Y] W fun e w' => e = .returned Z ∧ Below W.heap.size W w'
abbrev MinusAt (X Z : Value) : Prop := ∀ W, Calls Try.prog 26 #[X] W fun e w' => e = .returned Z ∧ Below W.heap.size W w'
abbrev ProdAt (x y : Int) (Z : Value) : Prop := ∀ W, Calls Try.prog 27 #[.int .i64 x, .int .i64 y] W fun e w' => e = .returned Z ∧ Below W.heap.size W w'
abbrev SoAt (v e : Int) (Z : Value) : Prop := ∀ W, Calls Try.prog 23 #[.int .i64 v, .int .i64 e, Z] W fun e w' => e = .returned (.bool true) ∧ Below W.heap.size W w'
theorem so_fit (v : Int) (hb : -170141183460469231731687303715884105728 ≤ v ∧ v < 170141183460469231731687303715884105728) : SoAt (fitV v) (fitE v) (wv v) := fun W => by
  cases h : inR v
  · rw [(fit_no h).1, (fit_no h).2]
    exact so_no v hb (inR_not.1 h) W
  · rw [(fit_yes h).1, (fit_yes h).2]
    exact so_yes v (inR_is.1 h) W
theorem prod_bound {x y : Int} (hx : InR x) (hy : InR y) : -170141183460469231731687303715884105728 ≤ x * y ∧ x * y < 170141183460469231731687303715884105728 := by
  have e : (x * y).natAbs = x.natAbs * y.natAbs := Int.natAbs_mul _ _
  have h : x.natAbs * y.natAbs ≤ 9223372036854775808 * 9223372036854775808 := Nat.mul_le_mul (by unfold InR at hx; omega) (by unfold InR at hy; omega)
  omega

set_option maxRecDepth 100000 in
set_option maxHeartbeats 4000000 in
theorem walk (x y : Int) (hx : InR x) (hy : InR y) (w : World) : Calls Try.prog 4 #[.int .i64 x, .int .i64 y] w fun e w' => e = .returned (.bool true) ∧ Below w.heap.size w w' := by
  have HA := Lib.hid alive12_any
  have hsb : -170141183460469231731687303715884105728 ≤ x + y ∧ x + y < 170141183460469231731687303715884105728 := by unfold InR at *; omega
  have hdb : -170141183460469231731687303715884105728 ≤ x - y ∧ x - y < 170141183460469231731687303715884105728 := by unfold InR at *; omega
  have H1 : Hid (TwoAt 1 x y (fitV (x + y)) (fitE (x + y))) := two_at hx hy rfl rfl
  have H2 : Hid (TwoAt 2 x y (fitV (x - y)) (fitE (x - y))) := two_at hx hy rfl rfl
  have H3 : Hid (TwoAt 3 x y (fitV (x * y)) (fitE (x * y))) := two_at hx hy rfl rfl
  have S1 : Hid (SoAt (fitV (x + y)) (fitE (x + y)) (wv (x + y))) := Lib.hid (so_fit _ hsb)
  have S2 : Hid (SoAt (fitV (x - y)) (fitE (x - y)) (wv (x - y))) := Lib.hid (so_fit _ hdb)
  have S3 : Hid (SoAt (fitV (x * y)) (fitE (x * y)) (wv (x * y))) := Lib.hid (so_fit _ (prod_bound hx hy))
  have O1 : Hid (OfAt x (wv x)) := Lib.hid (of_any x hx)
  have O2 : Hid (OfAt y (wv y)) := Lib.hid (of_any y hy)
  have P1 : Hid (PlusAt (wv x) (wv y) (wv (x + y))) := Lib.hid (plus_any x y)
  have M1 : Hid (MinusAt (wv y) (wv (-y))) := Lib.hid (minus_any y)
  have P2 : Hid (PlusAt (wv x) (wv (-y)) (wv (x - y))) := Lib.hid (fun W => by
    have := plus_any x (-y) W
    rwa [show x + -y = x - y by omega] at this)
  have R1 : Hid (ProdAt x y (wv (x * y))) := Lib.hid (prod12_any x y hx hy)
  have HQ : Hid (y ≠ 0 → InR (quoF x y) → ProdAt (quoF x y) y (wv (quoF x y * y)) ∧ OfAt (remF x y) (wv (remF x y)) ∧ PlusAt (wv (quoF x y * y)) (wv (remF x y)) (wv x)) := Lib.hid (fun h0 hq => ⟨prod12_any _ _ hq hy, of_any _ (remF_in hy h0), fun W => by
    have := plus_any (quoF x y * y) (remF x y) W
    rwa [quo_rem] at this⟩)
  have hq : ∀ W : World, (binOp .eql 50 (wv x) (wv x)).run Try.prog W = .ok (.bool true) W := fun W => by
    have := eql_wide (hiN x) (loN x) (hiN x) (loN x) W
    rwa [decide_eq_true ⟨rfl, rfl⟩] at this
  have HB : Hid (Below w.heap.size w w) := Lib.hid (Below.refl _ _)
  generalize fitV (x + y) = v1 at *
  generalize fitE (x + y) = e1 at *
  generalize fitV (x - y) = v2 at *
  generalize fitE (x - y) = e2 at *
  generalize fitV (x * y) = v3 at *
  generalize fitE (x * y) = e3 at *
  unfold wv at *
  generalize hiN (x * y) = a1 at *
  generalize loN (x * y) = b1 at *
  generalize hiN (x + y) = a2 at *
  generalize loN (x + y) = b2 at *
  generalize hiN (x - y) = a3 at *
  generalize loN (x - y) = b3 at *
  generalize hiN (-y) = a4 at *
  generalize loN (-y) = b4 at *
  generalize hiN (quoF x y * y) = a5 at *
  generalize loN (quoF x y * y) = b5 at *
  generalize hiN (remF x y) = a6 at *
  generalize loN (remF x y) = b6 at *
  generalize hiN y = a7 at *
  generalize loN y = b7 at *
  generalize hiN x = a8 at *
  generalize loN x = b8 at *
  by_cases h0 : y = 0
  · subst h0
    have H4 : Hid (TwoAt 4 x 0 0 8) := two_at hx hy rfl rfl
    have H5 : Hid (TwoAt 5 0 x x 0) := two_at hy hx rfl rfl
    clear hx hy hsb hdb HQ hq
    go_enter Try.func4, Try.ntmps4
    go_wp2_with (first
      | (go_at_call 21; (with_reducible refine (HA.out _).mono ?_); rintro e w2 ⟨rfl, k2⟩; have HB := Lib.hid (below_on HB.out k2); clear k2)
      | (go_at_call 22; (with_reducible refine (H1.out _).mono ?_); rintro e w2 ⟨rfl, k2⟩; have HB := Lib.hid (below_on HB.out k2); clear k2)
      | (go_at_call 22; (with_reducible refine (H2.out _).mono ?_); rintro e w2 ⟨rfl, k2⟩; have HB := Lib.hid (below_on HB.out k2); clear k2)
      | (go_at_call 22; (with_reducible refine (H3.out _).mono ?_); rintro e w2 ⟨rfl, k2⟩; have HB := Lib.hid (below_on HB.out k2); clear k2)
      | (go_at_call 22; (with_reducible refine (H4.out _).mono ?_); rintro e w2 ⟨rfl, k2⟩; have HB := Lib.hid (below_on HB.out k2); clear k2)
      | (go_at_call 22; (with_reducible refine (H5.out _).mono ?_); rintro e w2 ⟨rfl, k2⟩; have HB := Lib.hid (below_on HB.out k2); clear k2)
      | (go_at_call 24; (with_reducible refine (O1.out _).mono ?_); rintro e w2 ⟨rfl, k2⟩; have HB := Lib.hid (below_on HB.out k2); clear k2)
      | (go_at_call 24; (with_reducible refine (O2.out _).mono ?_); rintro e w2 ⟨rfl, k2⟩; have HB := Lib.hid (below_on HB.out k2); clear k2)
      | (go_at_call 25; (with_reducible refine (P1.out _).mono ?_); rintro e w2 ⟨rfl, k2⟩; have HB := Lib.hid (below_on HB.out k2); clear k2)
      | (go_at_call 26; (with_reducible refine (M1.out _).mono ?_); rintro e w2 ⟨rfl, k2⟩; have HB := Lib.hid (below_on HB.out k2); clear k2)
      | (go_at_call 25; (with_reducible refine (P2.out _).mono ?_); rintro e w2 ⟨rfl, k2⟩; have HB := Lib.hid (below_on HB.out k2); clear k2)
      | (go_at_call 27; (with_reducible refine (R1.out _).mono ?_); rintro e w2 ⟨rfl, k2⟩; have HB := Lib.hid (below_on HB.out k2); clear k2)
      | (go_at_call 23; (with_reducible refine (S1.out _).mono ?_); rintro e w2 ⟨rfl, k2⟩; have HB := Lib.hid (below_on HB.out k2); clear k2)
      | (go_at_call 23; (with_reducible refine (S2.out _).mono ?_); rintro e w2 ⟨rfl, k2⟩; have HB := Lib.hid (below_on HB.out k2); clear k2)
      | (go_at_call 23; (with_reducible refine (S3.out _).mono ?_); rintro e w2 ⟨rfl, k2⟩; have HB := Lib.hid (below_on HB.out k2); clear k2))
    go_ret
    exact ⟨rfl, HB.out⟩
  have d0 : (y == 0) = false := by simp [h0]
  have hrv : twoV 5 y x = remF x y := by show (if y = 0 then x else remF x y) = _; rw [if_neg h0]
  by_cases hm : x = -9223372036854775808 ∧ y = -1
  · obtain ⟨rfl, rfl⟩ := hm
    have H4 : Hid (TwoAt 4 (-9223372036854775808) (-1) 0 7) := two_at hx hy (by decide) (by decide)
    have H5 : Hid (TwoAt 5 (-1) (-9223372036854775808) 0 0) := two_at hy hx (by decide) (by decide)
    clear hx hy hsb hdb HQ hq hrv h0
    go_enter Try.func4, Try.ntmps4
    go_wp2_with (first
      | (go_at_call 21; (with_reducible refine (HA.out _).mono ?_); rintro e w2 ⟨rfl, k2⟩; have HB := Lib.hid (below_on HB.out k2); clear k2)
      | (go_at_call 22; (with_reducible refine (H1.out _).mono ?_); rintro e w2 ⟨rfl, k2⟩; have HB := Lib.hid (below_on HB.out k2); clear k2)
      | (go_at_call 22; (with_reducible refine (H2.out _).mono ?_); rintro e w2 ⟨rfl, k2⟩; have HB := Lib.hid (below_on HB.out k2); clear k2)
      | (go_at_call 22; (with_reducible refine (H3.out _).mono ?_); rintro e w2 ⟨rfl, k2⟩; have HB := Lib.hid (below_on HB.out k2); clear k2)
      | (go_at_call 22; (with_reducible refine (H4.out _).mono ?_); rintro e w2 ⟨rfl, k2⟩; have HB := Lib.hid (below_on HB.out k2); clear k2)
      | (go_at_call 22; (with_reducible refine (H5.out _).mono ?_); rintro e w2 ⟨rfl, k2⟩; have HB := Lib.hid (below_on HB.out k2); clear k2)
      | (go_at_call 24; (with_reducible refine (O1.out _).mono ?_); rintro e w2 ⟨rfl, k2⟩; have HB := Lib.hid (below_on HB.out k2); clear k2)
      | (go_at_call 24; (with_reducible refine (O2.out _).mono ?_); rintro e w2 ⟨rfl, k2⟩; have HB := Lib.hid (below_on HB.out k2); clear k2)
      | (go_at_call 25; (with_reducible refine (P1.out _).mono ?_); rintro e w2 ⟨rfl, k2⟩; have HB := Lib.hid (below_on HB.out k2); clear k2)
      | (go_at_call 26; (with_reducible refine (M1.out _).mono ?_); rintro e w2 ⟨rfl, k2⟩; have HB := Lib.hid (below_on HB.out k2); clear k2)
      | (go_at_call 25; (with_reducible refine (P2.out _).mono ?_); rintro e w2 ⟨rfl, k2⟩; have HB := Lib.hid (below_on HB.out k2); clear k2)
      | (go_at_call 27; (with_reducible refine (R1.out _).mono ?_); rintro e w2 ⟨rfl, k2⟩; have HB := Lib.hid (below_on HB.out k2); clear k2)
      | (go_at_call 23; (with_reducible refine (S1.out _).mono ?_); rintro e w2 ⟨rfl, k2⟩; have HB := Lib.hid (below_on HB.out k2); clear k2)
      | (go_at_call 23; (with_reducible refine (S2.out _).mono ?_); rintro e w2 ⟨rfl, k2⟩; have HB := Lib.hid (below_on HB.out k2); clear k2)
      | (go_at_call 23; (with_reducible refine (S3.out _).mono ?_); rintro e w2 ⟨rfl, k2⟩; have HB := Lib.hid (below_on HB.out k2); clear k2))
    go_ret
    exact ⟨rfl, HB.out⟩
  have hqi : InR (quoF x y) := by
    by_cases h1 : y = -1
    · subst h1
      rw [quoF_neg]
      unfold InR at *
      omega
    · exact quoF_in hx h0 h1
  have H4 : Hid (TwoAt 4 x y (quoF x y) 0) := two_at hx hy (by show (if y = 0 then 0 else fitV (quoF x y)) = _; rw [if_neg h0]; exact (fit_yes (inR_is.2 hqi)).1) (by show (if y = 0 then 8 else fitE (quoF x y)) = _; rw [if_neg h0]; exact (fit_yes (inR_is.2 hqi)).2)
  have H5 : Hid (TwoAt 5 y x (remF x y) 0) := two_at hy hx hrv rfl
  obtain ⟨R2, O3, P3⟩ := HQ.out h0 hqi
  have R2 := Lib.hid R2
  have O3 := Lib.hid O3
  have P3 := Lib.hid P3
  have hn : (0 < y ∧ 0 ≤ remF x y ∧ remF x y < y) ∨ (y < 0 ∧ ¬ 0 < y ∧ remF x y ≤ 0 ∧ y < remF x y) := by
    rcases Int.lt_trichotomy y 0 with h | h | h
    · have := rem_neg (x := x) h; exact .inr ⟨h, by omega, this.1, this.2⟩
    · exact absurd h h0
    · have := rem_pos (x := x) h; exact .inl ⟨h, this.1, this.2⟩
  generalize quoF x y = q at *
  generalize remF x y = r at *
  clear HQ hqi hrv
  have hm2 : (x == -9223372036854775808) = false ∨ ((x == -9223372036854775808) = true ∧ x = -9223372036854775808 ∧ (y == -1) = false) := by
    by_cases h : x = -9223372036854775808
    · right
      have : ¬ y = -1 := fun e => hm ⟨h, e⟩
      exact ⟨by simp [h], h, by simp [this]⟩
    · left; simp [h]
  clear hx hy hsb hdb h0 hm
  rcases hm2 with d1 | ⟨d1, rfl, d2⟩
  · rcases hn with ⟨n1, n2, n3⟩ | ⟨n1, n2, n3, n4⟩
    ·
      go_enter Try.func4, Try.ntmps4
      go_wp2_with (first
        | (go_at_call 21; (with_reducible refine (HA.out _).mono ?_); rintro e w2 ⟨rfl, k2⟩; have HB := Lib.hid (below_on HB.out k2); clear k2)
        | (go_at_call 22; (with_reducible refine (H1.out _).mono ?_); rintro e w2 ⟨rfl, k2⟩; have HB := Lib.hid (below_on HB.out k2); clear k2)
        | (go_at_call 22; (with_reducible refine (H2.out _).mono ?_); rintro e w2 ⟨rfl, k2⟩; have HB := Lib.hid (below_on HB.out k2); clear k2)
        | (go_at_call 22; (with_reducible refine (H3.out _).mono ?_); rintro e w2 ⟨rfl, k2⟩; have HB := Lib.hid (below_on HB.out k2); clear k2)
        | (go_at_call 22; (with_reducible refine (H4.out _).mono ?_); rintro e w2 ⟨rfl, k2⟩; have HB := Lib.hid (below_on HB.out k2); clear k2)
        | (go_at_call 22; (with_reducible refine (H5.out _).mono ?_); rintro e w2 ⟨rfl, k2⟩; have HB := Lib.hid (below_on HB.out k2); clear k2)
        | (go_at_call 24; (with_reducible refine (O1.out _).mono ?_); rintro e w2 ⟨rfl, k2⟩; have HB := Lib.hid (below_on HB.out k2); clear k2)
        | (go_at_call 24; (with_reducible refine (O2.out _).mono ?_); rintro e w2 ⟨rfl, k2⟩; have HB := Lib.hid (below_on HB.out k2); clear k2)
        | (go_at_call 25; (with_reducible refine (P1.out _).mono ?_); rintro e w2 ⟨rfl, k2⟩; have HB := Lib.hid (below_on HB.out k2); clear k2)
        | (go_at_call 26; (with_reducible refine (M1.out _).mono ?_); rintro e w2 ⟨rfl, k2⟩; have HB := Lib.hid (below_on HB.out k2); clear k2)
        | (go_at_call 25; (with_reducible refine (P2.out _).mono ?_); rintro e w2 ⟨rfl, k2⟩; have HB := Lib.hid (below_on HB.out k2); clear k2)
        | (go_at_call 27; (with_reducible refine (R1.out _).mono ?_); rintro e w2 ⟨rfl, k2⟩; have HB := Lib.hid (below_on HB.out k2); clear k2)
        | (go_at_call 23; (with_reducible refine (S1.out _).mono ?_); rintro e w2 ⟨rfl, k2⟩; have HB := Lib.hid (below_on HB.out k2); clear k2)
        | (go_at_call 23; (with_reducible refine (S2.out _).mono ?_); rintro e w2 ⟨rfl, k2⟩; have HB := Lib.hid (below_on HB.out k2); clear k2)
        | (go_at_call 23; (with_reducible refine (S3.out _).mono ?_); rintro e w2 ⟨rfl, k2⟩; have HB := Lib.hid (below_on HB.out k2); clear k2)
        | (go_at_call 27; (with_reducible refine (R2.out _).mono ?_); rintro e w2 ⟨rfl, k2⟩; have HB := Lib.hid (below_on HB.out k2); clear k2)
        | (go_at_call 24; (with_reducible refine (O3.out _).mono ?_); rintro e w2 ⟨rfl, k2⟩; have HB := Lib.hid (below_on HB.out k2); clear k2)
        | (go_at_call 25; (with_reducible refine (P3.out _).mono ?_); rintro e w2 ⟨rfl, k2⟩; have HB := Lib.hid (below_on HB.out k2); clear k2))
      go_ret
      exact ⟨rfl, HB.out⟩
    ·
      go_enter Try.func4, Try.ntmps4
      go_wp2_with (first
        | (go_at_call 21; (with_reducible refine (HA.out _).mono ?_); rintro e w2 ⟨rfl, k2⟩; have HB := Lib.hid (below_on HB.out k2); clear k2)
        | (go_at_call 22; (with_reducible refine (H1.out _).mono ?_); rintro e w2 ⟨rfl, k2⟩; have HB := Lib.hid (below_on HB.out k2); clear k2)
        | (go_at_call 22; (with_reducible refine (H2.out _).mono ?_); rintro e w2 ⟨rfl, k2⟩; have HB := Lib.hid (below_on HB.out k2); clear k2)
        | (go_at_call 22; (with_reducible refine (H3.out _).mono ?_); rintro e w2 ⟨rfl, k2⟩; have HB := Lib.hid (below_on HB.out k2); clear k2)
        | (go_at_call 22; (with_reducible refine (H4.out _).mono ?_); rintro e w2 ⟨rfl, k2⟩; have HB := Lib.hid (below_on HB.out k2); clear k2)
        | (go_at_call 22; (with_reducible refine (H5.out _).mono ?_); rintro e w2 ⟨rfl, k2⟩; have HB := Lib.hid (below_on HB.out k2); clear k2)
        | (go_at_call 24; (with_reducible refine (O1.out _).mono ?_); rintro e w2 ⟨rfl, k2⟩; have HB := Lib.hid (below_on HB.out k2); clear k2)
        | (go_at_call 24; (with_reducible refine (O2.out _).mono ?_); rintro e w2 ⟨rfl, k2⟩; have HB := Lib.hid (below_on HB.out k2); clear k2)
        | (go_at_call 25; (with_reducible refine (P1.out _).mono ?_); rintro e w2 ⟨rfl, k2⟩; have HB := Lib.hid (below_on HB.out k2); clear k2)
        | (go_at_call 26; (with_reducible refine (M1.out _).mono ?_); rintro e w2 ⟨rfl, k2⟩; have HB := Lib.hid (below_on HB.out k2); clear k2)
        | (go_at_call 25; (with_reducible refine (P2.out _).mono ?_); rintro e w2 ⟨rfl, k2⟩; have HB := Lib.hid (below_on HB.out k2); clear k2)
        | (go_at_call 27; (with_reducible refine (R1.out _).mono ?_); rintro e w2 ⟨rfl, k2⟩; have HB := Lib.hid (below_on HB.out k2); clear k2)
        | (go_at_call 23; (with_reducible refine (S1.out _).mono ?_); rintro e w2 ⟨rfl, k2⟩; have HB := Lib.hid (below_on HB.out k2); clear k2)
        | (go_at_call 23; (with_reducible refine (S2.out _).mono ?_); rintro e w2 ⟨rfl, k2⟩; have HB := Lib.hid (below_on HB.out k2); clear k2)
        | (go_at_call 23; (with_reducible refine (S3.out _).mono ?_); rintro e w2 ⟨rfl, k2⟩; have HB := Lib.hid (below_on HB.out k2); clear k2)
        | (go_at_call 27; (with_reducible refine (R2.out _).mono ?_); rintro e w2 ⟨rfl, k2⟩; have HB := Lib.hid (below_on HB.out k2); clear k2)
        | (go_at_call 24; (with_reducible refine (O3.out _).mono ?_); rintro e w2 ⟨rfl, k2⟩; have HB := Lib.hid (below_on HB.out k2); clear k2)
        | (go_at_call 25; (with_reducible refine (P3.out _).mono ?_); rintro e w2 ⟨rfl, k2⟩; have HB := Lib.hid (below_on HB.out k2); clear k2))
      go_ret
      exact ⟨rfl, HB.out⟩
  · rcases hn with ⟨n1, n2, n3⟩ | ⟨n1, n2, n3, n4⟩
    all_goals clear d1
    ·
      go_enter Try.func4, Try.ntmps4
      go_wp2_with (first
        | (go_at_call 21; (with_reducible refine (HA.out _).mono ?_); rintro e w2 ⟨rfl, k2⟩; have HB := Lib.hid (below_on HB.out k2); clear k2)
        | (go_at_call 22; (with_reducible refine (H1.out _).mono ?_); rintro e w2 ⟨rfl, k2⟩; have HB := Lib.hid (below_on HB.out k2); clear k2)
        | (go_at_call 22; (with_reducible refine (H2.out _).mono ?_); rintro e w2 ⟨rfl, k2⟩; have HB := Lib.hid (below_on HB.out k2); clear k2)
        | (go_at_call 22; (with_reducible refine (H3.out _).mono ?_); rintro e w2 ⟨rfl, k2⟩; have HB := Lib.hid (below_on HB.out k2); clear k2)
        | (go_at_call 22; (with_reducible refine (H4.out _).mono ?_); rintro e w2 ⟨rfl, k2⟩; have HB := Lib.hid (below_on HB.out k2); clear k2)
        | (go_at_call 22; (with_reducible refine (H5.out _).mono ?_); rintro e w2 ⟨rfl, k2⟩; have HB := Lib.hid (below_on HB.out k2); clear k2)
        | (go_at_call 24; (with_reducible refine (O1.out _).mono ?_); rintro e w2 ⟨rfl, k2⟩; have HB := Lib.hid (below_on HB.out k2); clear k2)
        | (go_at_call 24; (with_reducible refine (O2.out _).mono ?_); rintro e w2 ⟨rfl, k2⟩; have HB := Lib.hid (below_on HB.out k2); clear k2)
        | (go_at_call 25; (with_reducible refine (P1.out _).mono ?_); rintro e w2 ⟨rfl, k2⟩; have HB := Lib.hid (below_on HB.out k2); clear k2)
        | (go_at_call 26; (with_reducible refine (M1.out _).mono ?_); rintro e w2 ⟨rfl, k2⟩; have HB := Lib.hid (below_on HB.out k2); clear k2)
        | (go_at_call 25; (with_reducible refine (P2.out _).mono ?_); rintro e w2 ⟨rfl, k2⟩; have HB := Lib.hid (below_on HB.out k2); clear k2)
        | (go_at_call 27; (with_reducible refine (R1.out _).mono ?_); rintro e w2 ⟨rfl, k2⟩; have HB := Lib.hid (below_on HB.out k2); clear k2)
        | (go_at_call 23; (with_reducible refine (S1.out _).mono ?_); rintro e w2 ⟨rfl, k2⟩; have HB := Lib.hid (below_on HB.out k2); clear k2)
        | (go_at_call 23; (with_reducible refine (S2.out _).mono ?_); rintro e w2 ⟨rfl, k2⟩; have HB := Lib.hid (below_on HB.out k2); clear k2)
        | (go_at_call 23; (with_reducible refine (S3.out _).mono ?_); rintro e w2 ⟨rfl, k2⟩; have HB := Lib.hid (below_on HB.out k2); clear k2)
        | (go_at_call 27; (with_reducible refine (R2.out _).mono ?_); rintro e w2 ⟨rfl, k2⟩; have HB := Lib.hid (below_on HB.out k2); clear k2)
        | (go_at_call 24; (with_reducible refine (O3.out _).mono ?_); rintro e w2 ⟨rfl, k2⟩; have HB := Lib.hid (below_on HB.out k2); clear k2)
        | (go_at_call 25; (with_reducible refine (P3.out _).mono ?_); rintro e w2 ⟨rfl, k2⟩; have HB := Lib.hid (below_on HB.out k2); clear k2))
      go_ret
      exact ⟨rfl, HB.out⟩
    ·
      go_enter Try.func4, Try.ntmps4
      go_wp2_with (first
        | (go_at_call 21; (with_reducible refine (HA.out _).mono ?_); rintro e w2 ⟨rfl, k2⟩; have HB := Lib.hid (below_on HB.out k2); clear k2)
        | (go_at_call 22; (with_reducible refine (H1.out _).mono ?_); rintro e w2 ⟨rfl, k2⟩; have HB := Lib.hid (below_on HB.out k2); clear k2)
        | (go_at_call 22; (with_reducible refine (H2.out _).mono ?_); rintro e w2 ⟨rfl, k2⟩; have HB := Lib.hid (below_on HB.out k2); clear k2)
        | (go_at_call 22; (with_reducible refine (H3.out _).mono ?_); rintro e w2 ⟨rfl, k2⟩; have HB := Lib.hid (below_on HB.out k2); clear k2)
        | (go_at_call 22; (with_reducible refine (H4.out _).mono ?_); rintro e w2 ⟨rfl, k2⟩; have HB := Lib.hid (below_on HB.out k2); clear k2)
        | (go_at_call 22; (with_reducible refine (H5.out _).mono ?_); rintro e w2 ⟨rfl, k2⟩; have HB := Lib.hid (below_on HB.out k2); clear k2)
        | (go_at_call 24; (with_reducible refine (O1.out _).mono ?_); rintro e w2 ⟨rfl, k2⟩; have HB := Lib.hid (below_on HB.out k2); clear k2)
        | (go_at_call 24; (with_reducible refine (O2.out _).mono ?_); rintro e w2 ⟨rfl, k2⟩; have HB := Lib.hid (below_on HB.out k2); clear k2)
        | (go_at_call 25; (with_reducible refine (P1.out _).mono ?_); rintro e w2 ⟨rfl, k2⟩; have HB := Lib.hid (below_on HB.out k2); clear k2)
        | (go_at_call 26; (with_reducible refine (M1.out _).mono ?_); rintro e w2 ⟨rfl, k2⟩; have HB := Lib.hid (below_on HB.out k2); clear k2)
        | (go_at_call 25; (with_reducible refine (P2.out _).mono ?_); rintro e w2 ⟨rfl, k2⟩; have HB := Lib.hid (below_on HB.out k2); clear k2)
        | (go_at_call 27; (with_reducible refine (R1.out _).mono ?_); rintro e w2 ⟨rfl, k2⟩; have HB := Lib.hid (below_on HB.out k2); clear k2)
        | (go_at_call 23; (with_reducible refine (S1.out _).mono ?_); rintro e w2 ⟨rfl, k2⟩; have HB := Lib.hid (below_on HB.out k2); clear k2)
        | (go_at_call 23; (with_reducible refine (S2.out _).mono ?_); rintro e w2 ⟨rfl, k2⟩; have HB := Lib.hid (below_on HB.out k2); clear k2)
        | (go_at_call 23; (with_reducible refine (S3.out _).mono ?_); rintro e w2 ⟨rfl, k2⟩; have HB := Lib.hid (below_on HB.out k2); clear k2)
        | (go_at_call 27; (with_reducible refine (R2.out _).mono ?_); rintro e w2 ⟨rfl, k2⟩; have HB := Lib.hid (below_on HB.out k2); clear k2)
        | (go_at_call 24; (with_reducible refine (O3.out _).mono ?_); rintro e w2 ⟨rfl, k2⟩; have HB := Lib.hid (below_on HB.out k2); clear k2)
        | (go_at_call 25; (with_reducible refine (P3.out _).mono ?_); rintro e w2 ⟨rfl, k2⟩; have HB := Lib.hid (below_on HB.out k2); clear k2))
      go_ret
      exact ⟨rfl, HB.out⟩
theorem call (x : Int) (hx0 : -9223372036854775808 ≤ x) (hx1 : x ≤ 9223372036854775807) (y : Int) (hy0 : -9223372036854775808 ≤ y) (hy1 : y ≤ 9223372036854775807) (w : World) :
    Calls Try.prog 4 #[.int .i64 x, .int .i64 y] w fun e w' => e = .returned (.bool true) ∧ Below w.heap.size w w' := walk x y ⟨hx0, hx1⟩ ⟨hy0, hy1⟩ w
end Go.Proofs.Ytkdnaebmifjmcaa.scalarWhole

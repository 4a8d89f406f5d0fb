/-
  Layer 12 (scalar): powers, and, or.
-/
import Derived.Test.YtkabdkblcgklmaaScPr
namespace Go.Proofs.Ytkabdkblcgklmaa.sc
open Go.RowKit

theorem pow_step {x : Int} {k : Nat} (h : inR (x ^ k) = true) : fitV (fitV (x ^ k) * x) = fitV (x ^ (k + 1)) ∧ fitE (fitV (x ^ k) * x) = fitE (x ^ (k + 1)) := by
  rw [(fit_yes h).1, ← Int.pow_succ]
  exact ⟨rfl, rfl⟩
theorem pow_stop {x : Int} {k n : Nat} (hx : 2 ≤ x.natAbs) (hk : k ≤ n) (h : inR (x ^ k) = false) : fitV (x ^ k) = fitV (x ^ n) ∧ fitE (x ^ k) = fitE (x ^ n) := by
  have hn : inR (x ^ n) = false := by
    obtain ⟨j, rfl⟩ := Nat.le.dest hk
    exact inR_not.2 (pow_out hx k j (inR_not.1 h))
  rw [(fit_no h).1, (fit_no h).2, (fit_no hn).1, (fit_no hn).2]
  exact ⟨rfl, rfl⟩

set_option maxHeartbeats 1000000 in
theorem prrep_any (x : Int) (y : Nat) (hx : InR x) (h2 : 2 ≤ x.natAbs) (hy1 : 1 ≤ y) (hy : (y : Int) ≤ 9223372036854775807) (w : World) :
    Calls Try.prog 194 #[.agg #[.int .i64 x, .int .i64 (y : Int)]] w fun e w' => e = .returned (.tuple #[.int .i64 (fitV (x ^ y)), .int .i64 (fitE (x ^ y))]) ∧ Below w.heap.size w w' := by
  have HP := Lib.hid (fun n (hn : InR n) W => prprod_any n x hn hx W)
  have HST := Lib.hid (fun (k : Nat) => pow_step (x := x) (k := k))
  have HSP := Lib.hid (fun (k : Nat) (hk : k ≤ y) => pow_stop (n := y) h2 hk)
  have h1 : fitV (x ^ 1) = x ∧ fitE (x ^ 1) = 0 := by
    rw [Int.pow_one]
    exact fit_yes (inR_is.2 hx)
  have H1 := Lib.hid h1
  have HI := Lib.hid (fun (k : Nat) => fitV_inR (x ^ k))
  clear h1 h2 hx
  go_enter Try.func194, Try.ntmps194
  go_wp2
  go_loopw [6, 4, 5] (fun t n e wr => ∃ k : Nat, 1 ≤ k ∧ k ≤ y ∧ t = .int .i64 (k : Int) ∧ n = .int .i64 (fitV (x ^ k)) ∧ e = .int .i64 (fitE (x ^ k)) ∧ Below w.heap.size w wr ∧ Blk wr w.heap.size 123 #[.int .i64 x, .int .i64 (y : Int)]) (fun t _ _ _ => y - (intOf t).toNat)
  case atStart => exact ⟨1, Nat.le_refl _, hy1, rfl, by rw [H1.out.1], by rw [H1.out.2], alloc_below _ _, Blk.new _ _ _⟩
  case round =>
    obtain ⟨k, hk1, hk, rfl, rfl, rfl, hb, hx⟩ := hrel
    have c0 := hx.cell 0
    have c1 := hx.cell 1
    have HB := Lib.hid hb
    have HX := Lib.hid hx
    have HIK := Lib.hid (HI.out k)
    have hst := HST.out k
    have hsp := HSP.out k hk
    have hfe : fitE (x ^ k) = (if inR (x ^ k) = true then 0 else 7) := rfl
    have hI2 : Hid (InR (fitV (x ^ k))) := HIK
    generalize hV : fitV (x ^ k) = V at *
    generalize hE : fitE (x ^ k) = E at *
    have HV := Lib.hid hV
    have HE := Lib.hid hE
    have HPV := Lib.hid (HP.out V hI2.out)
    clear hb hx hV hE
    cases hin : inR (x ^ k)
    · rw [hin] at hfe
      obtain rfl : E = 7 := hfe
      have HS := Lib.hid (hsp hin)
      clear hst hsp hin
      have d7 : ((7 : Int) == 0) = false := by decide
      by_cases hlt : (k : Int) < (y : Int)
      · go_wp2
        go_ret2
        exact ⟨by rw [← HS.out.1, ← HS.out.2]; rfl, HB.out⟩
      · go_wp2
        go_ret2
        exact ⟨by rw [← HS.out.1, ← HS.out.2]; rfl, HB.out⟩
    · rw [hin] at hfe
      obtain rfl : E = 0 := hfe
      have HS := Lib.hid (hst hin)
      clear hst hsp hin
      by_cases hlt : (k : Int) < (y : Int)
      · go_wp2_with ((with_reducible refine (HPV.out _).mono ?_); rintro e w2 ⟨rfl, b2⟩)
        exact ⟨⟨k + 1, by omega, by omega, by go_num, by rw [HS.out.1], by rw [HS.out.2], below_on HB.out b2, HX.out.below b2 HX.out.lt⟩, by simp [intOf]; omega⟩
      · obtain rfl : k = y := by omega
        go_wp2
        go_ret2
        exact ⟨by rw [HV.out, HE.out]; rfl, HB.out⟩/-! ### Power, and, or -/
theorem prpow_any (x y : Int) (hx : InR x) (hy : InR y) (w : World) : Calls Try.prog 146 #[.agg #[.int .i64 x, .int .i64 y]] w fun e w' => e = .returned (.tuple #[.int .i64 (powV x y), .int .i64 (powE x y)]) ∧ Below w.heap.size w w' := by
  unfold powV powE
  by_cases h0 : y = 0
  · subst h0
    rw [if_pos (.inl rfl), if_pos (.inl rfl)]
    clear hx hy
    go_enter Try.func146, Try.ntmps146
    go_wp2
    go_ret2
    exact ⟨rfl, alloc_below _ _⟩
  have d0 : (y == 0) = false := by simp [h0]
  by_cases h1 : x = 1
  · subst h1
    rw [if_pos (.inr rfl), if_pos (.inr rfl)]
    clear hx hy h0
    go_enter Try.func146, Try.ntmps146
    go_wp2
    go_ret2
    exact ⟨rfl, alloc_below _ _⟩
  have d1 : (x == 1) = false := by simp [h1]
  have hc : ¬ (y = 0 ∨ x = 1) := fun h => h.elim h0 h1
  rw [if_neg hc, if_neg hc]
  clear hc
  by_cases hm : x = -1
  · subst hm
    rw [if_pos rfl, if_pos rfl]
    have ha := and_one y
    obtain ⟨b, hb⟩ : ∃ b, y % 2 = b := ⟨_, rfl⟩
    have hb2 : b = 0 ∨ b = 1 := by omega
    rw [hb] at ha ⊢
    rcases hb2 with rfl | rfl
    · rw [if_pos rfl]
      clear hx hy hb h0 h1 d1
      go_enter Try.func146, Try.ntmps146
      go_wp2
      go_ret2
      exact ⟨rfl, alloc_below _ _⟩
    · rw [if_neg (by decide)]
      clear hx hy hb h0 h1 d1
      go_enter Try.func146, Try.ntmps146
      go_wp2
      go_ret2
      exact ⟨rfl, alloc_below _ _⟩
  have dm : (x == -1) = false := by simp [hm]
  rw [if_neg hm, if_neg hm]
  by_cases hn : y < 0
  · rw [if_pos hn, if_pos hn]
    clear hx hy h0 h1 hm
    go_enter Try.func146, Try.ntmps146
    go_wp2
    go_ret2
    exact ⟨rfl, alloc_below _ _⟩
  rw [if_neg hn, if_neg hn]
  by_cases hz : x = 0
  · subst hz
    rw [if_pos rfl, if_pos rfl]
    clear hx hy h0 h1 hm
    go_enter Try.func146, Try.ntmps146
    go_wp2
    go_ret2
    exact ⟨rfl, alloc_below _ _⟩
  have dz : (x == 0) = false := by simp [hz]
  rw [if_neg hz, if_neg hz]
  obtain ⟨n, hN⟩ := Int.eq_ofNat_of_zero_le (a := y) (by omega)
  subst hN
  rw [Int.toNat_natCast]
  have H := Lib.hid (fun W => prrep_any x n hx (by omega) (by omega) hy.2 W)
  generalize fitV (x ^ n) = V at *
  generalize fitE (x ^ n) = E at *
  have hx1 := (Blk.new w 123 #[.int .i64 x, .int .i64 (n : Int)])
  have c0 := hx1.cell 0
  have c1 := hx1.cell 1
  clear hx hy h0 h1 hm hz hx1
  go_enter Try.func146, Try.ntmps146
  go_wp2_with (go_at_call 194; refine (H.out _).mono ?_; rintro e w2 ⟨rfl, b2⟩)
  go_ret2
  exact ⟨rfl, below_on (alloc_below _ _) b2⟩

theorem prand_any (x y : Int) (w : World) : Calls Try.prog 153 #[.agg #[.int .i64 x, .int .i64 y]] w fun e w' => e = .returned (.tuple #[.int .i64 (if (isT x && isT y) = true then truthV (decide (x = 1) && decide (y = 1)) else 0), .int .i64 (if (isT x && isT y) = true then 0 else 5)]) ∧ Below w.heap.size w w' := by
  have HX := Lib.hid (fun W => scistruth_any x W)
  have HY := Lib.hid (fun W => scistruth_any y W)
  cases h : isT x
  · rw [h] at HX
    rw [Bool.false_and, if_neg (by decide), if_neg (by decide)]
    clear h
    go_enter Try.func153, Try.ntmps153
    go_wp2_with (go_at_call 195; refine (HX.out _).mono ?_; rintro e _ ⟨rfl, rfl⟩)
    go_ret2
    exact ⟨rfl, alloc_below _ _⟩
  · cases h2 : isT y
    · rw [h] at HX
      rw [h2] at HY
      rw [Bool.true_and, if_neg (by decide), if_neg (by decide)]
      clear h h2
      go_enter Try.func153, Try.ntmps153
      go_wp2_with (first
        | (go_at_call 195; (have l0 := M1.out; clear l0); refine (HY.out _).mono ?_; rintro e _ ⟨rfl, rfl⟩)
        | (go_at_call 195; refine (HX.out _).mono ?_; rintro e _ ⟨rfl, rfl⟩; have M1 : Hid (1 = 1) := Lib.hid rfl))
      go_ret2
      exact ⟨rfl, alloc_below _ _⟩
    · rw [h] at HX
      rw [h2] at HY
      rw [Bool.true_and, if_pos rfl, if_pos rfl]
      rcases isT_iff.1 h with rfl | rfl <;> rcases isT_iff.1 h2 with rfl | rfl
      all_goals
        clear h h2
        go_enter Try.func153, Try.ntmps153
        go_wp2_with (first
          | (go_at_call 195; (have l0 := M1.out; clear l0); refine (HY.out _).mono ?_; rintro e _ ⟨rfl, rfl⟩)
          | (go_at_call 195; refine (HX.out _).mono ?_; rintro e _ ⟨rfl, rfl⟩; have M1 : Hid (1 = 1) := Lib.hid rfl))
        go_ret2
        exact ⟨rfl, alloc_below _ _⟩

theorem pror_any (x y : Int) (w : World) : Calls Try.prog 154 #[.agg #[.int .i64 x, .int .i64 y]] w fun e w' => e = .returned (.tuple #[.int .i64 (if (isT x && isT y) = true then truthV (decide (x = 1) || decide (y = 1)) else 0), .int .i64 (if (isT x && isT y) = true then 0 else 5)]) ∧ Below w.heap.size w w' := by
  have HX := Lib.hid (fun W => scistruth_any x W)
  have HY := Lib.hid (fun W => scistruth_any y W)
  cases h : isT x
  · rw [h] at HX
    rw [Bool.false_and, if_neg (by decide), if_neg (by decide)]
    clear h
    go_enter Try.func154, Try.ntmps154
    go_wp2_with (go_at_call 195; refine (HX.out _).mono ?_; rintro e _ ⟨rfl, rfl⟩)
    go_ret2
    exact ⟨rfl, alloc_below _ _⟩
  · cases h2 : isT y
    · rw [h] at HX
      rw [h2] at HY
      rw [Bool.true_and, if_neg (by decide), if_neg (by decide)]
      clear h h2
      go_enter Try.func154, Try.ntmps154
      go_wp2_with (first
        | (go_at_call 195; (have l0 := M1.out; clear l0); refine (HY.out _).mono ?_; rintro e _ ⟨rfl, rfl⟩)
        | (go_at_call 195; refine (HX.out _).mono ?_; rintro e _ ⟨rfl, rfl⟩; have M1 : Hid (1 = 1) := Lib.hid rfl))
      go_ret2
      exact ⟨rfl, alloc_below _ _⟩
    · rw [h] at HX
      rw [h2] at HY
      rw [Bool.true_and, if_pos rfl, if_pos rfl]
      rcases isT_iff.1 h with rfl | rfl <;> rcases isT_iff.1 h2 with rfl | rfl
      all_goals
        clear h h2
        go_enter Try.func154, Try.ntmps154
        go_wp2_with (first
          | (go_at_call 195; (have l0 := M1.out; clear l0); refine (HY.out _).mono ?_; rintro e _ ⟨rfl, rfl⟩)
          | (go_at_call 195; refine (HX.out _).mono ?_; rintro e _ ⟨rfl, rfl⟩; have M1 : Hid (1 = 1) := Lib.hid rfl))
        go_ret2
        exact ⟨rfl, alloc_below _ _⟩

end Go.Proofs.Ytkabdkblcgklmaa.sc

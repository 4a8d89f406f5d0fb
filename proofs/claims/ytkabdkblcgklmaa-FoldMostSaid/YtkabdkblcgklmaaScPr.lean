/-
  Layer 12 (scalar): what a function does with its pair.
-/
import Derived.Test.YtkabdkblcgklmaaScForm
namespace Go.Proofs.Ytkabdkblcgklmaa.sc
open Go.RowKit

theorem alloc_below (w : World) (o : Obj) : Below w.heap.size w (w.alloc o) := (Below.refl _ _).alloc (Nat.le_refl _) _
theorem below_on {w w1 w2 : World} (h : Below w.heap.size w w1) (k : Below w1.heap.size w1 w2) : Below w.heap.size w w2 := h.trans (k.mono h.size)

theorem sctruth_any (b : Bool) (w : World) : Calls Try.prog 93 #[.bool b] w fun e w' => e = .returned (.tuple #[.int .i64 (truthV b), .int .i64 0]) ∧ w = w' := by
  cases b
  · go_enter Try.func93, Try.ntmps93
    go_wp2
    go_ret2
    exact ⟨rfl, rfl⟩
  · go_enter Try.func93, Try.ntmps93
    go_wp2
    go_ret2
    exact ⟨rfl, rfl⟩
theorem scistruth_any (n : Int) (w : World) : Calls Try.prog 195 #[.int .i64 n] w fun e w' => e = .returned (.bool (isT n)) ∧ w = w' := by
  unfold isT
  by_cases h0 : n = 0
  · subst h0
    go_enter Try.func195, Try.ntmps195
    go_wp2
    go_ret
    exact ⟨rfl, rfl⟩
  · have d0 : (n == 0) = false := by simp [h0]
    rw [decide_eq_false h0, Bool.false_or]
    by_cases h1 : n = 1
    · subst h1
      go_enter Try.func195, Try.ntmps195
      go_wp2
      go_ret
      exact ⟨rfl, rfl⟩
    · have d1 : (n == 1) = false := by simp [h1]
      rw [decide_eq_false h1]
      go_enter Try.func195, Try.ntmps195
      go_wp2
      go_ret
      exact ⟨rfl, rfl⟩

theorem prsum_any (x y : Int) (hx : InR x) (hy : InR y) (w : World) : Calls Try.prog 139 #[.agg #[.int .i64 x, .int .i64 y]] w fun e w' => e = .returned (.tuple #[.int .i64 (fitV (x + y)), .int .i64 (fitE (x + y))]) ∧ Below w.heap.size w w' := by
  obtain ⟨n, hn⟩ : ∃ n, n = wrap64 (x + y) := ⟨_, rfl⟩
  have e1 : wrap64 (x + y) = n := hn.symm
  obtain ⟨s1, s2⟩ := sum_go hn hx hy
  cases h : inR (x + y)
  · have d := s2 h
    rw [(fit_no h).1, (fit_no h).2]
    clear s1 s2 hn hx hy h
    rcases d with ⟨d1, d2⟩ | ⟨d1, d2⟩
    ·
      go_enter Try.func139, Try.ntmps139
      go_wp2
      go_ret2
      exact ⟨rfl, alloc_below _ _⟩
    ·
      go_enter Try.func139, Try.ntmps139
      go_wp2
      go_ret2
      exact ⟨rfl, alloc_below _ _⟩
  · obtain ⟨s3, d⟩ := s1 h
    rw [(fit_yes h).1, (fit_yes h).2, ← s3]
    clear s1 s2 s3 hn hx hy h
    rcases d with ⟨d1, d2⟩ | ⟨d1, d2⟩
    ·
      go_enter Try.func139, Try.ntmps139
      go_wp2
      go_ret2
      exact ⟨by rw [← e1]; rfl, alloc_below _ _⟩
    ·
      go_enter Try.func139, Try.ntmps139
      go_wp2
      go_ret2
      exact ⟨by rw [← e1]; rfl, alloc_below _ _⟩
theorem prdiff_any (x y : Int) (hx : InR x) (hy : InR y) (w : World) : Calls Try.prog 140 #[.agg #[.int .i64 x, .int .i64 y]] w fun e w' => e = .returned (.tuple #[.int .i64 (fitV (x - y)), .int .i64 (fitE (x - y))]) ∧ Below w.heap.size w w' := by
  obtain ⟨n, hn⟩ : ∃ n, n = wrap64 (x - y) := ⟨_, rfl⟩
  have e1 : wrap64 (x - y) = n := hn.symm
  obtain ⟨s1, s2⟩ := diff_go hn hx hy
  cases h : inR (x - y)
  · have d := s2 h
    rw [(fit_no h).1, (fit_no h).2]
    clear s1 s2 hn hx hy h
    rcases d with ⟨d1, d2⟩ | ⟨d1, d2⟩
    ·
      go_enter Try.func140, Try.ntmps140
      go_wp2
      go_ret2
      exact ⟨rfl, alloc_below _ _⟩
    ·
      go_enter Try.func140, Try.ntmps140
      go_wp2
      go_ret2
      exact ⟨rfl, alloc_below _ _⟩
  · obtain ⟨s3, d⟩ := s1 h
    rw [(fit_yes h).1, (fit_yes h).2, ← s3]
    clear s1 s2 s3 hn hx hy h
    rcases d with ⟨d1, d2⟩ | ⟨d1, d2⟩
    ·
      go_enter Try.func140, Try.ntmps140
      go_wp2
      go_ret2
      exact ⟨by rw [← e1]; rfl, alloc_below _ _⟩
    ·
      go_enter Try.func140, Try.ntmps140
      go_wp2
      go_ret2
      exact ⟨by rw [← e1]; rfl, alloc_below _ _⟩
theorem propp_any (x y : Int) (hy : InR y) (w : World) : Calls Try.prog 193 #[.agg #[.int .i64 x, .int .i64 y]] w fun e w' => e = .returned (.tuple #[.int .i64 (fitV (-y)), .int .i64 (fitE (-y))]) ∧ Below w.heap.size w w' := by
  have H : Hid (∀ W, Calls Try.prog 140 #[.agg #[.int .i64 0, .int .i64 y]] W fun e w' => e = .returned (.tuple #[.int .i64 (fitV (-y)), .int .i64 (fitE (-y))]) ∧ Below W.heap.size W w') := Lib.hid (fun W => by
    have h := prdiff_any 0 y (by decide) hy W
    rw [Int.zero_sub] at h
    exact h)
  clear hy
  go_enter Try.func193, Try.ntmps193
  go_wp2_with (go_at_call 140; refine (H.out _).mono ?_; rintro e w2 ⟨rfl, b2⟩)
  go_ret2
  exact ⟨rfl, below_on (alloc_below _ _) b2⟩
theorem cmpnan_any (n : Int) (w : World) : Calls Try.prog 171 #[.int .i64 n] w fun e w' => e = .returned (.bool false) ∧ w = w' := by
  go_enter Try.func171, Try.ntmps171
  go_wp2
  go_ret
  exact ⟨by simp, rfl⟩
def sgnV (y : Int) : Int := if 0 < y then 1 else if y < 0 then -1 else 0
theorem cmpl_any (y : Int) (w : World) : Calls Try.prog 103 #[.int .i64 y, .int .i64 0] w fun e w' => e = .returned (.int .i64 (sgnV y)) ∧ w = w' := by
  have H := Lib.hid (fun n => cmpnan_any n w)
  unfold sgnV
  by_cases h1 : 0 < y
  · have h2 : ¬ y < 0 := by omega
    rw [if_pos h1]
    go_enter Try.func103, Try.ntmps103
    go_wp2_with (go_at_call 171; refine (H.out _).mono ?_; rintro e _ ⟨rfl, rfl⟩)
    go_ret
    exact ⟨rfl, rfl⟩
  · rw [if_neg h1]
    by_cases h2 : y < 0
    · rw [if_pos h2]
      go_enter Try.func103, Try.ntmps103
      go_wp2_with (go_at_call 171; refine (H.out _).mono ?_; rintro e _ ⟨rfl, rfl⟩)
      go_ret
      exact ⟨rfl, rfl⟩
    · rw [if_neg h2]
      go_enter Try.func103, Try.ntmps103
      go_wp2_with (go_at_call 171; refine (H.out _).mono ?_; rintro e _ ⟨rfl, rfl⟩)
      go_ret
      exact ⟨rfl, rfl⟩
theorem sgnV_in (y : Int) : InR (sgnV y) := by
  unfold sgnV
  split
  · decide
  · split <;> decide
theorem prprod_any (x y : Int) (hx : InR x) (hy : InR y) (w : World) : Calls Try.prog 141 #[.agg #[.int .i64 x, .int .i64 y]] w fun e w' => e = .returned (.tuple #[.int .i64 (fitV (x * y)), .int .i64 (fitE (x * y))]) ∧ Below w.heap.size w w' := by
  by_cases h1 : y = -1
  · subst h1
    have H : Hid (∀ W, Calls Try.prog 193 #[.agg #[.int .i64 0, .int .i64 x]] W fun e w' => e = .returned (.tuple #[.int .i64 (fitV (x * -1)), .int .i64 (fitE (x * -1))]) ∧ Below W.heap.size W w') := Lib.hid (fun W => by
      have h := propp_any 0 x hx W
      rw [show x * -1 = -x by omega]
      exact h)
    generalize fitV (x * -1) = V at *
    generalize fitE (x * -1) = E at *
    clear hx hy
    go_enter Try.func141, Try.ntmps141
    go_wp2_with (go_at_call 193; refine (H.out _).mono ?_; rintro e w2 ⟨rfl, b2⟩)
    go_ret2
    exact ⟨rfl, below_on (alloc_below _ _) b2⟩
  have d1 : (y == -1) = false := by simp [h1]
  by_cases h0 : y = 0
  · subst h0
    have hf : inR (x * 0) = true := by rw [Int.mul_zero]; decide
    rw [(fit_yes hf).1, (fit_yes hf).2]
    clear hx hy h1 hf
    go_enter Try.func141, Try.ntmps141
    go_wp2
    go_quiet (fail)
    go_wp2
    go_ret2
    refine ⟨?_, below_drewN (alloc_below _ _) _⟩
    simp
  have d0 : (y == 0) = false := by simp [h0]
  have d00 : (y != 0) = true := by simp [h0]
  obtain ⟨n, hn⟩ : ∃ n, n = wrap64 (x * y) := ⟨_, rfl⟩
  have e1 : wrap64 (x * y) = n := hn.symm
  have hg := prod_go hn h0 h1 hy
  have hnr : InR n := by rw [hn]; unfold InR wrap64; omega
  obtain ⟨t, ht⟩ : ∃ t, Int.tdiv n y = t := ⟨_, rfl⟩
  have hti := tdiv_in hnr h0 h1
  rw [ht] at hg hti
  have e2 : IntKind.i64.wrap (Int.tdiv n y) = t := by rw [ht]; exact IntWalk.i64_in _ hti
  have e3 : wrap64 (Int.tdiv n y) = t := by rw [ht]; exact IntWalk.wrap64_in _ hti
  cases h : inR (x * y)
  · have hne : ¬ t = x := fun e => by rw [hg] at e; exact inR_not.1 h e
    have d2 : (t != x) = true := by simp [hne]
    have d3 : (t == x) = false := by simp [hne]
    rw [(fit_no h).1, (fit_no h).2]
    unfold InR at hti
    clear hg hn hx hy h hne hnr h1
    go_enter Try.func141, Try.ntmps141
    go_wp2
    go_quiet (fail)
    go_wp2
    go_ret2
    exact ⟨rfl, below_drewN (alloc_below _ _) _⟩
  · have he : t = x := hg.2 (inR_is.1 h)
    have hnx : n = x * y := by
      have := IntWalk.wrap64_in _ (inR_iff.1 h)
      rw [← hn] at this
      exact this
    rw [(fit_yes h).1, (fit_yes h).2, ← hnx]
    subst he
    unfold InR at hti
    clear hg hn hx hy h hnr h1 hnx
    go_enter Try.func141, Try.ntmps141
    go_wp2
    go_quiet (fail)
    go_wp2
    go_ret2
    exact ⟨by rw [← e1]; rfl, below_drewN (alloc_below _ _) _⟩
theorem prquo_any (x y : Int) (hx : InR x) (w : World) : Calls Try.prog 142 #[.agg #[.int .i64 x, .int .i64 y]] w fun e w' => e = .returned (.tuple #[.int .i64 (if y = 0 then 0 else fitV (quoF x y)), .int .i64 (if y = 0 then 8 else fitE (quoF x y))]) ∧ Below w.heap.size w w' := by
  by_cases h0 : y = 0
  · subst h0
    rw [if_pos rfl, if_pos rfl]
    clear hx
    go_enter Try.func142, Try.ntmps142
    go_wp2
    go_ret2
    exact ⟨rfl, alloc_below _ _⟩
  rw [if_neg h0, if_neg h0]
  have d0 : (y == 0) = false := by simp [h0]
  by_cases h1 : y = -1
  · subst h1
    rw [quoF_neg]
    have H : Hid (∀ W, Calls Try.prog 193 #[.agg #[.int .i64 0, .int .i64 x]] W fun e w' => e = .returned (.tuple #[.int .i64 (fitV (-x)), .int .i64 (fitE (-x))]) ∧ Below W.heap.size W w') := Lib.hid (fun W => propp_any 0 x hx W)
    generalize fitV (-x) = V at *
    generalize fitE (-x) = E at *
    clear hx
    go_enter Try.func142, Try.ntmps142
    go_wp2_with (go_at_call 193; refine (H.out _).mono ?_; rintro e w2 ⟨rfl, b2⟩)
    go_ret2
    exact ⟨rfl, below_on (alloc_below _ _) b2⟩
  have d1 : (y == -1) = false := by simp [h1]
  have hq := quo_go (x := x) h0
  have hqr := quoF_in hx h0 h1
  obtain ⟨t, ht⟩ : ∃ t, Int.tdiv x y = t := ⟨_, rfl⟩
  obtain ⟨r, hr⟩ : ∃ r, Int.tmod x y = r := ⟨_, rfl⟩
  have hti := tdiv_in hx h0 h1
  rw [ht] at hti
  rw [ht, hr] at hq
  have e2 : IntKind.i64.wrap (Int.tdiv x y) = t := by rw [ht]; exact IntWalk.i64_in _ hti
  have e3 : wrap64 (Int.tdiv x y) = t := by rw [ht]; exact IntWalk.wrap64_in _ hti
  rw [(fit_yes (inR_is.2 hqr)).1, (fit_yes (inR_is.2 hqr)).2]
  rw [hq] at hqr ⊢
  by_cases hc : r ≠ 0 ∧ decide (x < 0) ≠ decide (y < 0)
  · rw [if_pos hc] at hqr ⊢
    have d2 : (r != 0) = true := by simp [hc.1]
    have d4 : (r == 0) = false := by simp [hc.1]
    have d3 : (x < 0 ∧ ¬ y < 0) ∨ (¬ x < 0 ∧ y < 0) := by
      have := hc.2
      by_cases h3 : x < 0 <;> by_cases h4 : y < 0 <;> simp [h3, h4] at this ⊢
    unfold InR at hqr hti
    clear hc hq hx ht h1
    rcases d3 with ⟨d5, d6⟩ | ⟨d5, d6⟩
    ·
      go_enter Try.func142, Try.ntmps142
      go_wp2
      go_ret2
      exact ⟨rfl, alloc_below _ _⟩
    ·
      go_enter Try.func142, Try.ntmps142
      go_wp2
      go_ret2
      exact ⟨rfl, alloc_below _ _⟩
  · rw [if_neg hc]
    unfold InR at hti
    clear hqr hq hx ht h1
    by_cases hr0 : r = 0
    · subst hr0
      clear hc
      go_enter Try.func142, Try.ntmps142
      go_wp2
      go_ret2
      exact ⟨rfl, alloc_below _ _⟩
    · have d2 : (r != 0) = true := by simp [hr0]
      have d4 : (r == 0) = false := by simp [hr0]
      have d3 : (x < 0 ∧ y < 0) ∨ (¬ x < 0 ∧ ¬ y < 0) := by
        by_cases h3 : x < 0 <;> by_cases h4 : y < 0 <;> simp [h3, h4, hr0] at hc ⊢
      clear hc hr0
      rcases d3 with ⟨d5, d6⟩ | ⟨d5, d6⟩
      ·
        go_enter Try.func142, Try.ntmps142
        go_wp2
        go_ret2
        exact ⟨rfl, alloc_below _ _⟩
      ·
        go_enter Try.func142, Try.ntmps142
        go_wp2
        go_ret2
        exact ⟨rfl, alloc_below _ _⟩
theorem prres_any (x y : Int) (hx : InR x) (w : World) : Calls Try.prog 143 #[.agg #[.int .i64 x, .int .i64 y]] w fun e w' => e = .returned (.tuple #[.int .i64 (if x = 0 then y else remF y x), .int .i64 (0)]) ∧ Below w.heap.size w w' := by
  by_cases h0 : x = 0
  · subst h0
    rw [if_pos rfl]
    clear hx
    go_enter Try.func143, Try.ntmps143
    go_wp2
    go_ret2
    exact ⟨rfl, alloc_below _ _⟩
  rw [if_neg h0]
  have d0 : (x == 0) = false := by simp [h0]
  have hq := rem_go (x := y) h0
  have hqr := remF_in (x := y) hx h0
  obtain ⟨r, hr⟩ : ∃ r, Int.tmod y x = r := ⟨_, rfl⟩
  rw [hr] at hq
  rw [hq] at hqr ⊢
  by_cases hc : r ≠ 0 ∧ decide (r < 0) ≠ decide (x < 0)
  · rw [if_pos hc] at hqr ⊢
    have d2 : (r != 0) = true := by simp [hc.1]
    have d4 : (r == 0) = false := by simp [hc.1]
    have d3 : (r < 0 ∧ ¬ x < 0) ∨ (¬ r < 0 ∧ x < 0) := by
      have := hc.2
      by_cases h3 : r < 0 <;> by_cases h4 : x < 0 <;> simp [h3, h4] at this ⊢
    unfold InR at hqr
    clear hc hq hx
    rcases d3 with ⟨d5, d6⟩ | ⟨d5, d6⟩
    ·
      go_enter Try.func143, Try.ntmps143
      go_wp2
      go_ret2
      exact ⟨rfl, alloc_below _ _⟩
    ·
      go_enter Try.func143, Try.ntmps143
      go_wp2
      go_ret2
      exact ⟨rfl, alloc_below _ _⟩
  · rw [if_neg hc]
    clear hqr hq hx
    by_cases hr0 : r = 0
    · subst hr0
      clear hc
      go_enter Try.func143, Try.ntmps143
      go_wp2
      go_ret2
      exact ⟨rfl, alloc_below _ _⟩
    · have d2 : (r != 0) = true := by simp [hr0]
      have d4 : (r == 0) = false := by simp [hr0]
      have d3 : (r < 0 ∧ x < 0) ∨ (¬ r < 0 ∧ ¬ x < 0) := by
        by_cases h3 : r < 0 <;> by_cases h4 : x < 0 <;> simp [h3, h4, hr0] at hc ⊢
      clear hc hr0
      rcases d3 with ⟨d5, d6⟩ | ⟨d5, d6⟩
      ·
        go_enter Try.func143, Try.ntmps143
        go_wp2
        go_ret2
        exact ⟨rfl, alloc_below _ _⟩
      ·
        go_enter Try.func143, Try.ntmps143
        go_wp2
        go_ret2
        exact ⟨rfl, alloc_below _ _⟩
theorem prmin_any (x y : Int) (w : World) : Calls Try.prog 144 #[.agg #[.int .i64 x, .int .i64 y]] w fun e w' => e = .returned (.tuple #[.int .i64 (min x y), .int .i64 (0)]) ∧ Below w.heap.size w w' := by
  rcases Int.lt_trichotomy x y with h | h | h
  · rw [show min x y = x by omega]
    have h1 : ¬ y < x := by omega
    have h2 : ¬ y ≤ x := by omega
    have h3 : x ≤ y := by omega
    go_enter Try.func144, Try.ntmps144
    go_wp2
    go_ret2
    exact ⟨rfl, alloc_below _ _⟩
  · subst h
    rw [show min x x = x by omega]
    have h1 : ¬ x < x := by omega
    have h2 : x ≤ x := by omega
    go_enter Try.func144, Try.ntmps144
    go_wp2
    go_ret2
    exact ⟨rfl, alloc_below _ _⟩
  · rw [show min x y = y by omega]
    have h1 : ¬ x < y := by omega
    have h2 : ¬ x ≤ y := by omega
    have h3 : y ≤ x := by omega
    go_enter Try.func144, Try.ntmps144
    go_wp2
    go_ret2
    exact ⟨rfl, alloc_below _ _⟩
theorem prmax_any (x y : Int) (w : World) : Calls Try.prog 145 #[.agg #[.int .i64 x, .int .i64 y]] w fun e w' => e = .returned (.tuple #[.int .i64 (max x y), .int .i64 (0)]) ∧ Below w.heap.size w w' := by
  rcases Int.lt_trichotomy x y with h | h | h
  · rw [show max x y = y by omega]
    have h1 : ¬ y < x := by omega
    have h2 : ¬ y ≤ x := by omega
    have h3 : x ≤ y := by omega
    go_enter Try.func145, Try.ntmps145
    go_wp2
    go_ret2
    exact ⟨rfl, alloc_below _ _⟩
  · subst h
    rw [show max x x = x by omega]
    have h1 : ¬ x < x := by omega
    have h2 : x ≤ x := by omega
    go_enter Try.func145, Try.ntmps145
    go_wp2
    go_ret2
    exact ⟨rfl, alloc_below _ _⟩
  · rw [show max x y = x by omega]
    have h1 : ¬ x < y := by omega
    have h2 : ¬ x ≤ y := by omega
    have h3 : y ≤ x := by omega
    go_enter Try.func145, Try.ntmps145
    go_wp2
    go_ret2
    exact ⟨rfl, alloc_below _ _⟩
theorem preq_any (x y : Int) (w : World) : Calls Try.prog 147 #[.agg #[.int .i64 x, .int .i64 y]] w fun e w' => e = .returned (.tuple #[.int .i64 (truthV (decide (x = y))), .int .i64 (0)]) ∧ Below w.heap.size w w' := by
  have H := Lib.hid (fun b W => sctruth_any b W)
  go_enter Try.func147, Try.ntmps147
  go_wp2_with (go_at_call 93; refine (H.out _ _).mono ?_; rintro e _ ⟨rfl, rfl⟩)
  go_ret2
  exact ⟨rfl, alloc_below _ _⟩
theorem prne_any (x y : Int) (w : World) : Calls Try.prog 148 #[.agg #[.int .i64 x, .int .i64 y]] w fun e w' => e = .returned (.tuple #[.int .i64 (truthV (decide (x ≠ y))), .int .i64 (0)]) ∧ Below w.heap.size w w' := by
  have H := Lib.hid (fun b W => sctruth_any b W)
  rw [show decide (x ≠ y) = (x != y) by by_cases h : x = y <;> simp [h]]
  go_enter Try.func148, Try.ntmps148
  go_wp2_with (go_at_call 93; refine (H.out _ _).mono ?_; rintro e _ ⟨rfl, rfl⟩)
  go_ret2
  exact ⟨rfl, alloc_below _ _⟩
theorem prlt_any (x y : Int) (w : World) : Calls Try.prog 149 #[.agg #[.int .i64 x, .int .i64 y]] w fun e w' => e = .returned (.tuple #[.int .i64 (truthV (decide (x < y))), .int .i64 (0)]) ∧ Below w.heap.size w w' := by
  have H := Lib.hid (fun b W => sctruth_any b W)
  go_enter Try.func149, Try.ntmps149
  go_wp2_with (go_at_call 93; refine (H.out _ _).mono ?_; rintro e _ ⟨rfl, rfl⟩)
  go_ret2
  exact ⟨rfl, alloc_below _ _⟩
theorem prle_any (x y : Int) (w : World) : Calls Try.prog 150 #[.agg #[.int .i64 x, .int .i64 y]] w fun e w' => e = .returned (.tuple #[.int .i64 (truthV (decide (x ≤ y))), .int .i64 (0)]) ∧ Below w.heap.size w w' := by
  have H := Lib.hid (fun b W => sctruth_any b W)
  go_enter Try.func150, Try.ntmps150
  go_wp2_with (go_at_call 93; refine (H.out _ _).mono ?_; rintro e _ ⟨rfl, rfl⟩)
  go_ret2
  exact ⟨rfl, alloc_below _ _⟩
theorem prge_any (x y : Int) (w : World) : Calls Try.prog 151 #[.agg #[.int .i64 x, .int .i64 y]] w fun e w' => e = .returned (.tuple #[.int .i64 (truthV (decide (y ≤ x))), .int .i64 (0)]) ∧ Below w.heap.size w w' := by
  have H := Lib.hid (fun b W => sctruth_any b W)
  go_enter Try.func151, Try.ntmps151
  go_wp2_with (go_at_call 93; refine (H.out _ _).mono ?_; rintro e _ ⟨rfl, rfl⟩)
  go_ret2
  exact ⟨rfl, alloc_below _ _⟩
theorem prgt_any (x y : Int) (w : World) : Calls Try.prog 152 #[.agg #[.int .i64 x, .int .i64 y]] w fun e w' => e = .returned (.tuple #[.int .i64 (truthV (decide (y < x))), .int .i64 (0)]) ∧ Below w.heap.size w w' := by
  have H := Lib.hid (fun b W => sctruth_any b W)
  go_enter Try.func152, Try.ntmps152
  go_wp2_with (go_at_call 93; refine (H.out _ _).mono ?_; rintro e _ ⟨rfl, rfl⟩)
  go_ret2
  exact ⟨rfl, alloc_below _ _⟩
end Go.Proofs.Ytkabdkblcgklmaa.sc

/-
  Layer 12 (scalar): mathematics of its functions: what they make of one number and of two, or the error.
-/
import Derived.Test.YtkabdkblcgklmaaInts
namespace Go.Proofs.Ytkabdkblcgklmaa.sc
open Go.RowKit

/-- A number of 64 bits. -/
def InR (n : Int) : Prop := -9223372036854775808 ≤ n ∧ n ≤ 9223372036854775807
instance (n : Int) : Decidable (InR n) := by unfold InR; infer_instance
/-- .. asked. -/
def inR (n : Int) : Bool := decide (-9223372036854775808 ≤ n) && decide (n ≤ 9223372036854775807)
theorem inR_iff {n : Int} : inR n = true ↔ -9223372036854775808 ≤ n ∧ n ≤ 9223372036854775807 := by
  unfold inR
  rw [Bool.and_eq_true, decide_eq_true_eq, decide_eq_true_eq]
theorem inR_is {n : Int} : inR n = true ↔ InR n := inR_iff
theorem inR_not {n : Int} : inR n = false ↔ ¬ InR n := by rw [← Bool.not_eq_true, inR_is]
theorem inR_no {n : Int} : inR n = false ↔ n < -9223372036854775808 ∨ 9223372036854775807 < n := by
  rw [← Bool.not_eq_true, inR_iff]
  omega
def fitV (n : Int) : Int := if inR n = true then n else 0
def fitE (n : Int) : Int := if inR n = true then 0 else 7
theorem fit_yes {n : Int} (h : inR n = true) : fitV n = n ∧ fitE n = 0 := by
  unfold fitV fitE
  rw [h]
  exact ⟨rfl, rfl⟩
theorem fit_no {n : Int} (h : inR n = false) : fitV n = 0 ∧ fitE n = 7 := by
  unfold fitV fitE
  rw [h]
  exact ⟨rfl, rfl⟩
theorem fitV_in (n : Int) : inR (fitV n) = true := by
  unfold fitV
  split
  · assumption
  · decide

/-- 0 or 1. -/
def isT (n : Int) : Bool := decide (n = 0) || decide (n = 1)
theorem isT_iff {n : Int} : isT n = true ↔ n = 0 ∨ n = 1 := by
  unfold isT
  rw [Bool.or_eq_true, decide_eq_true_eq, decide_eq_true_eq]
def truthV (b : Bool) : Int := if b = true then 1 else 0

/-- Divided, rounded down. -/
def quoF (x y : Int) : Int := Int.fdiv x y
def remF (x y : Int) : Int := Int.fmod x y

def powV (x y : Int) : Int :=
  if y = 0 ∨ x = 1 then 1 else if x = -1 then (if y % 2 = 0 then 1 else -1) else if y < 0 then 0 else if x = 0 then 0 else fitV (x ^ y.toNat)
def powE (x y : Int) : Int :=
  if y = 0 ∨ x = 1 then 0 else if x = -1 then 0 else if y < 0 then 5 else if x = 0 then 0 else fitE (x ^ y.toNat)

/-- What a function makes of two numbers. -/
def twoV (f x y : Int) : Int :=
  if f = 1 then fitV (x + y) else if f = 2 then fitV (x - y) else if f = 3 then fitV (x * y) else if f = 4 then (if y = 0 then 0 else fitV (quoF x y))
  else if f = 5 then (if x = 0 then y else remF y x) else if f = 6 then min x y else if f = 7 then max x y else if f = 8 then powV x y
  else if f = 9 then truthV (decide (x = y)) else if f = 10 then truthV (decide (x ≠ y)) else if f = 11 then truthV (decide (x < y)) else if f = 12 then truthV (decide (x ≤ y))
  else if f = 13 then truthV (decide (y ≤ x)) else if f = 14 then truthV (decide (y < x))
  else if f = 15 then (if isT x && isT y then truthV (decide (x = 1) && decide (y = 1)) else 0) else if f = 16 then (if isT x && isT y then truthV (decide (x = 1) || decide (y = 1)) else 0)
  else 0
def twoE (f x y : Int) : Int :=
  if f = 1 then fitE (x + y) else if f = 2 then fitE (x - y) else if f = 3 then fitE (x * y) else if f = 4 then (if y = 0 then 8 else fitE (quoF x y))
  else if f = 5 then 0 else if f = 6 then 0 else if f = 7 then 0 else if f = 8 then powE x y
  else if f = 9 then 0 else if f = 10 then 0 else if f = 11 then 0 else if f = 12 then 0 else if f = 13 then 0 else if f = 14 then 0
  else if f = 15 then (if isT x && isT y then 0 else 5) else if f = 16 then (if isT x && isT y then 0 else 5)
  else 2
/-- .. of one. -/
def oneV (f y : Int) : Int :=
  if f = 1 then y else if f = 2 then fitV (-y) else if f = 3 then (if 0 < y then 1 else if y < 0 then -1 else 0) else if f = 5 then fitV (if y < 0 then -y else y)
  else if f = 17 then (if isT y then 1 - y else 0) else 0
def oneE (f y : Int) : Int :=
  if f = 1 then 0 else if f = 2 then fitE (-y) else if f = 3 then 0 else if f = 5 then fitE (if y < 0 then -y else y)
  else if f = 17 then (if isT y then 0 else 5) else 2
def binB (f : Int) : Bool := decide (1 ≤ f) && decide (f ≤ 16)
def unB (f : Int) : Bool := decide (f = 1) || decide (f = 2) || decide (f = 3) || decide (f = 5) || decide (f = 17)

/-! ### Division -/
theorem mulz {d y s : Int} (hy : 0 < y) (e : d * y = s) (h1 : -y < s) (h2 : s < y) : d = 0 := by
  rcases Int.lt_trichotomy d 0 with h | h | h
  · have := Int.mul_le_mul_of_nonneg_right (show d ≤ -1 by omega) (Int.le_of_lt hy)
    omega
  · exact h
  · have := Int.mul_le_mul_of_nonneg_right (show 1 ≤ d by omega) (Int.le_of_lt hy)
    omega
theorem mulz' {d y s : Int} (e : d * y = s) (h : (0 < y ∧ -y < s ∧ s < y) ∨ (y < 0 ∧ y < s ∧ s < -y)) : d = 0 := by
  rcases h with ⟨h0, h1, h2⟩ | ⟨h0, h1, h2⟩
  · exact mulz h0 e h1 h2
  · refine mulz (y := -y) (s := -s) (by omega) ?_ (by omega) (by omega)
    rw [Int.mul_neg, e]
theorem quo_rem (x y : Int) : quoF x y * y + remF x y = x := by
  unfold quoF remF
  rw [Int.mul_comm]
  exact Int.mul_fdiv_add_fmod x y
theorem rem_pos {x y : Int} (h : 0 < y) : 0 ≤ remF x y ∧ remF x y < y := ⟨Int.fmod_nonneg_of_pos _ h, Int.fmod_lt_of_pos _ h⟩
theorem rem_neg {x y : Int} (h : y < 0) : remF x y ≤ 0 ∧ y < remF x y := by
  have e : remF x y = - remF (-x) (-y) := by
    unfold remF
    rw [Int.neg_fmod_neg, Int.neg_neg]
  have := rem_pos (x := -x) (y := -y) (by omega)
  omega
theorem quo_unique {x y q r : Int} (e : q * y + r = x) (h : (0 < y ∧ 0 ≤ r ∧ r < y) ∨ (y < 0 ∧ r ≤ 0 ∧ y < r)) : quoF x y = q ∧ remF x y = r := by
  have hq := quo_rem x y
  have e2 : (quoF x y - q) * y = r - remF x y := by
    rw [Int.sub_mul]
    omega
  have hd : quoF x y - q = 0 := by
    refine mulz' e2 ?_
    rcases h with ⟨h0, h1, h2⟩ | ⟨h0, h1, h2⟩
    · have := rem_pos (x := x) h0
      exact .inl ⟨h0, by omega, by omega⟩
    · have := rem_neg (x := x) h0
      exact .inr ⟨h0, by omega, by omega⟩
  have key : quoF x y = q := by omega
  rw [key] at hq
  exact ⟨key, by omega⟩
/-- Go's own quotient and rest. -/
theorem tmod_pos (x : Int) {y : Int} (h : y ≠ 0) : (0 ≤ x → 0 ≤ Int.tmod x y) ∧ (x ≤ 0 → Int.tmod x y ≤ 0) ∧ ((0 < y → -y < Int.tmod x y ∧ Int.tmod x y < y) ∧ (y < 0 → y < Int.tmod x y ∧ Int.tmod x y < -y)) := by
  have hp : ∀ a b : Int, 0 ≤ a → 0 < b → 0 ≤ Int.tmod a b ∧ Int.tmod a b < b := fun a b ha hb => ⟨Int.tmod_nonneg _ ha, Int.tmod_lt_of_pos _ hb⟩
  have hn : ∀ a b : Int, a ≤ 0 → 0 < b → Int.tmod a b ≤ 0 ∧ -b < Int.tmod a b := fun a b ha hb => by
    have := hp (-a) b (by omega) hb
    rw [Int.neg_tmod] at this
    omega
  have e : Int.tmod x (-y) = Int.tmod x y := Int.tmod_neg x y
  rcases Int.lt_trichotomy y 0 with hy | hy | hy
  · have h1 := hp x (-y)
    have h2 := hn x (-y)
    rw [e] at h1 h2
    rcases Int.le_total 0 x with hx | hx
    · have := h1 hx (by omega)
      by_cases hx0 : x ≤ 0
      · have := h2 hx0 (by omega); omega
      · omega
    · have := h2 hx (by omega)
      by_cases hx0 : 0 ≤ x
      · have := h1 hx0 (by omega); omega
      · omega
  · exact absurd hy h
  · have h1 := hp x y
    have h2 := hn x y
    rcases Int.le_total 0 x with hx | hx
    · have := h1 hx (by omega)
      by_cases hx0 : x ≤ 0
      · have := h2 hx0 (by omega); omega
      · omega
    · have := h2 hx (by omega)
      by_cases hx0 : 0 ≤ x
      · have := h1 hx0 (by omega); omega
      · omega
/-- What a program makes of both: where signs differ, one less. -/
theorem quo_go {x y : Int} (hy : y ≠ 0) : quoF x y = (if Int.tmod x y ≠ 0 ∧ (decide (x < 0) ≠ decide (y < 0)) then Int.tdiv x y - 1 else Int.tdiv x y) := by
  have e := Int.mul_tdiv_add_tmod x y
  obtain ⟨p1, p2, p3, p4⟩ := tmod_pos x hy
  rw [Int.mul_comm] at e
  split
  · rename_i h
    obtain ⟨h1, h2⟩ := h
    refine (quo_unique (r := Int.tmod x y + y) ?_ ?_).1
    · rw [Int.sub_mul]; omega
    · by_cases hx : x < 0 <;> by_cases hy' : y < 0
      · simp [hx, hy'] at h2
      · left; have := p3 (by omega); have := p2 (by omega); omega
      · right; have := p4 hy'; have := p1 (by omega); omega
      · simp [hx, hy'] at h2
  · rename_i h
    refine (quo_unique e ?_).1
    by_cases h0 : Int.tmod x y = 0
    · rw [h0]; omega
    · by_cases hx : x < 0 <;> by_cases hy' : y < 0
      · right; have := p4 hy'; have := p2 (by omega); omega
      · exact absurd ⟨h0, by simp [hx, hy']⟩ h
      · exact absurd ⟨h0, by simp [hx, hy']⟩ h
      · left; have := p3 (by omega); have := p1 (by omega); omega
theorem rem_go {x y : Int} (hy : y ≠ 0) : remF x y = (if Int.tmod x y ≠ 0 ∧ (decide (Int.tmod x y < 0) ≠ decide (y < 0)) then Int.tmod x y + y else Int.tmod x y) := by
  have e := Int.mul_tdiv_add_tmod x y
  obtain ⟨p1, p2, p3, p4⟩ := tmod_pos x hy
  rw [Int.mul_comm] at e
  split
  · rename_i h
    obtain ⟨h1, h2⟩ := h
    refine (quo_unique (q := Int.tdiv x y - 1) ?_ ?_).2
    · rw [Int.sub_mul]; omega
    · by_cases hx : Int.tmod x y < 0 <;> by_cases hy' : y < 0
      · simp [hx, hy'] at h2
      · left; have := p3 (by omega); omega
      · right; have := p4 hy'; omega
      · simp [hx, hy'] at h2
  · rename_i h
    refine (quo_unique e ?_).2
    by_cases h0 : Int.tmod x y = 0
    · rw [h0]; omega
    · by_cases hx : Int.tmod x y < 0 <;> by_cases hy' : y < 0
      · right; have := p4 hy'; omega
      · exact absurd ⟨h0, by simp [hx, hy']⟩ h
      · exact absurd ⟨h0, by simp [hx, hy']⟩ h
      · left; have := p3 (by omega); omega
/-- A product, divided again. -/
theorem prod_go {x y n : Int} (hn : n = wrap64 (x * y)) (hy : y ≠ 0) (hy1 : y ≠ -1) (hyr : InR y) : (Int.tdiv n y = x ↔ InR (x * y)) := by
  obtain ⟨p1, p2, p3, p4⟩ := tmod_pos n hy
  have e := Int.mul_tdiv_add_tmod n y
  unfold InR at *
  constructor
  · intro h
    rw [h, Int.mul_comm] at e
    unfold wrap64 at hn
    generalize x * y = p at *
    omega
  · intro h
    have e1 : n = x * y := by
      rw [hn]
      unfold wrap64
      generalize x * y = p at *
      omega
    rw [e1]
    exact Int.mul_tdiv_cancel _ hy

/-! ### Powers -/
theorem pow_grow {a : Int} (h : 2 ≤ a.natAbs) {p : Int} (hp : ¬ InR p) : ¬ InR (p * a) := by
  have e : (p * a).natAbs = p.natAbs * a.natAbs := Int.natAbs_mul _ _
  have h1 : 9223372036854775808 ≤ p.natAbs := by unfold InR at hp; omega
  have h2 := Nat.mul_le_mul h1 h
  unfold InR
  omega
theorem pow_out {a : Int} (h : 2 ≤ a.natAbs) (k j : Nat) (hp : ¬ InR (a ^ k)) : ¬ InR (a ^ (k + j)) := by
  induction j with
  | zero => exact hp
  | succ j ih => rw [← Nat.add_assoc, Int.pow_succ]; exact pow_grow h ih
theorem pow_great {a : Int} (h : 2 ≤ a.natAbs) {k : Nat} (hk : 64 ≤ k) : ¬ InR (a ^ k) := by
  have e : (a ^ k).natAbs = a.natAbs ^ k := Int.natAbs_pow _ _
  have h1 : 2 ^ k ≤ a.natAbs ^ k := Nat.pow_le_pow_left h k
  have h2 : 2 ^ 64 ≤ 2 ^ k := Nat.pow_le_pow_right (by decide) hk
  unfold InR
  omega

/-! ### Sums that wrap round -/
theorem sum_go {x y n : Int} (hn : n = wrap64 (x + y)) (hx : InR x) (hy : InR y) : (inR (x + y) = true → n = x + y ∧ ((0 < y ∧ x < n) ∨ (¬ 0 < y ∧ ¬ x < n))) ∧ (inR (x + y) = false → ((0 < y ∧ ¬ x < n) ∨ (¬ 0 < y ∧ x < n))) := by
  unfold wrap64 at hn
  rw [inR_iff, inR_no]
  unfold InR at hx hy
  refine ⟨fun h => ?_, fun h => ?_⟩
  · have e : n = x + y := by omega
    refine ⟨e, ?_⟩
    omega
  · omega
theorem diff_go {x y n : Int} (hn : n = wrap64 (x - y)) (hx : InR x) (hy : InR y) : (inR (x - y) = true → n = x - y ∧ ((0 < y ∧ n < x) ∨ (¬ 0 < y ∧ ¬ n < x))) ∧ (inR (x - y) = false → ((0 < y ∧ ¬ n < x) ∨ (¬ 0 < y ∧ n < x))) := by
  unfold wrap64 at hn
  rw [inR_iff, inR_no]
  unfold InR at hx hy
  refine ⟨fun h => ?_, fun h => ?_⟩
  · have e : n = x - y := by omega
    refine ⟨e, ?_⟩
    omega
  · omega
theorem and_one (n : Int) : bits .and .i64 n 1 = n % 2 := by
  have h1 : (BitVec.ofInt 64 1).toNat = 2 ^ 1 - 1 := by decide
  have key : (BitVec.ofInt 64 n &&& BitVec.ofInt 64 1).toNat = (n % ((2 ^ 64 : Nat) : Int)).toNat % 2 ^ 1 := by
    rw [BitVec.toNat_and, BitVec.toNat_ofInt, h1, Nat.and_two_pow_sub_one_eq_mod]
  show IntKind.i64.wrap ((BitVec.ofInt 64 n &&& BitVec.ofInt 64 1).toNat : Nat) = n % 2
  rw [key, IntKind.wrap_i64]
  omega
/-! ### Quotients are numbers -/
theorem tdiv_in {n y : Int} (hn : InR n) (h0 : y ≠ 0) (h1 : y ≠ -1) : InR (Int.tdiv n y) := by
  have e : (Int.tdiv n y).natAbs = n.natAbs / y.natAbs := Int.natAbs_tdiv n y
  by_cases hy : y = 1
  · subst hy
    rw [Int.tdiv_one]
    exact hn
  · have h2 : 2 ≤ y.natAbs := by omega
    have h3 : n.natAbs / y.natAbs ≤ n.natAbs / 2 := Nat.div_le_div_left h2 (by decide)
    unfold InR at *
    omega
theorem tmod_in {n y : Int} (hn : InR n) (h0 : y ≠ 0) : InR (Int.tmod n y) := by
  obtain ⟨p1, p2, _, _⟩ := tmod_pos n h0
  have e : (Int.tmod n y).natAbs ≤ n.natAbs := by
    have := Int.natAbs_tmod n y
    rw [this]
    exact Nat.mod_le _ _
  unfold InR at *
  by_cases h : 0 ≤ n
  · have := p1 h; omega
  · have := p2 (by omega); omega
theorem quoF_in {x y : Int} (hx : InR x) (h0 : y ≠ 0) (h1 : y ≠ -1) : InR (quoF x y) := by
  have hr := quo_rem x y
  have ht := tdiv_in hx h0 h1
  rw [quo_go h0]
  split
  · rename_i h
    have e : (Int.tdiv x y).natAbs = x.natAbs / y.natAbs := Int.natAbs_tdiv x y
    have hy : y ≠ 1 := by
      intro e1
      subst e1
      exact h.1 (by rw [Int.tmod_one])
    have h2 : 2 ≤ y.natAbs := by omega
    have h3 : x.natAbs / y.natAbs ≤ x.natAbs / 2 := Nat.div_le_div_left h2 (by decide)
    unfold InR at *
    omega
  · exact ht
theorem quoF_neg (x : Int) : quoF x (-1) = -x := (quo_unique (x := x) (y := -1) (q := -x) (r := 0) (by omega) (.inr (by omega))).1
/-! ### Answers are numbers -/
theorem truthV_in (b : Bool) : InR (truthV b) := by cases b <;> (unfold InR truthV; decide)
theorem fitV_inR (n : Int) : InR (fitV n) := inR_is.1 (fitV_in n)
theorem remF_in {x y : Int} (hy : InR y) (h : y ≠ 0) : InR (remF x y) := by
  unfold InR at *
  rcases Int.lt_trichotomy y 0 with h1 | h1 | h1
  · have := rem_neg (x := x) h1; omega
  · exact absurd h1 h
  · have := rem_pos (x := x) h1; omega
theorem powV_in (x y : Int) : InR (powV x y) := by
  unfold powV
  split
  · decide
  split
  · split <;> decide
  split
  · decide
  split
  · decide
  · exact fitV_inR _
theorem twoV_in {f x y : Int} (hx : InR x) (hy : InR y) : InR (twoV f x y) := by
  have h0 : InR 0 := by decide
  have hm : InR (min x y) := by unfold InR at *; omega
  have hM : InR (max x y) := by unfold InR at *; omega
  have key : ∀ (c : Prop) [Decidable c] (a b : Int), (c → InR a) → (¬ c → InR b) → InR (if c then a else b) := fun c _ a b ha hb => by
    by_cases h : c
    · rw [if_pos h]; exact ha h
    · rw [if_neg h]; exact hb h
  unfold twoV
  refine key _ _ _ (fun _ => fitV_inR _) fun _ => key _ _ _ (fun _ => fitV_inR _) fun _ => key _ _ _ (fun _ => fitV_inR _) fun _ => ?_
  refine key _ _ _ (fun _ => key _ _ _ (fun _ => h0) (fun _ => fitV_inR _)) fun _ => key _ _ _ (fun _ => key _ _ _ (fun _ => hy) (fun h => remF_in hx h)) fun _ => ?_
  refine key _ _ _ (fun _ => hm) fun _ => key _ _ _ (fun _ => hM) fun _ => key _ _ _ (fun _ => powV_in _ _) fun _ => ?_
  refine key _ _ _ (fun _ => truthV_in _) fun _ => key _ _ _ (fun _ => truthV_in _) fun _ => key _ _ _ (fun _ => truthV_in _) fun _ => key _ _ _ (fun _ => truthV_in _) fun _ => key _ _ _ (fun _ => truthV_in _) fun _ => key _ _ _ (fun _ => truthV_in _) fun _ => ?_
  exact key _ _ _ (fun _ => key _ _ _ (fun _ => truthV_in _) (fun _ => h0)) fun _ => key _ _ _ (fun _ => key _ _ _ (fun _ => truthV_in _) (fun _ => h0)) fun _ => h0
theorem twoE_in (f x y : Int) : twoE f x y = 0 ∨ twoE f x y = 2 ∨ twoE f x y = 5 ∨ twoE f x y = 7 ∨ twoE f x y = 8 := by
  have hf : ∀ n, fitE n = 0 ∨ fitE n = 7 := fun n => by unfold fitE; split <;> simp
  have hp : powE x y = 0 ∨ powE x y = 5 ∨ powE x y = 7 := by
    unfold powE
    repeat' split
    all_goals first
      | (simp; done)
      | (rcases hf (x ^ y.toNat) with h | h <;> simp [h])
  have h1 := hf (x + y)
  have h2 := hf (x - y)
  have h3 := hf (x * y)
  have h4 := hf (quoF x y)
  unfold twoE
  repeat' split
  all_goals omega
/-- What fails has no number. -/
theorem fit_both (n : Int) : fitE n = 0 ∨ fitV n = 0 := by unfold fitE fitV; cases inR n <;> simp
theorem two_none {f x y : Int} (h : twoE f x y ≠ 0) : twoV f x y = 0 := by
  have hf : ∀ n, fitE n ≠ 0 → fitV n = 0 := fun n hn => (fit_both n).resolve_left hn
  have hp : powE x y ≠ 0 → powV x y = 0 := by
    unfold powE powV
    repeat' split
    all_goals first
      | (intro h; exact absurd rfl h)
      | exact hf _
      | (intro _; rfl)
  by_cases h1 : f = 1
  · subst h1; exact hf _ h
  by_cases h2 : f = 2
  · subst h2; exact hf _ h
  by_cases h3 : f = 3
  · subst h3; exact hf _ h
  unfold twoE at h
  unfold twoV
  rw [if_neg h1, if_neg h2, if_neg h3] at h ⊢
  by_cases h4 : f = 4
  · rw [if_pos h4] at h ⊢
    by_cases hy : y = 0
    · rw [if_pos hy]
    · rw [if_neg hy] at h ⊢; exact hf _ h
  rw [if_neg h4] at h ⊢
  by_cases h5 : f = 5
  · rw [if_pos h5] at h; exact absurd rfl h
  rw [if_neg h5] at h ⊢
  by_cases h6 : f = 6
  · rw [if_pos h6] at h; exact absurd rfl h
  rw [if_neg h6] at h ⊢
  by_cases h7 : f = 7
  · rw [if_pos h7] at h; exact absurd rfl h
  rw [if_neg h7] at h ⊢
  by_cases h8 : f = 8
  · rw [if_pos h8] at h ⊢; exact hp h
  rw [if_neg h8] at h ⊢
  by_cases h9 : f = 9
  · rw [if_pos h9] at h; exact absurd rfl h
  rw [if_neg h9] at h ⊢
  by_cases h10 : f = 10
  · rw [if_pos h10] at h; exact absurd rfl h
  rw [if_neg h10] at h ⊢
  by_cases h11 : f = 11
  · rw [if_pos h11] at h; exact absurd rfl h
  rw [if_neg h11] at h ⊢
  by_cases h12 : f = 12
  · rw [if_pos h12] at h; exact absurd rfl h
  rw [if_neg h12] at h ⊢
  by_cases h13 : f = 13
  · rw [if_pos h13] at h; exact absurd rfl h
  rw [if_neg h13] at h ⊢
  by_cases h14 : f = 14
  · rw [if_pos h14] at h; exact absurd rfl h
  rw [if_neg h14] at h ⊢
  by_cases h15 : f = 15
  · rw [if_pos h15] at h ⊢
    by_cases ht : (isT x && isT y) = true
    · rw [if_pos ht] at h; exact absurd rfl h
    · rw [if_neg ht]
  rw [if_neg h15] at h ⊢
  by_cases h16 : f = 16
  · rw [if_pos h16] at h ⊢
    by_cases ht : (isT x && isT y) = true
    · rw [if_pos ht] at h; exact absurd rfl h
    · rw [if_neg ht]
  rw [if_neg h16]
end Go.Proofs.Ytkabdkblcgklmaa.sc

/-
  Layer 12 (scalar): mathematics of its functions: what they make of one number and of two, or the error.
  Layer 12 (scalar): what a function does with its pair.
  Layer 12 (scalar): powers, and, or.
  Layer 12 (scalar): One, Two, Unary, Binary, Identity: a function's operation, chosen by its number.
  Layer 12 (scalar): the statements' own helpers 'is', 'fails', 'alive'; Two and One with their answers named.
-/
import Derived.Test.YtkabdkblcgklmaaInts
namespace Go.Proofs.Ytkabdkblcgklmaa.sc
open Go.RowKit

/-- A number of 64 bits. -/
def InR (n : Int) : Prop := -9223372036854775808 ≤ n ∧ n ≤ 9223372036854775807
instance (n : Int) : Decidable (InR n) := by unfold InR; infer_instance
/-- .. asked. -/
def inR (n : Int) : Bool := decide (-9223372036854775808 ≤ n) && decide (n ≤ 9223372036854775807)
theorem inR_iff {n : Int} : inR n = true ↔ -9223372036854775808 ≤ n ∧ n ≤ 9223372036854775807 := by
  unfold inR
  rw [Bool.and_eq_true, decide_eq_true_eq, decide_eq_true_eq]
theorem inR_is {n : Int} : inR n = true ↔ InR n := inR_iff
theorem inR_not {n : Int} : inR n = false ↔ ¬ InR n := by rw [← Bool.not_eq_true, inR_is]
theorem inR_no {n : Int} : inR n = false ↔ n < -9223372036854775808 ∨ 9223372036854775807 < n := by
  rw [← Bool.not_eq_true, inR_iff]
  omega
def fitV (n : Int) : Int := if inR n = true then n else 0
def fitE (n : Int) : Int := if inR n = true then 0 else 7
theorem fit_yes {n : Int} (h : inR n = true) : fitV n = n ∧ fitE n = 0 := by
  unfold fitV fitE
  rw [h]
  exact ⟨rfl, rfl⟩
theorem fit_no {n : Int} (h : inR n = false) : fitV n = 0 ∧ fitE n = 7 := by
  unfold fitV fitE
  rw [h]
  exact ⟨rfl, rfl⟩
theorem fitV_in (n : Int) : inR (fitV n) = true := by
  unfold fitV
  split
  · assumption
  · decide

/-- 0 or 1. -/
def isT (n : Int) : Bool := decide (n = 0) || decide (n = 1)
theorem isT_iff {n : Int} : isT n = true ↔ n = 0 ∨ n = 1 := by
  unfold isT
  rw [Bool.or_eq_true, decide_eq_true_eq, decide_eq_true_eq]
def truthV (b : Bool) : Int := if b = true then 1 else 0

/-- Divided, rounded down. -/
def quoF (x y : Int) : Int := Int.fdiv x y
def remF (x y : Int) : Int := Int.fmod x y

def powV (x y : Int) : Int :=
  if y = 0 ∨ x = 1 then 1 else if x = -1 then (if y % 2 = 0 then 1 else -1) else if y < 0 then 0 else if x = 0 then 0 else fitV (x ^ y.toNat)
def powE (x y : Int) : Int :=
  if y = 0 ∨ x = 1 then 0 else if x = -1 then 0 else if y < 0 then 5 else if x = 0 then 0 else fitE (x ^ y.toNat)

/-- What a function makes of two numbers. -/
def twoV (f x y : Int) : Int :=
  if f = 1 then fitV (x + y) else if f = 2 then fitV (x - y) else if f = 3 then fitV (x * y) else if f = 4 then (if y = 0 then 0 else fitV (quoF x y))
  else if f = 5 then (if x = 0 then y else remF y x) else if f = 6 then min x y else if f = 7 then max x y else if f = 8 then powV x y
  else if f = 9 then truthV (decide (x = y)) else if f = 10 then truthV (decide (x ≠ y)) else if f = 11 then truthV (decide (x < y)) else if f = 12 then truthV (decide (x ≤ y))
  else if f = 13 then truthV (decide (y ≤ x)) else if f = 14 then truthV (decide (y < x))
  else if f = 15 then (if isT x && isT y then truthV (decide (x = 1) && decide (y = 1)) else 0) else if f = 16 then (if isT x && isT y then truthV (decide (x = 1) || decide (y = 1)) else 0)
  else 0
def twoE (f x y : Int) : Int :=
  if f = 1 then fitE (x + y) else if f = 2 then fitE (x - y) else if f = 3 then fitE (x * y) else if f = 4 then (if y = 0 then 8 else fitE (quoF x y))
  else if f = 5 then 0 else if f = 6 then 0 else if f = 7 then 0 else if f = 8 then powE x y
  else if f = 9 then 0 else if f = 10 then 0 else if f = 11 then 0 else if f = 12 then 0 else if f = 13 then 0 else if f = 14 then 0
  else if f = 15 then (if isT x && isT y then 0 else 5) else if f = 16 then (if isT x && isT y then 0 else 5)
  else 2
/-- .. of one. -/
def oneV (f y : Int) : Int :=
  if f = 1 then y else if f = 2 then fitV (-y) else if f = 3 then (if 0 < y then 1 else if y < 0 then -1 else 0) else if f = 5 then fitV (if y < 0 then -y else y)
  else if f = 17 then (if isT y then 1 - y else 0) else 0
def oneE (f y : Int) : Int :=
  if f = 1 then 0 else if f = 2 then fitE (-y) else if f = 3 then 0 else if f = 5 then fitE (if y < 0 then -y else y)
  else if f = 17 then (if isT y then 0 else 5) else 2
def binB (f : Int) : Bool := decide (1 ≤ f) && decide (f ≤ 16)
def unB (f : Int) : Bool := decide (f = 1) || decide (f = 2) || decide (f = 3) || decide (f = 5) || decide (f = 17)

/-! ### Division -/
theorem mulz {d y s : Int} (hy : 0 < y) (e : d * y = s) (h1 : -y < s) (h2 : s < y) : d = 0 := by
  rcases Int.lt_trichotomy d 0 with h | h | h
  · have := Int.mul_le_mul_of_nonneg_right (show d ≤ -1 by omega) (Int.le_of_lt hy)
    omega
  · exact h
  · have := Int.mul_le_mul_of_nonneg_right (show 1 ≤ d by omega) (Int.le_of_lt hy)
    omega
theorem mulz' {d y s : Int} (e : d * y = s) (h : (0 < y ∧ -y < s ∧ s < y) ∨ (y < 0 ∧ y < s ∧ s < -y)) : d = 0 := by
  rcases h with ⟨h0, h1, h2⟩ | ⟨h0, h1, h2⟩
  · exact mulz h0 e h1 h2
  · refine mulz (y := -y) (s := -s) (by omega) ?_ (by omega) (by omega)
    rw [Int.mul_neg, e]
theorem quo_rem (x y : Int) : quoF x y * y + remF x y = x := by
  unfold quoF remF
  rw [Int.mul_comm]
  exact Int.mul_fdiv_add_fmod x y
theorem rem_pos {x y : Int} (h : 0 < y) : 0 ≤ remF x y ∧ remF x y < y := ⟨Int.fmod_nonneg_of_pos _ h, Int.fmod_lt_of_pos _ h⟩
theorem rem_neg {x y : Int} (h : y < 0) : remF x y ≤ 0 ∧ y < remF x y := by
  have e : remF x y = - remF (-x) (-y) := by
    unfold remF
    rw [Int.neg_fmod_neg, Int.neg_neg]
  have := rem_pos (x := -x) (y := -y) (by omega)
  omega
theorem quo_unique {x y q r : Int} (e : q * y + r = x) (h : (0 < y ∧ 0 ≤ r ∧ r < y) ∨ (y < 0 ∧ r ≤ 0 ∧ y < r)) : quoF x y = q ∧ remF x y = r := by
  have hq := quo_rem x y
  have e2 : (quoF x y - q) * y = r - remF x y := by
    rw [Int.sub_mul]
    omega
  have hd : quoF x y - q = 0 := by
    refine mulz' e2 ?_
    rcases h with ⟨h0, h1, h2⟩ | ⟨h0, h1, h2⟩
    · have := rem_pos (x := x) h0
      exact .inl ⟨h0, by omega, by omega⟩
    · have := rem_neg (x := x) h0
      exact .inr ⟨h0, by omega, by omega⟩
  have key : quoF x y = q := by omega
  rw [key] at hq
  exact ⟨key, by omega⟩
/-- Go's own quotient and rest. -/
theorem tmod_pos (x : Int) {y : Int} (h : y ≠ 0) : (0 ≤ x → 0 ≤ Int.tmod x y) ∧ (x ≤ 0 → Int.tmod x y ≤ 0) ∧ ((0 < y → -y < Int.tmod x y ∧ Int.tmod x y < y) ∧ (y < 0 → y < Int.tmod x y ∧ Int.tmod x y < -y)) := by
  have hp : ∀ a b : Int, 0 ≤ a → 0 < b → 0 ≤ Int.tmod a b ∧ Int.tmod a b < b := fun a b ha hb => ⟨Int.tmod_nonneg _ ha, Int.tmod_lt_of_pos _ hb⟩
  have hn : ∀ a b : Int, a ≤ 0 → 0 < b → Int.tmod a b ≤ 0 ∧ -b < Int.tmod a b := fun a b ha hb => by
    have := hp (-a) b (by omega) hb
    rw [Int.neg_tmod] at this
    omega
  have e : Int.tmod x (-y) = Int.tmod x y := Int.tmod_neg x y
  rcases Int.lt_trichotomy y 0 with hy | hy | hy
  · have h1 := hp x (-y)
    have h2 := hn x (-y)
    rw [e] at h1 h2
    rcases Int.le_total 0 x with hx | hx
    · have := h1 hx (by omega)
      by_cases hx0 : x ≤ 0
      · have := h2 hx0 (by omega); omega
      · omega
    · have := h2 hx (by omega)
      by_cases hx0 : 0 ≤ x
      · have := h1 hx0 (by omega); omega
      · omega
  · exact absurd hy h
  · have h1 := hp x y
    have h2 := hn x y
    rcases Int.le_total 0 x with hx | hx
    · have := h1 hx (by omega)
      by_cases hx0 : x ≤ 0
      · have := h2 hx0 (by omega); omega
      · omega
    · have := h2 hx (by omega)
      by_cases hx0 : 0 ≤ x
      · have := h1 hx0 (by omega); omega
      · omega
/-- What a program makes of both: where signs differ, one less. -/
theorem quo_go {x y : Int} (hy : y ≠ 0) : quoF x y = (if Int.tmod x y ≠ 0 ∧ (decide (x < 0) ≠ decide (y < 0)) then Int.tdiv x y - 1 else Int.tdiv x y) := by
  have e := Int.mul_tdiv_add_tmod x y
  obtain ⟨p1, p2, p3, p4⟩ := tmod_pos x hy
  rw [Int.mul_comm] at e
  split
  · rename_i h
    obtain ⟨h1, h2⟩ := h
    refine (quo_unique (r := Int.tmod x y + y) ?_ ?_).1
    · rw [Int.sub_mul]; omega
    · by_cases hx : x < 0 <;> by_cases hy' : y < 0
      · simp [hx, hy'] at h2
      · left; have := p3 (by omega); have := p2 (by omega); omega
      · right; have := p4 hy'; have := p1 (by omega); omega
      · simp [hx, hy'] at h2
  · rename_i h
    refine (quo_unique e ?_).1
    by_cases h0 : Int.tmod x y = 0
    · rw [h0]; omega
    · by_cases hx : x < 0 <;> by_cases hy' : y < 0
      · right; have := p4 hy'; have := p2 (by omega); omega
      · exact absurd ⟨h0, by simp [hx, hy']⟩ h
      · exact absurd ⟨h0, by simp [hx, hy']⟩ h
      · left; have := p3 (by omega); have := p1 (by omega); omega
theorem rem_go {x y : Int} (hy : y ≠ 0) : remF x y = (if Int.tmod x y ≠ 0 ∧ (decide (Int.tmod x y < 0) ≠ decide (y < 0)) then Int.tmod x y + y else Int.tmod x y) := by
  have e := Int.mul_tdiv_add_tmod x y
  obtain ⟨p1, p2, p3, p4⟩ := tmod_pos x hy
  rw [Int.mul_comm] at e
  split
  · rename_i h
    obtain ⟨h1, h2⟩ := h
    refine (quo_unique (q := Int.tdiv x y - 1) ?_ ?_).2
    · rw [Int.sub_mul]; omega
    · by_cases hx : Int.tmod x y < 0 <;> by_cases hy' : y < 0
      · simp [hx, hy'] at h2
      · left; have := p3 (by omega); omega
      · right; have := p4 hy'; omega
      · simp [hx, hy'] at h2
  · rename_i h
    refine (quo_unique e ?_).2
    by_cases h0 : Int.tmod x y = 0
    · rw [h0]; omega
    · by_cases hx : Int.tmod x y < 0 <;> by_cases hy' : y < 0
      · right; have := p4 hy'; omega
      · exact absurd ⟨h0, by simp [hx, hy']⟩ h
      · exact absurd ⟨h0, by simp [hx, hy']⟩ h
      · left; have := p3 (by omega); omega
/-- A product, divided again. -/
theorem prod_go {x y n : Int} (hn : n = wrap64 (x * y)) (hy : y ≠ 0) (hy1 : y ≠ -1) (hyr : InR y) : (Int.tdiv n y = x ↔ InR (x * y)) := by
  obtain ⟨p1, p2, p3, p4⟩ := tmod_pos n hy
  have e := Int.mul_tdiv_add_tmod n y
  unfold InR at *
  constructor
  · intro h
    rw [h, Int.mul_comm] at e
    unfold wrap64 at hn
    generalize x * y = p at *
    omega
  · intro h
    have e1 : n = x * y := by
      rw [hn]
      unfold wrap64
      generalize x * y = p at *
      omega
    rw [e1]
    exact Int.mul_tdiv_cancel _ hy

/-! ### Powers -/
theorem pow_grow {a : Int} (h : 2 ≤ a.natAbs) {p : Int} (hp : ¬ InR p) : ¬ InR (p * a) := by
  have e : (p * a).natAbs = p.natAbs * a.natAbs := Int.natAbs_mul _ _
  have h1 : 9223372036854775808 ≤ p.natAbs := by unfold InR at hp; omega
  have h2 := Nat.mul_le_mul h1 h
  unfold InR
  omega
theorem pow_out {a : Int} (h : 2 ≤ a.natAbs) (k j : Nat) (hp : ¬ InR (a ^ k)) : ¬ InR (a ^ (k + j)) := by
  induction j with
  | zero => exact hp
  | succ j ih => rw [← Nat.add_assoc, Int.pow_succ]; exact pow_grow h ih
theorem pow_great {a : Int} (h : 2 ≤ a.natAbs) {k : Nat} (hk : 64 ≤ k) : ¬ InR (a ^ k) := by
  have e : (a ^ k).natAbs = a.natAbs ^ k := Int.natAbs_pow _ _
  have h1 : 2 ^ k ≤ a.natAbs ^ k := Nat.pow_le_pow_left h k
  have h2 : 2 ^ 64 ≤ 2 ^ k := Nat.pow_le_pow_right (by decide) hk
  unfold InR
  omega

/-! ### Sums that wrap round -/
theorem sum_go {x y n : Int} (hn : n = wrap64 (x + y)) (hx : InR x) (hy : InR y) : (inR (x + y) = true → n = x + y ∧ ((0 < y ∧ x < n) ∨ (¬ 0 < y ∧ ¬ x < n))) ∧ (inR (x + y) = false → ((0 < y ∧ ¬ x < n) ∨ (¬ 0 < y ∧ x < n))) := by
  unfold wrap64 at hn
  rw [inR_iff, inR_no]
  unfold InR at hx hy
  refine ⟨fun h => ?_, fun h => ?_⟩
  · have e : n = x + y := by omega
    refine ⟨e, ?_⟩
    omega
  · omega
theorem diff_go {x y n : Int} (hn : n = wrap64 (x - y)) (hx : InR x) (hy : InR y) : (inR (x - y) = true → n = x - y ∧ ((0 < y ∧ n < x) ∨ (¬ 0 < y ∧ ¬ n < x))) ∧ (inR (x - y) = false → ((0 < y ∧ ¬ n < x) ∨ (¬ 0 < y ∧ n < x))) := by
  unfold wrap64 at hn
  rw [inR_iff, inR_no]
  unfold InR at hx hy
  refine ⟨fun h => ?_, fun h => ?_⟩
  · have e : n = x - y := by omega
    refine ⟨e, ?_⟩
    omega
  · omega
theorem and_one (n : Int) : bits .and .i64 n 1 = n % 2 := by
  have h1 : (BitVec.ofInt 64 1).toNat = 2 ^ 1 - 1 := by decide
  have key : (BitVec.ofInt 64 n &&& BitVec.ofInt 64 1).toNat = (n % ((2 ^ 64 : Nat) : Int)).toNat % 2 ^ 1 := by
    rw [BitVec.toNat_and, BitVec.toNat_ofInt, h1, Nat.and_two_pow_sub_one_eq_mod]
  show IntKind.i64.wrap ((BitVec.ofInt 64 n &&& BitVec.ofInt 64 1).toNat : Nat) = n % 2
  rw [key, IntKind.wrap_i64]
  omega
/-! ### Quotients are numbers -/
theorem tdiv_in {n y : Int} (hn : InR n) (h0 : y ≠ 0) (h1 : y ≠ -1) : InR (Int.tdiv n y) := by
  have e : (Int.tdiv n y).natAbs = n.natAbs / y.natAbs := Int.natAbs_tdiv n y
  by_cases hy : y = 1
  · subst hy
    rw [Int.tdiv_one]
    exact hn
  · have h2 : 2 ≤ y.natAbs := by omega
    have h3 : n.natAbs / y.natAbs ≤ n.natAbs / 2 := Nat.div_le_div_left h2 (by decide)
    unfold InR at *
    omega
theorem tmod_in {n y : Int} (hn : InR n) (h0 : y ≠ 0) : InR (Int.tmod n y) := by
  obtain ⟨p1, p2, _, _⟩ := tmod_pos n h0
  have e : (Int.tmod n y).natAbs ≤ n.natAbs := by
    have := Int.natAbs_tmod n y
    rw [this]
    exact Nat.mod_le _ _
  unfold InR at *
  by_cases h : 0 ≤ n
  · have := p1 h; omega
  · have := p2 (by omega); omega
theorem quoF_in {x y : Int} (hx : InR x) (h0 : y ≠ 0) (h1 : y ≠ -1) : InR (quoF x y) := by
  have hr := quo_rem x y
  have ht := tdiv_in hx h0 h1
  rw [quo_go h0]
  split
  · rename_i h
    have e : (Int.tdiv x y).natAbs = x.natAbs / y.natAbs := Int.natAbs_tdiv x y
    have hy : y ≠ 1 := by
      intro e1
      subst e1
      exact h.1 (by rw [Int.tmod_one])
    have h2 : 2 ≤ y.natAbs := by omega
    have h3 : x.natAbs / y.natAbs ≤ x.natAbs / 2 := Nat.div_le_div_left h2 (by decide)
    unfold InR at *
    omega
  · exact ht
theorem quoF_neg (x : Int) : quoF x (-1) = -x := (quo_unique (x := x) (y := -1) (q := -x) (r := 0) (by omega) (.inr (by omega))).1
/-! ### Answers are numbers -/
theorem truthV_in (b : Bool) : InR (truthV b) := by cases b <;> (unfold InR truthV; decide)
theorem fitV_inR (n : Int) : InR (fitV n) := inR_is.1 (fitV_in n)
theorem remF_in {x y : Int} (hy : InR y) (h : y ≠ 0) : InR (remF x y) := by
  unfold InR at *
  rcases Int.lt_trichotomy y 0 with h1 | h1 | h1
  · have := rem_neg (x := x) h1; omega
  · exact absurd h1 h
  · have := rem_pos (x := x) h1; omega
theorem powV_in (x y : Int) : InR (powV x y) := by
  unfold powV
  split
  · decide
  split
  · split <;> decide
  split
  · decide
  split
  · decide
  · exact fitV_inR _
theorem twoV_in {f x y : Int} (hx : InR x) (hy : InR y) : InR (twoV f x y) := by
  have h0 : InR 0 := by decide
  have hm : InR (min x y) := by unfold InR at *; omega
  have hM : InR (max x y) := by unfold InR at *; omega
  have key : ∀ (c : Prop) [Decidable c] (a b : Int), (c → InR a) → (¬ c → InR b) → InR (if c then a else b) := fun c _ a b ha hb => by
    by_cases h : c
    · rw [if_pos h]; exact ha h
    · rw [if_neg h]; exact hb h
  unfold twoV
  refine key _ _ _ (fun _ => fitV_inR _) fun _ => key _ _ _ (fun _ => fitV_inR _) fun _ => key _ _ _ (fun _ => fitV_inR _) fun _ => ?_
  refine key _ _ _ (fun _ => key _ _ _ (fun _ => h0) (fun _ => fitV_inR _)) fun _ => key _ _ _ (fun _ => key _ _ _ (fun _ => hy) (fun h => remF_in hx h)) fun _ => ?_
  refine key _ _ _ (fun _ => hm) fun _ => key _ _ _ (fun _ => hM) fun _ => key _ _ _ (fun _ => powV_in _ _) fun _ => ?_
  refine key _ _ _ (fun _ => truthV_in _) fun _ => key _ _ _ (fun _ => truthV_in _) fun _ => key _ _ _ (fun _ => truthV_in _) fun _ => key _ _ _ (fun _ => truthV_in _) fun _ => key _ _ _ (fun _ => truthV_in _) fun _ => key _ _ _ (fun _ => truthV_in _) fun _ => ?_
  exact key _ _ _ (fun _ => key _ _ _ (fun _ => truthV_in _) (fun _ => h0)) fun _ => key _ _ _ (fun _ => key _ _ _ (fun _ => truthV_in _) (fun _ => h0)) fun _ => h0
theorem twoE_in (f x y : Int) : twoE f x y = 0 ∨ twoE f x y = 2 ∨ twoE f x y = 5 ∨ twoE f x y = 7 ∨ twoE f x y = 8 := by
  have hf : ∀ n, fitE n = 0 ∨ fitE n = 7 := fun n => by unfold fitE; split <;> simp
  have hp : powE x y = 0 ∨ powE x y = 5 ∨ powE x y = 7 := by
    unfold powE
    repeat' split
    all_goals first
      | (simp; done)
      | (rcases hf (x ^ y.toNat) with h | h <;> simp [h])
  have h1 := hf (x + y)
  have h2 := hf (x - y)
  have h3 := hf (x * y)
  have h4 := hf (quoF x y)
  unfold twoE
  repeat' split
  all_goals omega
/-- What fails has no number. -/
theorem fit_both (n : Int) : fitE n = 0 ∨ fitV n = 0 := by unfold fitE fitV; cases inR n <;> simp
theorem two_none {f x y : Int} (h : twoE f x y ≠ 0) : twoV f x y = 0 := by
  have hf : ∀ n, fitE n ≠ 0 → fitV n = 0 := fun n hn => (fit_both n).resolve_left hn
  have hp : powE x y ≠ 0 → powV x y = 0 := by
    unfold powE powV
    repeat' split
    all_goals first
      | (intro h; exact absurd rfl h)
      | exact hf _
      | (intro _; rfl)
  by_cases h1 : f = 1
  · subst h1; exact hf _ h
  by_cases h2 : f = 2
  · subst h2; exact hf _ h
  by_cases h3 : f = 3
  · subst h3; exact hf _ h
  unfold twoE at h
  unfold twoV
  rw [if_neg h1, if_neg h2, if_neg h3] at h ⊢
  by_cases h4 : f = 4
  · rw [if_pos h4] at h ⊢
    by_cases hy : y = 0
    · rw [if_pos hy]
    · rw [if_neg hy] at h ⊢; exact hf _ h
  rw [if_neg h4] at h ⊢
  by_cases h5 : f = 5
  · rw [if_pos h5] at h; exact absurd rfl h
  rw [if_neg h5] at h ⊢
  by_cases h6 : f = 6
  · rw [if_pos h6] at h; exact absurd rfl h
  rw [if_neg h6] at h ⊢
  by_cases h7 : f = 7
  · rw [if_pos h7] at h; exact absurd rfl h
  rw [if_neg h7] at h ⊢
  by_cases h8 : f = 8
  · rw [if_pos h8] at h ⊢; exact hp h
  rw [if_neg h8] at h ⊢
  by_cases h9 : f = 9
  · rw [if_pos h9] at h; exact absurd rfl h
  rw [if_neg h9] at h ⊢
  by_cases h10 : f = 10
  · rw [if_pos h10] at h; exact absurd rfl h
  rw [if_neg h10] at h ⊢
  by_cases h11 : f = 11
  · rw [if_pos h11] at h; exact absurd rfl h
  rw [if_neg h11] at h ⊢
  by_cases h12 : f = 12
  · rw [if_pos h12] at h; exact absurd rfl h
  rw [if_neg h12] at h ⊢
  by_cases h13 : f = 13
  · rw [if_pos h13] at h; exact absurd rfl h
  rw [if_neg h13] at h ⊢
  by_cases h14 : f = 14
  · rw [if_pos h14] at h; exact absurd rfl h
  rw [if_neg h14] at h ⊢
  by_cases h15 : f = 15
  · rw [if_pos h15] at h ⊢
    by_cases ht : (isT x && isT y) = true
    · rw [if_pos ht] at h; exact absurd rfl h
    · rw [if_neg ht]
  rw [if_neg h15] at h ⊢
  by_cases h16 : f = 16
  · rw [if_pos h16] at h ⊢
    by_cases ht : (isT x && isT y) = true
    · rw [if_pos ht] at h; exact absurd rfl h
    · rw [if_neg ht]
  rw [if_neg h16]
end Go.Proofs.Ytkabdkblcgklmaa.sc

namespace Go.Proofs.Ytkabdkblcgklmaa.sc
open Go.RowKit

theorem alloc_below (w : World) (o : Obj) : Below w.heap.size w (w.alloc o) := (Below.refl _ _).alloc (Nat.le_refl _) _
theorem below_on {w w1 w2 : World} (h : Below w.heap.size w w1) (k : Below w1.heap.size w1 w2) : Below w.heap.size w w2 := h.trans (k.mono h.size)

theorem sctruth_any (b : Bool) (w : World) : Calls Try.prog 93 #[.bool b] w fun e w' => e = .returned (.tuple #[.int .i64 (truthV b), .int .i64 0]) ∧ w = w' := by
  cases b
  · go_enter Try.func93, Try.ntmps93
    go_wp2
    go_ret2
    exact ⟨rfl, rfl⟩
  · go_enter Try.func93, Try.ntmps93
    go_wp2
    go_ret2
    exact ⟨rfl, rfl⟩
theorem scistruth_any (n : Int) (w : World) : Calls Try.prog 195 #[.int .i64 n] w fun e w' => e = .returned (.bool (isT n)) ∧ w = w' := by
  unfold isT
  by_cases h0 : n = 0
  · subst h0
    go_enter Try.func195, Try.ntmps195
    go_wp2
    go_ret
    exact ⟨rfl, rfl⟩
  · have d0 : (n == 0) = false := by simp [h0]
    rw [decide_eq_false h0, Bool.false_or]
    by_cases h1 : n = 1
    · subst h1
      go_enter Try.func195, Try.ntmps195
      go_wp2
      go_ret
      exact ⟨rfl, rfl⟩
    · have d1 : (n == 1) = false := by simp [h1]
      rw [decide_eq_false h1]
      go_enter Try.func195, Try.ntmps195
      go_wp2
      go_ret
      exact ⟨rfl, rfl⟩

theorem prsum_any (x y : Int) (hx : InR x) (hy : InR y) (w : World) : Calls Try.prog 139 #[.agg #[.int .i64 x, .int .i64 y]] w fun e w' => e = .returned (.tuple #[.int .i64 (fitV (x + y)), .int .i64 (fitE (x + y))]) ∧ Below w.heap.size w w' := by
  obtain ⟨n, hn⟩ : ∃ n, n = wrap64 (x + y) := ⟨_, rfl⟩
  have e1 : wrap64 (x + y) = n := hn.symm
  obtain ⟨s1, s2⟩ := sum_go hn hx hy
  cases h : inR (x + y)
  · have d := s2 h
    rw [(fit_no h).1, (fit_no h).2]
    clear s1 s2 hn hx hy h
    rcases d with ⟨d1, d2⟩ | ⟨d1, d2⟩
    ·
      go_enter Try.func139, Try.ntmps139
      go_wp2
      go_ret2
      exact ⟨rfl, alloc_below _ _⟩
    ·
      go_enter Try.func139, Try.ntmps139
      go_wp2
      go_ret2
      exact ⟨rfl, alloc_below _ _⟩
  · obtain ⟨s3, d⟩ := s1 h
    rw [(fit_yes h).1, (fit_yes h).2, ← s3]
    clear s1 s2 s3 hn hx hy h
    rcases d with ⟨d1, d2⟩ | ⟨d1, d2⟩
    ·
      go_enter Try.func139, Try.ntmps139
      go_wp2
      go_ret2
      exact ⟨by rw [← e1]; rfl, alloc_below _ _⟩
    ·
      go_enter Try.func139, Try.ntmps139
      go_wp2
      go_ret2
      exact ⟨by rw [← e1]; rfl, alloc_below _ _⟩
theorem prdiff_any (x y : Int) (hx : InR x) (hy : InR y) (w : World) : Calls Try.prog 140 #[.agg #[.int .i64 x, .int .i64 y]] w fun e w' => e = .returned (.tuple #[.int .i64 (fitV (x - y)), .int .i64 (fitE (x - y))]) ∧ Below w.heap.size w w' := by
  obtain ⟨n, hn⟩ : ∃ n, n = wrap64 (x - y) := ⟨_, rfl⟩
  have e1 : wrap64 (x - y) = n := hn.symm
  obtain ⟨s1, s2⟩ := diff_go hn hx hy
  cases h : inR (x - y)
  · have d := s2 h
    rw [(fit_no h).1, (fit_no h).2]
    clear s1 s2 hn hx hy h
    rcases d with ⟨d1, d2⟩ | ⟨d1, d2⟩
    ·
      go_enter Try.func140, Try.ntmps140
      go_wp2
      go_ret2
      exact ⟨rfl, alloc_below _ _⟩
    ·
      go_enter Try.func140, Try.ntmps140
      go_wp2
      go_ret2
      exact ⟨rfl, alloc_below _ _⟩
  · obtain ⟨s3, d⟩ := s1 h
    rw [(fit_yes h).1, (fit_yes h).2, ← s3]
    clear s1 s2 s3 hn hx hy h
    rcases d with ⟨d1, d2⟩ | ⟨d1, d2⟩
    ·
      go_enter Try.func140, Try.ntmps140
      go_wp2
      go_ret2
      exact ⟨by rw [← e1]; rfl, alloc_below _ _⟩
    ·
      go_enter Try.func140, Try.ntmps140
      go_wp2
      go_ret2
      exact ⟨by rw [← e1]; rfl, alloc_below _ _⟩
theorem propp_any (x y : Int) (hy : InR y) (w : World) : Calls Try.prog 193 #[.agg #[.int .i64 x, .int .i64 y]] w fun e w' => e = .returned (.tuple #[.int .i64 (fitV (-y)), .int .i64 (fitE (-y))]) ∧ Below w.heap.size w w' := by
  have H : Hid (∀ W, Calls Try.prog 140 #[.agg #[.int .i64 0, .int .i64 y]] W fun e w' => e = .returned (.tuple #[.int .i64 (fitV (-y)), .int .i64 (fitE (-y))]) ∧ Below W.heap.size W w') := Lib.hid (fun W => by
    have h := prdiff_any 0 y (by decide) hy W
    rw [Int.zero_sub] at h
    exact h)
  clear hy
  go_enter Try.func193, Try.ntmps193
  go_wp2_with (go_at_call 140; refine (H.out _).mono ?_; rintro e w2 ⟨rfl, b2⟩)
  go_ret2
  exact ⟨rfl, below_on (alloc_below _ _) b2⟩
theorem cmpnan_any (n : Int) (w : World) : Calls Try.prog 171 #[.int .i64 n] w fun e w' => e = .returned (.bool false) ∧ w = w' := by
  go_enter Try.func171, Try.ntmps171
  go_wp2
  go_ret
  exact ⟨by simp, rfl⟩
def sgnV (y : Int) : Int := if 0 < y then 1 else if y < 0 then -1 else 0
theorem cmpl_any (y : Int) (w : World) : Calls Try.prog 103 #[.int .i64 y, .int .i64 0] w fun e w' => e = .returned (.int .i64 (sgnV y)) ∧ w = w' := by
  have H := Lib.hid (fun n => cmpnan_any n w)
  unfold sgnV
  by_cases h1 : 0 < y
  · have h2 : ¬ y < 0 := by omega
    rw [if_pos h1]
    go_enter Try.func103, Try.ntmps103
    go_wp2_with (go_at_call 171; refine (H.out _).mono ?_; rintro e _ ⟨rfl, rfl⟩)
    go_ret
    exact ⟨rfl, rfl⟩
  · rw [if_neg h1]
    by_cases h2 : y < 0
    · rw [if_pos h2]
      go_enter Try.func103, Try.ntmps103
      go_wp2_with (go_at_call 171; refine (H.out _).mono ?_; rintro e _ ⟨rfl, rfl⟩)
      go_ret
      exact ⟨rfl, rfl⟩
    · rw [if_neg h2]
      go_enter Try.func103, Try.ntmps103
      go_wp2_with (go_at_call 171; refine (H.out _).mono ?_; rintro e _ ⟨rfl, rfl⟩)
      go_ret
      exact ⟨rfl, rfl⟩
theorem sgnV_in (y : Int) : InR (sgnV y) := by
  unfold sgnV
  split
  · decide
  · split <;> decide
theorem prprod_any (x y : Int) (hx : InR x) (hy : InR y) (w : World) : Calls Try.prog 141 #[.agg #[.int .i64 x, .int .i64 y]] w fun e w' => e = .returned (.tuple #[.int .i64 (fitV (x * y)), .int .i64 (fitE (x * y))]) ∧ Below w.heap.size w w' := by
  by_cases h1 : y = -1
  · subst h1
    have H : Hid (∀ W, Calls Try.prog 193 #[.agg #[.int .i64 0, .int .i64 x]] W fun e w' => e = .returned (.tuple #[.int .i64 (fitV (x * -1)), .int .i64 (fitE (x * -1))]) ∧ Below W.heap.size W w') := Lib.hid (fun W => by
      have h := propp_any 0 x hx W
      rw [show x * -1 = -x by omega]
      exact h)
    generalize fitV (x * -1) = V at *
    generalize fitE (x * -1) = E at *
    clear hx hy
    go_enter Try.func141, Try.ntmps141
    go_wp2_with (go_at_call 193; refine (H.out _).mono ?_; rintro e w2 ⟨rfl, b2⟩)
    go_ret2
    exact ⟨rfl, below_on (alloc_below _ _) b2⟩
  have d1 : (y == -1) = false := by simp [h1]
  by_cases h0 : y = 0
  · subst h0
    have hf : inR (x * 0) = true := by rw [Int.mul_zero]; decide
    rw [(fit_yes hf).1, (fit_yes hf).2]
    clear hx hy h1 hf
    go_enter Try.func141, Try.ntmps141
    go_wp2
    go_quiet (fail)
    go_wp2
    go_ret2
    refine ⟨?_, below_drewN (alloc_below _ _) _⟩
    simp
  have d0 : (y == 0) = false := by simp [h0]
  have d00 : (y != 0) = true := by simp [h0]
  obtain ⟨n, hn⟩ : ∃ n, n = wrap64 (x * y) := ⟨_, rfl⟩
  have e1 : wrap64 (x * y) = n := hn.symm
  have hg := prod_go hn h0 h1 hy
  have hnr : InR n := by rw [hn]; unfold InR wrap64; omega
  obtain ⟨t, ht⟩ : ∃ t, Int.tdiv n y = t := ⟨_, rfl⟩
  have hti := tdiv_in hnr h0 h1
  rw [ht] at hg hti
  have e2 : IntKind.i64.wrap (Int.tdiv n y) = t := by rw [ht]; exact IntWalk.i64_in _ hti
  have e3 : wrap64 (Int.tdiv n y) = t := by rw [ht]; exact IntWalk.wrap64_in _ hti
  cases h : inR (x * y)
  · have hne : ¬ t = x := fun e => by rw [hg] at e; exact inR_not.1 h e
    have d2 : (t != x) = true := by simp [hne]
    have d3 : (t == x) = false := by simp [hne]
    rw [(fit_no h).1, (fit_no h).2]
    unfold InR at hti
    clear hg hn hx hy h hne hnr h1
    go_enter Try.func141, Try.ntmps141
    go_wp2
    go_quiet (fail)
    go_wp2
    go_ret2
    exact ⟨rfl, below_drewN (alloc_below _ _) _⟩
  · have he : t = x := hg.2 (inR_is.1 h)
    have hnx : n = x * y := by
      have := IntWalk.wrap64_in _ (inR_iff.1 h)
      rw [← hn] at this
      exact this
    rw [(fit_yes h).1, (fit_yes h).2, ← hnx]
    subst he
    unfold InR at hti
    clear hg hn hx hy h hnr h1 hnx
    go_enter Try.func141, Try.ntmps141
    go_wp2
    go_quiet (fail)
    go_wp2
    go_ret2
    exact ⟨by rw [← e1]; rfl, below_drewN (alloc_below _ _) _⟩
theorem prquo_any (x y : Int) (hx : InR x) (w : World) : Calls Try.prog 142 #[.agg #[.int .i64 x, .int .i64 y]] w fun e w' => e = .returned (.tuple #[.int .i64 (if y = 0 then 0 else fitV (quoF x y)), .int .i64 (if y = 0 then 8 else fitE (quoF x y))]) ∧ Below w.heap.size w w' := by
  by_cases h0 : y = 0
  · subst h0
    rw [if_pos rfl, if_pos rfl]
    clear hx
    go_enter Try.func142, Try.ntmps142
    go_wp2
    go_ret2
    exact ⟨rfl, alloc_below _ _⟩
  rw [if_neg h0, if_neg h0]
  have d0 : (y == 0) = false := by simp [h0]
  by_cases h1 : y = -1
  · subst h1
    rw [quoF_neg]
    have H : Hid (∀ W, Calls Try.prog 193 #[.agg #[.int .i64 0, .int .i64 x]] W fun e w' => e = .returned (.tuple #[.int .i64 (fitV (-x)), .int .i64 (fitE (-x))]) ∧ Below W.heap.size W w') := Lib.hid (fun W => propp_any 0 x hx W)
    generalize fitV (-x) = V at *
    generalize fitE (-x) = E at *
    clear hx
    go_enter Try.func142, Try.ntmps142
    go_wp2_with (go_at_call 193; refine (H.out _).mono ?_; rintro e w2 ⟨rfl, b2⟩)
    go_ret2
    exact ⟨rfl, below_on (alloc_below _ _) b2⟩
  have d1 : (y == -1) = false := by simp [h1]
  have hq := quo_go (x := x) h0
  have hqr := quoF_in hx h0 h1
  obtain ⟨t, ht⟩ : ∃ t, Int.tdiv x y = t := ⟨_, rfl⟩
  obtain ⟨r, hr⟩ : ∃ r, Int.tmod x y = r := ⟨_, rfl⟩
  have hti := tdiv_in hx h0 h1
  rw [ht] at hti
  rw [ht, hr] at hq
  have e2 : IntKind.i64.wrap (Int.tdiv x y) = t := by rw [ht]; exact IntWalk.i64_in _ hti
  have e3 : wrap64 (Int.tdiv x y) = t := by rw [ht]; exact IntWalk.wrap64_in _ hti
  rw [(fit_yes (inR_is.2 hqr)).1, (fit_yes (inR_is.2 hqr)).2]
  rw [hq] at hqr ⊢
  by_cases hc : r ≠ 0 ∧ decide (x < 0) ≠ decide (y < 0)
  · rw [if_pos hc] at hqr ⊢
    have d2 : (r != 0) = true := by simp [hc.1]
    have d4 : (r == 0) = false := by simp [hc.1]
    have d3 : (x < 0 ∧ ¬ y < 0) ∨ (¬ x < 0 ∧ y < 0) := by
      have := hc.2
      by_cases h3 : x < 0 <;> by_cases h4 : y < 0 <;> simp [h3, h4] at this ⊢
    unfold InR at hqr hti
    clear hc hq hx ht h1
    rcases d3 with ⟨d5, d6⟩ | ⟨d5, d6⟩
    ·
      go_enter Try.func142, Try.ntmps142
      go_wp2
      go_ret2
      exact ⟨rfl, alloc_below _ _⟩
    ·
      go_enter Try.func142, Try.ntmps142
      go_wp2
      go_ret2
      exact ⟨rfl, alloc_below _ _⟩
  · rw [if_neg hc]
    unfold InR at hti
    clear hqr hq hx ht h1
    by_cases hr0 : r = 0
    · subst hr0
      clear hc
      go_enter Try.func142, Try.ntmps142
      go_wp2
      go_ret2
      exact ⟨rfl, alloc_below _ _⟩
    · have d2 : (r != 0) = true := by simp [hr0]
      have d4 : (r == 0) = false := by simp [hr0]
      have d3 : (x < 0 ∧ y < 0) ∨ (¬ x < 0 ∧ ¬ y < 0) := by
        by_cases h3 : x < 0 <;> by_cases h4 : y < 0 <;> simp [h3, h4, hr0] at hc ⊢
      clear hc hr0
      rcases d3 with ⟨d5, d6⟩ | ⟨d5, d6⟩
      ·
        go_enter Try.func142, Try.ntmps142
        go_wp2
        go_ret2
        exact ⟨rfl, alloc_below _ _⟩
      ·
        go_enter Try.func142, Try.ntmps142
        go_wp2
        go_ret2
        exact ⟨rfl, alloc_below _ _⟩
theorem prres_any (x y : Int) (hx : InR x) (w : World) : Calls Try.prog 143 #[.agg #[.int .i64 x, .int .i64 y]] w fun e w' => e = .returned (.tuple #[.int .i64 (if x = 0 then y else remF y x), .int .i64 (0)]) ∧ Below w.heap.size w w' := by
  by_cases h0 : x = 0
  · subst h0
    rw [if_pos rfl]
    clear hx
    go_enter Try.func143, Try.ntmps143
    go_wp2
    go_ret2
    exact ⟨rfl, alloc_below _ _⟩
  rw [if_neg h0]
  have d0 : (x == 0) = false := by simp [h0]
  have hq := rem_go (x := y) h0
  have hqr := remF_in (x := y) hx h0
  obtain ⟨r, hr⟩ : ∃ r, Int.tmod y x = r := ⟨_, rfl⟩
  rw [hr] at hq
  rw [hq] at hqr ⊢
  by_cases hc : r ≠ 0 ∧ decide (r < 0) ≠ decide (x < 0)
  · rw [if_pos hc] at hqr ⊢
    have d2 : (r != 0) = true := by simp [hc.1]
    have d4 : (r == 0) = false := by simp [hc.1]
    have d3 : (r < 0 ∧ ¬ x < 0) ∨ (¬ r < 0 ∧ x < 0) := by
      have := hc.2
      by_cases h3 : r < 0 <;> by_cases h4 : x < 0 <;> simp [h3, h4] at this ⊢
    unfold InR at hqr
    clear hc hq hx
    rcases d3 with ⟨d5, d6⟩ | ⟨d5, d6⟩
    ·
      go_enter Try.func143, Try.ntmps143
      go_wp2
      go_ret2
      exact ⟨rfl, alloc_below _ _⟩
    ·
      go_enter Try.func143, Try.ntmps143
      go_wp2
      go_ret2
      exact ⟨rfl, alloc_below _ _⟩
  · rw [if_neg hc]
    clear hqr hq hx
    by_cases hr0 : r = 0
    · subst hr0
      clear hc
      go_enter Try.func143, Try.ntmps143
      go_wp2
      go_ret2
      exact ⟨rfl, alloc_below _ _⟩
    · have d2 : (r != 0) = true := by simp [hr0]
      have d4 : (r == 0) = false := by simp [hr0]
      have d3 : (r < 0 ∧ x < 0) ∨ (¬ r < 0 ∧ ¬ x < 0) := by
        by_cases h3 : r < 0 <;> by_cases h4 : x < 0 <;> simp [h3, h4, hr0] at hc ⊢
      clear hc hr0
      rcases d3 with ⟨d5, d6⟩ | ⟨d5, d6⟩
      ·
        go_enter Try.func143, Try.ntmps143
        go_wp2
        go_ret2
        exact ⟨rfl, alloc_below _ _⟩
      ·
        go_enter Try.func143, Try.ntmps143
        go_wp2
        go_ret2
        exact ⟨rfl, alloc_below _ _⟩
theorem prmin_any (x y : Int) (w : World) : Calls Try.prog 144 #[.agg #[.int .i64 x, .int .i64 y]] w fun e w' => e = .returned (.tuple #[.int .i64 (min x y), .int .i64 (0)]) ∧ Below w.heap.size w w' := by
  rcases Int.lt_trichotomy x y with h | h | h
  · rw [show min x y = x by omega]
    have h1 : ¬ y < x := by omega
    have h2 : ¬ y ≤ x := by omega
    have h3 : x ≤ y := by omega
    go_enter Try.func144, Try.ntmps144
    go_wp2
    go_ret2
    exact ⟨rfl, alloc_below _ _⟩
  · subst h
    rw [show min x x = x by omega]
    have h1 : ¬ x < x := by omega
    have h2 : x ≤ x := by omega
    go_enter Try.func144, Try.ntmps144
    go_wp2
    go_ret2
    exact ⟨rfl, alloc_below _ _⟩
  · rw [show min x y = y by omega]
    have h1 : ¬ x < y := by omega
    have h2 : ¬ x ≤ y := by omega
    have h3 : y ≤ x := by omega
    go_enter Try.func144, Try.ntmps144
    go_wp2
    go_ret2
    exact ⟨rfl, alloc_below _ _⟩
theorem prmax_any (x y : Int) (w : World) : Calls Try.prog 145 #[.agg #[.int .i64 x, .int .i64 y]] w fun e w' => e = .returned (.tuple #[.int .i64 (max x y), .int .i64 (0)]) ∧ Below w.heap.size w w' := by
  rcases Int.lt_trichotomy x y with h | h | h
  · rw [show max x y = y by omega]
    have h1 : ¬ y < x := by omega
    have h2 : ¬ y ≤ x := by omega
    have h3 : x ≤ y := by omega
    go_enter Try.func145, Try.ntmps145
    go_wp2
    go_ret2
    exact ⟨rfl, alloc_below _ _⟩
  · subst h
    rw [show max x x = x by omega]
    have h1 : ¬ x < x := by omega
    have h2 : x ≤ x := by omega
    go_enter Try.func145, Try.ntmps145
    go_wp2
    go_ret2
    exact ⟨rfl, alloc_below _ _⟩
  · rw [show max x y = x by omega]
    have h1 : ¬ x < y := by omega
    have h2 : ¬ x ≤ y := by omega
    have h3 : y ≤ x := by omega
    go_enter Try.func145, Try.ntmps145
    go_wp2
    go_ret2
    exact ⟨rfl, alloc_below _ _⟩
theorem preq_any (x y : Int) (w : World) : Calls Try.prog 147 #[.agg #[.int .i64 x, .int .i64 y]] w fun e w' => e = .returned (.tuple #[.int .i64 (truthV (decide (x = y))), .int .i64 (0)]) ∧ Below w.heap.size w w' := by
  have H := Lib.hid (fun b W => sctruth_any b W)
  go_enter Try.func147, Try.ntmps147
  go_wp2_with (go_at_call 93; refine (H.out _ _).mono ?_; rintro e _ ⟨rfl, rfl⟩)
  go_ret2
  exact ⟨rfl, alloc_below _ _⟩
theorem prne_any (x y : Int) (w : World) : Calls Try.prog 148 #[.agg #[.int .i64 x, .int .i64 y]] w fun e w' => e = .returned (.tuple #[.int .i64 (truthV (decide (x ≠ y))), .int .i64 (0)]) ∧ Below w.heap.size w w' := by
  have H := Lib.hid (fun b W => sctruth_any b W)
  rw [show decide (x ≠ y) = (x != y) by by_cases h : x = y <;> simp [h]]
  go_enter Try.func148, Try.ntmps148
  go_wp2_with (go_at_call 93; refine (H.out _ _).mono ?_; rintro e _ ⟨rfl, rfl⟩)
  go_ret2
  exact ⟨rfl, alloc_below _ _⟩
theorem prlt_any (x y : Int) (w : World) : Calls Try.prog 149 #[.agg #[.int .i64 x, .int .i64 y]] w fun e w' => e = .returned (.tuple #[.int .i64 (truthV (decide (x < y))), .int .i64 (0)]) ∧ Below w.heap.size w w' := by
  have H := Lib.hid (fun b W => sctruth_any b W)
  go_enter Try.func149, Try.ntmps149
  go_wp2_with (go_at_call 93; refine (H.out _ _).mono ?_; rintro e _ ⟨rfl, rfl⟩)
  go_ret2
  exact ⟨rfl, alloc_below _ _⟩
theorem prle_any (x y : Int) (w : World) : Calls Try.prog 150 #[.agg #[.int .i64 x, .int .i64 y]] w fun e w' => e = .returned (.tuple #[.int .i64 (truthV (decide (x ≤ y))), .int .i64 (0)]) ∧ Below w.heap.size w w' := by
  have H := Lib.hid (fun b W => sctruth_any b W)
  go_enter Try.func150, Try.ntmps150
  go_wp2_with (go_at_call 93; refine (H.out _ _).mono ?_; rintro e _ ⟨rfl, rfl⟩)
  go_ret2
  exact ⟨rfl, alloc_below _ _⟩
theorem prge_any (x y : Int) (w : World) : Calls Try.prog 151 #[.agg #[.int .i64 x, .int .i64 y]] w fun e w' => e = .returned (.tuple #[.int .i64 (truthV (decide (y ≤ x))), .int .i64 (0)]) ∧ Below w.heap.size w w' := by
  have H := Lib.hid (fun b W => sctruth_any b W)
  go_enter Try.func151, Try.ntmps151
  go_wp2_with (go_at_call 93; refine (H.out _ _).mono ?_; rintro e _ ⟨rfl, rfl⟩)
  go_ret2
  exact ⟨rfl, alloc_below _ _⟩
theorem prgt_any (x y : Int) (w : World) : Calls Try.prog 152 #[.agg #[.int .i64 x, .int .i64 y]] w fun e w' => e = .returned (.tuple #[.int .i64 (truthV (decide (y < x))), .int .i64 (0)]) ∧ Below w.heap.size w w' := by
  have H := Lib.hid (fun b W => sctruth_any b W)
  go_enter Try.func152, Try.ntmps152
  go_wp2_with (go_at_call 93; refine (H.out _ _).mono ?_; rintro e _ ⟨rfl, rfl⟩)
  go_ret2
  exact ⟨rfl, alloc_below _ _⟩
end Go.Proofs.Ytkabdkblcgklmaa.sc

namespace Go.Proofs.Ytkabdkblcgklmaa.sc
open Go.RowKit

theorem pow_step {x : Int} {k : Nat} (h : inR (x ^ k) = true) : fitV (fitV (x ^ k) * x) = fitV (x ^ (k + 1)) ∧ fitE (fitV (x ^ k) * x) = fitE (x ^ (k + 1)) := by
  rw [(fit_yes h).1, ← Int.pow_succ]
  exact ⟨rfl, rfl⟩
theorem pow_stop {x : Int} {k n : Nat} (hx : 2 ≤ x.natAbs) (hk : k ≤ n) (h : inR (x ^ k) = false) : fitV (x ^ k) = fitV (x ^ n) ∧ fitE (x ^ k) = fitE (x ^ n) := by
  have hn : inR (x ^ n) = false := by
    obtain ⟨j, rfl⟩ := Nat.le.dest hk
    exact inR_not.2 (pow_out hx k j (inR_not.1 h))
  rw [(fit_no h).1, (fit_no h).2, (fit_no hn).1, (fit_no hn).2]
  exact ⟨rfl, rfl⟩

set_option maxHeartbeats 1000000 in
theorem prrep_any (x : Int) (y : Nat) (hx : InR x) (h2 : 2 ≤ x.natAbs) (hy1 : 1 ≤ y) (hy : (y : Int) ≤ 9223372036854775807) (w : World) :
    Calls Try.prog 194 #[.agg #[.int .i64 x, .int .i64 (y : Int)]] w fun e w' => e = .returned (.tuple #[.int .i64 (fitV (x ^ y)), .int .i64 (fitE (x ^ y))]) ∧ Below w.heap.size w w' := by
  have HP := Lib.hid (fun n (hn : InR n) W => prprod_any n x hn hx W)
  have HST := Lib.hid (fun (k : Nat) => pow_step (x := x) (k := k))
  have HSP := Lib.hid (fun (k : Nat) (hk : k ≤ y) => pow_stop (n := y) h2 hk)
  have h1 : fitV (x ^ 1) = x ∧ fitE (x ^ 1) = 0 := by
    rw [Int.pow_one]
    exact fit_yes (inR_is.2 hx)
  have H1 := Lib.hid h1
  have HI := Lib.hid (fun (k : Nat) => fitV_inR (x ^ k))
  clear h1 h2 hx
  go_enter Try.func194, Try.ntmps194
  go_wp2
  go_loopw [6, 4, 5] (fun t n e wr => ∃ k : Nat, 1 ≤ k ∧ k ≤ y ∧ t = .int .i64 (k : Int) ∧ n = .int .i64 (fitV (x ^ k)) ∧ e = .int .i64 (fitE (x ^ k)) ∧ Below w.heap.size w wr ∧ Blk wr w.heap.size 123 #[.int .i64 x, .int .i64 (y : Int)]) (fun t _ _ _ => y - (intOf t).toNat)
  case atStart => exact ⟨1, Nat.le_refl _, hy1, rfl, by rw [H1.out.1], by rw [H1.out.2], alloc_below _ _, Blk.new _ _ _⟩
  case round =>
    obtain ⟨k, hk1, hk, rfl, rfl, rfl, hb, hx⟩ := hrel
    have c0 := hx.cell 0
    have c1 := hx.cell 1
    have HB := Lib.hid hb
    have HX := Lib.hid hx
    have HIK := Lib.hid (HI.out k)
    have hst := HST.out k
    have hsp := HSP.out k hk
    have hfe : fitE (x ^ k) = (if inR (x ^ k) = true then 0 else 7) := rfl
    have hI2 : Hid (InR (fitV (x ^ k))) := HIK
    generalize hV : fitV (x ^ k) = V at *
    generalize hE : fitE (x ^ k) = E at *
    have HV := Lib.hid hV
    have HE := Lib.hid hE
    have HPV := Lib.hid (HP.out V hI2.out)
    clear hb hx hV hE
    cases hin : inR (x ^ k)
    · rw [hin] at hfe
      obtain rfl : E = 7 := hfe
      have HS := Lib.hid (hsp hin)
      clear hst hsp hin
      have d7 : ((7 : Int) == 0) = false := by decide
      by_cases hlt : (k : Int) < (y : Int)
      · go_wp2
        go_ret2
        exact ⟨by rw [← HS.out.1, ← HS.out.2]; rfl, HB.out⟩
      · go_wp2
        go_ret2
        exact ⟨by rw [← HS.out.1, ← HS.out.2]; rfl, HB.out⟩
    · rw [hin] at hfe
      obtain rfl : E = 0 := hfe
      have HS := Lib.hid (hst hin)
      clear hst hsp hin
      by_cases hlt : (k : Int) < (y : Int)
      · go_wp2_with ((with_reducible refine (HPV.out _).mono ?_); rintro e w2 ⟨rfl, b2⟩)
        exact ⟨⟨k + 1, by omega, by omega, by go_num, by rw [HS.out.1], by rw [HS.out.2], below_on HB.out b2, HX.out.below b2 HX.out.lt⟩, by simp [intOf]; omega⟩
      · obtain rfl : k = y := by omega
        go_wp2
        go_ret2
        exact ⟨by rw [HV.out, HE.out]; rfl, HB.out⟩/-! ### Power, and, or -/
theorem prpow_any (x y : Int) (hx : InR x) (hy : InR y) (w : World) : Calls Try.prog 146 #[.agg #[.int .i64 x, .int .i64 y]] w fun e w' => e = .returned (.tuple #[.int .i64 (powV x y), .int .i64 (powE x y)]) ∧ Below w.heap.size w w' := by
  unfold powV powE
  by_cases h0 : y = 0
  · subst h0
    rw [if_pos (.inl rfl), if_pos (.inl rfl)]
    clear hx hy
    go_enter Try.func146, Try.ntmps146
    go_wp2
    go_ret2
    exact ⟨rfl, alloc_below _ _⟩
  have d0 : (y == 0) = false := by simp [h0]
  by_cases h1 : x = 1
  · subst h1
    rw [if_pos (.inr rfl), if_pos (.inr rfl)]
    clear hx hy h0
    go_enter Try.func146, Try.ntmps146
    go_wp2
    go_ret2
    exact ⟨rfl, alloc_below _ _⟩
  have d1 : (x == 1) = false := by simp [h1]
  have hc : ¬ (y = 0 ∨ x = 1) := fun h => h.elim h0 h1
  rw [if_neg hc, if_neg hc]
  clear hc
  by_cases hm : x = -1
  · subst hm
    rw [if_pos rfl, if_pos rfl]
    have ha := and_one y
    obtain ⟨b, hb⟩ : ∃ b, y % 2 = b := ⟨_, rfl⟩
    have hb2 : b = 0 ∨ b = 1 := by omega
    rw [hb] at ha ⊢
    rcases hb2 with rfl | rfl
    · rw [if_pos rfl]
      clear hx hy hb h0 h1 d1
      go_enter Try.func146, Try.ntmps146
      go_wp2
      go_ret2
      exact ⟨rfl, alloc_below _ _⟩
    · rw [if_neg (by decide)]
      clear hx hy hb h0 h1 d1
      go_enter Try.func146, Try.ntmps146
      go_wp2
      go_ret2
      exact ⟨rfl, alloc_below _ _⟩
  have dm : (x == -1) = false := by simp [hm]
  rw [if_neg hm, if_neg hm]
  by_cases hn : y < 0
  · rw [if_pos hn, if_pos hn]
    clear hx hy h0 h1 hm
    go_enter Try.func146, Try.ntmps146
    go_wp2
    go_ret2
    exact ⟨rfl, alloc_below _ _⟩
  rw [if_neg hn, if_neg hn]
  by_cases hz : x = 0
  · subst hz
    rw [if_pos rfl, if_pos rfl]
    clear hx hy h0 h1 hm
    go_enter Try.func146, Try.ntmps146
    go_wp2
    go_ret2
    exact ⟨rfl, alloc_below _ _⟩
  have dz : (x == 0) = false := by simp [hz]
  rw [if_neg hz, if_neg hz]
  obtain ⟨n, hN⟩ := Int.eq_ofNat_of_zero_le (a := y) (by omega)
  subst hN
  rw [Int.toNat_natCast]
  have H := Lib.hid (fun W => prrep_any x n hx (by omega) (by omega) hy.2 W)
  generalize fitV (x ^ n) = V at *
  generalize fitE (x ^ n) = E at *
  have hx1 := (Blk.new w 123 #[.int .i64 x, .int .i64 (n : Int)])
  have c0 := hx1.cell 0
  have c1 := hx1.cell 1
  clear hx hy h0 h1 hm hz hx1
  go_enter Try.func146, Try.ntmps146
  go_wp2_with (go_at_call 194; refine (H.out _).mono ?_; rintro e w2 ⟨rfl, b2⟩)
  go_ret2
  exact ⟨rfl, below_on (alloc_below _ _) b2⟩

theorem prand_any (x y : Int) (w : World) : Calls Try.prog 153 #[.agg #[.int .i64 x, .int .i64 y]] w fun e w' => e = .returned (.tuple #[.int .i64 (if (isT x && isT y) = true then truthV (decide (x = 1) && decide (y = 1)) else 0), .int .i64 (if (isT x && isT y) = true then 0 else 5)]) ∧ Below w.heap.size w w' := by
  have HX := Lib.hid (fun W => scistruth_any x W)
  have HY := Lib.hid (fun W => scistruth_any y W)
  cases h : isT x
  · rw [h] at HX
    rw [Bool.false_and, if_neg (by decide), if_neg (by decide)]
    clear h
    go_enter Try.func153, Try.ntmps153
    go_wp2_with (go_at_call 195; refine (HX.out _).mono ?_; rintro e _ ⟨rfl, rfl⟩)
    go_ret2
    exact ⟨rfl, alloc_below _ _⟩
  · cases h2 : isT y
    · rw [h] at HX
      rw [h2] at HY
      rw [Bool.true_and, if_neg (by decide), if_neg (by decide)]
      clear h h2
      go_enter Try.func153, Try.ntmps153
      go_wp2_with (first
        | (go_at_call 195; (have l0 := M1.out; clear l0); refine (HY.out _).mono ?_; rintro e _ ⟨rfl, rfl⟩)
        | (go_at_call 195; refine (HX.out _).mono ?_; rintro e _ ⟨rfl, rfl⟩; have M1 : Hid (1 = 1) := Lib.hid rfl))
      go_ret2
      exact ⟨rfl, alloc_below _ _⟩
    · rw [h] at HX
      rw [h2] at HY
      rw [Bool.true_and, if_pos rfl, if_pos rfl]
      rcases isT_iff.1 h with rfl | rfl <;> rcases isT_iff.1 h2 with rfl | rfl
      all_goals
        clear h h2
        go_enter Try.func153, Try.ntmps153
        go_wp2_with (first
          | (go_at_call 195; (have l0 := M1.out; clear l0); refine (HY.out _).mono ?_; rintro e _ ⟨rfl, rfl⟩)
          | (go_at_call 195; refine (HX.out _).mono ?_; rintro e _ ⟨rfl, rfl⟩; have M1 : Hid (1 = 1) := Lib.hid rfl))
        go_ret2
        exact ⟨rfl, alloc_below _ _⟩

theorem pror_any (x y : Int) (w : World) : Calls Try.prog 154 #[.agg #[.int .i64 x, .int .i64 y]] w fun e w' => e = .returned (.tuple #[.int .i64 (if (isT x && isT y) = true then truthV (decide (x = 1) || decide (y = 1)) else 0), .int .i64 (if (isT x && isT y) = true then 0 else 5)]) ∧ Below w.heap.size w w' := by
  have HX := Lib.hid (fun W => scistruth_any x W)
  have HY := Lib.hid (fun W => scistruth_any y W)
  cases h : isT x
  · rw [h] at HX
    rw [Bool.false_and, if_neg (by decide), if_neg (by decide)]
    clear h
    go_enter Try.func154, Try.ntmps154
    go_wp2_with (go_at_call 195; refine (HX.out _).mono ?_; rintro e _ ⟨rfl, rfl⟩)
    go_ret2
    exact ⟨rfl, alloc_below _ _⟩
  · cases h2 : isT y
    · rw [h] at HX
      rw [h2] at HY
      rw [Bool.true_and, if_neg (by decide), if_neg (by decide)]
      clear h h2
      go_enter Try.func154, Try.ntmps154
      go_wp2_with (first
        | (go_at_call 195; (have l0 := M1.out; clear l0); refine (HY.out _).mono ?_; rintro e _ ⟨rfl, rfl⟩)
        | (go_at_call 195; refine (HX.out _).mono ?_; rintro e _ ⟨rfl, rfl⟩; have M1 : Hid (1 = 1) := Lib.hid rfl))
      go_ret2
      exact ⟨rfl, alloc_below _ _⟩
    · rw [h] at HX
      rw [h2] at HY
      rw [Bool.true_and, if_pos rfl, if_pos rfl]
      rcases isT_iff.1 h with rfl | rfl <;> rcases isT_iff.1 h2 with rfl | rfl
      all_goals
        clear h h2
        go_enter Try.func154, Try.ntmps154
        go_wp2_with (first
          | (go_at_call 195; (have l0 := M1.out; clear l0); refine (HY.out _).mono ?_; rintro e _ ⟨rfl, rfl⟩)
          | (go_at_call 195; refine (HX.out _).mono ?_; rintro e _ ⟨rfl, rfl⟩; have M1 : Hid (1 = 1) := Lib.hid rfl))
        go_ret2
        exact ⟨rfl, alloc_below _ _⟩

end Go.Proofs.Ytkabdkblcgklmaa.sc

namespace Go.Proofs.Ytkabdkblcgklmaa.sc
open Go.RowKit

def opsD : List Value := [.nilFunc, .func (.func 139) #[] #[], .func (.func 140) #[] #[], .func (.func 141) #[] #[], .func (.func 142) #[] #[], .func (.func 143) #[] #[], .func (.func 144) #[] #[], .func (.func 145) #[] #[], .func (.func 146) #[] #[], .func (.func 147) #[] #[], .func (.func 148) #[] #[], .func (.func 149) #[] #[], .func (.func 150) #[] #[], .func (.func 151) #[] #[], .func (.func 152) #[] #[], .func (.func 153) #[] #[], .func (.func 154) #[] #[]]
/-- A function beside none. -/
theorem run_fn {P : Program} {tp : TypeId} {a b c : _} (hp : P.underlying tp = some (.func a b c)) (g : Fn) (xs ys : Array Value) (w : World) :
    (binOp .eql tp .nilFunc .nilFunc).run P w = .ok (.bool true) w ∧ (binOp .neq tp .nilFunc .nilFunc).run P w = .ok (.bool false) w ∧
    (binOp .eql tp (.func g xs ys) .nilFunc).run P w = .ok (.bool false) w ∧ (binOp .neq tp (.func g xs ys) .nilFunc).run P w = .ok (.bool true) w := by
  have h : ∀ d : Nat, (Op.equalIn (d + 1) tp .nilFunc .nilFunc).run P w = .ok true w := fun d => by
    simp [Op.equalIn, run_underlying hp]
  have h2 : ∀ d : Nat, (Op.equalIn (d + 1) tp (.func g xs ys) .nilFunc).run P w = .ok false w := fun d => by
    simp [Op.equalIn, run_underlying hp]
  refine ⟨?_, ?_, ?_, ?_⟩
  · simp only [binOp]
    simp [Op.equal, Op.maxDepth, h 9999]
  · simp only [binOp]
    simp [Op.equal, Op.maxDepth, h 9999]
  · simp only [binOp]
    simp [Op.equal, Op.maxDepth, h2 9999]
  · simp only [binOp]
    simp [Op.equal, Op.maxDepth, h2 9999]
def chosenV (f : Int) (l : List Value) : Value := if 0 ≤ f ∧ f < (l.length : Int) then l.getD f.toNat .nilFunc else .nilFunc
theorem scchosen_any (f : Int) (g n : Nat) (l : List Value) (hl : l.length = n) (w : World) (hx : Blk w g 120 l.toArray) :
    Calls Try.prog 138 #[.int .i64 f, .slice (some ⟨g, 0, none⟩) n n] w fun e w' => e = .returned (chosenV f l) ∧ w = w' := by
  unfold chosenV
  rw [hl]
  by_cases h0 : f < 0
  · rw [if_neg (by omega)]
    clear hx hl
    go_enter Try.func138, Try.ntmps138
    go_wp2
    go_ret
    exact ⟨rfl, rfl⟩
  by_cases h1 : (n : Int) ≤ f
  · rw [if_neg (by omega)]
    clear hx hl
    go_enter Try.func138, Try.ntmps138
    go_wp2
    go_ret
    exact ⟨rfl, rfl⟩
  rw [if_pos (by omega)]
  obtain ⟨k, hk⟩ := Int.eq_ofNat_of_zero_le (a := f) (by omega)
  subst hk
  rw [Int.toNat_natCast]
  have hkn : k < n := by omega
  have hkl : k < l.length := by omega
  have ck := hx.cell k
  rw [List.getElem?_toArray, List.getElem?_eq_getElem hkl] at ck
  rw [List.getD_eq_getElem?_getD, List.getElem?_eq_getElem hkl, Option.getD_some]
  generalize l[k] = u at *
  clear hx hl hkl
  go_enter Try.func138, Try.ntmps138
  go_wp2
  go_ret
  exact ⟨rfl, rfl⟩
def dyV (f : Int) : Value := chosenV f opsD
theorem scdy_any (f : Int) (w : World) : Calls Try.prog 89 #[.int .i64 f] w fun e w' => e = .returned (dyV f) ∧ Below w.heap.size w w' := by
  have hc : Calls Try.prog 138 #[.int .i64 f, .slice (some ⟨w.heap.size, 0, none⟩) 17 17] (w.alloc (.cells opsD.toArray 120)) fun e w' => e = .returned (dyV f) ∧ w.alloc (.cells opsD.toArray 120) = w' := scchosen_any f w.heap.size 17 opsD rfl _ (Blk.new w _ _)
  unfold opsD at hc
  have HC := Lib.hid hc
  clear hc
  go_enter Try.func89, Try.ntmps89
  go_wp2_with (go_at_call 138; refine HC.out.mono ?_; rintro e _ ⟨rfl, rfl⟩)
  go_ret
  exact ⟨rfl, alloc_below _ _⟩
theorem dyV_no {f : Int} (h : ¬ (f = 1 ∨ f = 2 ∨ f = 3 ∨ f = 4 ∨ f = 5 ∨ f = 6 ∨ f = 7 ∨ f = 8 ∨ f = 9 ∨ f = 10 ∨ f = 11 ∨ f = 12 ∨ f = 13 ∨ f = 14 ∨ f = 15 ∨ f = 16)) : dyV f = .nilFunc := by
  unfold dyV chosenV
  split
  · rename_i h1
    have h2 : f < 17 := h1.2
    obtain ⟨k, hk⟩ := Int.eq_ofNat_of_zero_le h1.1
    subst hk
    rw [Int.toNat_natCast]
    have hk : k = 0 := by omega
    obtain rfl := hk <;> rfl
  · rfl
theorem bin_iff {f : Int} : binB f = true ↔ (f = 1 ∨ f = 2 ∨ f = 3 ∨ f = 4 ∨ f = 5 ∨ f = 6 ∨ f = 7 ∨ f = 8 ∨ f = 9 ∨ f = 10 ∨ f = 11 ∨ f = 12 ∨ f = 13 ∨ f = 14 ∨ f = 15 ∨ f = 16) := by
  unfold binB
  rw [Bool.and_eq_true, decide_eq_true_eq, decide_eq_true_eq]
  omega
theorem un_iff {f : Int} : unB f = true ↔ (f = 1 ∨ f = 2 ∨ f = 3 ∨ f = 5 ∨ f = 17) := by
  unfold unB
  simp only [Bool.or_eq_true, decide_eq_true_eq]
  omega
theorem two_no {f x y : Int} (h : binB f = false) : twoV f x y = 0 ∧ twoE f x y = 2 := by
  have hn : ¬ (1 ≤ f ∧ f ≤ 16) := by
    intro h1
    unfold binB at h
    rw [decide_eq_true h1.1, decide_eq_true h1.2] at h
    cases h
  unfold twoV twoE
  rw [if_neg (show ¬ f = 1 by omega), if_neg (show ¬ f = 1 by omega)]
  rw [if_neg (show ¬ f = 2 by omega), if_neg (show ¬ f = 2 by omega)]
  rw [if_neg (show ¬ f = 3 by omega), if_neg (show ¬ f = 3 by omega)]
  rw [if_neg (show ¬ f = 4 by omega), if_neg (show ¬ f = 4 by omega)]
  rw [if_neg (show ¬ f = 5 by omega), if_neg (show ¬ f = 5 by omega)]
  rw [if_neg (show ¬ f = 6 by omega), if_neg (show ¬ f = 6 by omega)]
  rw [if_neg (show ¬ f = 7 by omega), if_neg (show ¬ f = 7 by omega)]
  rw [if_neg (show ¬ f = 8 by omega), if_neg (show ¬ f = 8 by omega)]
  rw [if_neg (show ¬ f = 9 by omega), if_neg (show ¬ f = 9 by omega)]
  rw [if_neg (show ¬ f = 10 by omega), if_neg (show ¬ f = 10 by omega)]
  rw [if_neg (show ¬ f = 11 by omega), if_neg (show ¬ f = 11 by omega)]
  rw [if_neg (show ¬ f = 12 by omega), if_neg (show ¬ f = 12 by omega)]
  rw [if_neg (show ¬ f = 13 by omega), if_neg (show ¬ f = 13 by omega)]
  rw [if_neg (show ¬ f = 14 by omega), if_neg (show ¬ f = 14 by omega)]
  rw [if_neg (show ¬ f = 15 by omega), if_neg (show ¬ f = 15 by omega)]
  rw [if_neg (show ¬ f = 16 by omega), if_neg (show ¬ f = 16 by omega)]
  exact ⟨rfl, rfl⟩
theorem one_no {f y : Int} (h : unB f = false) : oneV f y = 0 ∧ oneE f y = 2 := by
  have hn : ¬ (f = 1 ∨ f = 2 ∨ f = 3 ∨ f = 5 ∨ f = 17) := by
    intro h1
    rw [un_iff.2 h1] at h
    cases h
  unfold oneV oneE
  rw [if_neg (show ¬ f = 1 by omega), if_neg (show ¬ f = 1 by omega)]
  rw [if_neg (show ¬ f = 2 by omega), if_neg (show ¬ f = 2 by omega)]
  rw [if_neg (show ¬ f = 3 by omega), if_neg (show ¬ f = 3 by omega)]
  rw [if_neg (show ¬ f = 5 by omega), if_neg (show ¬ f = 5 by omega)]
  rw [if_neg (show ¬ f = 17 by omega), if_neg (show ¬ f = 17 by omega)]
  exact ⟨rfl, rfl⟩
set_option maxRecDepth 100000 in
set_option maxHeartbeats 4000000 in
theorem sctwo_gen (f x y : Int) (V E : Int) (g : Nat) (hgf : ∀ args w, (callFunc g args).run Try.prog w = .ok (.enter g args) w) (hd : dyV f = .func (.func g) #[] #[])
    (h : ∀ W, Calls Try.prog g #[.agg #[.int .i64 x, .int .i64 y]] W fun e w' => e = .returned (.tuple #[.int .i64 V, .int .i64 E]) ∧ Below W.heap.size W w') (w : World) :
    Calls Try.prog 48 #[.int .i64 f, .int .i64 x, .int .i64 y] w fun e w' => e = .returned (.tuple #[.int .i64 V, .int .i64 E]) ∧ Below w.heap.size w w' := by
  have HD := Lib.hid (scdy_any f w)
  have H := Lib.hid h
  rw [hd] at HD
  clear h hd
  go_enter Try.func48, Try.ntmps48
  go_wp2_with (go_at_call 89; refine HD.out.mono ?_; rintro e w2 ⟨rfl, b2⟩)
  simp [(run_fn Try.underlying120 _ _ _ _).2.2.1]
  go_wp2_with ((with_reducible refine (H.out _).mono ?_); rintro e w3 ⟨rfl, b3⟩)
  go_ret2
  exact ⟨rfl, below_on b2 b3⟩
set_option maxRecDepth 100000 in
set_option maxHeartbeats 4000000 in
theorem sctwo_any (f x y : Int) (hx : InR x) (hy : InR y) (w : World) : Calls Try.prog 48 #[.int .i64 f, .int .i64 x, .int .i64 y] w fun e w' => e = .returned (.tuple #[.int .i64 (twoV f x y), .int .i64 (twoE f x y)]) ∧ Below w.heap.size w w' := by
  have HD := Lib.hid (scdy_any f w)
  cases hb : binB f
  · have hn : dyV f = .nilFunc := dyV_no (fun h => by rw [bin_iff.2 h] at hb; cases hb)
    rw [(two_no hb).1, (two_no hb).2]
    rw [hn] at HD
    clear hb hn hx hy
    go_enter Try.func48, Try.ntmps48
    go_wp2_with (go_at_call 89; refine HD.out.mono ?_; rintro e w2 ⟨rfl, b2⟩)
    simp [(run_fn Try.underlying120 (.func 0) #[] #[] _).1]
    go_wp2
    go_ret2
    exact ⟨rfl, b2⟩
  · rcases bin_iff.1 hb with rfl | rfl | rfl | rfl | rfl | rfl | rfl | rfl | rfl | rfl | rfl | rfl | rfl | rfl | rfl | rfl
    · exact sctwo_gen _ _ _ _ _ 139 (enters_of Try.func139 (by kernel_rfl) rfl) rfl (fun W => prsum_any x y hx hy W) w
    · exact sctwo_gen _ _ _ _ _ 140 (enters_of Try.func140 (by kernel_rfl) rfl) rfl (fun W => prdiff_any x y hx hy W) w
    · exact sctwo_gen _ _ _ _ _ 141 (enters_of Try.func141 (by kernel_rfl) rfl) rfl (fun W => prprod_any x y hx hy W) w
    · exact sctwo_gen _ _ _ _ _ 142 (enters_of Try.func142 (by kernel_rfl) rfl) rfl (fun W => prquo_any x y hx W) w
    · exact sctwo_gen _ _ _ _ _ 143 (enters_of Try.func143 (by kernel_rfl) rfl) rfl (fun W => prres_any x y hx W) w
    · exact sctwo_gen _ _ _ _ _ 144 (enters_of Try.func144 (by kernel_rfl) rfl) rfl (fun W => prmin_any x y W) w
    · exact sctwo_gen _ _ _ _ _ 145 (enters_of Try.func145 (by kernel_rfl) rfl) rfl (fun W => prmax_any x y W) w
    · exact sctwo_gen _ _ _ _ _ 146 (enters_of Try.func146 (by kernel_rfl) rfl) rfl (fun W => prpow_any x y hx hy W) w
    · exact sctwo_gen _ _ _ _ _ 147 (enters_of Try.func147 (by kernel_rfl) rfl) rfl (fun W => preq_any x y W) w
    · exact sctwo_gen _ _ _ _ _ 148 (enters_of Try.func148 (by kernel_rfl) rfl) rfl (fun W => prne_any x y W) w
    · exact sctwo_gen _ _ _ _ _ 149 (enters_of Try.func149 (by kernel_rfl) rfl) rfl (fun W => prlt_any x y W) w
    · exact sctwo_gen _ _ _ _ _ 150 (enters_of Try.func150 (by kernel_rfl) rfl) rfl (fun W => prle_any x y W) w
    · exact sctwo_gen _ _ _ _ _ 151 (enters_of Try.func151 (by kernel_rfl) rfl) rfl (fun W => prge_any x y W) w
    · exact sctwo_gen _ _ _ _ _ 152 (enters_of Try.func152 (by kernel_rfl) rfl) rfl (fun W => prgt_any x y W) w
    · exact sctwo_gen _ _ _ _ _ 153 (enters_of Try.func153 (by kernel_rfl) rfl) rfl (fun W => prand_any x y W) w
    · exact sctwo_gen _ _ _ _ _ 154 (enters_of Try.func154 (by kernel_rfl) rfl) rfl (fun W => pror_any x y W) w
set_option maxRecDepth 100000 in
theorem scbin_any (f : Int) (w : World) : Calls Try.prog 52 #[.int .i64 f] w fun e w' => e = .returned (.bool (binB f)) ∧ Below w.heap.size w w' := by
  have HD := Lib.hid (scdy_any f w)
  cases hb : binB f
  · have hn : dyV f = .nilFunc := dyV_no (fun h => by rw [bin_iff.2 h] at hb; cases hb)
    rw [hn] at HD
    clear hb hn
    go_enter Try.func52, Try.ntmps52
    go_wp2_with (go_at_call 89; refine HD.out.mono ?_; rintro e w2 ⟨rfl, b2⟩)
    simp [(run_fn Try.underlying120 (.func 0) #[] #[] _).2.1]
    go_wp2
    go_ret
    exact ⟨rfl, b2⟩
  · obtain ⟨g, hg⟩ : ∃ g, dyV f = .func (.func g) #[] #[] := by
      rcases bin_iff.1 hb with rfl | rfl | rfl | rfl | rfl | rfl | rfl | rfl | rfl | rfl | rfl | rfl | rfl | rfl | rfl | rfl <;> exact ⟨_, rfl⟩
    rw [hg] at HD
    clear hb hg
    go_enter Try.func52, Try.ntmps52
    go_wp2_with (go_at_call 89; refine HD.out.mono ?_; rintro e w2 ⟨rfl, b2⟩)
    simp [(run_fn Try.underlying120 _ _ _ _).2.2.2]
    go_wp2
    go_ret
    exact ⟨rfl, b2⟩
end Go.Proofs.Ytkabdkblcgklmaa.sc

namespace Go.Proofs.Ytkabdkblcgklmaa.sc
open Go.RowKit

abbrev TwoAt (f x y v e : Int) : Prop := ∀ W, Calls Try.prog 48 #[.int .i64 f, .int .i64 x, .int .i64 y] W fun q w' => q = .returned (.tuple #[.int .i64 v, .int .i64 e]) ∧ Below W.heap.size W w'
theorem two_at {f x y v e : Int} (hx : InR x) (hy : InR y) (hv : twoV f x y = v) (he : twoE f x y = e) : Hid (TwoAt f x y v e) := Lib.hid (fun W => by
  subst hv
  subst he
  exact sctwo_any f x y hx hy W)
end Go.Proofs.Ytkabdkblcgklmaa.sc

/-
  Layer 16 (fold): mathematics of folded rows: a row by its first one, the greatest and the least one, scans of a vector.
-/
import Derived.Test.YtkabdkblcgklmaaFoForm
namespace Go.Proofs.Ytkabdkblcgklmaa.fo
open Go.RowKit Go.Proofs.Ytkabdkblcgklmaa.arr Go.Proofs.Ytkabdkblcgklmaa.sc

theorem apE_all {g : Nat → Int} : ∀ {n : Nat}, apE g n = 0 → ∀ i, i < n → g i = 0
  | 0, _, i, hi => by omega
  | n + 1, h, i, hi => by
    have h1 : (if apE g n = 0 then g n else apE g n) = 0 := h
    by_cases h0 : apE g n = 0
    · rw [if_pos h0] at h1
      by_cases e : i = n
      · rw [e]; exact h1
      · exact apE_all h0 i (by omega)
    · rw [if_neg h0] at h1
      exact absurd h1 h0
theorem apE_zero {g : Nat → Int} : ∀ {n : Nat}, (∀ i, i < n → g i = 0) → apE g n = 0
  | 0, _ => rfl
  | n + 1, h => apE_next (apE_zero (fun i hi => h i (by omega))) (h n (by omega))
theorem apE_iff {g : Nat → Int} {n : Nat} : apE g n = 0 ↔ ∀ i, i < n → g i = 0 := ⟨apE_all, apE_zero⟩
theorem apE_from {g : Nat → Int} : ∀ {n : Nat}, apE g n ≠ 0 → ∃ i, i < n ∧ g i = apE g n ∧ ∀ j, j < i → g j = 0
  | 0, h => absurd rfl h
  | n + 1, h => by
    by_cases h0 : apE g n = 0
    · have e : apE g (n + 1) = g n := by
        show (if apE g n = 0 then g n else apE g n) = _
        rw [if_pos h0]
      exact ⟨n, by omega, e.symm, apE_all h0⟩
    · have e : apE g (n + 1) = apE g n := by
        show (if apE g n = 0 then g n else apE g n) = _
        rw [if_neg h0]
      obtain ⟨i, h1, h2, h3⟩ := apE_from h0
      exact ⟨i, by omega, by rw [e]; exact h2, h3⟩
theorem apE_congr {g k : Nat → Int} : ∀ {n : Nat}, (∀ i, i < n → g i = k i) → apE g n = apE k n
  | 0, _ => rfl
  | n + 1, h => by
    show (if apE g n = 0 then g n else apE g n) = (if apE k n = 0 then k n else apE k n)
    rw [apE_congr (n := n) (fun i hi => h i (by omega)), h n (by omega)]
theorem apL_congr {g k : Nat → Int} {n : Nat} (h : ∀ i, i < n → g i = k i) : apL g n = apL k n := by
  unfold apL
  exact List.map_congr_left (fun i hi => h i (List.mem_range.1 hi))
theorem apL_at {g : Nat → Int} {n i : Nat} (h : i < n) : (apL g n)[i]? = some (g i) := by
  unfold apL
  rw [List.getElem?_map, List.getElem?_range h]
  rfl
theorem apL_take {g : Nat → Int} {n k : Nat} (h : k ≤ n) : (apL g n).take k = apL g k := by
  apply List.ext_getElem?
  intro i
  by_cases hi : i < k
  · rw [List.getElem?_take_of_lt hi, apL_at (by omega), apL_at hi]
  · rw [List.getElem?_eq_none (by rw [List.length_take, apL_length]; omega), List.getElem?_eq_none (by rw [apL_length]; omega)]

/-! ### A vector -/
def vecF (l : List Int) : AV := ⟨1, [(l.length : Int)], l⟩
theorem one_shape {n : Nat} (h : n ≤ 4096) : okShape [(n : Int)] = true := by
  refine okShape_iff.2 ⟨by simp, ?_, ?_⟩
  · rw [List.all_cons, List.all_nil, Bool.and_true]
    exact lenOk_iff.2 ⟨by omega, by omega⟩
  · show (n : Int) * 1 ≤ 4096
    omega
theorem one_N (n : Nat) : mdN [(n : Int)] = n := by
  unfold mdN
  show ((n : Int) * 1).toNat = n
  omega
theorem vecF_ok {l : List Int} (h : l.length ≤ 4096) : okA (vecF l) = true := by
  refine okA_iff.2 ⟨one_shape h, ?_, rfl⟩
  show (l.length : Int) = (l.length : Int) * 1
  omega
theorem vec_long (l : List Int) : longN (vecF l).sh = l.length := by
  unfold longN longI
  show (if ([(l.length : Int)] : List Int).length = 0 then (1 : Int) else ([(l.length : Int)] : List Int).getD (([(l.length : Int)] : List Int).length - 1) 0).toNat = _
  simp
theorem vec_rows {f : Int} (hb : binB f = true) {l : List Int} (h : l.length ≤ 4096) : rowsE f (vecF l) = 0 := by
  unfold rowsE
  rw [hb, vecF_ok h, if_neg (by decide), if_neg (by decide), if_neg (show ¬ (vecF l).kind = 2 by show ¬ (1 : Int) = 2; decide)]
theorem vec_beg (l : List Int) {i : Nat} (hi : i < l.length) : begL (vecF l) i = l.take (i + 1) := by
  unfold begL
  rw [vec_long, Nat.mod_eq_of_lt hi, Nat.sub_self, List.drop_zero]
  rfl
/-- The scan of a vector. -/
def scV (f : Int) (l : List Int) (i : Nat) : Int := rowV f (l.take (i + 1))
def scE (f : Int) (l : List Int) (i : Nat) : Int := rowE f (l.take (i + 1))
theorem scn_vec {f : Int} (hb : binB f = true) {l : List Int} (h : l.length ≤ 4096) :
    scnE f (vecF l) = apE (scE f l) l.length ∧ (scnE f (vecF l) = 0 → scnA f (vecF l) = vecF (apL (scV f l) l.length)) := by
  have e : scnE f (vecF l) = apE (scE f l) l.length := by
    unfold scnE
    rw [vec_rows hb h, if_neg (by decide)]
    rw [show mdN (vecF l).sh = l.length from one_N _]
    exact apE_congr (fun i hi => by rw [vec_beg l hi]; rfl)
  refine ⟨e, fun h0 => ?_⟩
  unfold scnA
  rw [if_pos h0, show mdN (vecF l).sh = l.length from one_N _]
  unfold vecF
  rw [apL_length]
  congr 1
  exact apL_congr (fun i hi => by rw [show begL ⟨1, [(l.length : Int)], l⟩ i = l.take (i + 1) from vec_beg l hi]; rfl)
theorem scV_in {f : Int} {l : List Int} (h : ∀ z ∈ l, InR z) (i : Nat) : InR (scV f l i) := rowV_in (fun z hz => h z (List.mem_of_mem_take hz))
theorem scL_in {f : Int} {l : List Int} (h : ∀ z ∈ l, InR z) (n : Nat) : ∀ z ∈ apL (scV f l) n, InR z := fun z hz => by
  unfold apL at hz
  obtain ⟨i, _, rfl⟩ := List.mem_map.1 hz
  exact scV_in h i
/-- The last one of a scan is the reduce. -/
theorem scn_last {f : Int} {l : List Int} (h : 0 < l.length) (h0 : apE (scE f l) l.length = 0) : rowE f l = 0 ∧ scV f l (l.length - 1) = rowV f l := by
  have e := apE_all h0 (l.length - 1) (by omega)
  unfold scE at e
  unfold scV
  rw [show l.length - 1 + 1 = l.length by omega, List.take_length] at *
  exact ⟨e, rfl⟩
/-- The scan of a beginning is the scan's beginning. -/
theorem scE_take {f : Int} {l : List Int} {k i : Nat} (h : i < k) : scE f (l.take k) i = scE f l i ∧ scV f (l.take k) i = scV f l i := by
  unfold scE scV
  rw [List.take_take, show min (i + 1) k = i + 1 by omega]
  exact ⟨rfl, rfl⟩
theorem scn_take {f : Int} {l : List Int} {k : Nat} (h : k ≤ l.length) :
    apE (scE f (l.take k)) (l.take k).length = apE (scE f l) k ∧ apL (scV f (l.take k)) (l.take k).length = (apL (scV f l) l.length).take k := by
  have hl : (l.take k).length = k := by rw [List.length_take]; omega
  rw [hl, apL_take h]
  exact ⟨apE_congr (fun i hi => (scE_take hi).1), apL_congr (fun i hi => (scE_take hi).2)⟩
theorem scn_pre {f : Int} {l : List Int} {k : Nat} (h : k ≤ l.length) : apE (scE f l) k = 0 ∨ apE (scE f l) k = apE (scE f l) l.length := by
  by_cases h0 : apE (scE f l) k = 0
  · exact .inl h0
  · exact .inr (apE_stay h0 _ h).symm

/-! ### The greatest and the least one -/
theorem two7 (x y : Int) : twoV 7 x y = max x y ∧ twoE 7 x y = 0 := by
  unfold twoV twoE
  exact ⟨rfl, rfl⟩
theorem two6 (x y : Int) : twoV 6 x y = min x y ∧ twoE 6 x y = 0 := by
  unfold twoV twoE
  exact ⟨rfl, rfl⟩
theorem most_is : ∀ {l : List Int}, l ≠ [] → (rowF 7 l).2 = 0 ∧ (rowF 7 l).1 ∈ l ∧ ∀ z ∈ l, z ≤ (rowF 7 l).1
  | [], h => absurd rfl h
  | [x], _ => ⟨rfl, List.mem_singleton.2 rfl, fun z hz => by rw [List.mem_singleton] at hz; rw [hz]; exact Int.le_refl _⟩
  | x :: y :: l, _ => by
    obtain ⟨h1, h2, h3⟩ := most_is (l := y :: l) (by simp)
    rw [rowF_good (by simp) h1]
    simp only [(two7 x (rowF 7 (y :: l)).1).1, (two7 x (rowF 7 (y :: l)).1).2]
    refine ⟨trivial, ?_, fun z hz => ?_⟩
    · rcases Int.le_total x (rowF 7 (y :: l)).1 with h | h
      · rw [Int.max_eq_right h]
        exact List.mem_cons_of_mem _ h2
      · rw [Int.max_eq_left h]
        exact List.mem_cons_self
    · rcases List.mem_cons.1 hz with rfl | hz
      · exact Int.le_max_left _ _
      · exact Int.le_trans (h3 z hz) (Int.le_max_right _ _)
theorem least_is : ∀ {l : List Int}, l ≠ [] → (rowF 6 l).2 = 0 ∧ (rowF 6 l).1 ∈ l ∧ ∀ z ∈ l, (rowF 6 l).1 ≤ z
  | [], h => absurd rfl h
  | [x], _ => ⟨rfl, List.mem_singleton.2 rfl, fun z hz => by rw [List.mem_singleton] at hz; rw [hz]; exact Int.le_refl _⟩
  | x :: y :: l, _ => by
    obtain ⟨h1, h2, h3⟩ := least_is (l := y :: l) (by simp)
    rw [rowF_good (by simp) h1]
    simp only [(two6 x (rowF 6 (y :: l)).1).1, (two6 x (rowF 6 (y :: l)).1).2]
    refine ⟨trivial, ?_, fun z hz => ?_⟩
    · rcases Int.le_total x (rowF 6 (y :: l)).1 with h | h
      · rw [Int.min_eq_left h]
        exact List.mem_cons_self
      · rw [Int.min_eq_right h]
        exact List.mem_cons_of_mem _ h2
    · rcases List.mem_cons.1 hz with rfl | hz
      · exact Int.min_le_left _ _
      · exact Int.le_trans (Int.min_le_right _ _) (h3 z hz)
theorem most_row {l : List Int} (h : l ≠ []) : rowE 7 l = 0 ∧ rowV 7 l ∈ l ∧ ∀ z ∈ l, z ≤ rowV 7 l := by
  rw [(row_bin (f := 7) rfl l).1, (row_bin (f := 7) rfl l).2]
  exact most_is h
theorem least_row {l : List Int} (h : l ≠ []) : rowE 6 l = 0 ∧ rowV 6 l ∈ l ∧ ∀ z ∈ l, rowV 6 l ≤ z := by
  rw [(row_bin (f := 6) rfl l).1, (row_bin (f := 6) rfl l).2]
  exact least_is h
theorem take_ne {l : List Int} {i : Nat} (h : i < l.length) : l.take (i + 1) ≠ [] := by
  intro e
  have := congrArg List.length e
  rw [List.length_take, List.length_nil] at this
  omega
theorem most_scan {l : List Int} : apE (scE 7 l) l.length = 0 := apE_zero (fun _ hi => (most_row (take_ne hi)).1)
theorem most_step {l : List Int} {i : Nat} (h : i < l.length) : l[i] ≤ scV 7 l i ∧ (0 < i → scV 7 l (i - 1) ≤ scV 7 l i) := by
  obtain ⟨_, _, h3⟩ := most_row (take_ne h)
  unfold scV
  refine ⟨h3 _ ?_, fun h0 => h3 _ ?_⟩
  · refine List.mem_iff_getElem?.2 ⟨i, ?_⟩
    rw [List.getElem?_take_of_lt (by omega)]
    exact List.getElem?_eq_getElem h
  · obtain ⟨_, k2, _⟩ := most_row (l := l.take (i - 1 + 1)) (take_ne (by omega))
    obtain ⟨j, hj⟩ := List.mem_iff_getElem?.1 k2
    have hjl : j < i - 1 + 1 := by
      have := (List.getElem?_eq_some_iff.1 hj).1
      rw [List.length_take] at this
      omega
    refine List.mem_iff_getElem?.2 ⟨j, ?_⟩
    rw [List.getElem?_take_of_lt (by omega)]
    rw [List.getElem?_take_of_lt hjl] at hj
    exact hj
end Go.Proofs.Ytkabdkblcgklmaa.fo

/-
  Layer 16 (fold): mathematics of a row that is folded from its last number on; of arrays whose elements come one by one.
  Layer 16 (fold): mathematics of folded rows: a row by its first one, the greatest and the least one, scans of a vector.
  Layer 16 (fold): what comes of no numbers; a row's numbers, the last one first; Row.
  Layer 16 (fold): made: an array whose elements come one by one, or the first error.
-/
import Derived.Test.YtkabdkblcgklmaaScMapT
import Derived.Test.YtkabdkblcgklmaaMovesV
namespace Go.Proofs.Ytkabdkblcgklmaa.fo
open Go.RowKit Go.Proofs.Ytkabdkblcgklmaa.arr Go.Proofs.Ytkabdkblcgklmaa.sc

/-- What comes of no numbers. -/
def idV (f : Int) : Int := if f = 6 then 9223372036854775807 else if f = 7 then -9223372036854775808 else if f = 3 ∨ f = 4 ∨ f = 8 ∨ f = 9 ∨ f = 12 ∨ f = 13 ∨ f = 15 then 1 else 0
def idE (f : Int) : Int := if binB f = true then 0 else 2
theorem idV_in (f : Int) : InR (idV f) := by
  unfold idV InR
  split
  · omega
  · split
    · omega
    · split <;> omega
/-- A row, folded: the number, and the error. -/
def rowF (f : Int) : List Int → Int × Int
  | [] => (idV f, 0)
  | x :: l => if l = [] then (x, 0) else if (rowF f l).2 ≠ 0 then rowF f l else (twoV f x (rowF f l).1, twoE f x (rowF f l).1)
theorem rowF_nil (f : Int) : rowF f [] = (idV f, 0) := rfl
theorem rowF_one (f x : Int) : rowF f [x] = (x, 0) := rfl
theorem rowF_cons (f x : Int) {l : List Int} (h : l ≠ []) : rowF f (x :: l) = if (rowF f l).2 ≠ 0 then rowF f l else (twoV f x (rowF f l).1, twoE f x (rowF f l).1) := by
  show (if l = [] then (x, 0) else if (rowF f l).2 ≠ 0 then rowF f l else (twoV f x (rowF f l).1, twoE f x (rowF f l).1)) = _
  rw [if_neg h]
theorem rowF_bad {f x : Int} {l : List Int} (h : (rowF f l).2 ≠ 0) : rowF f (x :: l) = rowF f l := by
  have hl : l ≠ [] := by
    rintro rfl
    exact h rfl
  rw [rowF_cons f x hl, if_pos h]
theorem rowF_app {f : Int} {l : List Int} (h : (rowF f l).2 ≠ 0) : ∀ m, rowF f (m ++ l) = rowF f l
  | [] => rfl
  | x :: m => by
    have ih := rowF_app h m
    show rowF f (x :: (m ++ l)) = _
    rw [rowF_bad (by rw [ih]; exact h), ih]
theorem rowF_good {f x : Int} {l : List Int} (hl : l ≠ []) (h : (rowF f l).2 = 0) : rowF f (x :: l) = (twoV f x (rowF f l).1, twoE f x (rowF f l).1) := by
  rw [rowF_cons f x hl, if_neg (by rw [h]; decide)]
theorem rowF_in {f : Int} : ∀ {l : List Int}, (∀ z ∈ l, InR z) → InR (rowF f l).1
  | [], _ => idV_in f
  | x :: l, h => by
    by_cases hl : l = []
    · subst hl
      exact h x List.mem_cons_self
    · have ih := rowF_in (f := f) (l := l) (fun z hz => h z (List.mem_cons_of_mem _ hz))
      rw [rowF_cons f x hl]
      split
      · exact ih
      · exact twoV_in (h x List.mem_cons_self) ih
def rowV (f : Int) (l : List Int) : Int := if binB f = true then (rowF f l).1 else 0
def rowE (f : Int) (l : List Int) : Int := if binB f = true then (rowF f l).2 else 2
theorem row_bin {f : Int} (h : binB f = true) (l : List Int) : rowV f l = (rowF f l).1 ∧ rowE f l = (rowF f l).2 := by
  unfold rowV rowE
  rw [if_pos h, if_pos h]
  exact ⟨rfl, rfl⟩
theorem row_no {f : Int} (h : binB f = false) (l : List Int) : rowV f l = 0 ∧ rowE f l = 2 := by
  unfold rowV rowE
  rw [h, if_neg (by decide), if_neg (by decide)]
  exact ⟨rfl, rfl⟩
theorem rowV_in {f : Int} {l : List Int} (h : ∀ z ∈ l, InR z) : InR (rowV f l) := by
  unfold rowV
  split
  · exact rowF_in h
  · unfold InR; omega
/-- .. behind so many rounds. -/
def tailF (f : Int) (l : List Int) (k : Nat) : Int × Int := rowF f (l.drop (l.length - k))
theorem tail_zero (f : Int) (l : List Int) : tailF f l 0 = (idV f, 0) := by
  unfold tailF
  rw [Nat.sub_zero, List.drop_length, rowF_nil]
theorem tail_all (f : Int) (l : List Int) : tailF f l l.length = rowF f l := by
  unfold tailF
  rw [Nat.sub_self, List.drop_zero]
theorem drop_tail {l : List Int} {k : Nat} (h : k < l.length) : l.drop (l.length - (k + 1)) = l[l.length - 1 - k]'(by omega) :: l.drop (l.length - k) := by
  rw [List.drop_eq_getElem_cons (show l.length - (k + 1) < l.length by omega)]
  have e1 : l.length - (k + 1) + 1 = l.length - k := by omega
  have e2 : l.length - (k + 1) = l.length - 1 - k := by omega
  rw [e1]
  congr 1
  simp only [e2]
theorem tail_first {f : Int} {l : List Int} (h : 0 < l.length) : tailF f l 1 = (l[l.length - 1]'(by omega), 0) := by
  unfold tailF
  have e := drop_tail (k := 0) h
  simp only [Nat.sub_zero, List.drop_length] at e
  rw [e, rowF_one]
theorem tail_next {f : Int} {l : List Int} {k : Nat} (h0 : 0 < k) (h : k < l.length) (he : (tailF f l k).2 = 0) : tailF f l (k + 1) = (twoV f (l[l.length - 1 - k]'(by omega)) (tailF f l k).1, twoE f (l[l.length - 1 - k]'(by omega)) (tailF f l k).1) := by
  unfold tailF at he ⊢
  rw [drop_tail h]
  have hne : l.drop (l.length - k) ≠ [] := by
    intro e
    have := congrArg List.length e
    rw [List.length_drop, List.length_nil] at this
    omega
  exact rowF_good hne he
theorem tail_bad {f : Int} {l : List Int} {k : Nat} (he : (tailF f l k).2 ≠ 0) : rowF f l = tailF f l k := by
  unfold tailF at he ⊢
  have h := rowF_app he (l.take (l.length - k))
  rwa [List.take_append_drop] at h
theorem tail_in {f : Int} {l : List Int} {k : Nat} (h : ∀ z ∈ l, InR z) : InR (tailF f l k).1 := rowF_in (fun z hz => h z (List.mem_of_mem_drop hz))

/-! ### An array made of elements that come one by one -/
def mdN (sh : List Int) : Nat := (prodI sh).toNat
def mdR (sh : List Int) (gv ge : Nat → Int) : AV := if apE ge (mdN sh) = 0 then ⟨1, sh, apL gv (mdN sh)⟩ else ⟨0, [], []⟩

/-! ### Rows -/
def othL (sh : List Int) : List Int := sh.take (sh.length - 1)
def longI (sh : List Int) : Int := if sh.length = 0 then 1 else sh.getD (sh.length - 1) 0
def longN (sh : List Int) : Nat := (longI sh).toNat
def manyN (sh : List Int) : Nat := (prodI (othL sh)).toNat
/-- May rows be folded? -/
def rowsE (f : Int) (a : AV) : Int := if binB f = false then 2 else if okA a = false then 110 else if a.kind = 2 then 5 else 0
def redE (f : Int) (a : AV) : Int :=
  if rowsE f a ≠ 0 then rowsE f a else if okShape (othL a.sh) = false then 9 else apE (fun r => rowE f ((a.el.drop (r * longN a.sh)).take (longN a.sh))) (mdN (othL a.sh))
def redA (f : Int) (a : AV) : AV := if redE f a = 0 then ⟨1, othL a.sh, apL (fun r => rowV f ((a.el.drop (r * longN a.sh)).take (longN a.sh))) (mdN (othL a.sh))⟩ else ⟨0, [], []⟩
def begL (a : AV) (n : Nat) : List Int := (a.el.drop (n - n % longN a.sh)).take (n % longN a.sh + 1)
def scnE (f : Int) (a : AV) : Int := if rowsE f a ≠ 0 then rowsE f a else apE (fun n => rowE f (begL a n)) (mdN a.sh)
def scnA (f : Int) (a : AV) : AV := if scnE f a = 0 then ⟨1, a.sh, apL (fun n => rowV f (begL a n)) (mdN a.sh)⟩ else ⟨0, [], []⟩
/-! ### Products -/
def outE0 (f : Int) (a b : AV) : Int := if binB f = false then 2 else if (okA a && okA b) = false then 110 else if kindsE f a.kind b.kind ≠ 0 then kindsE f a.kind b.kind else if okShape (a.sh ++ b.sh) = false then 9 else 0
def outGE (f : Int) (a b : AV) (n : Nat) : Int := mixE f a.kind b.kind (a.el.getD (n / b.el.length) 0) (b.el.getD (n % b.el.length) 0)
def outGV (f : Int) (a b : AV) (n : Nat) : Int := mixV f a.kind b.kind (a.el.getD (n / b.el.length) 0) (b.el.getD (n % b.el.length) 0)
def outE (f : Int) (a b : AV) : Int := if outE0 f a b ≠ 0 then outE0 f a b else apE (outGE f a b) (mdN (a.sh ++ b.sh))
def outA (f : Int) (a b : AV) : AV := if outE f a b = 0 then ⟨1, a.sh ++ b.sh, apL (outGV f a b) (mdN (a.sh ++ b.sh))⟩ else ⟨0, [], []⟩
end Go.Proofs.Ytkabdkblcgklmaa.fo

namespace Go.Proofs.Ytkabdkblcgklmaa.fo
open Go.RowKit Go.Proofs.Ytkabdkblcgklmaa.arr Go.Proofs.Ytkabdkblcgklmaa.sc

theorem apE_all {g : Nat → Int} : ∀ {n : Nat}, apE g n = 0 → ∀ i, i < n → g i = 0
  | 0, _, i, hi => by omega
  | n + 1, h, i, hi => by
    have h1 : (if apE g n = 0 then g n else apE g n) = 0 := h
    by_cases h0 : apE g n = 0
    · rw [if_pos h0] at h1
      by_cases e : i = n
      · rw [e]; exact h1
      · exact apE_all h0 i (by omega)
    · rw [if_neg h0] at h1
      exact absurd h1 h0
theorem apE_zero {g : Nat → Int} : ∀ {n : Nat}, (∀ i, i < n → g i = 0) → apE g n = 0
  | 0, _ => rfl
  | n + 1, h => apE_next (apE_zero (fun i hi => h i (by omega))) (h n (by omega))
theorem apE_iff {g : Nat → Int} {n : Nat} : apE g n = 0 ↔ ∀ i, i < n → g i = 0 := ⟨apE_all, apE_zero⟩
theorem apE_from {g : Nat → Int} : ∀ {n : Nat}, apE g n ≠ 0 → ∃ i, i < n ∧ g i = apE g n ∧ ∀ j, j < i → g j = 0
  | 0, h => absurd rfl h
  | n + 1, h => by
    by_cases h0 : apE g n = 0
    · have e : apE g (n + 1) = g n := by
        show (if apE g n = 0 then g n else apE g n) = _
        rw [if_pos h0]
      exact ⟨n, by omega, e.symm, apE_all h0⟩
    · have e : apE g (n + 1) = apE g n := by
        show (if apE g n = 0 then g n else apE g n) = _
        rw [if_neg h0]
      obtain ⟨i, h1, h2, h3⟩ := apE_from h0
      exact ⟨i, by omega, by rw [e]; exact h2, h3⟩
theorem apE_congr {g k : Nat → Int} : ∀ {n : Nat}, (∀ i, i < n → g i = k i) → apE g n = apE k n
  | 0, _ => rfl
  | n + 1, h => by
    show (if apE g n = 0 then g n else apE g n) = (if apE k n = 0 then k n else apE k n)
    rw [apE_congr (n := n) (fun i hi => h i (by omega)), h n (by omega)]
theorem apL_congr {g k : Nat → Int} {n : Nat} (h : ∀ i, i < n → g i = k i) : apL g n = apL k n := by
  unfold apL
  exact List.map_congr_left (fun i hi => h i (List.mem_range.1 hi))
theorem apL_at {g : Nat → Int} {n i : Nat} (h : i < n) : (apL g n)[i]? = some (g i) := by
  unfold apL
  rw [List.getElem?_map, List.getElem?_range h]
  rfl
theorem apL_take {g : Nat → Int} {n k : Nat} (h : k ≤ n) : (apL g n).take k = apL g k := by
  apply List.ext_getElem?
  intro i
  by_cases hi : i < k
  · rw [List.getElem?_take_of_lt hi, apL_at (by omega), apL_at hi]
  · rw [List.getElem?_eq_none (by rw [List.length_take, apL_length]; omega), List.getElem?_eq_none (by rw [apL_length]; omega)]

/-! ### A vector -/
def vecF (l : List Int) : AV := ⟨1, [(l.length : Int)], l⟩
theorem one_shape {n : Nat} (h : n ≤ 4096) : okShape [(n : Int)] = true := by
  refine okShape_iff.2 ⟨by simp, ?_, ?_⟩
  · rw [List.all_cons, List.all_nil, Bool.and_true]
    exact lenOk_iff.2 ⟨by omega, by omega⟩
  · show (n : Int) * 1 ≤ 4096
    omega
theorem one_N (n : Nat) : mdN [(n : Int)] = n := by
  unfold mdN
  show ((n : Int) * 1).toNat = n
  omega
theorem vecF_ok {l : List Int} (h : l.length ≤ 4096) : okA (vecF l) = true := by
  refine okA_iff.2 ⟨one_shape h, ?_, rfl⟩
  show (l.length : Int) = (l.length : Int) * 1
  omega
theorem vec_long (l : List Int) : longN (vecF l).sh = l.length := by
  unfold longN longI
  show (if ([(l.length : Int)] : List Int).length = 0 then (1 : Int) else ([(l.length : Int)] : List Int).getD (([(l.length : Int)] : List Int).length - 1) 0).toNat = _
  simp
theorem vec_rows {f : Int} (hb : binB f = true) {l : List Int} (h : l.length ≤ 4096) : rowsE f (vecF l) = 0 := by
  unfold rowsE
  rw [hb, vecF_ok h, if_neg (by decide), if_neg (by decide), if_neg (show ¬ (vecF l).kind = 2 by show ¬ (1 : Int) = 2; decide)]
theorem vec_beg (l : List Int) {i : Nat} (hi : i < l.length) : begL (vecF l) i = l.take (i + 1) := by
  unfold begL
  rw [vec_long, Nat.mod_eq_of_lt hi, Nat.sub_self, List.drop_zero]
  rfl
/-- The scan of a vector. -/
def scV (f : Int) (l : List Int) (i : Nat) : Int := rowV f (l.take (i + 1))
def scE (f : Int) (l : List Int) (i : Nat) : Int := rowE f (l.take (i + 1))
theorem scn_vec {f : Int} (hb : binB f = true) {l : List Int} (h : l.length ≤ 4096) :
    scnE f (vecF l) = apE (scE f l) l.length ∧ (scnE f (vecF l) = 0 → scnA f (vecF l) = vecF (apL (scV f l) l.length)) := by
  have e : scnE f (vecF l) = apE (scE f l) l.length := by
    unfold scnE
    rw [vec_rows hb h, if_neg (by decide)]
    rw [show mdN (vecF l).sh = l.length from one_N _]
    exact apE_congr (fun i hi => by rw [vec_beg l hi]; rfl)
  refine ⟨e, fun h0 => ?_⟩
  unfold scnA
  rw [if_pos h0, show mdN (vecF l).sh = l.length from one_N _]
  unfold vecF
  rw [apL_length]
  congr 1
  exact apL_congr (fun i hi => by rw [show begL ⟨1, [(l.length : Int)], l⟩ i = l.take (i + 1) from vec_beg l hi]; rfl)
theorem scV_in {f : Int} {l : List Int} (h : ∀ z ∈ l, InR z) (i : Nat) : InR (scV f l i) := rowV_in (fun z hz => h z (List.mem_of_mem_take hz))
theorem scL_in {f : Int} {l : List Int} (h : ∀ z ∈ l, InR z) (n : Nat) : ∀ z ∈ apL (scV f l) n, InR z := fun z hz => by
  unfold apL at hz
  obtain ⟨i, _, rfl⟩ := List.mem_map.1 hz
  exact scV_in h i
/-- The last one of a scan is the reduce. -/
theorem scn_last {f : Int} {l : List Int} (h : 0 < l.length) (h0 : apE (scE f l) l.length = 0) : rowE f l = 0 ∧ scV f l (l.length - 1) = rowV f l := by
  have e := apE_all h0 (l.length - 1) (by omega)
  unfold scE at e
  unfold scV
  rw [show l.length - 1 + 1 = l.length by omega, List.take_length] at *
  exact ⟨e, rfl⟩
/-- The scan of a beginning is the scan's beginning. -/
theorem scE_take {f : Int} {l : List Int} {k i : Nat} (h : i < k) : scE f (l.take k) i = scE f l i ∧ scV f (l.take k) i = scV f l i := by
  unfold scE scV
  rw [List.take_take, show min (i + 1) k = i + 1 by omega]
  exact ⟨rfl, rfl⟩
theorem scn_take {f : Int} {l : List Int} {k : Nat} (h : k ≤ l.length) :
    apE (scE f (l.take k)) (l.take k).length = apE (scE f l) k ∧ apL (scV f (l.take k)) (l.take k).length = (apL (scV f l) l.length).take k := by
  have hl : (l.take k).length = k := by rw [List.length_take]; omega
  rw [hl, apL_take h]
  exact ⟨apE_congr (fun i hi => (scE_take hi).1), apL_congr (fun i hi => (scE_take hi).2)⟩
theorem scn_pre {f : Int} {l : List Int} {k : Nat} (h : k ≤ l.length) : apE (scE f l) k = 0 ∨ apE (scE f l) k = apE (scE f l) l.length := by
  by_cases h0 : apE (scE f l) k = 0
  · exact .inl h0
  · exact .inr (apE_stay h0 _ h).symm

/-! ### The greatest and the least one -/
theorem two7 (x y : Int) : twoV 7 x y = max x y ∧ twoE 7 x y = 0 := by
  unfold twoV twoE
  exact ⟨rfl, rfl⟩
theorem two6 (x y : Int) : twoV 6 x y = min x y ∧ twoE 6 x y = 0 := by
  unfold twoV twoE
  exact ⟨rfl, rfl⟩
theorem most_is : ∀ {l : List Int}, l ≠ [] → (rowF 7 l).2 = 0 ∧ (rowF 7 l).1 ∈ l ∧ ∀ z ∈ l, z ≤ (rowF 7 l).1
  | [], h => absurd rfl h
  | [x], _ => ⟨rfl, List.mem_singleton.2 rfl, fun z hz => by rw [List.mem_singleton] at hz; rw [hz]; exact Int.le_refl _⟩
  | x :: y :: l, _ => by
    obtain ⟨h1, h2, h3⟩ := most_is (l := y :: l) (by simp)
    rw [rowF_good (by simp) h1]
    simp only [(two7 x (rowF 7 (y :: l)).1).1, (two7 x (rowF 7 (y :: l)).1).2]
    refine ⟨trivial, ?_, fun z hz => ?_⟩
    · rcases Int.le_total x (rowF 7 (y :: l)).1 with h | h
      · rw [Int.max_eq_right h]
        exact List.mem_cons_of_mem _ h2
      · rw [Int.max_eq_left h]
        exact List.mem_cons_self
    · rcases List.mem_cons.1 hz with rfl | hz
      · exact Int.le_max_left _ _
      · exact Int.le_trans (h3 z hz) (Int.le_max_right _ _)
theorem least_is : ∀ {l : List Int}, l ≠ [] → (rowF 6 l).2 = 0 ∧ (rowF 6 l).1 ∈ l ∧ ∀ z ∈ l, (rowF 6 l).1 ≤ z
  | [], h => absurd rfl h
  | [x], _ => ⟨rfl, List.mem_singleton.2 rfl, fun z hz => by rw [List.mem_singleton] at hz; rw [hz]; exact Int.le_refl _⟩
  | x :: y :: l, _ => by
    obtain ⟨h1, h2, h3⟩ := least_is (l := y :: l) (by simp)
    rw [rowF_good (by simp) h1]
    simp only [(two6 x (rowF 6 (y :: l)).1).1, (two6 x (rowF 6 (y :: l)).1).2]
    refine ⟨trivial, ?_, fun z hz => ?_⟩
    · rcases Int.le_total x (rowF 6 (y :: l)).1 with h | h
      · rw [Int.min_eq_left h]
        exact List.mem_cons_self
      · rw [Int.min_eq_right h]
        exact List.mem_cons_of_mem _ h2
    · rcases List.mem_cons.1 hz with rfl | hz
      · exact Int.min_le_left _ _
      · exact Int.le_trans (Int.min_le_right _ _) (h3 z hz)
theorem most_row {l : List Int} (h : l ≠ []) : rowE 7 l = 0 ∧ rowV 7 l ∈ l ∧ ∀ z ∈ l, z ≤ rowV 7 l := by
  rw [(row_bin (f := 7) rfl l).1, (row_bin (f := 7) rfl l).2]
  exact most_is h
theorem least_row {l : List Int} (h : l ≠ []) : rowE 6 l = 0 ∧ rowV 6 l ∈ l ∧ ∀ z ∈ l, rowV 6 l ≤ z := by
  rw [(row_bin (f := 6) rfl l).1, (row_bin (f := 6) rfl l).2]
  exact least_is h
theorem take_ne {l : List Int} {i : Nat} (h : i < l.length) : l.take (i + 1) ≠ [] := by
  intro e
  have := congrArg List.length e
  rw [List.length_take, List.length_nil] at this
  omega
theorem most_scan {l : List Int} : apE (scE 7 l) l.length = 0 := apE_zero (fun _ hi => (most_row (take_ne hi)).1)
theorem most_step {l : List Int} {i : Nat} (h : i < l.length) : l[i] ≤ scV 7 l i ∧ (0 < i → scV 7 l (i - 1) ≤ scV 7 l i) := by
  obtain ⟨_, _, h3⟩ := most_row (take_ne h)
  unfold scV
  refine ⟨h3 _ ?_, fun h0 => h3 _ ?_⟩
  · refine List.mem_iff_getElem?.2 ⟨i, ?_⟩
    rw [List.getElem?_take_of_lt (by omega)]
    exact List.getElem?_eq_getElem h
  · obtain ⟨_, k2, _⟩ := most_row (l := l.take (i - 1 + 1)) (take_ne (by omega))
    obtain ⟨j, hj⟩ := List.mem_iff_getElem?.1 k2
    have hjl : j < i - 1 + 1 := by
      have := (List.getElem?_eq_some_iff.1 hj).1
      rw [List.length_take] at this
      omega
    refine List.mem_iff_getElem?.2 ⟨j, ?_⟩
    rw [List.getElem?_take_of_lt (by omega)]
    rw [List.getElem?_take_of_lt hjl] at hj
    exact hj
end Go.Proofs.Ytkabdkblcgklmaa.fo

namespace Go.Proofs.Ytkabdkblcgklmaa.fo
open Go.RowKit Go.Proofs.Ytkabdkblcgklmaa.arr Go.Proofs.Ytkabdkblcgklmaa.sc

set_option maxHeartbeats 2000000 in
theorem scident_any (f : Int) (w : World) : Calls Try.prog 47 #[.int .i64 f] w fun e w' => e = .returned (.tuple #[.int .i64 (idV f), .int .i64 (idE f)]) ∧ w = w' := by
  cases hb : binB f
  · have hn : ¬ (f = 1 ∨ f = 2 ∨ f = 3 ∨ f = 4 ∨ f = 5 ∨ f = 6 ∨ f = 7 ∨ f = 8 ∨ f = 9 ∨ f = 10 ∨ f = 11 ∨ f = 12 ∨ f = 13 ∨ f = 14 ∨ f = 15 ∨ f = 16) := fun h => by
      rw [bin_iff.2 h] at hb
      cases hb
    have e1 : idV f = 0 := by
      unfold idV
      rw [if_neg (by omega), if_neg (by omega), if_neg (by omega)]
    have e2 : idE f = 2 := by
      unfold idE
      rw [hb, if_neg (by decide)]
    rw [e1, e2]
    have d1 : (f == 1) = false := by simp; omega
    have d2 : (f == 2) = false := by simp; omega
    have d3 : (f == 3) = false := by simp; omega
    have d4 : (f == 4) = false := by simp; omega
    have d5 : (f == 5) = false := by simp; omega
    have d6 : (f == 6) = false := by simp; omega
    have d7 : (f == 7) = false := by simp; omega
    have d8 : (f == 8) = false := by simp; omega
    have d9 : (f == 9) = false := by simp; omega
    have d10 : (f == 10) = false := by simp; omega
    have d11 : (f == 11) = false := by simp; omega
    have d12 : (f == 12) = false := by simp; omega
    have d13 : (f == 13) = false := by simp; omega
    have d14 : (f == 14) = false := by simp; omega
    have d15 : (f == 15) = false := by simp; omega
    have d16 : (f == 16) = false := by simp; omega
    clear hn hb e1 e2
    go_enter Try.func47, Try.ntmps47
    go_wp2
    go_ret2
    exact ⟨rfl, rfl⟩
  · rcases bin_iff.1 hb with rfl | rfl | rfl | rfl | rfl | rfl | rfl | rfl | rfl | rfl | rfl | rfl | rfl | rfl | rfl | rfl
    all_goals
      clear hb
      go_enter Try.func47, Try.ntmps47
      go_wp2
      go_ret2
      exact ⟨rfl, rfl⟩

/-! ### From the last one -/
theorem fofrom_any (A : Option Addr) (c n : Nat) (w : World) : Calls Try.prog 71 #[.slice A n c] w fun e w' => e = .returned (.func (.func 125) #[] #[.pointer (some ⟨w.heap.size, 0, none⟩)]) ∧ w.alloc (.cells #[.slice A n c] 23) = w' := by
  go_enter Try.func71, Try.ntmps71
  go_wp2
  go_ret
  exact ⟨rfl, rfl⟩
def frAt (l : List Int) (k : Nat) (_ : Unit) : Array Value := #[.int .i64 ((l.length : Int) - 1 - (k : Int)), .int .i64 (l.getD (l.length - 1 - k) 0)]
structure FrPre (C : Nat) (A : Option Addr) (c : Nat) (l : List Int) (W : World) : Prop where
  c0 : W.cell? ⟨C, 0, none⟩ = some (.slice A l.length c)
  ra : Reads W W.heap.size 1 A l.length (l.map iv)
def frX (n k : Nat) (_ : Unit) (W W' : World) : Prop := k < n ∧ W' = W
def frZ (n k : Nat) (W W' : World) : Prop := k = n ∧ W' = W
section
attribute [local go_sem] Oper.semAt_some
set_option maxRecDepth 100000 in
set_option maxHeartbeats 4000000 in
theorem from_moves (f : Nat) (h1 : 1 ≤ f) (C : Nat) (A : Option Addr) (c : Nat) (l : List Int) (hl : l.length ≤ 100000000) (w : World) :
    SeqMovesV Fence.wide f Try.prog 125 #[.pointer (some ⟨C, 0, none⟩)] (frAt l) (fun _ => FrPre C A c l) (frX l.length) (frZ l.length) w := by
  intro lp J Jm Jx Jz W hW hP hX hZ hY h0
  have x0 := (hP 0 W h0).c0
  have HP := Lib.hid hP
  have HX := Lib.hid hX
  have HZ := Lib.hid hZ
  have HY := Lib.hid hY
  have H0 := Lib.hid h0
  obtain ⟨n, hnn⟩ : ∃ n, l.length = n := ⟨_, rfl⟩
  rw [hnn] at x0 hl HX HZ
  have HN := Lib.hid hnn
  clear hP hX hZ hY h0 hW hnn
  refine callsIn_of_wp Try.func125 rfl trivial ?_ rfl
  simp only [Try.ntmps125, List.size_toArray, List.length_cons, List.length_nil, Nat.reduceAdd, Nat.reduceSub, Array.replicate_succ, Array.replicate_zero, List.push_toArray, List.append_toArray, List.nil_append, List.cons_append]
  gi_wp2
  gi_loopw [3] (fun q wr => ∃ (k : Nat) (i : Int), q = .int .i64 i ∧ i = (n : Int) - 1 - (k : Int) ∧ k ≤ n ∧ J k wr) (fun i _ => ((RowKit.intOf i) + 1).toNat)
  case atStart => exact ⟨0, _, rfl, by omega, Nat.zero_le _, H0.out⟩
  case round =>
    obtain ⟨k, i, rfl, hi, hkM, hJ⟩ := hrel
    have hpre := HP.out k wr hJ
    have HJ := Lib.hid hJ
    by_cases hk : k < n
    · have hi0 : 0 ≤ i := by omega
      obtain ⟨j, rfl⟩ := Int.eq_ofNat_of_zero_le hi0
      have hjn : j < n := by omega
      have hjl : j < l.length := by rw [HN.out]; exact hjn
      obtain ⟨adA, rfl, hla, hca⟩ := hpre.ra.int_at hjl rfl
      have x0 := hpre.c0
      rw [HN.out] at x0
      have HAT : Hid (frAt l k () = #[.int .i64 (j : Int), .int .i64 (l[j])]) := Lib.hid (by
        unfold frAt
        rw [HN.out, ← hi, show n - 1 - k = j by omega, List.getD_eq_getElem?_getD, List.getElem?_eq_getElem hjl]
        rfl)
      have HK := Lib.hid (And.intro hk hi)
      generalize l[j] = x at *
      obtain ⟨fn, tmps, assign, body, hy, hR⟩ := HY.out k () wr (HX.out k () wr wr hJ ⟨hk, rfl⟩)
      have HRO := Lib.hid hR
      rw [HAT.out] at hy
      have hb63 : (j : Int) ≤ 100000000 := by omega
      have hd : (j : Int) < (n : Int) := by omega
      clear hpre hk hkM hJ hR hjl hla hjn hi
      gi_wp2
      refine HRO.out.mono ?_
      rintro e W3 (⟨rfl, hJ3⟩ | ⟨rfl, hJx3⟩)
      · gi_wp2
        go_roundw
        case rel => exact ⟨k + 1, _, rfl, by have := HK.out; omega, by have := HK.out; omega, hJ3⟩
        case measure =>
          simp [RowKit.intOf]
          try omega
      · gi_wp2
        refine bodyPost_ret (results_none rfl _ _ _) rfl ?_
        exact ⟨⟨_, rfl⟩, .inl hJx3⟩
    · obtain rfl : k = n := by omega
      obtain rfl : i = -1 := by omega
      have HE := Lib.hid (HZ.out k wr wr HJ.out ⟨rfl, rfl⟩)
      clear hk hkM hpre hJ hi
      gi_wp2
      go_end0
      exact ⟨⟨_, rfl⟩, .inr HE.out⟩
end

/-! ### Row -/
theorem fresults2 {fn : Func} {a b : Tmp} {tmps : Array Value} {w : World} {x y : Value} (h : fn.results = #[.tmp a, .tmp b]) (h1 : tmps.getD a undef = x) (h2 : tmps.getD b undef = y) : (results fn tmps).run Try.prog w = .ok (.tuple #[x, y]) w := by
  subst h1 h2
  simp [results, h]
/-- Row's boxes at z .. z + 3 (the function, the row, the value, the fault), and the iterator's at z + 4. -/
structure RwI (W3 : World) (z : Nat) (v e : Int) (W : World) : Prop where
  keep : Keep (fun i => i = z + 2 ∨ i = z + 3) W3 W
  v : Blk W (z + 2) 2 #[.int .i64 v]
  e : Blk W (z + 3) 28 #[.int .i64 e]
theorem RwI.own {W3 W W' : World} {z : Nat} {v e : Int} {row : Option Nat} (h : RwI W3 z v e W) (hg : W.grownBy W' row) (hr : ∀ r, row = some r → W3.heap.size ≤ r ∧ ∃ o : Obj, W.heap[r]? = some o ∧ o.isCells = false) : RwI W3 z v e W' := by
  obtain ⟨h1, h2, h3⟩ := h
  exact ⟨h1.grown hg (fun g e hlt => by have := (hr g e).1; omega), blk_turned h2 hg hr, blk_turned h3 hg hr⟩
theorem RwI.below {W3 W W' : World} {z : Nat} {v e : Int} (h : RwI W3 z v e W) (hb : Below W.heap.size W W') : RwI W3 z v e W' := by
  obtain ⟨h1, h2, h3⟩ := h
  exact ⟨h1.trans (Keep.of_below (S := fun _ => False) hb) (fun _ _ e => e.elim), h2.below hb h2.lt, h3.below hb h3.lt⟩
theorem RwI.setV {W3 W : World} {z : Nat} {v e : Int} (h : RwI W3 z v e W) (x : Int) : RwI W3 z x e (W.setCell ⟨z + 2, 0, none⟩ (.int .i64 x)) := by
  obtain ⟨h1, h2, h3⟩ := h
  have hk : Keep (fun i => i = z + 2) W (W.setCell ⟨z + 2, 0, none⟩ (.int .i64 x)) := (Keep.refl _ _).setCell _ _ (fun _ => rfl)
  exact ⟨h1.trans hk (fun _ _ e => .inl e), h2.set_ 0 _, hk.blk h3 (by omega)⟩
theorem RwI.setE {W3 W : World} {z : Nat} {v e : Int} (h : RwI W3 z v e W) (x : Int) : RwI W3 z v x (W.setCell ⟨z + 3, 0, none⟩ (.int .i64 x)) := by
  obtain ⟨h1, h2, h3⟩ := h
  have hk : Keep (fun i => i = z + 3) W (W.setCell ⟨z + 3, 0, none⟩ (.int .i64 x)) := (Keep.refl _ _).setCell _ _ (fun _ => rfl)
  exact ⟨h1.trans hk (fun _ _ e => .inr e), hk.blk h2 (by omega), h3.set_ 0 _⟩

theorem fin_drew {w W : World} {B D : Nat} (hw : Below B w W) (hB : B ≤ w.heap.size) (hD : B ≤ D) (hK : W.heap[D]? = some (.deferred (some []))) :
    W.drew.heap[D]? = some (.deferred (some [])) ∧ Below B w (W.drew.putObj D (.deferred none)) := by
  have hp : Keep (fun k => k = D) W.drew (W.drew.putObj D (.deferred none)) := (Keep.refl _ _).grown (grownBy_putObj' _ D _) (fun k e _ => by injection e with e; exact e.symm)
  exact ⟨hK, hw.drew.trans (hp.below (by have := hw.drew.size; omega) (fun i hi e => by omega))⟩
section
attribute [local go_sem] Oper.semAt_some
set_option maxRecDepth 100000 in
set_option maxHeartbeats 4000000 in
theorem forow_any (f : Int) (A : Option Addr) (n c : Nat) (l : List Int) (w : World) (hl : l.length = n) (hr : Reads w w.heap.size 1 A n (l.map iv)) (hn : n ≤ 100000000) (hin : ∀ x ∈ l, InR x) :
    Calls Try.prog 30 #[.int .i64 f, .slice A n c] w fun e w' => e = .returned (.tuple #[.int .i64 (rowV f l), .int .i64 (rowE f l)]) ∧ Below w.heap.size w w' := by
  have HID := Lib.hid (fun W => scident_any f W)
  have hfi : Fence.wide.fn 47 := trivial
  have hff : Fence.wide.fn 71 := trivial
  have hft : Fence.wide.fn 48 := trivial
  cases hb : binB f
  · rw [(row_no hb l).1, (row_no hb l).2]
    have he : idE f = 2 := by unfold idE; rw [hb, if_neg (by decide)]
    rw [he] at HID
    clear hb he hr hin hl
    refine (callsIn_wide (n := 7)).1 ?_
    refine callsIn_of_wp_marks Try.func30 rfl trivial ?_
    simp only [Try.ntmps30, List.size_toArray, List.length_cons, List.length_nil, Nat.reduceAdd, Nat.reduceSub, Array.replicate_succ, Array.replicate_zero, List.push_toArray, List.append_toArray, List.nil_append, List.cons_append]
    gi_wp2
    refine wpIn_scope_wide ?_
    gi_wp2_with (gi_at_call 47; refine (callsIn_wide.2 (HID.out _)).mono ?_; rintro e _ ⟨rfl, rfl⟩)
    have HBB := Lib.hid (((((Below.refl _ w).alloc (Nat.le_refl _) (.cells #[.int .i64 f] 3)).alloc (by simp) (.cells #[.slice A n c] 23)).alloc (by simp; omega) (.cells #[.int .i64 (idV f)] 2)).alloc (by simp; omega) (.cells #[.int .i64 2] 28))
    gi_region
    gi_wp2
    refine ⟨_, fresults2 rfl rfl rfl, ?_⟩
    exact ⟨rfl, HBB.out.drew⟩
  have he : idE f = 0 := by unfold idE; rw [hb, if_pos rfl]
  rw [he] at HID
  rw [(row_bin hb l).1, (row_bin hb l).2]
  obtain ⟨z, hz⟩ : ∃ z, w.heap.size = z := ⟨_, rfl⟩
  obtain ⟨W3, hW3⟩ : ∃ W3, ((((w.alloc (.cells #[.int .i64 f] 3)).alloc (.cells #[.slice A n c] 23)).alloc (.cells #[.int .i64 (idV f)] 2)).alloc (.cells #[.int .i64 0] 28)).alloc (.cells #[.slice A n c] 23) = W3 := ⟨_, rfl⟩
  have hs3 : W3.heap.size = z + 5 := by rw [← hW3, ← hz]; simp
  have hb3 : Below w.heap.size w W3 := by
    rw [← hW3]
    exact (((((Below.refl _ w).alloc (Nat.le_refl _) _).alloc (by simp) _).alloc (by simp; omega) _).alloc (by simp; omega) _).alloc (by simp; omega) _
  have j0 : Blk W3 z 3 #[.int .i64 f] := by
    rw [← hW3, ← hz]
    exact ((((Blk.new w _ _).alloc _).alloc _).alloc _).alloc _
  have j1 : Blk W3 (z + 1) 23 #[.slice A n c] := by
    have h := (((Blk.new (w.alloc (.cells #[.int .i64 f] 3)) 23 #[.slice A n c]).alloc (.cells #[.int .i64 (idV f)] 2)).alloc (.cells #[.int .i64 0] 28)).alloc (.cells #[.slice A n c] 23)
    rw [hW3] at h
    simpa only [World.size_alloc, hz] using h
  have j2 : Blk W3 (z + 2) 2 #[.int .i64 (idV f)] := by
    have h := ((Blk.new ((w.alloc (.cells #[.int .i64 f] 3)).alloc (.cells #[.slice A n c] 23)) 2 #[.int .i64 (idV f)]).alloc (.cells #[.int .i64 0] 28)).alloc (.cells #[.slice A n c] 23)
    rw [hW3] at h
    simpa only [World.size_alloc, hz] using h
  have j3 : Blk W3 (z + 3) 28 #[.int .i64 0] := by
    have h := (Blk.new (((w.alloc (.cells #[.int .i64 f] 3)).alloc (.cells #[.slice A n c] 23)).alloc (.cells #[.int .i64 (idV f)] 2)) 28 #[.int .i64 0]).alloc (.cells #[.slice A n c] 23)
    rw [hW3] at h
    simpa only [World.size_alloc, hz] using h
  have j4 : Blk W3 (z + 4) 23 #[.slice A n c] := by
    have h := Blk.new ((((w.alloc (.cells #[.int .i64 f] 3)).alloc (.cells #[.slice A n c] 23)).alloc (.cells #[.int .i64 (idV f)] 2)).alloc (.cells #[.int .i64 0] 28)) 23 #[.slice A n c]
    rw [hW3] at h
    simpa only [World.size_alloc, hz] using h
  have hi3 : RwI W3 z (idV f) 0 W3 := ⟨Keep.refl _ _, j2, j3⟩
  have HBX : Hid (∀ W, Keep (fun i => i = z + 2 ∨ i = z + 3) W3 W → Blk W z 3 #[.int .i64 f] ∧ Blk W (z + 1) 23 #[.slice A n c] ∧ FrPre (z + 4) A c l W ∧ Below w.heap.size w W) := Lib.hid (fun W hk => by
    have hb := hb3.trans (hk.below (B := w.heap.size) hb3.size (fun i hi e => by omega))
    refine ⟨hk.blk j0 (by omega), hk.blk j1 (by omega), ⟨?_, ?_⟩, hb⟩
    · rw [hl]; exact (hk.blk j4 (by omega)).cell 0
    · rw [hl]; exact (hr.below hb).more hb.size)
  have H0 := Lib.hid hi3
  have HZ := Lib.hid hz
  have HS3 := Lib.hid hs3
  have HB3 := Lib.hid hb3
  have hMV := from_moves 6 (by omega) (z + 4) A c l (by omega) W3
  rw [hl] at hMV
  have HTW := Lib.hid (fun (x v : Int) (hx : InR x) (hv : InR v) W => sctwo_any f x v hx hv W)
  have HIN : Hid (∀ k, InR (tailF f l k).1) := Lib.hid (fun k => tail_in hin)
  have HLI : Hid (∀ k, k < n → InR (l.getD (n - 1 - k) 0)) := Lib.hid (fun k hk => by
    rw [List.getD_eq_getElem?_getD, List.getElem?_eq_getElem (by omega)]
    exact hin _ (List.getElem_mem _))
  have HT1 : Hid (0 < n → tailF f l 1 = (l.getD (n - 1 - 0) 0, 0)) := Lib.hid (fun h => by
    rw [tail_first (by omega), List.getD_eq_getElem?_getD, List.getElem?_eq_getElem (by omega)]
    simp only [hl, Nat.sub_zero]
    rfl)
  have HTN : Hid (∀ k, 0 < k → k < n → (tailF f l k).2 = 0 → tailF f l (k + 1) = (twoV f (l.getD (n - 1 - k) 0) (tailF f l k).1, twoE f (l.getD (n - 1 - k) 0) (tailF f l k).1)) := Lib.hid (fun k h0 hk he => by
    rw [tail_next h0 (by omega) he, List.getD_eq_getElem?_getD, List.getElem?_eq_getElem (by omega)]
    simp only [hl]
    rfl)
  have HTB : Hid (∀ k, (tailF f l k).2 ≠ 0 → rowF f l = tailF f l k) := Lib.hid (fun k h => tail_bad h)
  have HTA : Hid (tailF f l n = rowF f l) := Lib.hid (by rw [← hl]; exact tail_all f l)
  have HT0 : Hid (tailF f l 0 = (idV f, 0)) := Lib.hid (tail_zero f l)
  have HW3 := Lib.hid hW3
  have HXY : Hid (∀ k, frAt l k () = #[.int .i64 ((n : Int) - 1 - (k : Int)), .int .i64 (l.getD (n - 1 - k) 0)]) := Lib.hid (fun k => by unfold frAt; rw [hl])
  clear hW3 hb he hr hin j0 j1 j2 j3 j4 hi3 hb3 hs3 hz
  refine (callsIn_wide (n := 7)).1 ?_
  refine callsIn_of_wp_marks Try.func30 rfl trivial ?_
  simp only [Try.ntmps30, List.size_toArray, List.length_cons, List.length_nil, Nat.reduceAdd, Nat.reduceSub, Array.replicate_succ, Array.replicate_zero, List.push_toArray, List.append_toArray, List.nil_append, List.cons_append]
  gi_wp2
  refine wpIn_scope_wide ?_
  gi_wp2_with (gi_at_call 47; refine (callsIn_wide.2 (HID.out _)).mono ?_; rintro e _ ⟨rfl, rfl⟩)
  refine wpIn_label ?_
  gi_wp2_with (gi_at_call 71; refine (callsIn_wide.2 (fofrom_any _ _ _ _)).mono ?_; rintro e w7 ⟨rfl, hw7⟩)
  obtain rfl : W3 = w7 := by rw [← HW3.out, ← hw7]
  clear hw7
  have hz := HZ.out
  rw [hz] at *
  simp only [Nat.add_assoc, Nat.reduceAdd]
  clear hz
  refine wpIn_rangeFunc_movesV rfl (by omega) (gf := 125) (lb := #[.pointer (some ⟨z + 4, 0, none⟩)]) rfl trivial (enters_of Try.func125 (by kernel_rfl) rfl)
    hMV (Below.refl _ _) (fun _ _ => rfl)
    (fun k W => RwI W3 z (tailF f l k).1 0 W ∧ (tailF f l k).2 = 0 ∧ k ≤ n)
    (fun k _ W => RwI W3 z (tailF f l k).1 0 W ∧ (tailF f l k).2 = 0 ∧ k < n)
    (fun W => RwI W3 z (rowF f l).1 (rowF f l).2 W)
    (fun cc W => cc = .exit 0 ∧ RwI W3 z (rowF f l).1 (rowF f l).2 W)
    (fun k W W' row hs hg hr => ⟨hs.1.own hg hr, hs.2⟩)
    (fun _ W W' row hs hg hr => hs.own hg hr)
    (fun cc W W' row hs hg hr => ⟨hs.1, hs.2.own hg hr⟩)
    (fun k W hs => (HBX.out W hs.1.keep).2.2.1)
    (fun k W W' hs hx l o ho hc => by
      rcases hx with ⟨_, _, rfl⟩ | ⟨_, rfl⟩
      · exact ho
      · exact ho)
    (fun k x W W' hs hx => by
      obtain ⟨hx, rfl⟩ := hx
      exact ⟨hs.1, hs.2.1, hx⟩)
    (fun k W W' hs hx => by
      obtain ⟨rfl, rfl⟩ := hx
      have h := hs.1
      rw [HTA.out] at h
      have h2 := hs.2.1
      rw [HTA.out] at h2
      rw [h2]
      exact h)
    ⟨by rw [HT0.out]; exact H0.out, by rw [HT0.out], Nat.zero_le _⟩
    (fun k _ a' W => (∃ xv, l.getD (n - 1 - k) 0 = xv ∧ a' = { tmps := #[.int .i64 f, .slice A n c, .pointer (some ⟨z, 0, none⟩), .pointer (some ⟨z + 1, 0, none⟩), .int .i64 0, .int .i64 0, .pointer (some ⟨z + 2, 0, none⟩), .pointer (some ⟨z + 3, 0, none⟩), .int .i64 ((n : Int) - 1 - (k : Int)), .int .i64 xv, .tuple #[.int .i64 (idV f), .int .i64 0], .int .i64 f, .tuple #[.int .i64 (idV f), .int .i64 0], .int .i64 (idV f), .int .i64 0, .int .i64 0, .bool false, undef, .slice A n c, .func (.func 125) #[] #[.pointer (some ⟨z + 4, 0, none⟩)], .int .i64 ((n : Int) - 1 - (k : Int)), .int .i64 xv, undef, undef, undef, undef, undef, undef, undef, undef, undef, undef, undef, undef, undef, undef, undef, undef, undef], defers := [] }) ∧ RwI W3 z (tailF f l k).1 0 W ∧ (tailF f l k).2 = 0 ∧ k < n)
    (fun k x a' _ W W' row hs hg hr => ⟨hs.1, hs.2.1.own hg hr, hs.2.2⟩)
    ?assign ?body ?done ?stop
  case assign =>
    intro lp k x W K hI hK
    have HK := Lib.hid hK
    have HI := Lib.hid hI
    clear hK hI
    rw [HXY.out]
    obtain ⟨xv, hxv⟩ : ∃ xv, l.getD (n - 1 - k) 0 = xv := ⟨_, rfl⟩
    rw [hxv]
    have HXV := Lib.hid hxv
    clear hxv
    gi_wp2
    exact HK.out _ _ ⟨Nat.le_refl _, fun _ _ _ h _ => h⟩ ⟨⟨xv, HXV.out, rfl⟩, HI.out⟩
  case body =>
    rintro lp k x a' W ⟨⟨xv, hxv, rfl⟩, hI, hE, hkn⟩
    obtain ⟨b0, b1, _, hbw⟩ := HBX.out W hI.keep
    have cF := b0.cell 0
    have cL := b1.cell 0
    have cV := hI.v.cell 0
    have uV := hI.v.frozen 0
    have hxin := HLI.out k hkn
    rw [hxv] at hxin
    have HI := Lib.hid hI
    have HEK := Lib.hid hE
    have HKN := Lib.hid hkn
    by_cases h0 : k = 0
    · subst h0
      have ht := HT1.out hkn
      rw [hxv] at ht
      have HT := Lib.hid ht
      have d0 : ((n : Int) - 1 - ((0 : Nat) : Int) == (n : Int) - 1) = true := by simp
      have HD := Lib.hid d0
      clear hI hE hkn b0 b1 hbw ht hxin hxv
      gi_wp2
      refine ⟨keeps_set (by have := HS3.out; omega) _, ?_⟩
      have h := HI.out.setV xv
      refine ⟨?_, ?_, by have := HKN.out; omega⟩
      · show RwI W3 z (tailF f l 1).1 0 _
        rw [HT.out]
        exact h
      · show (tailF f l 1).2 = 0
        rw [HT.out]
    · have hk0 : 0 < k := by omega
      have ht := HTN.out k hk0 hkn hE
      have htb := HTB.out (k + 1)
      have hc := HTW.out xv (tailF f l k).1 hxin (HIN.out k) W
      rw [hxv] at ht
      have d0 : ((n : Int) - 1 - (k : Int) == (n : Int) - 1) = false := by simp; omega
      have HTT := Lib.hid ht
      rw [ht] at htb
      have HTBB := Lib.hid htb
      obtain ⟨tv, htv⟩ : ∃ tv, (tailF f l k).1 = tv := ⟨_, rfl⟩
      rw [htv] at cV hc HTT HTBB
      obtain ⟨v2, hv2⟩ : ∃ v2, twoV f xv tv = v2 := ⟨_, rfl⟩
      obtain ⟨e2, he2⟩ : ∃ e2, twoE f xv tv = e2 := ⟨_, rfl⟩
      rw [hv2, he2] at hc HTT HTBB
      have HC := Lib.hid hc
      clear hI hE b0 b1 hbw ht htb hc hxin hxv hv2 he2 htv
      by_cases h0 : e2 = 0
      · subst h0
        gi_wp2_with (gi_at_call 48; refine (callsIn_wide.2 HC.out).mono ?_; rintro e w9 ⟨rfl, b9⟩; have hI9 := HI.out.below b9; have s0 := hI9.v.cell 0; have s1 := hI9.v.frozen 0; have t0 := (hI9.setV v2).e.cell 0; have t1 := (hI9.setV v2).e.frozen 0; have r0 := ((hI9.setV v2).setE 0).e.cell 0; have HI9 := Lib.hid hI9; have HB9 := Lib.hid b9; clear hI9 b9)
        refine ⟨keeps_on (keeps_below _ HB9.out) (keeps_on (keeps_set (by have := HS3.out; omega) _) (keeps_set (by have := HS3.out; omega) _)), ?_⟩
        have h := (HI9.out.setV v2).setE 0
        refine ⟨?_, ?_, HKN.out⟩
        · rw [HTT.out]
          exact h
        · rw [HTT.out]
      · have hne : (e2 != 0) = true := by simp [h0]
        have HNE := Lib.hid h0
        clear h0
        gi_wp2_with (gi_at_call 48; refine (callsIn_wide.2 HC.out).mono ?_; rintro e w9 ⟨rfl, b9⟩; have hI9 := HI.out.below b9; have s0 := hI9.v.cell 0; have s1 := hI9.v.frozen 0; have t0 := (hI9.setV v2).e.cell 0; have t1 := (hI9.setV v2).e.frozen 0; have r0 := ((hI9.setV v2).setE e2).e.cell 0; have HI9 := Lib.hid hI9; have HB9 := Lib.hid b9; clear hI9 b9)
        refine ⟨keeps_on (keeps_below _ HB9.out) (keeps_on (keeps_set (by have := HS3.out; omega) _) (keeps_set (by have := HS3.out; omega) _)), rfl, ?_⟩
        rw [HTBB.out HNE.out]
        exact (HI9.out.setV v2).setE e2
  case done =>
    rintro D W hD hI hK
    have hB := (HBX.out W hI.keep).2.2.2
    have s0 := hI.v.cell 0
    have t0 := hI.e.cell 0
    have HF := Lib.hid (fin_drew hB (Nat.le_refl _) (by have := HB3.out.size; omega) hK)
    obtain ⟨rv, hrv⟩ : ∃ rv, (rowF f l).1 = rv := ⟨_, rfl⟩
    obtain ⟨re, hre⟩ : ∃ re, (rowF f l).2 = re := ⟨_, rfl⟩
    rw [hrv] at s0
    rw [hre] at t0
    have HRV := Lib.hid hrv
    have HRE := Lib.hid hre
    clear hrv hre
    clear hI hB hK hMV
    gi_wp2
    gi_region
    gi_wp2
    refine ⟨by simp, .inl ⟨_, _, rfl, run_takeDeferred HF.out.1, ?_⟩⟩
    exact ⟨_, fresults2 rfl rfl rfl, by rw [HRV.out, HRE.out]; rfl, HF.out.2⟩
  case stop =>
    rintro D c' W hD ⟨rfl, hI⟩ hK
    have hB := (HBX.out W hI.keep).2.2.2
    have s0 := hI.v.cell 0
    have t0 := hI.e.cell 0
    have HF := Lib.hid (fin_drew hB (Nat.le_refl _) (by have := HB3.out.size; omega) hK)
    obtain ⟨rv, hrv⟩ : ∃ rv, (rowF f l).1 = rv := ⟨_, rfl⟩
    obtain ⟨re, hre⟩ : ∃ re, (rowF f l).2 = re := ⟨_, rfl⟩
    rw [hrv] at s0
    rw [hre] at t0
    have HRV := Lib.hid hrv
    have HRE := Lib.hid hre
    clear hrv hre
    clear hI hB hK hMV
    gi_wp2
    gi_region
    gi_wp2
    refine ⟨by simp, .inl ⟨_, _, rfl, run_takeDeferred HF.out.1, ?_⟩⟩
    exact ⟨_, fresults2 rfl rfl rfl, by rw [HRV.out, HRE.out]; rfl, HF.out.2⟩
end
end Go.Proofs.Ytkabdkblcgklmaa.fo

namespace Go.Proofs.Ytkabdkblcgklmaa.fo
open Go.RowKit Go.Proofs.Ytkabdkblcgklmaa.arr Go.Proofs.Ytkabdkblcgklmaa.sc

/-- What stands while made works: the result's cells at z, the array's at z + 1. -/
structure MdI (w : World) (S : Option Addr) (n c k : Nat) (gv : Nat → Int) (W : World) : Prop where
  fb : Below w.heap.size w W
  r : Blk W w.heap.size 25 #[.int .i64 0, .slice none 0 0, .slice none 0 0]
  el : ∃ A c', Blk W (w.heap.size + 1) 25 #[.int .i64 1, .slice S n c, .slice A k c'] ∧ W.ownsRow (w.heap.size + 2) 2 1 (.slice A k c') k ((apL gv k).map iv)
theorem MdI.below {w W W' : World} {S : Option Addr} {n c k : Nat} {gv : Nat → Int} (h : MdI w S n c k gv W) (hb : Below W.heap.size W W') : MdI w S n c k gv W' := by
  obtain ⟨h1, h2, A, c', h3, h4⟩ := h
  exact ⟨h1.trans (hb.mono h1.size), h2.below hb h2.lt, A, c', h3.below hb h3.lt, arown_stay h4 hb (fun g hg => (arown_lt h4 g hg).2)⟩
theorem MdI.push {w W w9 : World} {S : Option Addr} {n c k : Nat} {gv : Nat → Int} {A : Option Addr} {c' : Nat} (h : MdI w S n c k gv W) (he : Blk W (w.heap.size + 1) 25 #[.int .i64 1, .slice S n c, .slice A k c']) (ho0 : W.ownsRow (w.heap.size + 2) 2 1 (.slice A k c') k ((apL gv k).map iv)) (x : Int) (hx : gv k = x) (v' : Value)
    (ho : w9.ownsRow (w.heap.size + 2) 2 1 v' (k + 1) ((apL gv k).map iv ++ [.int .i64 x])) (hg : (W.alloc (.cells #[.int .i64 x] 2)).grownBy w9 (Value.slice A k c').ownBlock) :
    w9.cell? ⟨w.heap.size + 1, 2, none⟩ = some (.slice A k c') ∧ w9.frozen? ⟨w.heap.size + 1, 2, none⟩ = false ∧ (∃ A' c2, v' = .slice A' (k + 1) c2) ∧ MdI w S n c (k + 1) gv (w9.setCell ⟨w.heap.size + 1, 2, none⟩ v') := by
  have hal := alloc_below W (.cells #[.int .i64 x] 2)
  have hlt := he.lt
  have hr : ∀ g, (Value.slice A k c').ownBlock = some g → w.heap.size + 2 ≤ g := fun g e => (arown_lt ho0 g e).1
  have hk1 : Keep (fun i => w.heap.size + 2 ≤ i) (W.alloc (.cells #[.int .i64 x] 2)) w9 := (Keep.refl _ _).grown hg (fun g e _ => hr g e)
  have hk2 : Keep (fun i => w.heap.size + 2 ≤ i) W w9 := (Keep.of_below (S := fun i => w.heap.size + 2 ≤ i) hal).trans hk1 (fun _ _ h => h)
  have hb9 := hk2.blk he (by omega)
  obtain ⟨A', c2, hv'⟩ : ∃ A' c2, v' = .slice A' (k + 1) c2 := by
    rcases ho.2 with ⟨_, h0⟩ | ⟨g, cap, cur, e, _⟩
    · omega
    · exact ⟨_, cap, e⟩
  have hkq : Keep (fun i => i = w.heap.size + 1) w9 (w9.setCell ⟨w.heap.size + 1, 2, none⟩ v') := (Keep.refl _ _).setCell _ _ (fun _ => rfl)
  have hkk : Keep (fun i => w.heap.size ≤ i ∧ i ≠ w.heap.size) W (w9.setCell ⟨w.heap.size + 1, 2, none⟩ v') := (hk2.more (S' := fun i => w.heap.size ≤ i ∧ i ≠ w.heap.size) (fun i _ h => by omega)).trans hkq (fun i _ h => by omega)
  refine ⟨hb9.cell 2, hb9.frozen 2, ⟨A', c2, hv'⟩, ⟨h.fb.trans (hkk.below h.fb.size (fun i hi e => by omega)), hkk.blk h.r (by omega), A', c2, ?_, ?_⟩⟩
  · rw [← hv']
    exact hb9.set_ 2 v'
  · rw [← hv', apL_succ, List.map_append, hx]
    exact hkq.own ho (fun g e => by have := (arown_lt ho g e).1; omega)
theorem MdI.start {w W1 W2 : World} {S : Option Addr} {n c : Nat} {gv : Nat → Int} (h0 : (w.alloc (.cells #[.int .i64 0, .slice none 0 0, .slice none 0 0] 25)).alloc (.cells #[.int .i64 0, .slice none 0 0, .slice none 0 0] 25) = W1)
    (h1 : ((W1.setCell ⟨w.heap.size + 1, 0, none⟩ (.int .i64 1)).setCell ⟨w.heap.size + 1, 1, none⟩ (.slice S n c)).setCell ⟨w.heap.size + 1, 2, none⟩ (.slice none 0 0) = W2) : MdI w S n c 0 gv W2 := by
  have hb1 : Below w.heap.size w W1 := by rw [← h0]; exact ((Below.refl _ w).alloc (Nat.le_refl _) _).alloc (by simp) _
  have k0 : Blk W1 w.heap.size 25 #[.int .i64 0, .slice none 0 0, .slice none 0 0] := by rw [← h0]; exact (Blk.new w _ _).alloc _
  have k1 : Blk W1 (w.heap.size + 1) 25 #[.int .i64 0, .slice none 0 0, .slice none 0 0] := by rw [← h0]; exact blk_n2 w _ _ _
  have hk := arkeep_three W1 (w.heap.size + 1) (.int .i64 1) (.slice S n c) (.slice none 0 0)
  have hb2 := arblk_three (.int .i64 1) (.slice S n c) (.slice none 0 0) k1
  rw [h1] at hk hb2
  exact ⟨hb1.trans (hk.below hb1.size (fun i hi e => by omega)), hk.blk k0 (by omega), none, 0, hb2, World.ownsRow_nil _ _ _ _⟩

set_option maxRecDepth 100000 in
set_option maxHeartbeats 4000000 in
theorem fomade_any (S : Option Addr) (n c : Nat) (sh : List Int) (gf : Nat) (bnd cap : Array Value) (hgf : ∀ args w, (callFunc gf args).run Try.prog w = .ok (.enter gf args) w) (gv ge : Nat → Int) (w : World)
    (hok : okShape sh = true) (hl : sh.length = n) (hr : Reads w w.heap.size 1 S n (sh.map iv))
    (hcall : ∀ (i : Nat) (W : World), i < mdN sh → Below w.heap.size w W → Calls Try.prog gf (bnd.push (.int .i64 (i : Int)) ++ cap) W fun e w' => e = .returned (.tuple #[.int .i64 (gv i), .int .i64 (ge i)]) ∧ Below W.heap.size W w') :
    Calls Try.prog 79 #[.slice S n c, .func (.func gf) bnd cap] w (ApA gv ge S n c (mdN sh) w) := by
  obtain ⟨i0, hi, hz0, hz1, hz2⟩ := info_parts arInfoI64
  obtain ⟨N, hN⟩ : ∃ N, mdN sh = N := ⟨_, rfl⟩
  have hP : prodI sh = (N : Int) := by
    rw [← hN]
    unfold mdN
    have := (prodI_four (okShape_iff.1 hok).2.1 (okShape_iff.1 hok).1).1
    omega
  have hN4 : N ≤ 4096 := by have := (okShape_iff.1 hok).2.2; omega
  have hn4 : n ≤ 4 := by have := (okShape_iff.1 hok).1; omega
  rw [hN] at hcall ⊢
  obtain ⟨W1, hW1⟩ : ∃ W1, (w.alloc (.cells #[.int .i64 0, .slice none 0 0, .slice none 0 0] 25)).alloc (.cells #[.int .i64 0, .slice none 0 0, .slice none 0 0] 25) = W1 := ⟨_, rfl⟩
  obtain ⟨W2, hW2⟩ : ∃ W2, ((W1.setCell ⟨w.heap.size + 1, 0, none⟩ (.int .i64 1)).setCell ⟨w.heap.size + 1, 1, none⟩ (.slice S n c)).setCell ⟨w.heap.size + 1, 2, none⟩ (.slice none 0 0) = W2 := ⟨_, rfl⟩
  have hI : MdI w S n c 0 gv W2 := MdI.start hW1 hW2
  have HC : Hid (∀ W, Below w.heap.size w W → Calls Try.prog 63 #[.slice S n c] W fun e w' => e = .returned (.tuple #[.int .i64 (N : Int), .int .i64 0]) ∧ W = w') := Lib.hid (fun W hb => by
    have h := arcount_any S c n sh W hl ((hr.below hb).more hb.size) (by omega)
    rw [(cnt_ok hok).1, (cnt_ok hok).2, hP] at h
    exact h)
  have k1 : Blk W1 (w.heap.size + 1) 25 #[.int .i64 0, .slice none 0 0, .slice none 0 0] := by rw [← hW1]; exact blk_n2 w _ _ _
  have m0 := k1.cell 0
  have m1 := k1.cell 1
  have m2 := k1.cell 2
  have n0 := k1.frozen 0
  have n1 := k1.frozen 1
  have n2 := k1.frozen 2
  have HI := Lib.hid hI
  have HCL := Lib.hid hcall
  clear hP hok hl hr hcall hI hN k1
  go_enter Try.func79, Try.ntmps79
  go_wp2_with (go_at_call 63; refine (HC.out _ HI.out.fb).mono ?_; rintro e _ ⟨rfl, rfl⟩)
  go_loopw [20] (fun i wr => ∃ k : Nat, i = .int .i64 (k : Int) ∧ k ≤ N ∧ apE ge k = 0 ∧ MdI w S n c k gv wr) (fun i _ => N - (intOf i).toNat)
  case atStart => exact ⟨0, rfl, Nat.zero_le _, rfl, HI.out⟩
  case round =>
    obtain ⟨k, rfl, hkN, hE, hm⟩ := hrel
    by_cases hk : k < N
    · have hd : (k : Int) < (N : Int) := by omega
      have HCK := Lib.hid (HCL.out k wr hk hm.fb)
      have HM := Lib.hid hm
      have HE := Lib.hid hE
      have HST := Lib.hid (fun h => apE_step (n := N) hE h hk)
      have HNX := Lib.hid (fun h => apE_next (g := ge) hE h)
      have HGV : Hid (gv k = gv k) := Lib.hid rfl
      obtain ⟨v, hv⟩ : ∃ v, gv k = v := ⟨_, rfl⟩
      obtain ⟨e, he⟩ : ∃ e, ge k = e := ⟨_, rfl⟩
      rw [hv, he] at HCK
      rw [he] at HST HNX
      have HV := Lib.hid hv
      clear hm hE hv he HC HCL HI
      by_cases h0 : e = 0
      · subst h0
        go_wp2_with (first
          | ((with_reducible refine HCK.out.mono ?_); rintro e' w9 ⟨rfl, b9⟩
             have hI9 := HM.out.below b9
             obtain ⟨A9, c9, he9, ho9⟩ := hI9.el
             have g2 := he9.cell 2
             have HFIN := Lib.hid (fun v' w10 (ho : World.ownsRow w10 (w.heap.size + 2) 2 1 v' (k + 1) ((apL gv k).map iv ++ [.int .i64 v])) (hg : (w9.alloc (.cells #[.int .i64 v] 2)).grownBy w10 (Value.slice A9 k c9).ownBlock) => hI9.push he9 ho9 v HV.out v' ho hg)
             have HO1 := Lib.hid (arown_stay ho9 (alloc_below w9 (.cells #[.int .i64 v] 2)) (fun g hg => (arown_lt ho9 g hg).2))
             have HSZ := Lib.hid hI9.fb.size
             have HRL := Lib.hid he9.lt
             have HNEW : Hid (∀ i u, ([.int .i64 v] : List Value)[i]? = some u → (w9.alloc (.cells #[.int .i64 v] 2)).cell? ((⟨w9.heap.size, 0, none⟩ : Addr).add i) = some u) := Lib.hid (fun i u hu => by
               rw [Addr.add_mid, Nat.zero_add, (Blk.new w9 2 _).cell i, List.getElem?_toArray]
               exact hu)
             clear hI9 he9 ho9 b9)
          | (at_builtin; refine wpList_append_own _ rfl _ _ 23 rfl (w.heap.size + 2) 2 i0 (.int .i64 0) 1 8 Try.underlying23 hi hz0 hz1 hz2 rfl (by decide) _ k _ rfl HO1.out ⟨w9.heap.size, 0, none⟩ 1 1 [.int .i64 v] rfl rfl HNEW.out (by intro u hu; rw [List.mem_singleton] at hu; subst hu; rfl) (by unfold maxLen; omega) (by omega) (by have := HRL.out; simp; omega) ?_; intro v' w10 hown hgrow _; obtain ⟨cq9, fq9, ⟨A', c2, rfl⟩, hf9⟩ := HFIN.out v' w10 hown hgrow; have HF9 := Lib.hid hf9; clear hown hgrow hf9 g2))
        exact ⟨⟨k + 1, by go_num, by omega, HNX.out trivial, HF9.out⟩, by simp [intOf]; omega⟩
      · have hne : (e != 0) = true := by simp [h0]
        have HEN := Lib.hid h0
        clear h0
        go_wp2_with ((with_reducible refine HCK.out.mono ?_); rintro e' w9 ⟨rfl, b9⟩
                     have hI9 := HM.out.below b9
                     have f0 := hI9.r.cell 0
                     have f1 := hI9.r.cell 1
                     have f2 := hI9.r.cell 2
                     have q0 := hI9.r.frozen 0
                     have q1 := hI9.r.frozen 1
                     have q2 := hI9.r.frozen 2
                     have HI9 := Lib.hid hI9
                     clear hI9 b9)
        refine bodyPost_ret (results_arr2 rfl rfl rfl (arblk_three _ _ _ HI9.out.r)) rfl ?_
        have hA := HST.out HEN.out
        refine ⟨_, by rw [hA]; rfl, HI9.out.fb.trans ((arkeep_three w9 w.heap.size _ _ _).below HI9.out.fb.size (fun i hi e => by omega)), fun _ => rfl, fun h => absurd (hA.symm.trans h) HEN.out⟩
    · obtain rfl : k = N := by omega
      obtain ⟨A9, c9, he9, ho9⟩ := hm.el
      have g0 := he9.cell 0
      have g1 := he9.cell 1
      have g2 := he9.cell 2
      have f0 := hm.r.cell 0
      have f1 := hm.r.cell 1
      have f2 := hm.r.cell 2
      have q0 := hm.r.frozen 0
      have q1 := hm.r.frozen 1
      have q2 := hm.r.frozen 2
      have HM := Lib.hid hm
      have HE := Lib.hid hE
      have HO := Lib.hid ho9
      clear hm hE he9 ho9 HC HCL HI
      go_wp2
      refine bodyPost_ret (results_arr2 rfl rfl rfl (arblk_three _ _ _ HM.out.r)) rfl ?_
      refine ⟨_, by rw [HE.out]; rfl, HM.out.fb.trans ((arkeep_three wr w.heap.size _ _ _).below HM.out.fb.size (fun i hi e => by omega)), fun h => absurd HE.out h, fun _ => ⟨A9, c9, rfl, ?_⟩⟩
      exact arown_mono ((arkeep_three wr w.heap.size _ _ _).own HO.out (fun b hb e => by have := (arown_lt HO.out b hb).1; omega)) (by omega)
end Go.Proofs.Ytkabdkblcgklmaa.fo

/-
  Layer 16 (fold): mathematics of a row that is folded from its last number on; of arrays whose elements come one by one.
-/
import Derived.Test.YtkabdkblcgklmaaScMapT
namespace Go.Proofs.Ytkabdkblcgklmaa.fo
open Go.RowKit Go.Proofs.Ytkabdkblcgklmaa.arr Go.Proofs.Ytkabdkblcgklmaa.sc

/-- What comes of no numbers. -/
def idV (f : Int) : Int := if f = 6 then 9223372036854775807 else if f = 7 then -9223372036854775808 else if f = 3 ∨ f = 4 ∨ f = 8 ∨ f = 9 ∨ f = 12 ∨ f = 13 ∨ f = 15 then 1 else 0
def idE (f : Int) : Int := if binB f = true then 0 else 2
theorem idV_in (f : Int) : InR (idV f) := by
  unfold idV InR
  split
  · omega
  · split
    · omega
    · split <;> omega
/-- A row, folded: the number, and the error. -/
def rowF (f : Int) : List Int → Int × Int
  | [] => (idV f, 0)
  | x :: l => if l = [] then (x, 0) else if (rowF f l).2 ≠ 0 then rowF f l else (twoV f x (rowF f l).1, twoE f x (rowF f l).1)
theorem rowF_nil (f : Int) : rowF f [] = (idV f, 0) := rfl
theorem rowF_one (f x : Int) : rowF f [x] = (x, 0) := rfl
theorem rowF_cons (f x : Int) {l : List Int} (h : l ≠ []) : rowF f (x :: l) = if (rowF f l).2 ≠ 0 then rowF f l else (twoV f x (rowF f l).1, twoE f x (rowF f l).1) := by
  show (if l = [] then (x, 0) else if (rowF f l).2 ≠ 0 then rowF f l else (twoV f x (rowF f l).1, twoE f x (rowF f l).1)) = _
  rw [if_neg h]
theorem rowF_bad {f x : Int} {l : List Int} (h : (rowF f l).2 ≠ 0) : rowF f (x :: l) = rowF f l := by
  have hl : l ≠ [] := by
    rintro rfl
    exact h rfl
  rw [rowF_cons f x hl, if_pos h]
theorem rowF_app {f : Int} {l : List Int} (h : (rowF f l).2 ≠ 0) : ∀ m, rowF f (m ++ l) = rowF f l
  | [] => rfl
  | x :: m => by
    have ih := rowF_app h m
    show rowF f (x :: (m ++ l)) = _
    rw [rowF_bad (by rw [ih]; exact h), ih]
theorem rowF_good {f x : Int} {l : List Int} (hl : l ≠ []) (h : (rowF f l).2 = 0) : rowF f (x :: l) = (twoV f x (rowF f l).1, twoE f x (rowF f l).1) := by
  rw [rowF_cons f x hl, if_neg (by rw [h]; decide)]
theorem rowF_in {f : Int} : ∀ {l : List Int}, (∀ z ∈ l, InR z) → InR (rowF f l).1
  | [], _ => idV_in f
  | x :: l, h => by
    by_cases hl : l = []
    · subst hl
      exact h x List.mem_cons_self
    · have ih := rowF_in (f := f) (l := l) (fun z hz => h z (List.mem_cons_of_mem _ hz))
      rw [rowF_cons f x hl]
      split
      · exact ih
      · exact twoV_in (h x List.mem_cons_self) ih
def rowV (f : Int) (l : List Int) : Int := if binB f = true then (rowF f l).1 else 0
def rowE (f : Int) (l : List Int) : Int := if binB f = true then (rowF f l).2 else 2
theorem row_bin {f : Int} (h : binB f = true) (l : List Int) : rowV f l = (rowF f l).1 ∧ rowE f l = (rowF f l).2 := by
  unfold rowV rowE
  rw [if_pos h, if_pos h]
  exact ⟨rfl, rfl⟩
theorem row_no {f : Int} (h : binB f = false) (l : List Int) : rowV f l = 0 ∧ rowE f l = 2 := by
  unfold rowV rowE
  rw [h, if_neg (by decide), if_neg (by decide)]
  exact ⟨rfl, rfl⟩
theorem rowV_in {f : Int} {l : List Int} (h : ∀ z ∈ l, InR z) : InR (rowV f l) := by
  unfold rowV
  split
  · exact rowF_in h
  · unfold InR; omega
/-- .. behind so many rounds. -/
def tailF (f : Int) (l : List Int) (k : Nat) : Int × Int := rowF f (l.drop (l.length - k))
theorem tail_zero (f : Int) (l : List Int) : tailF f l 0 = (idV f, 0) := by
  unfold tailF
  rw [Nat.sub_zero, List.drop_length, rowF_nil]
theorem tail_all (f : Int) (l : List Int) : tailF f l l.length = rowF f l := by
  unfold tailF
  rw [Nat.sub_self, List.drop_zero]
theorem drop_tail {l : List Int} {k : Nat} (h : k < l.length) : l.drop (l.length - (k + 1)) = l[l.length - 1 - k]'(by omega) :: l.drop (l.length - k) := by
  rw [List.drop_eq_getElem_cons (show l.length - (k + 1) < l.length by omega)]
  have e1 : l.length - (k + 1) + 1 = l.length - k := by omega
  have e2 : l.length - (k + 1) = l.length - 1 - k := by omega
  rw [e1]
  congr 1
  simp only [e2]
theorem tail_first {f : Int} {l : List Int} (h : 0 < l.length) : tailF f l 1 = (l[l.length - 1]'(by omega), 0) := by
  unfold tailF
  have e := drop_tail (k := 0) h
  simp only [Nat.sub_zero, List.drop_length] at e
  rw [e, rowF_one]
theorem tail_next {f : Int} {l : List Int} {k : Nat} (h0 : 0 < k) (h : k < l.length) (he : (tailF f l k).2 = 0) : tailF f l (k + 1) = (twoV f (l[l.length - 1 - k]'(by omega)) (tailF f l k).1, twoE f (l[l.length - 1 - k]'(by omega)) (tailF f l k).1) := by
  unfold tailF at he ⊢
  rw [drop_tail h]
  have hne : l.drop (l.length - k) ≠ [] := by
    intro e
    have := congrArg List.length e
    rw [List.length_drop, List.length_nil] at this
    omega
  exact rowF_good hne he
theorem tail_bad {f : Int} {l : List Int} {k : Nat} (he : (tailF f l k).2 ≠ 0) : rowF f l = tailF f l k := by
  unfold tailF at he ⊢
  have h := rowF_app he (l.take (l.length - k))
  rwa [List.take_append_drop] at h
theorem tail_in {f : Int} {l : List Int} {k : Nat} (h : ∀ z ∈ l, InR z) : InR (tailF f l k).1 := rowF_in (fun z hz => h z (List.mem_of_mem_drop hz))

/-! ### An array made of elements that come one by one -/
def mdN (sh : List Int) : Nat := (prodI sh).toNat
def mdR (sh : List Int) (gv ge : Nat → Int) : AV := if apE ge (mdN sh) = 0 then ⟨1, sh, apL gv (mdN sh)⟩ else ⟨0, [], []⟩

/-! ### Rows -/
def othL (sh : List Int) : List Int := sh.take (sh.length - 1)
def longI (sh : List Int) : Int := if sh.length = 0 then 1 else sh.getD (sh.length - 1) 0
def longN (sh : List Int) : Nat := (longI sh).toNat
def manyN (sh : List Int) : Nat := (prodI (othL sh)).toNat
/-- May rows be folded? -/
def rowsE (f : Int) (a : AV) : Int := if binB f = false then 2 else if okA a = false then 110 else if a.kind = 2 then 5 else 0
def redE (f : Int) (a : AV) : Int :=
  if rowsE f a ≠ 0 then rowsE f a else if okShape (othL a.sh) = false then 9 else apE (fun r => rowE f ((a.el.drop (r * longN a.sh)).take (longN a.sh))) (mdN (othL a.sh))
def redA (f : Int) (a : AV) : AV := if redE f a = 0 then ⟨1, othL a.sh, apL (fun r => rowV f ((a.el.drop (r * longN a.sh)).take (longN a.sh))) (mdN (othL a.sh))⟩ else ⟨0, [], []⟩
def begL (a : AV) (n : Nat) : List Int := (a.el.drop (n - n % longN a.sh)).take (n % longN a.sh + 1)
def scnE (f : Int) (a : AV) : Int := if rowsE f a ≠ 0 then rowsE f a else apE (fun n => rowE f (begL a n)) (mdN a.sh)
def scnA (f : Int) (a : AV) : AV := if scnE f a = 0 then ⟨1, a.sh, apL (fun n => rowV f (begL a n)) (mdN a.sh)⟩ else ⟨0, [], []⟩
/-! ### Products -/
def outE0 (f : Int) (a b : AV) : Int := if binB f = false then 2 else if (okA a && okA b) = false then 110 else if kindsE f a.kind b.kind ≠ 0 then kindsE f a.kind b.kind else if okShape (a.sh ++ b.sh) = false then 9 else 0
def outGE (f : Int) (a b : AV) (n : Nat) : Int := mixE f a.kind b.kind (a.el.getD (n / b.el.length) 0) (b.el.getD (n % b.el.length) 0)
def outGV (f : Int) (a b : AV) (n : Nat) : Int := mixV f a.kind b.kind (a.el.getD (n / b.el.length) 0) (b.el.getD (n % b.el.length) 0)
def outE (f : Int) (a b : AV) : Int := if outE0 f a b ≠ 0 then outE0 f a b else apE (outGE f a b) (mdN (a.sh ++ b.sh))
def outA (f : Int) (a b : AV) : AV := if outE f a b = 0 then ⟨1, a.sh ++ b.sh, apL (outGV f a b) (mdN (a.sh ++ b.sh))⟩ else ⟨0, [], []⟩
end Go.Proofs.Ytkabdkblcgklmaa.fo

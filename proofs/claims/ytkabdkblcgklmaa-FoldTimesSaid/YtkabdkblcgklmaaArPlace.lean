/-
  Layer 11 (array): Place; the given Count, Place, Shapes, Ints.
-/
import Derived.Test.YtkabdkblcgklmaaArLook
namespace Go.Proofs.Ytkabdkblcgklmaa.arr
open Go.RowKit

theorem place_no {l a : List Int} (h : placeB l a = false) : placeV l a = 0 := by
  unfold placeV
  rw [h]
  rfl
theorem place_ok {l a : List Int} (h : placeB l a = true) : placeV l a = hor 0 l a := by
  unfold placeV
  rw [h]
  rfl
theorem place_shape {l a : List Int} (h : okShape l = false) : placeB l a = false := by
  unfold placeB
  rw [h]
  rfl
theorem place_len {l a : List Int} (h : ¬ a.length = l.length) : placeB l a = false := by
  unfold placeB
  cases hi : inTup l a
  · rw [Bool.and_false]
  · exact absurd (inTup_length hi).symm h
theorem place_bad {l a : List Int} {j : Nat} (h : inTup (l.take j) (a.take j) = false) : placeB l a = false := by
  unfold placeB
  cases hi : inTup l a
  · rw [Bool.and_false]
  · rw [inTup_take j hi] at h
    cases h
/-- What stands ahead of the j-th axis. -/
structure PlaceI (l a : List Int) (j : Nat) (p : Int) : Prop where
  ok : inTup (l.take j) (a.take j) = true
  is_ : p = hor 0 (l.take j) (a.take j)
theorem PlaceI.bounds {l a : List Int} {j : Nat} {p : Int} (h : PlaceI l a j p) (hl : okShape l = true) : 0 ≤ p ∧ p < 281474976710656 := by
  obtain ⟨h4, hall, _⟩ := okShape_iff.1 hl
  obtain ⟨h1, h2⟩ := hor_bounds (l.take j) (a.take j) 0 0 (all_take hall j) h.ok (by decide) (by decide)
  have := pow_four (k := 0 + (l.take j).length) (by rw [List.length_take]; omega)
  rw [h.is_]
  omega
theorem PlaceI.step {l a : List Int} {j : Nat} {p : Int} (h : PlaceI l a j p) (hj : j < l.length) (hk : j < a.length) : (0 ≤ a[j] → a[j] < l[j] → PlaceI l a (j + 1) (p * l[j] + a[j])) ∧ (¬ (0 ≤ a[j] ∧ a[j] < l[j]) → placeB l a = false) := by
  have hl : (l.take j).length = (a.take j).length := by rw [List.length_take, List.length_take]; omega
  have e1 := List.take_succ_eq_append_getElem hj
  have e2 := List.take_succ_eq_append_getElem hk
  refine ⟨fun h1 h2 => ⟨?_, ?_⟩, fun hn => ?_⟩
  · rw [e1, e2, inTup_snoc _ _ _ _ hl, h.ok, decide_eq_true h1, decide_eq_true h2]
    rfl
  · rw [e1, e2, hor_snoc _ _ _ _ _ hl, h.is_]
  · refine place_bad (j := j + 1) ?_
    rw [e1, e2, inTup_snoc _ _ _ _ hl, h.ok, Bool.true_and]
    by_cases h1 : 0 ≤ a[j]
    · rw [decide_eq_false (fun h2 => hn ⟨h1, h2⟩), Bool.and_false]
    · rw [decide_eq_false h1, Bool.false_and]
theorem PlaceI.done {l a : List Int} {p : Int} (h : PlaceI l a l.length p) (hl : okShape l = true) (he : a.length = l.length) : placeB l a = true ∧ placeV l a = p := by
  have h1 := h.ok
  rw [List.take_length, ← he, List.take_length] at h1
  have h2 : placeB l a = true := by unfold placeB; rw [hl, h1]; rfl
  refine ⟨h2, ?_⟩
  rw [place_ok h2, h.is_, List.take_length, ← he, List.take_length]

end Go.Proofs.Ytkabdkblcgklmaa.arr

/-
  Layer 11 (array): Place; the given Count, Place, Shapes, Ints.
-/
import Derived.Test.YtlmdijijlbmddaaDoorArLook
namespace Go.Proofs.YtlmdijijlbmddaaDoor.arr
open Go.RowKit

theorem place_no {l a : List Int} (h : placeB l a = false) : placeV l a = 0 := by
  unfold placeV
  rw [h]
  rfl
theorem place_ok {l a : List Int} (h : placeB l a = true) : placeV l a = hor 0 l a := by
  unfold placeV
  rw [h]
  rfl
theorem place_shape {l a : List Int} (h : okShape l = false) : placeB l a = false := by
  unfold placeB
  rw [h]
  rfl
theorem place_len {l a : List Int} (h : ¬ a.length = l.length) : placeB l a = false := by
  unfold placeB
  cases hi : inTup l a
  · rw [Bool.and_false]
  · exact absurd (inTup_length hi).symm h
theorem place_bad {l a : List Int} {j : Nat} (h : inTup (l.take j) (a.take j) = false) : placeB l a = false := by
  unfold placeB
  cases hi : inTup l a
  · rw [Bool.and_false]
  · rw [inTup_take j hi] at h
    cases h
/-- What stands ahead of the j-th axis. -/
structure PlaceI (l a : List Int) (j : Nat) (p : Int) : Prop where
  ok : inTup (l.take j) (a.take j) = true
  is_ : p = hor 0 (l.take j) (a.take j)
theorem PlaceI.bounds {l a : List Int} {j : Nat} {p : Int} (h : PlaceI l a j p) (hl : okShape l = true) : 0 ≤ p ∧ p < 281474976710656 := by
  obtain ⟨h4, hall, _⟩ := okShape_iff.1 hl
  obtain ⟨h1, h2⟩ := hor_bounds (l.take j) (a.take j) 0 0 (all_take hall j) h.ok (by decide) (by decide)
  have := pow_four (k := 0 + (l.take j).length) (by rw [List.length_take]; omega)
  rw [h.is_]
  omega
theorem PlaceI.step {l a : List Int} {j : Nat} {p : Int} (h : PlaceI l a j p) (hj : j < l.length) (hk : j < a.length) : (0 ≤ a[j] → a[j] < l[j] → PlaceI l a (j + 1) (p * l[j] + a[j])) ∧ (¬ (0 ≤ a[j] ∧ a[j] < l[j]) → placeB l a = false) := by
  have hl : (l.take j).length = (a.take j).length := by rw [List.length_take, List.length_take]; omega
  have e1 := List.take_succ_eq_append_getElem hj
  have e2 := List.take_succ_eq_append_getElem hk
  refine ⟨fun h1 h2 => ⟨?_, ?_⟩, fun hn => ?_⟩
  · rw [e1, e2, inTup_snoc _ _ _ _ hl, h.ok, decide_eq_true h1, decide_eq_true h2]
    rfl
  · rw [e1, e2, hor_snoc _ _ _ _ _ hl, h.is_]
  · refine place_bad (j := j + 1) ?_
    rw [e1, e2, inTup_snoc _ _ _ _ hl, h.ok, Bool.true_and]
    by_cases h1 : 0 ≤ a[j]
    · rw [decide_eq_false (fun h2 => hn ⟨h1, h2⟩), Bool.and_false]
    · rw [decide_eq_false h1, Bool.false_and]
theorem PlaceI.done {l a : List Int} {p : Int} (h : PlaceI l a l.length p) (hl : okShape l = true) (he : a.length = l.length) : placeB l a = true ∧ placeV l a = p := by
  have h1 := h.ok
  rw [List.take_length, ← he, List.take_length] at h1
  have h2 : placeB l a = true := by unfold placeB; rw [hl, h1]; rfl
  refine ⟨h2, ?_⟩
  rw [place_ok h2, h.is_, List.take_length, ← he, List.take_length]

set_option maxHeartbeats 2000000 in
theorem arplace_any (A A2 : Option Addr) (c n c2 m : Nat) (l a : List Int) (w : World) (hl : l.length = n) (ha : Reads w w.heap.size 1 A n (l.map iv)) (hn : n ≤ 9223372036854775807) (hl2 : a.length = m) (ha2 : Reads w w.heap.size 1 A2 m (a.map iv)) (hm : m ≤ 9223372036854775807) :
    Calls Tryd.prog 6 #[.slice A n c, .slice A2 m c2] w fun e w' => e = .returned (.tuple #[.int .i64 (placeV l a), .bool (placeB l a)]) ∧ w = w' := by
  have HC := Lib.hid (arcount_any A c n l w hl ha hn)
  cases hok : okShape l
  · obtain ⟨e1, e2⟩ := cnt_no hok
    rw [e1, e2] at HC
    have hp := place_shape (a := a) hok
    rw [place_no hp, hp]
    clear hp e1 e2 hok ha ha2 hl hl2
    go_enter Tryd.func6, Tryd.ntmps6
    go_wp2_with (go_at_call 5; refine HC.out.mono ?_; rintro e _ ⟨rfl, rfl⟩)
    go_ret2
    exact ⟨rfl, rfl⟩
  obtain ⟨e1, e2⟩ := cnt_ok hok
  rw [e1, e2] at HC
  clear e1 e2
  by_cases hnm : m = n
  case neg =>
    have hne : ((m : Int) != (n : Int)) = true := by rw [bne_iff_ne]; omega
    have hp := place_len (l := l) (a := a) (by rw [hl, hl2]; exact hnm)
    rw [place_no hp, hp]
    clear hp hok ha ha2 hl hl2
    go_enter Tryd.func6, Tryd.ntmps6
    go_wp2_with (go_at_call 5; refine HC.out.mono ?_; rintro e _ ⟨rfl, rfl⟩)
    go_ret2
    exact ⟨rfl, rfl⟩
  subst hnm
  have HA := Lib.hid ha
  have HA2 := Lib.hid ha2
  have HL := Lib.hid hl
  have HL2 := Lib.hid hl2
  have HOK := Lib.hid hok
  have hLx : Hid (∀ x ∈ l, 0 ≤ x ∧ x ≤ 4096) := Lib.hid (fun x hx => lenOk_iff.1 (List.all_eq_true.1 (okShape_iff.1 hok).2.1 x hx))
  clear ha ha2 hl hl2 hok
  go_enter Tryd.func6, Tryd.ntmps6
  go_wp2_with (go_at_call 5; refine HC.out.mono ?_; rintro e _ ⟨rfl, rfl⟩)
  go_loopw [27, 8] (fun i p wr => ∃ (j : Nat) (q : Int), j ≤ m ∧ i = .int .i64 ((j : Nat) : Int) ∧ p = .int .i64 q ∧ PlaceI l a j q ∧ wr = w) (fun i _ _ => m - (intOf i).toNat)
  case atStart => exact ⟨0, 0, Nat.zero_le _, rfl, rfl, ⟨rfl, rfl⟩, rfl⟩
  case round =>
    obtain ⟨j, q, hj, rfl, rfl, hI, rfl⟩ := hrel
    have hqb := hI.bounds HOK.out
    by_cases hlt : j < m
    · obtain ⟨adA, rfl, _, cA⟩ := HA.out.int_at hlt HL.out
      obtain ⟨adB, rfl, _, cB⟩ := HA2.out.int_at hlt HL2.out
      have hjl : j < l.length := by have := HL.out; omega
      have hjk : j < a.length := by have := HL2.out; omega
      obtain ⟨h1, h2⟩ := hI.step hjl hjk
      obtain ⟨x0, x1⟩ := hLx.out l[j] (List.getElem_mem hjl)
      generalize l[j] = x at *
      generalize a[j] = y at *
      have H1 := Lib.hid h1
      have H2 := Lib.hid h2
      clear h1 h2 hI
      obtain ⟨q0, q1⟩ := hqb
      by_cases hy0 : y < 0
      · go_wp2
        go_ret2
        have hp := H2.out (by omega)
        exact ⟨by rw [place_no hp, hp]; rfl, rfl⟩
      by_cases hyx : x ≤ y
      · go_wp2
        go_ret2
        have hp := H2.out (by omega)
        exact ⟨by rw [place_no hp, hp]; rfl, rfl⟩
      have hN := H1.out (by omega) (by omega)
      have hb := hN.bounds HOK.out
      have hqx : 0 ≤ q * x := Int.mul_nonneg q0 x0
      obtain ⟨z, hz⟩ : ∃ z, q * x = z := ⟨_, rfl⟩
      rw [hz] at hN hb hqx
      have HN := Lib.hid hN
      obtain ⟨b1, b2⟩ := hb
      clear hN
      go_wp2
      exact ⟨⟨j + 1, _, by omega, by go_num, rfl, HN.out, trivial⟩, by simp [intOf]; omega⟩
    · obtain rfl : j = m := by omega
      obtain ⟨e1, e2⟩ := PlaceI.done (l := l) (a := a) (by rw [HL.out]; exact hI) HOK.out (by rw [HL.out]; exact HL2.out)
      have E1 := Lib.hid e1
      have E2 := Lib.hid e2
      clear e1 e2 hI hqb
      go_wp2
      go_ret2
      exact ⟨by rw [E1.out, E2.out]; rfl, rfl⟩
end Go.Proofs.YtlmdijijlbmddaaDoor.arr

/-
  The pool of layer 10: Drop, Held, Get, Set.
-/
import Derived.Test.YtlmdijijlbmddaaPlOther
namespace Go.Proofs.Ytlmdijijlbmddaa.pool
open Go.RowKit

section
variable {N p m : Nat} {w : World} {s : PS}
set_option maxRecDepth 100000 in
set_option maxHeartbeats 4000000 in
theorem drop_any (f n : Int) (h : PB N w p m s) (hN : N ≤ w.heap.size) :
    Calls Try.prog 21 #[pv p, kvv f n] w fun e w' => e = .returned (.int .i64 (s.drop f n).1) ∧ PB N w' p m (s.drop f n).2 ∧ KT N TT w w' := by
  obtain ⟨q, ml, h⟩ := h
  obtain ⟨R, hR⟩ : ∃ R, s.drop f n = R := ⟨_, rfl⟩
  rw [hR]
  obtain ⟨E, s'⟩ := R
  have HRR := Lib.hid hR
  obtain ⟨w1, hw1⟩ : ∃ w1, w.alloc (.cells #[.int .i64 f, .int .i64 n] 29) = w1 := ⟨_, rfl⟩
  have hb1 : Below w.heap.size w w1 := by rw [← hw1]; exact (Below.refl _ _).alloc (Nat.le_refl _) _
  have hx1 : Blk w1 w.heap.size 29 #[.int .i64 f, .int .i64 n] := by rw [← hw1]; exact Blk.new w _ _
  have h1 := h.below hb1
  have HU := Lib.hid (usable_any h1.pool)
  have HFI := Lib.hid (find_any f n h1.pool)
  have k0 := hx1.cell 0
  have k1 := hx1.cell 1
  have H1 := Lib.hid h1
  have HB1 := Lib.hid hb1
  have hN1 : N ≤ w1.heap.size := Nat.le_trans hN hb1.size
  clear h h1 hx1 hb1 hR
  simp only
  go_enter Try.func21, Try.ntmps21
  go_wp2_with (first
    | (go_at_call 47; refine HU.out.mono ?_; rintro e _ ⟨rfl, rfl⟩)
    | (go_at_call 48; refine HFI.out.mono ?_; rintro e w2 ⟨⟨x, rfl, hx⟩, hb2⟩; have HX := Lib.hid hx; have HB2 := Lib.hid hb2; clear hx hb2))
  have hft := found_take HX.out
  rw [← H1.out.fr] at hft
  have hN2 : N ≤ w2.heap.size := Nat.le_trans hN1 HB2.out.size
  have HBA : Hid (KT N TT w w2) := Lib.hid (KT.of_below (HB1.out.trans (HB2.out.mono HB1.out.size)))
  rcases hft with ⟨pre, ⟨fl, v⟩, post, hq, hy, rfl, ht⟩ | ⟨rfl, ht⟩
  · have h2 := H1.out.below HB2.out
    have H2Q := Lib.hid h2
    rw [hq] at h2
    have hfr := (h2.pool.fr (fl, v) (by simp)).1
    have c4 : w2.cell? ⟨fl.b, 4, none⟩ = some (.int .i64 (v.pins : Int)) := hfr.blk.cell 4
    have HRM := Lib.hid (remove_in (x := (fl, v)) h2.pool)
    have HT := Lib.hid ht
    have H2 := Lib.hid h2
    obtain ⟨k, hk⟩ : ∃ k, v.pins = k := ⟨_, rfl⟩
    rw [hk] at c4
    have HK := Lib.hid hk
    clear ht h2 hq hy hfr hk
    simp only [pv]
    by_cases hp : 0 < k
    · have hd : decide ((0 : Int) < (k : Int)) = true := decide_eq_true (by omega)
      have hpi : (0 : Int) < (k : Int) := by omega
      go_wp2
      go_ret
      have hR := HRR.out
      unfold PS.drop at hR
      rw [HT.out] at hR
      have hK := HK.out
      simp only [hK, hp, if_true] at hR
      injection hR with e1 e2
      subst e1 e2
      exact ⟨rfl, ⟨q, ml, H2Q.out⟩, HBA.out⟩
    · obtain rfl : k = 0 := by omega
      go_wp2_with (go_at_call 58; refine HRM.out.mono ?_; rintro e w4 ⟨rfl, h4, k4⟩; have H4 := Lib.hid h4; have K4 := Lib.hid k4; clear h4 k4)
      go_ret
      have hR := HRR.out
      unfold PS.drop at hR
      rw [HT.out] at hR
      have hK := HK.out
      simp only [hK] at hR
      injection hR with e1 e2
      subst e1 e2
      refine ⟨rfl, ⟨pre ++ post, ml, H4.out, H2.out.mem.keep K4.out (by decide), fun x hx y hy => ?_, by simp⟩, HBA.out.trans (K4.out.more (T' := TT) (by decide))⟩
      rcases List.mem_append.1 hx with hx | hx
      · exact H2.out.ap x (by simp [hx]) y hy
      · exact H2.out.ap x (by simp [hx]) y hy
  · have qn := fun w => run_eql_nilnil (P := Try.prog) w (tp := 79) (te := 82) Try.underlying79
    have h2 := H1.out.below HB2.out
    have HT := Lib.hid ht
    have H2 := Lib.hid h2
    clear ht h2
    simp [eqGuard, qn]
    go_wp2
    go_ret
    have hR := HRR.out
    unfold PS.drop at hR
    rw [HT.out] at hR
    injection hR with e1 e2
    subst e1 e2
    exact ⟨rfl, ⟨q, ml, H2.out⟩, HBA.out⟩

theorem held_any (h : PB N w p m s) : Calls Try.prog 20 #[pv p] w fun e w' => e = .returned (.int .i64 (s.fr.length : Int)) ∧ w = w' := by
  obtain ⟨q, ml, h⟩ := h
  obtain ⟨A, c, hb, _⟩ := h.pool.pool
  have hfr := h.fr
  have HV := Lib.hid (valid_any h.pool.blk5.1)
  have c3 := hb.cell 3
  have hl : s.fr.length = q.length := by rw [hfr, List.length_map]
  rw [hl]
  generalize q.length = k at *
  clear h hb hfr hl
  go_enter Try.func20, Try.ntmps20
  go_wp2_with (go_at_call 54; refine HV.out.mono ?_; rintro e _ ⟨rfl, rfl⟩)
  go_ret
  exact ⟨rfl, rfl⟩

theorem phas_any (fl : FL) (v : FV) (i : Int) (w : World) (h : FrAt w fl v) : Calls Try.prog 53 #[pv fl.b, .int .i64 i] w fun e w' => e = .returned (.bool (decide (0 ≤ i ∧ i < 4))) ∧ w = w' := by
  have c3 : w.cell? ⟨fl.b, 3, none⟩ = some (.slice (some ⟨fl.g, 0, none⟩) 4 fl.c) := h.blk.cell 3
  clear h
  by_cases h0 : 0 ≤ i
  · by_cases h4 : i < 4
    · rw [decide_eq_true ⟨h0, h4⟩]
      go_enter Try.func53, Try.ntmps53
      go_wp2
      go_ret
      exact ⟨rfl, rfl⟩
    · rw [decide_eq_false (fun e => h4 e.2)]
      go_enter Try.func53, Try.ntmps53
      go_wp2
      go_ret
      exact ⟨rfl, rfl⟩
  · rw [decide_eq_false (fun e => h0 e.1)]
    go_enter Try.func53, Try.ntmps53
    go_wp2
    go_ret
    exact ⟨rfl, rfl⟩

set_option maxRecDepth 100000 in
set_option maxHeartbeats 4000000 in
theorem get_any (f n i : Int) (h : PB N w p m s) (hN : N ≤ w.heap.size) :
    Calls Try.prog 23 #[pv p, kvv f n, .int .i64 i] w fun e w' => e = .returned (.tuple #[.int .i64 (s.get f n i).1, .int .i64 (s.get f n i).2]) ∧ PB N w' p m s ∧ KT N TT w w' := by
  obtain ⟨q, ml, h⟩ := h
  obtain ⟨R, hR⟩ : ∃ R, s.get f n i = R := ⟨_, rfl⟩
  rw [hR]
  obtain ⟨E, E'⟩ := R
  have HRR := Lib.hid hR
  obtain ⟨w1, hw1⟩ : ∃ w1, w.alloc (.cells #[.int .i64 f, .int .i64 n] 29) = w1 := ⟨_, rfl⟩
  have hb1 : Below w.heap.size w w1 := by rw [← hw1]; exact (Below.refl _ _).alloc (Nat.le_refl _) _
  have hx1 : Blk w1 w.heap.size 29 #[.int .i64 f, .int .i64 n] := by rw [← hw1]; exact Blk.new w _ _
  have h1 := h.below hb1
  have HU := Lib.hid (valid_any h1.pool.blk5.1)
  have HFI := Lib.hid (pinned_any f n h1.pool)
  have k0 := hx1.cell 0
  have k1 := hx1.cell 1
  have H1 := Lib.hid h1
  have HB1 := Lib.hid hb1
  have hN1 : N ≤ w1.heap.size := Nat.le_trans hN hb1.size
  clear h h1 hx1 hb1 hR
  simp only
  go_enter Try.func23, Try.ntmps23
  go_wp2_with (first
    | (go_at_call 54; refine HU.out.mono ?_; rintro e _ ⟨rfl, rfl⟩)
    | (go_at_call 52; refine HFI.out.mono ?_; rintro e w2 ⟨⟨x, rfl, hx⟩, hb2⟩; have HX := Lib.hid hx; have HB2 := Lib.hid hb2; clear hx hb2))
  have hft := found_take HX.out
  rw [← H1.out.fr] at hft
  have hN2 : N ≤ w2.heap.size := Nat.le_trans hN1 HB2.out.size
  have HBA : Hid (KT N TT w w2) := Lib.hid (KT.of_below (HB1.out.trans (HB2.out.mono HB1.out.size)))
  rcases hft with ⟨pre, ⟨fl, v⟩, post, hq, hy, rfl, ht⟩ | ⟨rfl, ht⟩
  · have h2 := H1.out.below HB2.out
    have H2 := Lib.hid h2
    have hfr : FrAt w2 fl v := (h2.pool.fr (fl, v) (by rw [hq]; simp)).1
    have c3 : w2.cell? ⟨fl.b, 3, none⟩ = some (.slice (some ⟨fl.g, 0, none⟩) 4 fl.c) := hfr.blk.cell 3
    have HHA := Lib.hid (phas_any fl v i w2 hfr)
    have HFR := Lib.hid hfr
    have HT := Lib.hid ht
    clear ht h2 hq hy hfr
    simp only [pv]
    by_cases hi : 0 ≤ i ∧ i < 4
    · rw [decide_eq_true hi] at HHA
      obtain ⟨h0, h4⟩ := hi
      obtain ⟨k, rfl⟩ := Int.eq_ofNat_of_zero_le h0
      have hk4 : k < 4 := by omega
      have hx : v.t.el[k]? = some (v.t.el.getD k 0) := by
        have hl4 : v.t.el.length = 4 := HFR.out.el.len
        rw [List.getD_eq_getElem?_getD, List.getElem?_eq_getElem (by omega)]
        rfl
      have ck : w2.cell? ⟨fl.g, k, none⟩ = some (.int .i64 (v.t.el.getD k 0)) := HFR.out.el.at_ hx
      obtain ⟨y, hy⟩ : ∃ y, v.t.el.getD k 0 = y := ⟨_, rfl⟩
      rw [hy] at ck
      have HY := Lib.hid hy
      clear hx hy
      go_wp2_with (go_at_call 53; refine HHA.out.mono ?_; rintro e _ ⟨rfl, rfl⟩)
      go_ret2
      have hR := HRR.out
      unfold PS.get at hR
      rw [HT.out] at hR
      have hcond : (0 : Int) ≤ (k : Int) ∧ (k : Int) < 4 := ⟨h0, h4⟩
      simp only [hcond, and_self, if_true, Int.toNat_natCast, HY.out] at hR
      injection hR with e1 e2
      subst e1 e2
      exact ⟨rfl, ⟨q, ml, H2.out⟩, HBA.out⟩
    · rw [decide_eq_false hi] at HHA
      have HI := Lib.hid hi
      clear hi
      go_wp2_with (go_at_call 53; refine HHA.out.mono ?_; rintro e _ ⟨rfl, rfl⟩)
      go_ret2
      have hR := HRR.out
      unfold PS.get at hR
      rw [HT.out] at hR
      simp only [HI.out, if_false] at hR
      injection hR with e1 e2
      subst e1 e2
      exact ⟨rfl, ⟨q, ml, H2.out⟩, HBA.out⟩
  · have qn := fun w => run_eql_nilnil (P := Try.prog) w (tp := 79) (te := 82) Try.underlying79
    have h2 := H1.out.below HB2.out
    have HT := Lib.hid ht
    have H2 := Lib.hid h2
    clear ht h2
    simp [eqGuard, qn]
    go_wp2
    go_ret2
    have hR := HRR.out
    unfold PS.get at hR
    rw [HT.out] at hR
    injection hR with e1 e2
    subst e1 e2
    exact ⟨rfl, ⟨q, ml, H2.out⟩, HBA.out⟩
end
end Go.Proofs.Ytlmdijijlbmddaa.pool

/-
  The pool of layer 10: Unpin, Clean, Drop, Held.
-/
import Derived.Test.YtlmdijijlbmddaaPlPin
namespace Go.Proofs.Ytlmdijijlbmddaa.pool
open Go.RowKit

section
variable {N p m : Nat} {w : World} {s : PS}
set_option maxRecDepth 100000 in
set_option maxHeartbeats 4000000 in
theorem unpin_any (f n : Int) (h : PB N w p m s) (ok : Ok s) (hN : N ≤ w.heap.size) :
    Calls Try.prog 16 #[pv p, kvv f n] w fun e w' => e = .returned (.int .i64 (s.unpin f n).1) ∧ PB N w' p m (s.unpin f n).2 ∧ KT N TT w w' := by
  obtain ⟨q, ml, h⟩ := h
  obtain ⟨R, hR⟩ : ∃ R, s.unpin f n = R := ⟨_, rfl⟩
  rw [hR]
  obtain ⟨E, s'⟩ := R
  have HRR := Lib.hid hR
  obtain ⟨w1, hw1⟩ : ∃ w1, w.alloc (.cells #[.int .i64 f, .int .i64 n] 29) = w1 := ⟨_, rfl⟩
  have hb1 : Below w.heap.size w w1 := by rw [← hw1]; exact (Below.refl _ _).alloc (Nat.le_refl _) _
  have hx1 : Blk w1 w.heap.size 29 #[.int .i64 f, .int .i64 n] := by rw [← hw1]; exact Blk.new w _ _
  have h1 := h.below hb1
  have HU := Lib.hid (usable_any h1.pool)
  have HFI := Lib.hid (pinned_any f n h1.pool)
  have k0 := hx1.cell 0
  have k1 := hx1.cell 1
  have H1 := Lib.hid h1
  have HB1 := Lib.hid hb1
  have OK := Lib.hid ok
  have hN1 : N ≤ w1.heap.size := Nat.le_trans hN hb1.size
  clear h h1 hx1 hb1 ok hR
  simp only
  go_enter Try.func16, Try.ntmps16
  go_wp2_with (first
    | (go_at_call 47; refine HU.out.mono ?_; rintro e _ ⟨rfl, rfl⟩)
    | (go_at_call 52; refine HFI.out.mono ?_; rintro e w2 ⟨⟨x, rfl, hx⟩, hb2⟩; have HX := Lib.hid hx; have HB2 := Lib.hid hb2; clear hx hb2))
  have hft := found_take HX.out
  rw [← H1.out.fr] at hft
  have hN2 : N ≤ w2.heap.size := Nat.le_trans hN1 HB2.out.size
  have HBA : Hid (KT N TT w w2) := Lib.hid (KT.of_below (HB1.out.trans (HB2.out.mono HB1.out.size)))
  rcases hft with ⟨pre, ⟨fl, v⟩, post, hq, hy, rfl, ht⟩ | ⟨rfl, ht⟩
  · have h2 := H1.out.below HB2.out
    rw [hq] at h2
    have hpn : v.pins ≤ 1000000 := OK.out.pins v (by rw [H1.out.fr, hq]; simp)
    have hpos : 0 < v.pins := by
      unfold FV.pinned at hy
      simp only [Bool.and_eq_true, decide_eq_true_eq] at hy
      exact hy.2
    obtain ⟨k, hk⟩ : ∃ k, v.pins = k + 1 := ⟨v.pins - 1, by omega⟩
    have hfr := (h2.pool.fr (fl, v) (by simp)).1
    have c4 : w2.cell? ⟨fl.b, 4, none⟩ = some (.int .i64 ((k : Int) + 1)) := (hfr.blk.cell 4).trans (by show some (Value.int .i64 (v.pins : Int)) = _; rw [hk]; rfl)
    have f4 := hfr.blk.frozen 4
    have hNb : N ≤ fl.b := (h2.pool.fr (fl, v) (by simp)).2.1
    have hS : Keep (fun i => i = fl.b) w2 (w2.setCell ⟨fl.b, 4, none⟩ (.int .i64 (k : Int))) := (Keep.refl _ _).setCell _ _ (fun _ => rfl)
    have hbk := hfr.blk.set_ 4 (.int .i64 (k : Int))
    have hp3 := h2.pool.turn (v' := { v with pins := v.pins - 1 }) hS hfr.blk.typ (.inl ⟨rfl, rfl⟩) ⟨by
      show Blk _ fl.b 82 (frC fl { v with pins := v.pins - 1 })
      unfold frC
      rw [show ((({ v with pins := v.pins - 1 } : FV).pins : Nat) : Int) = (k : Int) by show ((v.pins - 1 : Nat) : Int) = _; rw [hk]; rfl]
      exact hbk, hfr.el.box hfr.blk.typ (by decide) hS⟩
    have hkf : KT N [82] w2 (w2.setCell ⟨fl.b, 4, none⟩ (.int .i64 (k : Int))) := ⟨hS.more (fun i _ e => ⟨e ▸ hNb, 82, by decide, e ▸ hfr.blk.typ⟩)⟩
    have hm3 := h2.mem.keep hkf (by decide)
    have HUS := Lib.hid (use_in hp3 (by simpa [World.setCell] using hN2))
    have HAP : Hid (∀ x ∈ pre ++ post ++ [(fl, { v with pins := v.pins - 1 })], ∀ y ∈ ml.l, x.1.g ≠ y.1) := Lib.hid (fun x hx y hy => by
      have hx' : x ∈ pre ∨ x ∈ post ∨ x = (fl, { v with pins := v.pins - 1 }) := by simpa [or_assoc] using hx
      rcases hx' with hx | hx | rfl
      · exact h2.ap x (by simp [hx]) y hy
      · exact h2.ap x (by simp [hx]) y hy
      · exact h2.ap (fl, v) (by simp) y hy)
    have HM3 := Lib.hid hm3
    have HKF := Lib.hid hkf
    have HT := Lib.hid ht
    have hkb : (k : Int) ≤ 1000000 := by omega
    clear ht h2 hq hy hfr hS hbk hp3 hkf hm3 hpn hpos hk
    simp only [pv]
    go_wp2_with (go_at_call 51; refine HUS.out.mono ?_; rintro e w4 ⟨rfl, h4, k4⟩; have H4 := Lib.hid h4; have K4 := Lib.hid k4; clear h4 k4)
    go_ret
    have hR := HRR.out
    unfold PS.unpin at hR
    rw [HT.out] at hR
    injection hR with e1 e2
    subst e1 e2
    exact ⟨rfl, ⟨_, ml, H4.out, HM3.out.keep K4.out (by decide), HAP.out, by simp⟩, HBA.out.trans ((HKF.out.more (T' := TT) (by decide)).trans (K4.out.more (T' := TT) (by decide)))⟩
  · have qn := fun w => run_eql_nilnil (P := Try.prog) w (tp := 79) (te := 82) Try.underlying79
    have h2 := H1.out.below HB2.out
    have HT := Lib.hid ht
    have H2 := Lib.hid h2
    clear ht h2
    simp [eqGuard, qn]
    go_wp2
    go_ret
    have hR := HRR.out
    unfold PS.unpin at hR
    rw [HT.out] at hR
    injection hR with e1 e2
    subst e1 e2
    exact ⟨rfl, ⟨q, ml, H2.out⟩, HBA.out⟩

set_option maxRecDepth 100000 in
set_option maxHeartbeats 4000000 in
theorem clean_any (f n : Int) (h : PB N w p m s) (ok : Ok s) (hN : N ≤ w.heap.size) :
    Calls Try.prog 22 #[pv p, kvv f n] w fun e w' => e = .returned (.int .i64 (s.clean f n).1) ∧ PB N w' p m (s.clean f n).2 ∧ KT N TT w w' := by
  obtain ⟨q, ml, h⟩ := h
  obtain ⟨R, hR⟩ : ∃ R, s.clean f n = R := ⟨_, rfl⟩
  rw [hR]
  obtain ⟨E, s'⟩ := R
  have HRR := Lib.hid hR
  obtain ⟨w1, hw1⟩ : ∃ w1, w.alloc (.cells #[.int .i64 f, .int .i64 n] 29) = w1 := ⟨_, rfl⟩
  have hb1 : Below w.heap.size w w1 := by rw [← hw1]; exact (Below.refl _ _).alloc (Nat.le_refl _) _
  have hx1 : Blk w1 w.heap.size 29 #[.int .i64 f, .int .i64 n] := by rw [← hw1]; exact Blk.new w _ _
  have h1 := h.below hb1
  have HU := Lib.hid (usable_any h1.pool)
  have HFI := Lib.hid (find_any f n h1.pool)
  have k0 := hx1.cell 0
  have k1 := hx1.cell 1
  have H1 := Lib.hid h1
  have HB1 := Lib.hid hb1
  have OK := Lib.hid ok
  have hN1 : N ≤ w1.heap.size := Nat.le_trans hN hb1.size
  clear h h1 hx1 hb1 ok hR
  simp only
  go_enter Try.func22, Try.ntmps22
  go_wp2_with (first
    | (go_at_call 47; refine HU.out.mono ?_; rintro e _ ⟨rfl, rfl⟩)
    | (go_at_call 48; refine HFI.out.mono ?_; rintro e w2 ⟨⟨x, rfl, hx⟩, hb2⟩; have HX := Lib.hid hx; have HB2 := Lib.hid hb2; clear hx hb2))
  have hft := found_take HX.out
  rw [← H1.out.fr] at hft
  have hN2 : N ≤ w2.heap.size := Nat.le_trans hN1 HB2.out.size
  have HBA : Hid (KT N TT w w2) := Lib.hid (KT.of_below (HB1.out.trans (HB2.out.mono HB1.out.size)))
  rcases hft with ⟨pre, ⟨fl, v⟩, post, hq, hy, rfl, ht⟩ | ⟨rfl, ht⟩
  · have h2 := H1.out.below HB2.out
    rw [hq] at h2
    have HWR := Lib.hid (wr_pl h2 OK.out hN2)
    have HT := Lib.hid ht
    have HSF : Hid (s.fr = pre.map (·.2) ++ v :: post.map (·.2)) := Lib.hid (by rw [H1.out.fr, hq]; simp)
    clear ht h2 hq hy
    simp only [pv]
    go_wp2_with (go_at_call 59; refine HWR.out.mono ?_; rintro e w4 ⟨rfl, ⟨ml', h4⟩, k4⟩; have H4 := Lib.hid h4; have K4 := Lib.hid k4; clear h4 k4)
    go_ret
    have hR := HRR.out
    unfold PS.clean at hR
    rw [HT.out] at hR
    have hbel := HBA.out.trans (K4.out.more (T' := TT) (by decide))
    by_cases hd : v.dirty = true
    · simp only [hd, if_true] at hR
      injection hR with e1 e2
      subst e1 e2
      have h4 := H4.out
      have ew : v.wrd = v.clean := by unfold FV.wrd; rw [if_pos hd]
      rw [ew] at h4
      exact ⟨rfl, ⟨_, ml', h4⟩, hbel⟩
    · simp only [hd] at hR
      injection hR with e1 e2
      subst e1 e2
      have h4 := H4.out
      have ew : v.wrd = v := by unfold FV.wrd; rw [if_neg hd]
      have es : s.wr v = s := by unfold PS.wr; rw [if_neg hd]
      rw [ew, es, ← HSF.out] at h4
      exact ⟨rfl, ⟨_, ml', h4⟩, hbel⟩
  · have qn := fun w => run_eql_nilnil (P := Try.prog) w (tp := 79) (te := 82) Try.underlying79
    have h2 := H1.out.below HB2.out
    have HT := Lib.hid ht
    have H2 := Lib.hid h2
    clear ht h2
    simp [eqGuard, qn]
    go_wp2
    go_ret
    have hR := HRR.out
    unfold PS.clean at hR
    rw [HT.out] at hR
    injection hR with e1 e2
    subst e1 e2
    exact ⟨rfl, ⟨q, ml, H2.out⟩, HBA.out⟩
end
end Go.Proofs.Ytlmdijijlbmddaa.pool

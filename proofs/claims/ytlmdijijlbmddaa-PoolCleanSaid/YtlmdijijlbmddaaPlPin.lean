/-
  The pool of layer 10: Pin.
-/
import Derived.Test.YtlmdijijlbmddaaPlLoad
namespace Go.Proofs.Ytlmdijijlbmddaa.pool
open Go.RowKit

/-- The types of the blocks that a call of the pool may turn. -/
abbrev TT : List TypeId := [54, 82, 79, 2, 38, 40, 43]
theorem storeL_length (L : List TV) (t : TV) : (storeL L t).length = L.length := by
  unfold storeL
  split
  · rw [List.length_set]
  · rfl
theorem wr_len (s : PS) (v : FV) : (s.wr v).L.length = s.L.length ∧ (s.wr v).log.length ≤ s.log.length + 2 ∧ (s.wr v).size = s.size := by
  unfold PS.wr
  split
  · exact ⟨storeL_length _ _, by simp, rfl⟩
  · exact ⟨rfl, by omega, rfl⟩
theorem free_len {s s1 : PS} (h : s.free = some s1) : s1.L.length = s.L.length ∧ s1.log.length ≤ s.log.length + 2 ∧ s1.size = s.size := by
  unfold PS.free at h
  split at h
  · injection h with h
    subst h
    exact ⟨rfl, by omega, rfl⟩
  · split at h
    · injection h with h
      subst h
      exact wr_len s _
    · cases h
theorem free_room {s s1 : PS} (h : s.free = some s1) (hr : s.fr.length ≤ s.size) : s1.fr.length < s1.size := by
  unfold PS.free at h
  split at h
  · rename_i hlt
    injection h with h
    subst h
    exact hlt
  · split at h
    · rename_i a x b ht
      injection h with h
      obtain ⟨e, _, _⟩ := takeF_some ht
      have h2 := (wr_len s x).2.2
      subst h
      show (a ++ b).length < (s.wr x).size
      rw [h2]
      rw [e] at hr
      simp only [List.length_append, List.length_cons] at hr ⊢
      omega
    · cases h
theorem MemAt.gl {N m : Nat} {w : World} {ml : ML} {L : List TV} {log : List LV} (h : MemAt N w m ml L log) : ∀ y ∈ ml.l, y.1 < w.heap.size := fun y hy => by
  obtain ⟨i, hi, rfl⟩ := List.mem_iff_getElem.1 hy
  have hl : i < L.length := by rw [← h.len]; exact hi
  exact (h.el i _ _ _ (List.getElem?_eq_getElem hl) (List.getElem?_eq_getElem hi)).1.typ.lt
theorem PS.tile_some {L : List TV} {f n : Int} {j : Nat} (h : idxT f n L = some j) : PS.tile L f n = some (L.getD j ⟨0, 0, 0, []⟩) := by
  unfold PS.tile
  rw [h]
  rfl

section
variable {N p m : Nat} {w : World} {s : PS}
set_option maxRecDepth 100000 in
set_option maxHeartbeats 4000000 in
theorem pin_any (f n : Int) (h : PB N w p m s) (ok : Ok s) (hN : N ≤ w.heap.size) :
    Calls Try.prog 14 #[pv p, kvv f n] w fun e w' => e = .returned (.int .i64 (s.pin f n).1) ∧ PB N w' p m (s.pin f n).2 ∧ KT N TT w w' := by
  obtain ⟨q, ml, h⟩ := h
  obtain ⟨R, hR⟩ : ∃ R, s.pin f n = R := ⟨_, rfl⟩
  rw [hR]
  obtain ⟨E, s'⟩ := R
  have HRR := Lib.hid hR
  obtain ⟨w1, hw1⟩ : ∃ w1, w.alloc (.cells #[.int .i64 f, .int .i64 n] 29) = w1 := ⟨_, rfl⟩
  have hb1 : Below w.heap.size w w1 := by rw [← hw1]; exact (Below.refl _ _).alloc (Nat.le_refl _) _
  have hx1 : Blk w1 w.heap.size 29 #[.int .i64 f, .int .i64 n] := by rw [← hw1]; exact Blk.new w _ _
  have h1 := h.below hb1
  have HU := Lib.hid (usable_any h1.pool)
  have HFI := Lib.hid (find_any f n h1.pool)
  have k0 := hx1.cell 0
  have k1 := hx1.cell 1
  have H1 := Lib.hid h1
  have HX1 := Lib.hid hx1
  have HB1 := Lib.hid hb1
  have OK := Lib.hid ok
  clear h h1 hx1 hb1 ok hR
  simp only
  go_enter Try.func14, Try.ntmps14
  go_wp2_with (first
    | (go_at_call 47; refine HU.out.mono ?_; rintro e _ ⟨rfl, rfl⟩)
    | (go_at_call 48; refine HFI.out.mono ?_; rintro e w2 ⟨⟨x, rfl, hx⟩, hb2⟩; have HX := Lib.hid hx; have HB2 := Lib.hid hb2; have HX2 := Lib.hid (HX1.out.below hb2 HX1.out.lt); clear hx hb2))
  have hft := found_take HX.out
  rw [← H1.out.fr] at hft
  rcases hft with ⟨pre, ⟨fl, v⟩, post, hq, hy, rfl, ht⟩ | ⟨rfl, ht⟩
  · have h2 := H1.out.below HB2.out
    rw [hq] at h2
    have hpn : v.pins ≤ 1000000 := OK.out.pins v (by rw [H1.out.fr, hq]; simp)
    have hfr := (h2.pool.fr (fl, v) (by simp)).1
    have c4 : w2.cell? ⟨fl.b, 4, none⟩ = some (.int .i64 (v.pins : Int)) := hfr.blk.cell 4
    have f4 := hfr.blk.frozen 4
    have hNb : N ≤ fl.b := (h2.pool.fr (fl, v) (by simp)).2.1
    have hS : Keep (fun i => i = fl.b) w2 (w2.setCell ⟨fl.b, 4, none⟩ (.int .i64 ((v.pins : Int) + 1))) := (Keep.refl _ _).setCell _ _ (fun _ => rfl)
    have hbk := hfr.blk.set_ 4 (.int .i64 ((v.pins : Int) + 1))
    have hp3 := h2.pool.turn (v' := { v with pins := v.pins + 1 }) hS hfr.blk.typ (.inl ⟨rfl, rfl⟩) ⟨by
      show Blk _ fl.b 82 (frC fl { v with pins := v.pins + 1 })
      unfold frC
      rw [show ((({ v with pins := v.pins + 1 } : FV).pins : Nat) : Int) = (v.pins : Int) + 1 by show ((v.pins + 1 : Nat) : Int) = _; omega]
      exact hbk, hfr.el.box hfr.blk.typ (by decide) hS⟩
    have hkf : KT N [82] w2 (w2.setCell ⟨fl.b, 4, none⟩ (.int .i64 ((v.pins : Int) + 1))) := ⟨hS.more (fun i _ e => ⟨e ▸ hNb, 82, by decide, e ▸ hfr.blk.typ⟩)⟩
    have hm3 := h2.mem.keep hkf (by decide)
    have hN2 : N ≤ w2.heap.size := Nat.le_trans hN (by have := HB1.out.size; have := HB2.out.size; omega)
    have HUS := Lib.hid (use_in hp3 (by simpa [World.setCell] using hN2))
    have HAP : Hid (∀ x ∈ pre ++ post ++ [(fl, { v with pins := v.pins + 1 })], ∀ y ∈ ml.l, x.1.g ≠ y.1) := Lib.hid (fun x hx y hy => by
      have hx' : x ∈ pre ∨ x ∈ post ∨ x = (fl, { v with pins := v.pins + 1 }) := by simpa [or_assoc] using hx
      rcases hx' with hx | hx | rfl
      · exact h2.ap x (by simp [hx]) y hy
      · exact h2.ap x (by simp [hx]) y hy
      · exact h2.ap (fl, v) (by simp) y hy)
    have HM3 := Lib.hid hm3
    have HKF := Lib.hid hkf
    have HT := Lib.hid ht
    have hpv : (v.pins : Int) ≤ 1000000 := by omega
    obtain ⟨pn, hpne⟩ : ∃ pn, v.pins = pn := ⟨_, rfl⟩
    rw [hpne] at c4 hpv HUS HM3 HKF
    have HPNE := Lib.hid hpne
    clear ht h2 hq hy hfr hS hbk hp3 hkf hm3 hpn
    simp only [pv]
    go_wp2_with (go_at_call 51; refine HUS.out.mono ?_; rintro e w4 ⟨rfl, h4, k4⟩; have H4 := Lib.hid h4; have K4 := Lib.hid k4; clear h4 k4)
    go_ret
    have hR := HRR.out
    unfold PS.pin at hR
    rw [HT.out] at hR
    injection hR with e1 e2
    subst e1 e2
    have hPNE := HPNE.out
    subst hPNE
    refine ⟨rfl, ⟨pre ++ post ++ [(fl, { v with pins := v.pins + 1 })], ml, H4.out, HM3.out.keep K4.out (by decide), HAP.out, by simp⟩, ?_⟩
    have hNw1 : N ≤ w1.heap.size := by have := HB1.out.size; omega
    exact (KT.of_below (HB1.out.trans (HB2.out.mono HB1.out.size))).trans ((HKF.out.more (T' := TT) (by decide)).trans (K4.out.more (T' := TT) (by decide)))
  · have qn := fun w => run_eql_nilnil (P := Try.prog) w (tp := 79) (te := 82) Try.underlying79
    have h2 := H1.out.below HB2.out
    have hN2 : N ≤ w2.heap.size := Nat.le_trans hN (by have := HB1.out.size; have := HB2.out.size; omega)
    have hNw1 : N ≤ w1.heap.size := by have := HB1.out.size; omega
    have HBA : Hid (KT N TT w w2) := Lib.hid (KT.of_below (HB1.out.trans (HB2.out.mono HB1.out.size)))
    have HT := Lib.hid ht
    cases hfre : s.free with
    | none =>
      have HFRE : Hid (Calls Try.prog 49 #[pv p] w2 fun e w' => e = .returned (.int .i64 101) ∧ PB N w' p m s ∧ KT N TT w2 w') := Lib.hid ((free_any h2 OK.out hN2).mono (fun e w' hh => by
        obtain ⟨⟨E3, rfl, h3⟩, k3⟩ := hh
        unfold freeP at h3
        rw [hfre] at h3
        obtain ⟨rfl, h3⟩ := h3
        exact ⟨rfl, h3, k3.more (T' := TT) (by decide)⟩))
      have HFE := Lib.hid hfre
      clear ht h2 hfre
      simp [eqGuard, qn]
      go_wp2_with (go_at_call 49; refine HFRE.out.mono ?_; rintro e w3 ⟨rfl, h3, b3⟩; have H3 := Lib.hid h3; have B3 := Lib.hid b3; clear h3 b3)
      go_ret
      have hR := HRR.out
      unfold PS.pin at hR
      rw [HT.out] at hR
      simp only [HFE.out] at hR
      injection hR with e1 e2
      subst e1 e2
      exact ⟨rfl, H3.out, HBA.out.trans B3.out⟩
    | some s1 =>
      obtain ⟨l1, l2, l3⟩ := free_len hfre
      have hlog := OK.out.log
      have hLL := OK.out.L
      have HFRE : Hid (Calls Try.prog 49 #[pv p] w2 fun e w' => e = .returned (.int .i64 0) ∧ (∃ q ml, PL N w' p m false q ml s1) ∧ KT N [54, 79, 82, 38, 40, 43] w2 w') := Lib.hid ((free_any h2 OK.out hN2).mono (fun e w' hh => by
        obtain ⟨⟨E3, rfl, h3⟩, k3⟩ := hh
        unfold freeP at h3
        rw [hfre] at h3
        obtain ⟨rfl, h3⟩ := h3
        exact ⟨rfl, h3, k3⟩))
      have HFE := Lib.hid hfre
      clear ht h2 hfre
      have HL1 := Lib.hid (And.intro l1 (And.intro l2 (And.intro hlog hLL)))
      clear l1 l2 l3 hlog hLL
      cases hidx : idxT f n s1.L with
      | none =>
        have hti : PS.tile s1.L f n = none := by unfold PS.tile; rw [hidx]; rfl
        have HLO : Hid (∀ q ml w3, PL N w3 p m false q ml s1 → N ≤ w3.heap.size → Calls Try.prog 50 #[pv p, kvv f n] w3 fun e w' => (∃ a b d, e = .returned (.tuple #[.agg #[.int .i64 a, .int .i64 b, .int .i64 d, .slice none 0 0], .int .i64 50])) ∧ PB N w' p m { s1 with log := s1.log ++ [⟨1, n, f⟩] } ∧ KT N [54, 38, 40] w3 w') := Lib.hid (fun q ml w3 h3 hN3 => (load_any f n h3 (by have := HL1.out; omega) (by have := HL1.out; omega) hN3).mono (fun e w' hh => by
          obtain ⟨⟨v, rfl, hv⟩, h4, k4⟩ := hh
          rw [hti] at hv
          obtain ⟨x, rfl, a, b, d, rfl⟩ := hv
          exact ⟨⟨a, b, d, rfl⟩, ⟨q, ml, h4⟩, k4⟩))
        have HIX := Lib.hid hidx
        clear hidx hti
        simp [eqGuard, qn]
        go_wp2_with (first
          | (go_at_call 49; refine HFRE.out.mono ?_; rintro e w3 ⟨rfl, ⟨q3, ml3, h3⟩, k3⟩; have H3 := Lib.hid h3; have K3 := Lib.hid k3; have hx3 := k3.blk HX2.out (by decide); have y0 := hx3.cell 0; have y1 := hx3.cell 1; have hN3 : N ≤ w3.heap.size := Nat.le_trans hN2 k3.keep.size; clear h3 k3 hx3)
          | (go_at_call 50; refine (HLO.out q3 ml3 w3 H3.out hN3).mono ?_; rintro e w4 ⟨⟨a, b, d, rfl⟩, h4, k4⟩; have H4 := Lib.hid h4; have K4 := Lib.hid k4; clear h4 k4))
        go_ret
        have hR := HRR.out
        unfold PS.pin at hR
        rw [HT.out] at hR
        simp only [HFE.out, HIX.out] at hR
        injection hR with e1 e2
        subst e1 e2
        have hbx : Below w4.heap.size w4 (w4.alloc (.cells #[.int .i64 a, .int .i64 b, .int .i64 d, .slice none 0 0] 43)) := (Below.refl _ _).alloc (Nat.le_refl _) _
        exact ⟨rfl, H4.out.below hbx, (HBA.out.trans (K3.out.more (T' := TT) (by decide))).trans ((K4.out.more (T' := TT) (by decide)).trans (KT.of_below hbx))⟩
      | some j =>
        have hti := PS.tile_some hidx
        obtain ⟨⟨tf, tn, tk, el⟩, htj⟩ : ∃ t, s1.L.getD j ⟨0, 0, 0, []⟩ = t := ⟨_, rfl⟩
        rw [htj] at hti
        have HLO : Hid (∀ q ml w3, PL N w3 p m false q ml s1 → N ≤ w3.heap.size → Calls Try.prog 50 #[pv p, kvv f n] w3 fun e w' => (∃ g c, e = .returned (.tuple #[.agg #[.int .i64 tf, .int .i64 tn, .int .i64 tk, .slice (some ⟨g, 0, none⟩) 4 c], .int .i64 0]) ∧ El w' g c el ∧ w3.heap.size ≤ g) ∧ PL N w' p m false q ml { s1 with log := s1.log ++ [⟨1, n, f⟩] } ∧ KT N [54, 38, 40] w3 w') := Lib.hid (fun q ml w3 h3 hN3 => (load_any f n h3 (by have := HL1.out; omega) (by have := HL1.out; omega) hN3).mono (fun e w' hh => by
          obtain ⟨⟨v, rfl, hv⟩, h4, k4⟩ := hh
          rw [hti] at hv
          obtain ⟨g, c, rfl, he, hg⟩ := hv
          exact ⟨⟨g, c, rfl, he, hg⟩, h4, k4⟩))
        have HIX := Lib.hid hidx
        have HTJ := Lib.hid htj
        clear hidx hti htj
        simp [eqGuard, qn]
        go_wp2_with (first
          | (go_at_call 49; refine HFRE.out.mono ?_; rintro e w3 ⟨rfl, ⟨q3, ml3, h3⟩, k3⟩; have H3 := Lib.hid h3; have K3 := Lib.hid k3; have hx3 := k3.blk HX2.out (by decide); have y0 := hx3.cell 0; have y1 := hx3.cell 1; have hN3 : N ≤ w3.heap.size := Nat.le_trans hN2 k3.keep.size; clear h3 k3 hx3)
          | (go_at_call 50; refine (HLO.out q3 ml3 w3 H3.out hN3).mono ?_; rintro e w4 ⟨⟨g, c, rfl, he4, hg4⟩, h4, k4⟩; have H4 := Lib.hid h4; have K4 := Lib.hid k4; have HE4 := Lib.hid he4; have HG4 := Lib.hid hg4; clear h4 k4 he4 hg4))
        obtain ⟨wx, hwx⟩ : ∃ wx, (w4.alloc (.cells #[.int .i64 tf, .int .i64 tn, .int .i64 tk, .slice (some ⟨g, 0, none⟩) 4 c] 43)).alloc (.cells #[.int .i64 tf, .int .i64 tn, .int .i64 tk, .slice (some ⟨g, 0, none⟩) 4 c, .int .i64 1, .bool false, .int .i64 0] 82) = wx := ⟨_, rfl⟩
        have hbx : Below w4.heap.size w4 wx := by rw [← hwx]; exact ((Below.refl _ _).alloc (Nat.le_refl _) _).alloc (by simp) _
        have hfx : Blk wx (w4.heap.size + 1) 82 (frC ⟨w4.heap.size + 1, g, c⟩ ⟨⟨tf, tn, tk, el⟩, 1, false, 0⟩) := by
          rw [← hwx]
          have := Blk.new (w4.alloc (.cells #[.int .i64 tf, .int .i64 tn, .int .i64 tk, .slice (some ⟨g, 0, none⟩) 4 c] 43)) 82 (frC ⟨w4.heap.size + 1, g, c⟩ ⟨⟨tf, tn, tk, el⟩, 1, false, 0⟩)
          rwa [World.size_alloc] at this
        have hpx := H4.out.pool.below hbx
        have hmx := H4.out.mem.below hbx
        have hs34 := K4.out.keep.size
        have hgw := HG4.out
        have hq64 : q3.length < 64 := by
          have h1 := free_room HFE.out OK.out.room
          have h2 := H3.out.fr
          have h3 := H3.out.pool.few.2
          have h4 : s1.fr.length = q3.length := by rw [h2, List.length_map]
          omega
        have HUS := Lib.hid (use_out (f := ⟨w4.heap.size + 1, g, c⟩) (v := ⟨⟨tf, tn, tk, el⟩, 1, false, 0⟩) hpx ⟨hfx, HE4.out.keep (Keep.of_below (S := fun _ => False) hbx) (fun h => h)⟩ ⟨by show N ≤ w4.heap.size + 1; omega, by show N ≤ g; omega⟩
          (fun hmem => by
            unfold bsQ at hmem
            obtain ⟨y, hy, hye⟩ := List.mem_map.1 hmem
            have := (H4.out.pool.fr y hy).1.blk.lt
            simp only at hye
            omega)
          (fun hmem => by
            obtain ⟨y, hy, hye⟩ := List.mem_map.1 hmem
            have := H3.out.ng y hy
            simp only at hye
            omega) hq64 (by have := hbx.size; omega))
        have HAP : Hid (∀ x ∈ q3 ++ [((⟨w4.heap.size + 1, g, c⟩, ⟨⟨tf, tn, tk, el⟩, 1, false, 0⟩) : FL × FV)], ∀ y ∈ ml3.l, x.1.g ≠ y.1) := Lib.hid (fun x hx y hy => by
          rcases List.mem_append.1 hx with hx | hx
          · exact H3.out.ap x hx y hy
          · rw [List.mem_singleton.1 hx]
            have := H3.out.mem.gl y hy
            show g ≠ y.1
            omega)
        have HMX := Lib.hid hmx
        have HBX := Lib.hid hbx
        rw [hwx]
        clear hwx hbx hfx hpx hmx hs34 hgw hq64
        simp only [pv] at HUS
        refine HUS.out.mono ?_
        rintro e w6 ⟨rfl, h6, k6⟩
        have H6 := Lib.hid h6
        have K6 := Lib.hid k6
        clear h6 k6
        go_wp2
        go_ret
        have hR := HRR.out
        unfold PS.pin at hR
        rw [HT.out] at hR
        simp only [HFE.out, HIX.out, HTJ.out] at hR
        injection hR with e1 e2
        subst e1 e2
        have hN4 : N ≤ w4.heap.size := Nat.le_trans hN3 K4.out.keep.size
        have hNx : N ≤ wx.heap.size := Nat.le_trans hN4 HBX.out.size
        exact ⟨rfl, ⟨_, ml3, H6.out, HMX.out.keep K6.out (by decide), HAP.out, by rw [List.map_append, ← H3.out.fr]; rfl⟩, ((HBA.out.trans (K3.out.more (T' := TT) (by decide))).trans (K4.out.more (T' := TT) (by decide))).trans ((KT.of_below HBX.out).trans (K6.out.more (T' := TT) (by decide)))⟩
end
end Go.Proofs.Ytlmdijijlbmddaa.pool

/-
  The walk of the statement RootPlays: whatever is saved, loaded, spoilt, written over, crashed and armed, what is answered is the document's.
-/
import Derived.Test.YtkebbjodkhjbmaaGreatRtPlay
namespace Go.Proofs.YtkebbjodkhjbmaaGreat.root
open Go.RowKit Go.Proofs.YtkebbjodkhjbmaaGreat.crc

set_option maxRecDepth 100000 in
set_option maxHeartbeats 4000000 in
theorem rplays_big (sec : Nat) (A : Option Addr) (n c : Nat) (l : List ROp) (W : World) (H : ROps W W.heap.size A n l) (hn : n ≤ 9223372036854775807) (hg : rgreat l = true) :
    Calls Tryz.prog 3 #[.int .u8 (sec : Int), .slice A n c] W fun e w' => e = .returned (.bool true) ∧ Below W.heap.size W w' := by
  have HG := Lib.hid (rgreat_any A c n l W H hn)
  rw [hg] at HG
  clear H hg
  go_enter Tryz.func3, Tryz.ntmps3
  go_wp2_with (go_at_call 10; (with_reducible refine HG.out.mono ?_); rintro e w1 ⟨rfl, rfl⟩)
  go_ret
  exact ⟨rfl, Below.refl _ _⟩

theorem rgreat_no {l : List ROp} (h : rgreat l = false) : l.length ≤ 80 ∧ ∀ o ∈ l, o.b.length ≤ 200 ∧ o.c.keep.length ≤ 20 := by
  unfold rgreat at h
  rw [Bool.or_eq_false_iff, decide_eq_false_iff_not, List.any_eq_false] at h
  refine ⟨by omega, fun o ho => ?_⟩
  have := h.2 o ho
  unfold ROp.great at this
  rw [Bool.not_eq_true, Bool.or_eq_false_iff, decide_eq_false_iff_not, decide_eq_false_iff_not] at this
  omega

set_option maxRecDepth 100000 in
set_option maxHeartbeats 8000000 in
theorem rplays_fine (sec : Nat) (hsec : sec < 256) (A : Option Addr) (n c : Nat) (l : List ROp) (W : World) (H : ROps W W.heap.size A n l) (hn : n ≤ 9223372036854775807) (hg : rgreat l = false) :
    Calls Tryz.prog 3 #[.int .u8 (sec : Int), .slice A n c] W fun e w' => e = .returned (.bool true) ∧ Below W.heap.size W w' := by
  have HG := Lib.hid (rgreat_any A c n l W H hn)
  rw [hg] at HG
  have HS := Lib.hid (rgreat_no hg)
  have HH := Lib.hid H
  obtain ⟨N, hN⟩ : ∃ N, W.heap.size = N := ⟨_, rfl⟩
  obtain ⟨k, hk⟩ : ∃ k, 1 + sec % 4 = k := ⟨_, rfl⟩
  have k1 : 1 ≤ k := by omega
  have k2 : k ≤ 4 := by omega
  have hw : IntKind.i64.wrap (sec : Int) = (sec : Int) := IntWalk.i64_in _ (by omega)
  have hr : 1 + (sec : Int) % 4 = (k : Int) := by omega
  have HP := Lib.hid (dnew_any k W k1 (by omega))
  have HR := Lib.hid (fun w => @rnew_any Z0 (fun _ h => h) k w k1 (by omega))
  have HN := Lib.hid hN
  have h80 : n ≤ 80 := by rw [← H.1]; exact (rgreat_no hg).1
  clear H hg hN hk
  go_enter Tryz.func3, Tryz.ntmps3
  go_wp2_with (first
    | (go_at_call 10; (with_reducible refine HG.out.mono ?_); rintro e w1 ⟨rfl, rfl⟩)
    | (go_at_call 11; (with_reducible refine HP.out.mono ?_); rintro e w1 ⟨d, rfl, hd, hf, hb⟩; have D1 := Lib.hid hd; have F1 := Lib.hid hf; have B1 := Lib.hid hb; clear hd hf hb)
    | (go_at_call 12; (have l0 := B1.out; clear l0); (with_reducible refine (HR.out w1).mono ?_); rintro e w2 ⟨b, gS, gC, cS, cC, vs, ws, rfl, hd, hb, hf⟩; have D2 := Lib.hid hd; have F2 := Lib.hid hf; have B2 := Lib.hid hb; clear hd hf hb))
  have T2 : Hid (WB N W w2 d ⟨b, gS, gC, cS, cC⟩ (newSt k) (newSt k) Z0) := Lib.hid (by
    have b1 := B1.out
    have b2 := B2.out
    have s1 := b1.size
    have s2 := b2.size
    have hN := HN.out
    rw [hN] at b1 s1
    refine ⟨b1.trans (b2.mono s1), by omega, fun k hk => by have := F1.out k hk; omega, fun k hk => by have := F2.out k hk; omega, fun k hk hr => by have := D1.out.lt k hk; have := F2.out k hr; omega, ⟨_, D1.out.below b2, far0 _⟩, ⟨_, _, _, D2.out⟩, fun _ h => h.elim⟩)
  have L2 : Hid ((newSt k).many ≤ ((0 : Nat) : Int)) := Lib.hid (by show (0 : Int) ≤ 0; omega)
  obtain ⟨s0, hs0⟩ : ∃ s0, newSt k = s0 := ⟨_, rfl⟩
  rw [hs0] at T2 L2
  clear hs0 D1 F1 B1 D2 F2 B2 HP HR HG hr hw
  go_loopw [37] (fun i wr => ∃ (j : Nat) (s : RSt), j ≤ n ∧ i = .int .i64 ((j : Nat) : Int) ∧ WB N W wr d ⟨b, gS, gC, cS, cC⟩ s s Z0 ∧ s.many ≤ ((j : Nat) : Int)) (fun i _ => n - (intOf i).toNat)
  case atStart => exact ⟨0, s0, Nat.zero_le _, rfl, T2.out, L2.out⟩
  case round =>
    obtain ⟨j, s, hj, rfl, hT, hL⟩ := hrel
    clear T2 L2
    by_cases hlt : j < n
    · obtain ⟨ad, BA, Bc, KA, Kc, rfl, hadb, dc⟩ := (HH.out.below (by rw [HN.out]; exact hT.below)).at_ hlt
      have hmem : l[j]'(by have := HH.out.1; omega) ∈ l := List.getElem_mem _
      have hfine := HH.out.2.1 _ hmem
      obtain ⟨h500, h100⟩ := HS.out.2 _ hmem
      generalize l[j]'(by have := HH.out.1; omega) = o at dc hfine h500 h100
      obtain ⟨kd, ⟨rn, rl, rs⟩, a, ob, oc⟩ := o
      have HD := Lib.hid (do6_any hT kd rn rl rs a ob oc hfine.r hfine.a hfine.c BA Bc KA Kc ob.length oc.keep.length rfl rfl h100 (by rw [← HN.out]; exact dc.bs) (by rw [← HN.out]; exact dc.ks) (by omega))
      have HL := Lib.hid (do6_many s kd ⟨rn, rl, rs⟩ a ob oc)
      have HM := Lib.hid hL
      have x0 := dc.kind
      have x1 := dc.rn
      have x2 := dc.rl
      have x3 := dc.rs
      have x4 := dc.at_
      have x5 := dc.b
      have x6 := dc.write
      have x7 := dc.keep
      have x8 := dc.torn
      have x9 := dc.cat
      simp only at x0 x1 x2 x3 x4 x5 x6 x7 x8 x9
      clear dc hfine hT hL hmem h500 h100
      go_wp2_with (go_at_call 13; (with_reducible refine HD.out.mono ?_); rintro e w4 ⟨rfl, h4⟩; have T4 := Lib.hid h4; clear h4)
      exact ⟨⟨j + 1, _, by omega, by go_num, T4.out, by have := HL.out; have := HM.out; omega⟩, by simp [intOf]; omega⟩
    · have T3 := Lib.hid hT
      have hnj : j = n := by omega
      clear hT hL hj hlt
      subst hnj
      obtain ⟨t, ht⟩ : ∃ t, bootSt s = t := ⟨_, rfl⟩
      have HB : Hid (∀ w, WB N W w d ⟨b, gS, gC, cS, cC⟩ s s Z0 → Calls Tryz.prog 14 #[.pointer (some ⟨d.b, 0, none⟩)] w fun e w' => e = .returned (.int .i64 0) ∧ WB N W w' d ⟨b, gS, gC, cS, cC⟩ t s Z0 ∧ Keep d.foot w w') := Lib.hid (fun w h => h.boot ht)
      have HT := Lib.hid ht
      clear ht
      go_upto_region 15 with (go_at_call 14; (with_reducible refine (HB.out _ T3.out).mono ?_); rintro e w4 ⟨rfl, h4, -⟩; have T4 := Lib.hid h4; clear h4)
      obtain ⟨kv4, hb4⟩ : ∃ kv, Blk w4 b 45 #[.slice (some ⟨gS, 0, none⟩) s.stays.length cS, .slice (some ⟨gC, 0, none⟩) s.stays.length cC, .int .i64 s.write, kv, .int .i64 s.torn, .int .i64 s.at_, .int .i64 s.many, .bool s.down] := by
        obtain ⟨kv, vs, ws, hd⟩ := T4.out.rl
        exact ⟨kv, @RD.blk Z0 _ _ _ _ _ _ _ _ _ _ hd⟩
      have c7 := hb4.cell 7
      have f7 := hb4.frozen 7
      obtain ⟨w5, hw5⟩ : ∃ w5, w4.setCell ⟨b, 7, none⟩ (.bool false) = w5 := ⟨_, rfl⟩
      have T5 : Hid (WB N W w5 d ⟨b, gS, gC, cS, cC⟩ t t Z0) := Lib.hid (by
        have h := T4.out.rboot.1
        rw [HT.out] at h
        rw [← hw5]
        exact h)
      have HW5 := Lib.hid hw5
      clear hb4 hw5
      go_upto_region 16 with (fail)
      rw [HW5.out]
      clear HW5 c7 f7
      have HLD : Hid (Calls Tryz.prog 15 #[.pointer (some ⟨d.b, 0, none⟩), .pointer (some ⟨b, 0, none⟩)] w5 fun e w' => e = .returned (.bool true) ∧ WB N W w' d ⟨b, gS, gC, cS, cC⟩ t t Z0 ∧ Below w5.heap.size w5 w') := Lib.hid (loads_any T5.out)
      go_wp2_with (go_at_call 15; (with_reducible refine HLD.out.mono ?_); rintro e w6 ⟨rfl, h6, -⟩; have T6 := Lib.hid h6; clear h6)
      go_ret
      exact ⟨rfl, by rw [HN.out]; exact T6.out.below⟩

theorem rplays_call (sec : Nat) (hsec : sec < 256) (A : Option Addr) (n c : Nat) (l : List ROp) (W : World) (H : ROps W W.heap.size A n l) (hn : n ≤ 9223372036854775807) :
    Calls Tryz.prog 3 #[.int .u8 (sec : Int), .slice A n c] W fun e w' => e = .returned (.bool true) ∧ Below W.heap.size W w' := by
  cases hg : rgreat l
  · exact rplays_fine sec hsec A n c l W H hn hg
  · exact rplays_big sec A n c l W H hn hg
end Go.Proofs.YtkebbjodkhjbmaaGreat.root

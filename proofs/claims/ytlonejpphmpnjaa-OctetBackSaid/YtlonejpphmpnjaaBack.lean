/-
  OctetBack's walk: what was written is read, in that order, as it was, and nothing is left; cut by a byte, the last thing is not read.
-/
import Derived.Test.YtlonejpphmpnjaaBackL
import Derived.Deep.DeepCutAuto
import Derived.Deep.CutBlock
import Derived.Deep.RegionWith
namespace Go.Proofs.Ytlonejpphmpnjaa.octetBack
open Go.ChangeShapes Go.WideShapes Go.ChangeAt Go.RowKit

set_option maxRecDepth 100000 in
set_option maxHeartbeats 16000000 in
theorem walk (A : Option Addr) (n c : Nat) (l : List Cal) (w : World) (h : Cals w w.heap.size A n l) (hm : n ≤ 9223372036854775807) :
    Calls Try.prog 6 #[.slice A n c] w fun e w' => e = .returned (.bool true) ∧ Below w.heap.size w w' := by
  have HA := Lib.hid (alive_any w)
  have HG := Lib.hid (fun w1 (k1 : Below w.heap.size w w1) => great_any w.heap.size A n c l w1 (h.below k1) hm)
  have H := Lib.hid h
  have hl := h.1
  clear h
  cases hgr : great l
  · rw [hgr] at HG
    have hgl : ¬ 100 < l.length ∧ ¬ 100000 < size l := by
      unfold great at hgr
      simpa using hgr
    obtain ⟨hg1, hg2⟩ := hgl
    clear hgr
    obtain ⟨i0, hi, hz0, hz1, hz2⟩ := info_parts infoOp
    go_enter Try.func6, Try.ntmps6
    go_wp2_with (first
      | (go_at_call 29; refine HA.out.mono ?_; rintro e w1 ⟨rfl, k1⟩; have K1 := Lib.hid k1; clear k1)
      | (go_at_call 9; refine (HG.out w1 K1.out).mono ?_; rintro e _ ⟨rfl, rfl⟩))
    go_loopw [5, 23] (fun kv i wr => ∃ k K, k ≤ n ∧ i = .int .i64 k ∧ K.length ≤ k ∧ (K.flatMap outOf).length ≤ 10 * k + size (l.take k) ∧ (∀ o ∈ K, okOf o = true ∧ o.Fine) ∧ Sk w wr w1.heap.size K kv) (fun _ i _ => n - (intOf i).toNat)
    case atStart =>
      exact ⟨0, [], Nat.zero_le _, rfl, Nat.le_refl _, by simp, fun o h => (by cases h), none, 0, none, Wr.made w1, fun k h => by have := foot_new h; have := K1.out.size; omega, K1.out.alloc K1.out.size _, World.ownsRow_nil _ _ _ _, fun k e => by simp [Value.ownBlock] at e, none, 0, rfl⟩
    case round =>
      obtain ⟨k, K, hk, rfl, hKl, hKs, hKo, A0, c0, u0, s1, s2, s3, s4, s5, Ak, ck, rfl⟩ := hrel
      by_cases hlt : k < n
      · have hkl : k < l.length := by omega
        obtain ⟨ad, rfl, hb, x0, x1, x2, x3⟩ := (H.out.below s3).at_ hlt hkl
        have hF := H.out.2.1 l[k] (List.getElem_mem hkl)
        obtain ⟨o, ho⟩ : ∃ o, l[k] = o := ⟨_, rfl⟩
        rw [ho] at x0 x1 x2 x3 hF
        have HOK := Lib.hid ho
        clear ho
        have hsz := size_take_le l k
        have hsn : size (l.take k) + o.s.size ≤ size l := by
          have h1 := size_take_le l (k + 1)
          rw [List.take_succ_eq_append_getElem hkl, size_snoc, HOK.out] at h1
          exact h1
        have HW := Lib.hid (write_any wr w1.heap.size A0 c0 u0 _ s1 o hF (by omega))
        have S2 := Lib.hid s2
        have S3 := Lib.hid s3
        have S4 := Lib.hid s4
        have S5 := Lib.hid s5
        have HF := Lib.hid hF
        have HS := Lib.hid hKs
        have HKO := Lib.hid hKo
        clear s1 s2 s3 s4 s5 hF hKs hKo hsz hsn
        cases hok : okOf o
        · rw [hok] at HW
          have HNO := Lib.hid hok
          clear hok
          go_wp2_with (go_at_call 30; refine HW.out.mono ?_; rintro e w2 ⟨rfl, hq⟩; have HQ := Lib.hid hq; clear hq)
          obtain ⟨A', c', u', t1, t2, t3, t4, t5⟩ := Sk.wrote S2.out S3.out S4.out S5.out HQ.out
          rw [outOf_no o HNO.out, List.append_nil] at t1
          refine ⟨⟨k + 1, K, by omega, by go_num, by omega, ?_, HKO.out, A', c', u', t1, t2, t3, t4, t5, Ak, ck, rfl⟩, by simp [intOf]; omega⟩
          have := HS.out
          rw [List.take_succ_eq_append_getElem hkl, size_snoc]
          omega
        · rw [hok] at HW
          have HYES := Lib.hid hok
          clear hok
          have hn100 : K.length ≤ 100 := by omega
          go_wp2_with (first
            | (go_at_call 30; refine HW.out.mono ?_; rintro e w2 ⟨rfl, hq⟩; obtain ⟨A', c', u', t1, t2, t3, t4, t5⟩ := Sk.wrote S2.out S3.out S4.out S5.out hq; obtain ⟨ad2, e2, _, z0, z1, z2, z3⟩ := (H.out.below t3).at_ hlt hkl; rw [HOK.out] at z0 z1 z2 z3; injection e2 with e2; subst e2; have T1 := Lib.hid t1; have T2 := Lib.hid t2; have T3 := Lib.hid t3; have T4 := Lib.hid t4; have T5 := Lib.hid t5; clear hq t1 t2 t3 t4 t5)
            | (at_builtin; refine wpList_append_any _ rfl _ _ 22 rfl w.heap.size 30 i0 _ 4 40 Try.underlying22 hi hz0 hz1 hz2 rfl (by decide) _ K.length (K.flatMap opc) rfl (T4.out.alloc _) (w2.heap.size + 1) (some ⟨w2.heap.size, 0, none⟩) 1 1 ([o].flatMap opc) rfl (reads_op o) (opc_one [o]) (by unfold maxLen; omega) (by omega) (by simp; exact Nat.le_succ_of_le T3.out.size) ?_))
          intro v' w3 hown hgrow hat
          have hsk := Sk.kept T1.out T2.out T3.out T4.out T5.out rfl (Nat.le_succ _) hown hgrow hat
          have hfm : (K ++ [o]).flatMap outOf = K.flatMap outOf ++ outOf o := by rw [List.flatMap_append, List.flatMap_cons, List.flatMap_nil, List.append_nil]
          obtain ⟨A8, c8, u8, r1, r2, r3, r4, r5, Ak8, ck8, rfl⟩ := hsk
          have R1 := Lib.hid r1
          have R2 := Lib.hid r2
          have R3 := Lib.hid r3
          have R4 := Lib.hid r4
          have R5 := Lib.hid r5
          have HFM := Lib.hid hfm
          have hl1 : K.length + 1 = (K ++ [o]).length := by simp
          have HL1 := Lib.hid hl1
          rw [← hl1]
          clear hown hgrow hat r1 r2 r3 r4 r5 hfm hl1 z0 z1 z2 z3 x0 x1 x2 x3
          go_wp2
          refine ⟨⟨k + 1, K ++ [o], by omega, by go_num, by simp; omega, ?_, ?_, A8, c8, u8, R1.out, R2.out, R3.out, by rw [HL1.out]; exact R4.out, by rw [HL1.out]; exact R5.out, Ak8, ck8, by simp⟩, by simp [intOf]; omega⟩
          · have h1 := HS.out
            have h2 := outOf_len o
            rw [HFM.out, List.length_append, List.take_succ_eq_append_getElem hkl, size_snoc, HOK.out]
            omega
          · intro x hx
            rcases List.mem_append.1 hx with hx | hx
            · exact HKO.out x hx
            · rw [List.mem_singleton.1 hx]
              exact ⟨HYES.out, HF.out⟩
      · have hszl := size_take_le l k
        have hll : (K.flatMap outOf).length ≤ 101000 := by omega
        have HKO := Lib.hid hKo
        obtain ⟨lw, hlw⟩ : ∃ lw, K.flatMap outOf = lw := ⟨_, rfl⟩
        have HLW := Lib.hid hlw
        rw [hlw] at s1 hll
        have HWB := Lib.hid (wbytes_any wr _ _ _ _ _ s1 (by omega))
        have S3 := Lib.hid s3
        have HC := Lib.hid (cals_own s4 (fun o ho => (hKo o ho).2))
        have HK4 := Lib.hid (fun k e => (s4.lt k e).2)
        have hK100 : K.length ≤ 100 := by omega
        clear s1 s2 s3 s4 s5 hKs hKo hszl hlw
        go_wp2_with (go_at_call 18; refine HWB.out.mono ?_; rintro e w2 ⟨A2, c2, rfl, g2, k2⟩; have G2 := Lib.hid g2; have K2 := Lib.hid k2; have HRD := Lib.hid (rd_of A2 lw.length c2 lw w2 (Reads.of_own g2) (by omega)); clear g2 k2)
        go_wp2_with (go_at_call 19; refine HRD.out.mono ?_; rintro e w3 ⟨bR, A3, c3, rfl, r1, r2, r3, r4⟩; have R1 := Lib.hid r1; have R2 := Lib.hid r2; have R3 := Lib.hid r3; have R4 := Lib.hid r4; clear r1 r2 r3 r4)
        have hb3 : Below wr.heap.size wr w3 := K2.out.trans (R4.out.mono K2.out.size)
        have hc3 : Cals w3 wr.heap.size Ak K.length K := HC.out.below hb3
        have HC3 := Lib.hid hc3
        have HB3 := Lib.hid hb3
        have hbR : wr.heap.size ≤ bR := Nat.le_trans K2.out.size R2.out
        have HBR := Lib.hid hbR
        clear hb3 hc3 hbR
        obtain ⟨wo, hwo⟩ : ∃ wo : World, wo = wr := ⟨_, rfl⟩
        rw [← hwo] at HC3 HB3 HBR S3 K2 HC HK4
        clear hwo
        go_loopw [44] (fun i wr => ∃ k, k ≤ K.length ∧ i = .int .i64 k ∧ Took w3 wr bR A3 ((K.drop k).flatMap outOf)) (fun i _ => K.length - (intOf i).toNat)
        case atStart => exact ⟨0, Nat.zero_le _, rfl, by rw [List.drop_zero, HLW.out]; exact Took.same R1.out⟩
        case round =>
          obtain ⟨k2, hk2, rfl, A5, c5, p1, p2, p3⟩ := hrel
          have P2 := Lib.hid p2
          have P3 := Lib.hid p3
          by_cases hlt2 : k2 < K.length
          · have hcl : Cals wr wo.heap.size Ak K.length K := HC3.out.keepS p3 (HB3.out.size) (fun ad e h => by
              obtain ⟨ad', e', hb', _⟩ := HC3.out.2.2 (by omega)
              rw [e] at e'
              injection e' with e'
              subst e'
              have h' : ad.block = bR := h
              have := HBR.out
              omega)
            obtain ⟨ad, rfl, hb, x0, x1, x2, x3⟩ := hcl.at_ hlt2 hlt2
            obtain ⟨hok, hF⟩ := HKO.out K[k2] (List.getElem_mem hlt2)
            have hdrop : (K.drop k2).flatMap outOf = outOf K[k2] ++ (K.drop (k2 + 1)).flatMap outOf := by
              rw [List.drop_eq_getElem_cons hlt2, List.flatMap_cons]
            have hle : ((K.drop k2).flatMap outOf).length ≤ 140737488355328 := by
              have h1 : (K.flatMap outOf).length = ((K.take k2).flatMap outOf).length + ((K.drop k2).flatMap outOf).length := by
                rw [← List.length_append, ← List.flatMap_append, List.take_append_drop]
              rw [HLW.out] at h1
              omega
            have hra := read_any wr bR c5 A5 _ p1 hle K[k2] hF
            have HRA := Lib.hid hra
            have HOK := Lib.hid hok
            have HDR := Lib.hid hdrop
            clear hra hok hF hdrop hle p1 p2 p3 hcl
            obtain ⟨o, ho⟩ : ∃ o, K[k2] = o := ⟨_, rfl⟩
            rw [ho] at HRA HOK HDR x0 x1 x2 x3
            have HOO := Lib.hid ho
            clear ho
            go_wp2_with (go_at_call 31; refine HRA.out.mono ?_; rintro e w5 ⟨rk, T, rfl, hT, hM⟩; have hrk : rk = true := hM.1 HOK.out ⟨_, HDR.out.symm⟩; subst hrk; have hT2 := (hM.2 HOK.out rfl).1; have HT := Lib.hid hT; have HT2 := Lib.hid hT2; clear hT hM hT2)
            refine ⟨⟨k2 + 1, by omega, by go_num, ?_⟩, by simp [intOf]; omega⟩
            have h9 := Took.trans P2.out P3.out HT.out
            rw [HDR.out, HT2.out, List.drop_left] at h9
            exact h9
          · have hkk : k2 = K.length := by omega
            have hp1 : Rd wr bR A5 c5 [] := by
              rw [hkk, List.drop_length] at p1
              exact p1
            have HE := Lib.hid (end_any wr bR c5 A5 [] hp1)
            rw [show endErr [] = 0 from rfl] at HE
            have HBW : Hid (Below w.heap.size w wr) := Lib.hid ((S3.out.trans (HB3.out.mono S3.out.size)).trans (p3.below (Nat.le_trans S3.out.size HB3.out.size) (fun i hi h => by have h' : i = bR := h; have := HBR.out; have := S3.out.size; omega)))
            have hA2 : ∀ ad, A2 = some ad → ad.block < w2.heap.size := fun ad e => (G2.out.lt ad.block (by rw [e]; rfl)).2
            have hrs : Reads wr wr.heap.size 1 A2 lw.length (lw.map bv) := ((((Reads.of_own G2.out).below R4.out).more R4.out.size).keepS p3 (Nat.le_refl _) (fun ad e h => by have h' : ad.block = bR := h; have := hA2 ad e; have := R2.out; omega)).more p3.size
            have hcap2 : lw.length ≤ c2 ∧ c2 ≤ 9223372036854775807 := by
              rcases G2.out.2 with ⟨e, hz⟩ | ⟨g, cap, cur, e, _, _, hc, hcm, _⟩
              · injection e with _ _ e
                omega
              · injection e with _ _ e
                subst e
                exact ⟨hc, by unfold maxLen at hcm; omega⟩
            have hcw : Cals wr wo.heap.size Ak K.length K := HC3.out.keepS p3 (HB3.out.size) (fun ad e h => by
              rcases Nat.eq_zero_or_pos K.length with hz | hz
              · have h' : ad.block = bR := h
                have := HK4.out ad.block (by rw [e]; rfl)
                have := HBR.out
                omega
              · obtain ⟨ad', e', hb', _⟩ := HC3.out.2.2 hz
                rw [e] at e'
                injection e' with e'
                subst e'
                have h' : ad.block = bR := h
                have := HBR.out
                omega)
            have HRS := Lib.hid hrs
            have HCW := Lib.hid hcw
            have HBO : Hid (wo.heap.size ≤ wr.heap.size) := Lib.hid (Nat.le_trans HB3.out.size p3.size)
            obtain ⟨hcp1, hcp2⟩ := hcap2
            clear p1 p2 p3 hp1 hA2 hrs hcw
            by_cases h0 : lw.length = 0
            · have h00 : ((lw.length : Int) == 0) = true := by rw [h0]; rfl
              go_wp2_with (go_at_call 28; refine HE.out.mono ?_; rintro e _ ⟨rfl, rfl⟩)
              all_goals
                go_ret
                exact ⟨rfl, HBW.out⟩
            · have h00 : ((lw.length : Int) == 0) = false := by rw [beq_eq_false_iff_ne]; omega
              have h1 : 1 ≤ lw.length := by omega
              have h2 : (lw.length : Int) - 1 ≤ (c2 : Int) := by omega
              have hcut : (lw.take (lw.length - 1)).length = lw.length - 1 := by rw [List.length_take]; omega
              have HCUT := Lib.hid hcut
              have HRD2 := Lib.hid (rd_of A2 (lw.length - 1) c2 (lw.take (lw.length - 1)) wr (HRS.out.front (by omega)) (by omega))
              clear hcut h0
              go_wp2_with (first
                | (go_at_call 28; refine HE.out.mono ?_; rintro e _ ⟨rfl, rfl⟩)
                | (go_at_call 19; refine HRD2.out.mono ?_; rintro e w6 ⟨bS, A6, c6, rfl, r1, r2, r3, r4⟩; have Y1 := Lib.hid r1; have Y2 := Lib.hid r2; have Y4 := Lib.hid r4; clear r1 r2 r3 r4))
              go_loopw [11, 77] (fun wh i wi => ∃ k wv, k ≤ K.length ∧ i = .int .i64 k ∧ wh = .bool wv ∧ Keep (fun k => k = bS) w6 wi ∧ (wv = true → ((K.take k).flatMap outOf).length ≤ lw.length - 1 ∧ Took w6 wi bS A6 ((lw.take (lw.length - 1)).drop ((K.take k).flatMap outOf).length))) (fun _ i _ => K.length - (intOf i).toNat)
              case atStart => exact ⟨0, true, Nat.zero_le _, rfl, rfl, Keep.refl _ _, fun _ => ⟨by simp, by simpa using Took.same Y1.out⟩⟩
              case round =>
                obtain ⟨k3, wv, hk3, rfl, rfl, p3, pw⟩ := hrel
                have P3 := Lib.hid p3
                have PW := Lib.hid pw
                clear p3 pw
                by_cases hlt3 : k3 < K.length
                · cases wv
                  · go_wp2_with fail
                    refine ⟨⟨k3 + 1, false, by omega, by go_num, rfl, P3.out, fun h => by cases h⟩, by simp [intOf]; omega⟩
                  · obtain ⟨hle3, A9, c9, q1, q2, q3⟩ := PW.out rfl
                    have hcl : Cals wr wo.heap.size Ak K.length K := (HCW.out.below (Y4.out.mono HBO.out)).keepS P3.out (Nat.le_trans HBO.out Y4.out.size) (fun ad e h => by
                      obtain ⟨ad', e', hb', _⟩ := HCW.out.2.2 (by omega)
                      rw [e] at e'
                      injection e' with e'
                      subst e'
                      have h' : ad.block = bS := h
                      have := HBO.out
                      have := Y2.out
                      omega)
                    obtain ⟨ad, rfl, hb, x0, x1, x2, x3⟩ := hcl.at_ hlt3 hlt3
                    obtain ⟨hok, hF⟩ := HKO.out K[k3] (List.getElem_mem hlt3)
                    obtain ⟨lx, hlx⟩ : ∃ lx, (lw.take (lw.length - 1)).drop ((K.take k3).flatMap outOf).length = lx := ⟨_, rfl⟩
                    have hle : lx.length ≤ 140737488355328 := by rw [← hlx, List.length_drop, List.length_take]; omega
                    rw [hlx] at q1
                    have HLX := Lib.hid hlx
                    have HRA := Lib.hid (read_any wr bS c9 A9 _ q1 hle K[k3] hF)
                    have HOK := Lib.hid hok
                    have Q2 := Lib.hid q2
                    have Q3 := Lib.hid q3
                    have HL3 := Lib.hid hle3
                    clear hok hF hle hlx q1 q2 q3 hcl hle3 PW
                    obtain ⟨o, ho⟩ : ∃ o, K[k3] = o := ⟨_, rfl⟩
                    rw [ho] at HRA HOK x0 x1 x2 x3
                    have HOO := Lib.hid ho
                    clear ho
                    go_wp2_with (go_at_call 31; refine HRA.out.mono ?_; rintro e w8 ⟨rk, T, rfl, hT, hM⟩; have HT := Lib.hid hT; have HM := Lib.hid hM; clear hT hM)
                    have hT3 := Took.trans Q2.out Q3.out HT.out
                    have hP3 : Keep (fun k => k = bS) w6 w8 := by obtain ⟨_, _, _, _, h⟩ := hT3; exact h
                    refine ⟨⟨k3 + 1, rk, by omega, by go_num, rfl, hP3, fun hrk => ?_⟩, by simp [intOf]; omega⟩
                    obtain ⟨hT4, hT5⟩ := HM.out.2 HOK.out hrk
                    have hl0 := congrArg List.length HLX.out
                    rw [List.length_drop, List.length_take] at hl0
                    have hfl : ((K.take (k3 + 1)).flatMap outOf).length = ((K.take k3).flatMap outOf).length + T := by
                      rw [List.take_succ_eq_append_getElem hlt3, List.flatMap_append, List.length_append, HOO.out, hT4]
                      simp
                    rw [hfl, ← List.drop_drop, HLX.out]
                    exact ⟨by have := HL3.out; omega, hT3⟩
                · have hkk : k3 = K.length := by omega
                  cases wv
                  · go_wp2
                    all_goals
                      go_ret
                      exact ⟨rfl, (HBW.out.trans (Y4.out.mono HBW.out.size)).trans (P3.out.below (Nat.le_trans HBW.out.size Y4.out.size) (fun i hi h => by have h' : i = bS := h; have := HBW.out.size; have := Y2.out; omega))⟩
                  · exfalso
                    have h9 := (PW.out rfl).1
                    rw [hkk, List.take_length, HLW.out] at h9
                    omega
  · rw [hgr] at HG
    go_enter Try.func6, Try.ntmps6
    go_wp2_with (first
      | (go_at_call 29; refine HA.out.mono ?_; rintro e w1 ⟨rfl, k1⟩; have K1 := Lib.hid k1; clear k1)
      | (go_at_call 9; refine (HG.out w1 K1.out).mono ?_; rintro e _ ⟨rfl, rfl⟩))
    go_ret
    exact ⟨rfl, K1.out⟩

end Go.Proofs.Ytlonejpphmpnjaa.octetBack

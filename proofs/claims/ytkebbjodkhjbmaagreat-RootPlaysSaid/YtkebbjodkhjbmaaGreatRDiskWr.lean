/-
  The given disk of layer 3: it goes down by a crash.
  The given disk of layer 3: Down and Arm.
  The given disk of layer 3: Write.
-/
import Derived.Test.YtkebbjodkhjbmaaGreatRDiskD
import Derived.Deep.CutBlock
import Derived.Deep.DeepCutAuto
namespace Go.Proofs.YtkebbjodkhjbmaaGreat
open Go.RowKit

theorem infoU8x : (Tryz.prog.info? 5).map (fun i => (i.zero, i.size, i.bytes)) = some (some (.int .u8 0), 1, 1) := by kernel_rfl
theorem keep_self (wr : World) (b : Nat) (v2 v3 v4 v5 v7 : Value) : Keep (fun i => i = b) wr (((((wr.setCell ⟨b, 2, none⟩ v2).setCell ⟨b, 3, none⟩ v3).setCell ⟨b, 4, none⟩ v4).setCell ⟨b, 5, none⟩ v5).setCell ⟨b, 7, none⟩ v7) :=
  (((((Keep.refl (fun i => i = b) wr).setCell ⟨b, 2, none⟩ v2 (fun _ => rfl)).setCell ⟨b, 3, none⟩ v3 (fun _ => rfl)).setCell ⟨b, 4, none⟩ v4 (fun _ => rfl)).setCell ⟨b, 5, none⟩ v5 (fun _ => rfl)).setCell ⟨b, 7, none⟩ v7 (fun _ => rfl)
theorem own_slice3 {w : World} {base e size n : Nat} {v : Value} {xs : List Value} (h : w.ownsRow base e size v n xs) : ∃ A c, v = .slice A n c := by
  rcases h.2 with ⟨e1, h0⟩ | ⟨g, cap, cur, e1, _⟩
  · subst h0
    exact ⟨_, _, e1⟩
  · exact ⟨_, _, e1⟩
theorem reads_one3 (w : World) (t : TypeId) (v : Value) : Reads (w.alloc (.cells #[v] t)) (w.heap.size + 1) 1 (some ⟨w.heap.size, 0, none⟩) 1 [v] := by
  refine ⟨rfl, fun _ => ⟨_, rfl, by show w.heap.size < w.heap.size + 1; omega, fun j u hu => ?_⟩⟩
  rcases j with _ | j
  · injection hu with hu
    subst hu
    exact (Blk.new w t #[v]).cell 0
  · simp at hu
section
variable {b gS gC cS cC : Nat} {kv : Value} {vs ws : List Value} {s : RSt} {w : World}

set_option maxRecDepth 100000 in
set_option maxHeartbeats 400000 in
theorem rfall_any [Aside] (c : DCrash) (hc : c.Fine) (KA : Option Addr) (Kc : Nat) (hk : HeadF b gS gC w (c.keep.map iv) (.slice KA c.keep.length Kc)) (h : RD w b gS gC cS cC kv vs ws s) :
    Calls Tryz.prog 132 #[.pointer (some ⟨b, 0, none⟩), .agg #[.int .i64 c.write, .slice KA c.keep.length Kc, .int .i64 c.torn, .int .i64 c.at_]] w fun e w' => (∃ v, e = .returned v) ∧ (∃ vs' ws', RD w' b gS gC cS cC (.slice none 0 0) vs' ws' (fallSt s c)) ∧ Keep (rfoot b gS gC) w w' := by
  obtain ⟨i0, hi, hz0, hz1, hz2⟩ := info_parts infoU8x
  have H := Lib.hid h
  have HK := Lib.hid hk
  have HKB : Hid (c.keep.length ≤ 9223372036854775807) := Lib.hid (by
    obtain ⟨_, _, _, h1, h2, _⟩ := hk
    rw [List.length_map] at h1
    omega)
  have hfew := h.ok.few
  obtain ⟨n, hn⟩ : ∃ n, s.stays.length = n := ⟨_, rfl⟩
  rw [hn] at hfew
  have HN := Lib.hid hn
  clear h hn hk
  go_enter Tryz.func132, Tryz.ntmps132
  go_wp2
  obtain ⟨w0, hw0⟩ : ∃ w0, w.alloc (.cells #[.int .i64 c.write, .slice KA c.keep.length Kc, .int .i64 c.torn, .int .i64 c.at_] 39) = w0 := ⟨_, rfl⟩
  have hb0 : Below w.heap.size w w0 := by rw [← hw0]; exact (Below.refl _ _).alloc (Nat.le_refl _) _
  have hbx : Blk w0 w.heap.size 39 #[.int .i64 c.write, .slice KA c.keep.length Kc, .int .i64 c.torn, .int .i64 c.at_] := by rw [← hw0]; exact Blk.new w _ _
  rw [hw0]
  have hlt0 : ∀ k, rfoot b gS gC k → k < w.heap.size := fun k hk => (H.out.foot k hk).2.2
  have hk0 : HeadF b gS gC w0 (c.keep.map iv) (.slice KA c.keep.length Kc) := HK.out.keep (Keep.of_below (S := fun _ => False) hb0) (fun _ h => h.elim)
  have HB0 := Lib.hid hb0
  have HBX := Lib.hid hbx
  have HLT := Lib.hid hlt0
  have HK0 := Lib.hid hk0
  have HRD0 := Lib.hid (H.out.below hb0)
  obtain ⟨bb, hbb⟩ : ∃ bb, w.heap.size = bb := ⟨_, rfl⟩
  rw [hbb] at HBX HLT ⊢
  clear hw0 hb0 hbx hlt0 hk0
  go_loopw [4] (fun i wr => ∃ k vs' ws', k ≤ n ∧ i = .int .i64 ((k : Nat) : Int) ∧ RD wr b gS gC cS cC kv vs' ws' (fallTo s c k) ∧ Keep (rfoot b gS gC) w0 wr) (fun i _ => n - (intOf i).toNat)
  case atStart => exact ⟨0, vs, ws, Nat.zero_le _, rfl, HRD0.out, Keep.refl _ _⟩
  case round =>
    obtain ⟨k, vs', ws', hk, rfl, hrd, hkp⟩ := hrel
    have hlen : (fallTo s c k).stays.length = n := (fallTo_length s c k).trans HN.out
    have hbbf : ¬ rfoot b gS gC bb := fun e => by have := HLT.out bb e; omega
    have hbx : Blk wr bb 39 _ := hkp.blk HBX.out hbbf
    have x0 : wr.cell? ⟨bb, 0, none⟩ = some (.int .i64 c.write) := hbx.cell 0
    have x1 : wr.cell? ⟨bb, 1, none⟩ = some (.slice KA c.keep.length Kc) := hbx.cell 1
    have x2 : wr.cell? ⟨bb, 2, none⟩ = some (.int .i64 c.torn) := hbx.cell 2
    have x3 : wr.cell? ⟨bb, 3, none⟩ = some (.int .i64 c.at_) := hbx.cell 3
    have c0 : wr.cell? ⟨b, 0, none⟩ = some (.slice (some ⟨gS, 0, none⟩) (fallTo s c k).stays.length cS) := hrd.blk.cell 0
    have c1 : wr.cell? ⟨b, 1, none⟩ = some (.slice (some ⟨gC, 0, none⟩) (fallTo s c k).stays.length cC) := hrd.blk.cell 1
    rw [hlen] at c0 c1
    have hnx : fallTo s c (k + 1) = if 0 < ((fallTo s c k).cache.getD k []).length then { fallTo s c k with stays := (fallTo s c k).stays.set k (cutAt (stayN c k) ((fallTo s c k).cache.getD k []) ((fallTo s c k).stays.getD k [])), cache := (fallTo s c k).cache.set k [] } else fallTo s c k := rfl
    have HRD := Lib.hid hrd
    have HKP := Lib.hid hkp
    have HLEN := Lib.hid hlen
    have HNX := Lib.hid hnx
    have HBXW := Lib.hid hbx
    clear hkp hlen hnx hbx
    by_cases hlt : k < n
    · obtain ⟨⟨v, sv, sf, hv⟩, ⟨u, cu, cf, hu⟩⟩ := hrd.sector (k := k) (by rw [HLEN.out]; exact hlt)
      have hw8 := hrd.ok.wait _ (get_mem (k := k) (by rw [hrd.ok.same, HLEN.out]; exact hlt))
      have hs8 := hrd.ok.stay _ (get_mem (k := k) (by rw [HLEN.out]; exact hlt))
      have HV := Lib.hid hv
      have HU := Lib.hid hu
      obtain ⟨AC, cc, rfl, _, hcb, hcr, _⟩ := hu
      obtain ⟨AS, cs, rfl, _, hsb, hsr, _⟩ := hv
      rw [List.length_map] at cu sv hcr hsr
      generalize hx : (fallTo s c k).cache.getD k [] = x at *
      generalize hy : (fallTo s c k).stays.getD k [] = y at *
      have HW8 := Lib.hid hw8
      have HS8 := Lib.hid hs8
      have HCR := Lib.hid hcr
      have HSR := Lib.hid hsr
      clear hrd hw8 hs8 hx hy hcr hsr
      by_cases hc0 : 0 < x.length
      · have hx8 : x.length = 128 := by have := HW8.out; omega
        rw [hx8] at cu HCR
        rw [HS8.out] at sv HSR
        rw [if_pos hc0] at HNX
        have HX8 := Lib.hid hx8
        clear hc0 hx8
        have hnn : ∃ n0 : Int, i64ok n0 ∧ n0 = if c.torn = (k : Int) then c.at_ else 0 := ⟨_, by split; exact hc.a; unfold i64ok; omega, rfl⟩
        obtain ⟨n0, hn0, hn1⟩ := hnn
        have HN1 := Lib.hid hn1
        have hkl : ∀ j (hj : j < c.keep.length), ∃ ad, KA = some ad ∧ wr.cell? (ad.add j) = some (.int .i64 (c.keep[j]'hj)) := fun j hj => by
          obtain ⟨A0, c0', e0, _, _, hr0, _⟩ := HK0.out.keep HKP.out (fun i hi => hi)
          injection e0 with e1 _ _
          subst e1
          obtain ⟨ad, e, _, hc⟩ := hr0.int_at (k := j) (by rw [List.length_map]; exact hj) (by rw [List.length_map])
          exact ⟨ad, e, hc⟩
        have HKL := Lib.hid hkl
        clear hkl
        have HN0 := Lib.hid hn0
        clear hn0 hn1
        go_upto_if 30 with (fail)
        go_cut [5] (fun v wx => v = .int .i64 n0 ∧ wr = wx)
        case first =>
          by_cases ht : c.torn = (k : Int)
          · have htt : (c.torn == (k : Int)) = true := by simp [ht]
            have hst : n0 = c.at_ := by rw [HN1.out, if_pos ht]
            have HST := Lib.hid hst
            clear ht hst
            go_wp2
            go_meet
            exact ⟨by rw [HST.out], rfl⟩
          · have htt : (c.torn == (k : Int)) = false := by simp [ht]
            have hst : n0 = 0 := by rw [HN1.out, if_neg ht]
            have HST := Lib.hid hst
            clear ht hst
            go_wp2
            go_meet
            exact ⟨by rw [HST.out], rfl⟩
        case rest =>
          obtain ⟨rfl, hwc⟩ := hcut
          subst hwc
          clear x2 x3
          go_wp2
          go_loopw [5, 6] (fun nn i wi => ∃ (j : Nat) (m : Int), j ≤ c.keep.length ∧ i = .int .i64 ((j : Nat) : Int) ∧ nn = .int .i64 m ∧ m = (if (k : Int) ∈ c.keep.take j then 128 else n0) ∧ wr = wi) (fun _ i _ => c.keep.length - (intOf i).toNat)
          case atStart => exact ⟨0, n0, Nat.zero_le _, rfl, rfl, by simp, rfl⟩
          case round =>
            obtain ⟨j, m, hj, rfl, rfl, hm, hwi⟩ := hrel
            subst hwi
            by_cases hjl : j < c.keep.length
            · obtain ⟨ad, hKA, hcell⟩ := HKL.out j hjl
              subst hKA
              have htk : c.keep.take (j + 1) = c.keep.take j ++ [c.keep[j]] := List.take_succ_eq_append_getElem hjl
              obtain ⟨z, hzj⟩ : ∃ z, c.keep[j] = z := ⟨_, rfl⟩
              rw [hzj] at hcell htk
              clear hzj
              have HTK := Lib.hid htk
              have HM := Lib.hid hm
              clear htk hm c0 c1 cu sv sf cf
              by_cases hz : z = (k : Int)
              · have hzz : (z == (k : Int)) = true := by simp [hz]
                have HZ := Lib.hid hz
                clear hz
                have hkb := HKB.out
                go_wp2
                exact ⟨⟨j + 1, 128, by omega, by go_num, rfl, by rw [HTK.out, HZ.out]; simp, trivial⟩, by simp [intOf]; omega⟩
              · have hzz : (z == (k : Int)) = false := by simp [hz]
                have HZ := Lib.hid (show ¬ (k : Int) = z from fun e => hz e.symm)
                clear hz
                have hkb := HKB.out
                go_wp2
                exact ⟨⟨j + 1, m, by omega, by go_num, rfl, by rw [HTK.out, HM.out]; simp [HZ.out], trivial⟩, by simp [intOf]; omega⟩
            · have hmN : m = stayN c k := by
                rw [hm, List.take_of_length_le (by omega), HN1.out]
                rfl
              have HMN := Lib.hid hmN
              have hmok : i64ok m := by
                rw [hm]
                split
                · unfold i64ok; omega
                · exact HN0.out
              have hml : ∀ j : Nat, j < 128 → ∃ z : UInt8, (cutAt m x y)[j]? = some z ∧ ((j : Int) < m → x[j]? = some z) ∧ (¬ (j : Int) < m → y[j]? = some z) := fun j hj => by
                have h := cutAt_at (n := m) (y := y) (HX8.out) hj
                by_cases hlt : (j : Int) < m
                · rw [if_pos hlt] at h
                  have h2 := List.getElem?_eq_getElem (l := x) (i := j) (by rw [HX8.out]; exact hj)
                  exact ⟨_, h.trans h2, fun _ => h2, fun e => absurd hlt e⟩
                · rw [if_neg hlt] at h
                  have h2 := List.getElem?_eq_getElem (l := y) (i := j) (by rw [HS8.out]; exact hj)
                  exact ⟨_, h.trans h2, fun e => absurd e hlt, fun _ => h2⟩
              have HML := Lib.hid hml
              have HLC : Hid ((cutAt m x y).length = 128) := Lib.hid (cutAt_length HX8.out HS8.out)
              have hbF : ∀ p, rfoot b gS gC p → p < wr.heap.size := fun p hp => (HRD.out.foot p hp).2.2
              have HC3 : Hid (∀ W, Below wr.heap.size wr W → W.cell? ⟨b, 0, none⟩ = some (.slice (some ⟨gS, 0, none⟩) n cS) ∧ W.cell? ⟨b, 1, none⟩ = some (.slice (some ⟨gC, 0, none⟩) n cC) ∧ W.cell? ⟨gS, k, none⟩ = some (.slice AS 128 cs) ∧ W.cell? ⟨gC, k, none⟩ = some (.slice AC 128 cc)) := Lib.hid (fun W hb => ⟨(hb.cell (hbF b (.inl rfl))).trans c0, (hb.cell (hbF b (.inl rfl))).trans c1, (hb.cell (hbF gS (.inr (.inl rfl)))).trans sv, (hb.cell (hbF gC (.inr (.inr rfl)))).trans cu⟩)
              have HXE : Hid (∀ W, Below wr.heap.size wr W → ∀ j z, x[j]? = some z → ∃ ad, AC = some ad ∧ W.cell? (ad.add j) = some (bv z)) := Lib.hid (fun W hb j z hz => by
                obtain ⟨ad, e, _, hcell⟩ := (HCR.out.below hb).2 (by omega)
                exact ⟨ad, e, hcell j (bv z) (by rw [List.getElem?_map, hz]; rfl)⟩)
              have HYE : Hid (∀ W, Below wr.heap.size wr W → ∀ j z, y[j]? = some z → ∃ ad, AS = some ad ∧ W.cell? (ad.add j) = some (bv z)) := Lib.hid (fun W hb j z hz => by
                obtain ⟨ad, e, _, hcell⟩ := (HSR.out.below hb).2 (by omega)
                exact ⟨ad, e, hcell j (bv z) (by rw [List.getElem?_map, hz]; rfl)⟩)
              have HJ0 := Lib.hid hmok.1
              have HJ1 := Lib.hid hmok.2
              clear hml hbF c0 c1 cu sv sf cf hm hmN hmok
              go_wp2
              obtain ⟨wq, hwq⟩ : ∃ wq, wq = wr := ⟨_, rfl⟩
              subst hwq
              go_loopw [7, 8] (fun bb8 i wr => ∃ (j : Nat) (A9 : Option Addr) (c9 : Nat), j ≤ 128 ∧ i = .int .i64 ((j : Nat) : Int) ∧ bb8 = .slice A9 j c9 ∧ wr.ownsRow wq.heap.size 5 1 (.slice A9 j c9) j (((cutAt m x y).take j).map bv) ∧ Below wq.heap.size wq wr) (fun _ i _ => 128 - (intOf i).toNat)
              case atStart => exact ⟨0, none, 0, Nat.zero_le _, rfl, rfl, World.ownsRow_nil _ _ _ _, Below.refl _ _⟩
              case round =>
                obtain ⟨i, A9, c9, hi8, rfl, rfl, hO, hW⟩ := hrel
                obtain ⟨e0, e1, e2, e3⟩ := HC3.out wr hW
                have HW := Lib.hid hW
                have HO := Lib.hid hO
                clear hW hO
                by_cases hi9 : i < 128
                · obtain ⟨z, hz1', hzx, hzy⟩ := HML.out i hi9
                  obtain ⟨zn, hzn⟩ : ∃ zn : Int, ((z.toNat : Nat) : Int) = zn := ⟨_, rfl⟩
                  have hbz : bv z = .int .u8 zn := by rw [← hzn]; rfl
                  have HCT : Hid (((cutAt m x y).take i).map bv ++ [.int .u8 zn] = ((cutAt m x y).take (i + 1)).map bv) := Lib.hid (by
                    have hl : i < (cutAt m x y).length := by rw [HLC.out]; exact hi9
                    rw [List.take_succ_eq_append_getElem hl, List.map_append, List.map_singleton, ← hbz]
                    have h2 := List.getElem?_eq_getElem hl
                    rw [hz1'] at h2
                    injection h2 with h2
                    rw [h2])
                  by_cases hlm : (i : Int) < m
                  · obtain ⟨ad, hA, hcell⟩ := HXE.out wr HW.out i z (hzx (by omega))
                    subst hA
                    rw [hbz] at hcell
                    clear hz1' hzx hzy hzn hbz hi8
                    go_wp2_with (first
                      | (at_builtin; refine wpList_append_any _ rfl _ _ 36 rfl wq.heap.size 5 i0 (.int .u8 0) 1 1 Tryz.underlying36 hi hz0 hz1 hz2 rfl (by decide) _ i _ rfl (HO.out.alloc _) (wr.heap.size + 1) (some ⟨wr.heap.size, 0, none⟩) 1 1 [.int .u8 zn] rfl (reads_one3 wr _ _) (fun u hu => by rw [List.mem_singleton.1 hu]; rfl) (by unfold maxLen; omega) (by omega) (by have := HW.out.size; simp; omega) ?_
                         intro v2 w2 o2 g2 _
                         rw [HCT.out] at o2
                         obtain ⟨A2, c2', rfl⟩ := own_slice3 o2
                         have B2 := Lib.hid ((HW.out.alloc HW.out.size _).grown g2 (by have := HW.out.size; simp; omega) (fun q e => (HO.out.lt q e).1))
                         have O2 := Lib.hid o2
                         clear g2 o2))
                    exact ⟨⟨i + 1, A2, c2', by omega, by go_num, rfl, O2.out, B2.out⟩, by simp [intOf]; omega⟩
                  · obtain ⟨ad, hA, hcell⟩ := HYE.out wr HW.out i z (hzy (by omega))
                    subst hA
                    rw [hbz] at hcell
                    clear hz1' hzx hzy hzn hbz hi8
                    go_wp2_with (first
                      | (at_builtin; refine wpList_append_any _ rfl _ _ 36 rfl wq.heap.size 5 i0 (.int .u8 0) 1 1 Tryz.underlying36 hi hz0 hz1 hz2 rfl (by decide) _ i _ rfl (HO.out.alloc _) (wr.heap.size + 1) (some ⟨wr.heap.size, 0, none⟩) 1 1 [.int .u8 zn] rfl (reads_one3 wr _ _) (fun u hu => by rw [List.mem_singleton.1 hu]; rfl) (by unfold maxLen; omega) (by omega) (by have := HW.out.size; simp; omega) ?_
                         intro v2 w2 o2 g2 _
                         rw [HCT.out] at o2
                         obtain ⟨A2, c2', rfl⟩ := own_slice3 o2
                         have B2 := Lib.hid ((HW.out.alloc HW.out.size _).grown g2 (by have := HW.out.size; simp; omega) (fun q e => (HO.out.lt q e).1))
                         have O2 := Lib.hid o2
                         clear g2 o2))
                    exact ⟨⟨i + 1, A2, c2', by omega, by go_num, rfl, O2.out, B2.out⟩, by simp [intOf]; omega⟩
                · obtain rfl : i = 128 := by omega
                  have R8 := Lib.hid (HRD.out.below HW.out)
                  obtain ⟨⟨v8, sv8, sf8, hv8⟩, ⟨u8, cu8, cf8, hu8⟩⟩ := R8.out.sector (k := k) (by rw [HLEN.out]; exact hlt)
                  have hbS : b ≠ gS := fun e => absurd (HRD.out.blk.typ.ne (e ▸ own_typ HRD.out.sOwn)) (by decide)
                  have hbC : b ≠ gC := fun e => absurd (HRD.out.blk.typ.ne (e ▸ own_typ HRD.out.cOwn)) (by decide)
                  have hSC := HRD.out.ne
                  have HTA : Hid ((cutAt m x y).take 128 = cutAt m x y) := Lib.hid (List.take_of_length_le (by rw [HLC.out]; exact Nat.le_refl _))
                  have hown := HO.out
                  rw [HTA.out] at hown
                  have hp1 := R8.out.putS (k := k) (l := cutAt m x y) (v := .slice A9 128 c9) HLC.out (Head.own hown) (Far.own HRD.out.lim hown)
                  have hp2 := hp1.putC (k := k) (l := []) (v := .slice none 0 0) (.inl rfl) (Head.nil _ _) Far.nil
                  have HP2 := Lib.hid hp2
                  clear hown hp1 hp2 hv8 hu8 hi8 hi9
                  go_wp2
                  have hkq := (((HKP.out.trans (Keep.of_below (S := rfoot b gS gC) HW.out) (fun _ _ h => h)).setCell ⟨gS, k, none⟩ (.slice A9 128 c9) (fun _ => .inr (.inl rfl))).setCell ⟨gC, k, none⟩ (.slice none 0 0) (fun _ => .inr (.inr rfl)))
                  exact ⟨⟨k + 1, _, _, by omega, by go_num, by rw [HNX.out, ← HMN.out]; exact HP2.out, hkq⟩, by simp [intOf]; omega⟩
      · have h0 : x.length = 0 := by omega
        rw [h0] at cu
        rw [if_neg hc0] at HNX
        clear hc0 h0
        go_wp2
        exact ⟨⟨k + 1, vs', ws', by omega, by go_num, by rw [HNX.out]; exact HRD.out, HKP.out⟩, by simp [intOf]; omega⟩
    · obtain rfl : k = n := by omega
      have c2 : wr.cell? ⟨b, 2, none⟩ = some (.int .i64 (fallTo s c k).write) := hrd.blk.cell 2
      have c3 : wr.cell? ⟨b, 3, none⟩ = some kv := hrd.blk.cell 3
      have c4 : wr.cell? ⟨b, 4, none⟩ = some (.int .i64 (fallTo s c k).torn) := hrd.blk.cell 4
      have c5 : wr.cell? ⟨b, 5, none⟩ = some (.int .i64 (fallTo s c k).at_) := hrd.blk.cell 5
      have c7 : wr.cell? ⟨b, 7, none⟩ = some (.bool (fallTo s c k).down) := hrd.blk.cell 7
      have f2 := hrd.blk.frozen 2
      have f3 := hrd.blk.frozen 3
      have f4 := hrd.blk.frozen 4
      have f5 := hrd.blk.frozen 5
      have f7 := hrd.blk.frozen 7
      clear hrd
      go_wp2
      go_end0
      have hk1 := keep_self wr b (.int .i64 0) (.slice none 0 0) (.int .i64 0) (.int .i64 0) (.bool true)
      have hb1 := ((((HRD.out.blk.set_ 2 (.int .i64 0)).set_ 3 (.slice none 0 0)).set_ 4 (.int .i64 0)).set_ 5 (.int .i64 0)).set_ 7 (.bool true)
      have hrf := HRD.out.self (s' := fallSt s c) hk1 (by unfold fallSt; rw [HN.out]) (by unfold fallSt; rw [HN.out]) (by
        have : (fallSt s c).many = (fallTo s c k).many := by unfold fallSt; rw [HN.out]
        rw [this]
        exact hb1) (Head.nil _ _) Far.nil
      exact ⟨⟨_, rfl⟩, ⟨_, _, hrf⟩, ((Keep.of_below (S := rfoot b gS gC) HB0.out).trans HKP.out (fun _ _ h => h)).trans hk1 (fun i _ e => by subst e; exact .inl rfl)⟩
end

end Go.Proofs.YtkebbjodkhjbmaaGreat

namespace Go.Proofs.YtkebbjodkhjbmaaGreat
open Go.RowKit

section
variable {b gS gC cS cC : Nat} {kv : Value} {vs ws : List Value} {s : RSt} {w : World}

def downSt3 (s : RSt) (c : DCrash) : RSt := if s.down then s else fallSt s c
def downErr3 (s : RSt) : Int := if s.down then 31 else 0

set_option maxRecDepth 100000 in
set_option maxHeartbeats 1000000 in
theorem rdown_any [Aside] (c : DCrash) (hc : c.Fine) (KA : Option Addr) (Kc : Nat) (hk : HeadF b gS gC w (c.keep.map iv) (.slice KA c.keep.length Kc)) (h : RD w b gS gC cS cC kv vs ws s) :
    Calls Tryz.prog 75 #[.pointer (some ⟨b, 0, none⟩), .agg #[.int .i64 c.write, .slice KA c.keep.length Kc, .int .i64 c.torn, .int .i64 c.at_]] w fun e w' => e = .returned (.int .i64 (downErr3 s)) ∧ (∃ kv' vs' ws', RD w' b gS gC cS cC kv' vs' ws' (downSt3 s c)) ∧ Keep (rfoot b gS gC) w w' := by
  obtain ⟨w0, hw0⟩ : ∃ w0, w.alloc (.cells #[.int .i64 c.write, .slice KA c.keep.length Kc, .int .i64 c.torn, .int .i64 c.at_] 39) = w0 := ⟨_, rfl⟩
  have hb0 : Below w.heap.size w w0 := by rw [← hw0]; exact (Below.refl _ _).alloc (Nat.le_refl _) _
  have hbx : Blk w0 w.heap.size 39 #[.int .i64 c.write, .slice KA c.keep.length Kc, .int .i64 c.torn, .int .i64 c.at_] := by rw [← hw0]; exact Blk.new w _ _
  have hlt := (h.foot b (.inl rfl)).2.2
  have h0 := h.below hb0
  have c7 : w0.cell? ⟨b, 7, none⟩ = some (.bool s.down) := h0.blk.cell 7
  have x0 := hbx.cell 0
  have x1 := hbx.cell 1
  have x2 := hbx.cell 2
  have x3 := hbx.cell 3
  have H0 := Lib.hid h0
  have HB0 := Lib.hid hb0
  have HF := Lib.hid (rfall_any (w := w0) c hc KA Kc (hk.keep (Keep.of_below (S := fun _ => False) hb0) (fun _ h => h.elim)) h0)
  have H := Lib.hid h
  cases hd : s.down
  · have he : downErr3 s = 0 := by unfold downErr3; rw [hd]; rfl
    have hs : downSt3 s c = fallSt s c := by unfold downSt3; rw [hd]; rfl
    rw [hd] at c7
    rw [he, hs]
    clear h0 hb0 hbx hk hlt he hs hd h
    go_enter Tryz.func75, Tryz.ntmps75
    go_wp2_with (go_at_call 132; (have l0 := HF.out; clear l0); (with_reducible refine HF.out.mono ?_); rintro e w1 ⟨⟨v, rfl⟩, hr, hk1⟩; have HR := Lib.hid hr; have HK1 := Lib.hid hk1; clear hr hk1)
    go_ret
    obtain ⟨vs', ws', hr⟩ := HR.out
    exact ⟨rfl, ⟨_, vs', ws', hr⟩, (Keep.of_below (S := rfoot b gS gC) HB0.out).trans HK1.out (fun _ _ h => h)⟩
  · have he : downErr3 s = 31 := by unfold downErr3; rw [hd]; rfl
    have hs : downSt3 s c = s := by unfold downSt3; rw [hd]; rfl
    rw [hd] at c7
    rw [he, hs]
    clear h0 hb0 hbx hk hlt he hs hd h
    go_enter Tryz.func75, Tryz.ntmps75
    go_wp2
    go_ret
    exact ⟨rfl, ⟨_, _, _, H0.out⟩, Keep.of_below HB0.out⟩

theorem infoIx : (Tryz.prog.info? 3).map (fun i => (i.zero, i.size, i.bytes)) = some (some (.int .i64 0), 1, 8) := by kernel_rfl
set_option maxRecDepth 100000 in
set_option maxHeartbeats 1000000 in
theorem rarm_any [Aside] (c : DCrash) (KA : Option Addr) (Kc : Nat) (hk : HeadF b gS gC w (c.keep.map iv) (.slice KA c.keep.length Kc)) (hK : c.keep.length ≤ 17592186044416) (h : RD w b gS gC cS cC kv vs ws s) :
    Calls Tryz.prog 76 #[.pointer (some ⟨b, 0, none⟩), .agg #[.int .i64 c.write, .slice KA c.keep.length Kc, .int .i64 c.torn, .int .i64 c.at_]] w fun e w' => e = .returned (.int .i64 (armErr3 c)) ∧ (∃ kv', RD w' b gS gC cS cC kv' vs ws (armSt3 s c)) ∧ Keep (rfoot b gS gC) w w' := by
  obtain ⟨i0, hi, hz0, hz1, hz2⟩ := info_parts infoIx
  obtain ⟨w0, hw0⟩ : ∃ w0, w.alloc (.cells #[.int .i64 c.write, .slice KA c.keep.length Kc, .int .i64 c.torn, .int .i64 c.at_] 39) = w0 := ⟨_, rfl⟩
  have hb0 : Below w.heap.size w w0 := by rw [← hw0]; exact (Below.refl _ _).alloc (Nat.le_refl _) _
  have hbx : Blk w0 w.heap.size 39 #[.int .i64 c.write, .slice KA c.keep.length Kc, .int .i64 c.torn, .int .i64 c.at_] := by rw [← hw0]; exact Blk.new w _ _
  have hlt := (h.foot b (.inl rfl)).2.2
  have h0 := h.below hb0
  have x0 := hbx.cell 0
  have x1 := hbx.cell 1
  have x2 := hbx.cell 2
  have x3 := hbx.cell 3
  have H0 := Lib.hid h0
  have HB0 := Lib.hid hb0
  have HK0 := Lib.hid (hk.keep (Keep.of_below (S := fun _ => False) hb0) (fun _ h => h.elim))
  have HBX := Lib.hid hbx
  by_cases hlo : c.write < 1
  · have he : armErr3 c = 2 := by unfold armErr3; rw [if_pos hlo]
    have hs : armSt3 s c = s := by unfold armSt3; rw [if_pos hlo]
    rw [he, hs]
    clear h0 hb0 hbx hk hlt he hs h hi hz0 hz1 hz2
    go_enter Tryz.func76, Tryz.ntmps76
    go_wp2
    go_ret
    exact ⟨rfl, ⟨_, H0.out⟩, Keep.of_below HB0.out⟩
  · have he : armErr3 c = 0 := by unfold armErr3; rw [if_neg hlo]
    have hs : armSt3 s c = { s with write := c.write, keep := c.keep, torn := c.torn, at_ := c.at_ } := by unfold armSt3; rw [if_neg hlo]
    rw [he, hs]
    have c2 : w0.cell? ⟨b, 2, none⟩ = some (.int .i64 s.write) := h0.blk.cell 2
    have c3 : w0.cell? ⟨b, 3, none⟩ = some kv := h0.blk.cell 3
    have c4 : w0.cell? ⟨b, 4, none⟩ = some (.int .i64 s.torn) := h0.blk.cell 4
    have c5 : w0.cell? ⟨b, 5, none⟩ = some (.int .i64 s.at_) := h0.blk.cell 5
    have f2 := h0.blk.frozen 2
    have f3 := h0.blk.frozen 3
    have f4 := h0.blk.frozen 4
    have f5 := h0.blk.frozen 5
    have hne : ¬ b = w.heap.size := by omega
    obtain ⟨W1, hW1⟩ : ∃ W1, ((((w0.setCell ⟨b, 2, none⟩ (.int .i64 c.write)).setCell ⟨b, 3, none⟩ (.slice KA c.keep.length Kc)).setCell ⟨b, 4, none⟩ (.int .i64 c.torn)).setCell ⟨b, 5, none⟩ (.int .i64 c.at_)) = W1 := ⟨_, rfl⟩
    have hk1 : Keep (fun i => i = b) w0 W1 := by
      rw [← hW1]
      exact ((((Keep.refl (fun i => i = b) w0).setCell ⟨b, 2, none⟩ _ (fun _ => rfl)).setCell ⟨b, 3, none⟩ _ (fun _ => rfl)).setCell ⟨b, 4, none⟩ _ (fun _ => rfl)).setCell ⟨b, 5, none⟩ _ (fun _ => rfl)
    have hb1 : Blk W1 b 45 #[.slice (some ⟨gS, 0, none⟩) s.stays.length cS, .slice (some ⟨gC, 0, none⟩) s.stays.length cC, .int .i64 c.write, .slice KA c.keep.length Kc, .int .i64 c.torn, .int .i64 c.at_, .int .i64 s.many, .bool s.down] := by
      rw [← hW1]
      exact (((h0.blk.set_ 2 (.int .i64 c.write)).set_ 3 (.slice KA c.keep.length Kc)).set_ 4 (.int .i64 c.torn)).set_ 5 (.int .i64 c.at_)
    have hx1 := hk1.blk hbx (fun e => hne e.symm)
    have y1 := hx1.cell 1
    have hh1 := HK0.out.keep hk1 (fun i e => .inl e)
    have hr1 : Reads W1 W1.heap.size 1 KA c.keep.length (c.keep.map iv) := by
      obtain ⟨AK, cK, eK, _, _, hr1, _⟩ := hh1
      injection eK with eA _ _
      subst eA
      rw [List.length_map] at hr1
      exact hr1
    clear hh1
    have HR1 := Lib.hid hr1
    have HK1 := Lib.hid hk1
    have HB1 := Lib.hid hb1
    have hW1s : w0.heap.size ≤ W1.heap.size := hk1.size
    have HS1 := Lib.hid hW1s
    have HBL := Lib.hid (show b < W1.heap.size from hb1.lt)
    have HY1 := Lib.hid y1
    have HW1 := Lib.hid hW1
    have HI := Lib.hid hi
    have HZ0 := Lib.hid hz0
    have HZ1 := Lib.hid hz1
    have HZ2 := Lib.hid hz2
    clear h0 hb0 hbx hk he hs h hlt hx1 hr1 hk1 hb1 hW1s y1 hW1 hi hz0 hz1 hz2
    go_enter Tryz.func76, Tryz.ntmps76
    go_upto_region 4 with (fail)
    rw [HW1.out]
    have y1 := HY1.out
    clear c2 c3 c4 c5 f2 f3 f4 f5 x0 x1 x2 x3 HW1 hw0
    go_wp2_with (first
      | (at_builtin; refine wpList_append_any _ rfl _ _ 37 rfl W1.heap.size 3 i0 (.int .i64 0) 1 8 Tryz.underlying37 HI.out HZ0.out HZ1.out HZ2.out rfl (by decide) _ 0 [] rfl (World.ownsRow_nil _ _ _ _) W1.heap.size KA c.keep.length Kc (c.keep.map iv) rfl HR1.out (iv_one _) (by unfold maxLen; omega) (by omega) (Nat.le_refl _) ?_
         intro v2 w2 o2 g2 _
         rw [Nat.zero_add, List.nil_append] at o2
         obtain ⟨A2, c2', rfl⟩ := own_slice3 o2
         have B2 := Lib.hid ((Below.refl W1.heap.size W1).grown g2 (Nat.le_refl _) (fun q e => by cases (show (none : Option Nat) = some q from e)))
         have O2 := Lib.hid o2
         have hb2 := HB1.out.below B2.out HBL.out
         have d3 := hb2.cell 3
         have e3 := hb2.frozen 3
         have HB2 := Lib.hid hb2
         clear g2 o2 hb2))
    go_ret
    have hkf : Keep (fun i => i = b) w0 (w2.setCell ⟨b, 3, none⟩ (.slice A2 c.keep.length c2')) := (HK1.out.trans (Keep.of_below (S := fun i => i = b) B2.out) (fun _ _ h => h)).setCell ⟨b, 3, none⟩ _ (fun _ => rfl)
    have hkv : Head (w2.setCell ⟨b, 3, none⟩ (.slice A2 c.keep.length c2')) 3 (c.keep.map iv) (.slice A2 c.keep.length c2') :=
      (Head.own O2.out).keep ((Keep.refl (fun i => i = b) w2).setCell ⟨b, 3, none⟩ _ (fun _ => rfl)) (fun i e => by subst e; exact fun e => absurd (HB2.out.typ.ne e) (by decide))
    have hrf := H0.out.self (s' := { s with write := c.write, keep := c.keep, torn := c.torn, at_ := c.at_ }) hkf rfl rfl (HB2.out.set_ 3 (.slice A2 c.keep.length c2')) hkv (Far.own (fun k ho => Nat.lt_of_lt_of_le (H0.out.lim k ho) HS1.out) O2.out)
    exact ⟨rfl, ⟨_, hrf⟩, (Keep.of_below (S := rfoot b gS gC) HB0.out).trans (hkf.more (fun i _ e => by subst e; exact .inl rfl)) (fun _ _ h => h)⟩
end
end Go.Proofs.YtkebbjodkhjbmaaGreat

namespace Go.Proofs.YtkebbjodkhjbmaaGreat
open Go.RowKit

def takenR (s : RSt) (a : Int) (l : List UInt8) : RSt := { s with cache := s.cache.set a.toNat l, many := s.many + 1 }
def writeErr3 (s : RSt) (a : Int) (l : List UInt8) : Int := if s.down then 31 else if has3 s a && l.length == 128 then (if s.write = 1 then 31 else 0) else 30
def writeSt3 (s : RSt) (a : Int) (l : List UInt8) : RSt := if s.down then s else if has3 s a && l.length == 128 then (if s.write = 0 then takenR s a l else if s.write = 1 then fallSt { takenR s a l with write := 0 } ⟨0, s.keep, s.torn, s.at_⟩ else { takenR s a l with write := s.write - 1 }) else s

section
variable {b gS gC cS cC : Nat} {kv : Value} {vs ws : List Value} {s : RSt} {w : World}

theorem RD.count [Aside] (h : RD w b gS gC cS cC kv vs ws s) (m : Int) : RD (w.setCell ⟨b, 6, none⟩ (.int .i64 m)) b gS gC cS cC kv vs ws { s with many := m } ∧ Keep (rfoot b gS gC) w (w.setCell ⟨b, 6, none⟩ (.int .i64 m)) := by
  have hk := (Keep.refl (fun i => i = b) w).setCell ⟨b, 6, none⟩ (.int .i64 m) (fun _ => rfl)
  exact ⟨h.self (s' := { s with many := m }) hk rfl rfl (h.blk.set_ 6 _) (h.kHead.keep hk (fun i e => by subst e; exact (h.foot i (.inl rfl)).2.1)) h.far.2.2, hk.more (fun i _ e => by subst e; exact .inl rfl)⟩
theorem RD.left [Aside] (h : RD w b gS gC cS cC kv vs ws s) (m : Int) : RD (w.setCell ⟨b, 2, none⟩ (.int .i64 m)) b gS gC cS cC kv vs ws { s with write := m } ∧ Keep (rfoot b gS gC) w (w.setCell ⟨b, 2, none⟩ (.int .i64 m)) := by
  have hk := (Keep.refl (fun i => i = b) w).setCell ⟨b, 2, none⟩ (.int .i64 m) (fun _ => rfl)
  exact ⟨h.self (s' := { s with write := m }) hk rfl rfl (h.blk.set_ 2 _) (h.kHead.keep hk (fun i e => by subst e; exact (h.foot i (.inl rfl)).2.1)) h.far.2.2, hk.more (fun i _ e => by subst e; exact .inl rfl)⟩

set_option maxRecDepth 100000 in
set_option maxHeartbeats 2000000 in
theorem rwrite_any [Aside] (a : Int) (h1 : -9223372036854775808 ≤ a) (h2 : a ≤ 9223372036854775807) (h : RD w b gS gC cS cC kv vs ws s) (hmany : s.many < 9223372036854775807) (hmin : 0 ≤ s.many) (hw : 0 ≤ s.write) (hwx : s.write ≤ 9223372036854775807) (hf : (⟨0, s.keep, s.torn, s.at_⟩ : DCrash).Fine) (A : Option Addr) (c : Nat) (l : List UInt8) (hr : Reads w w.heap.size 1 A l.length (l.map bv)) (hl : l.length ≤ 140737488355000) :
    Calls Tryz.prog 81 #[.pointer (some ⟨b, 0, none⟩), .int .i64 a, .slice A l.length c] w fun e w' => e = .returned (.int .i64 (writeErr3 s a l)) ∧ (∃ kv' vs' ws', RD w' b gS gC cS cC kv' vs' ws' (writeSt3 s a l)) ∧ Keep (rfoot b gS gC) w w' := by
  obtain ⟨KA, Kc, hkv⟩ : ∃ KA Kc, kv = .slice KA s.keep.length Kc := by
    obtain ⟨KA, Kc, e, _⟩ := h.kHead
    rw [List.length_map] at e
    exact ⟨KA, Kc, e⟩
  subst hkv
  have HH := Lib.hid (rhas_any b gS gC cS cC _ vs ws s a w h)
  have c7 : w.cell? ⟨b, 7, none⟩ = some (.bool s.down) := h.blk.cell 7
  have HRD := Lib.hid h
  cases hd : s.down
  · by_cases hok : (has3 s a && l.length == 128) = true
    · have hst : writeSt3 s a l = (if s.write = 0 then takenR s a l else if s.write = 1 then fallSt { takenR s a l with write := 0 } ⟨0, s.keep, s.torn, s.at_⟩ else { takenR s a l with write := s.write - 1 }) := by unfold writeSt3; rw [hd, hok]; rfl
      have he : writeErr3 s a l = (if s.write = 1 then 31 else 0) := by unfold writeErr3; rw [hd, hok]; rfl
      have HST := Lib.hid hst
      have HE := Lib.hid he
      obtain ⟨er, her⟩ : ∃ er, writeErr3 s a l = er := ⟨_, rfl⟩
      obtain ⟨st, hstt⟩ : ∃ st, writeSt3 s a l = st := ⟨_, rfl⟩
      rw [her, hstt]
      rw [her] at HE
      rw [hstt] at HST
      rw [Bool.and_eq_true, beq_iff_eq] at hok
      obtain ⟨hh, hl128⟩ := hok
      have hin : 0 ≤ a ∧ a < (s.stays.length : Int) := of_decide_eq_true hh
      obtain ⟨k, rfl⟩ := Int.eq_ofNat_of_zero_le hin.1
      have hk : k < s.stays.length := by omega
      rw [hh] at HH
      have HTK : Hid (takenR s (k : Int) l = { s with cache := s.cache.set k l, many := s.many + 1 }) := Lib.hid (by unfold takenR; rw [Int.toNat_natCast])
      have HT := Lib.hid (fun w' (hb : Below w.heap.size w w') => twin_any A c l.length l w' ((hr.below hb).more hb.size) hl)
      obtain ⟨_, ⟨v, sv, sf, _⟩⟩ := h.sector hk
      have hlt := (h.foot gC (.inr (.inr rfl))).2.2
      have hbl := (h.foot b (.inl rfl)).2.2
      have CK := Lib.hid (fun w' (hb : Below w.heap.size w w') => (show w'.cell? ⟨gC, k, none⟩ = some v ∧ w'.frozen? ⟨gC, k, none⟩ = false from by
        have hbk := hb.block gC hlt
        refine ⟨(World.cell?_of_block (a := ⟨gC, k, none⟩) hbk).trans sv, ?_⟩
        unfold World.frozen? at sf ⊢
        rw [show w'.heap[(⟨gC, k, none⟩ : Addr).block]? = w.heap[(⟨gC, k, none⟩ : Addr).block]? from hbk]
        exact sf))
      have CX := Lib.hid (show ∀ w', Below w.heap.size w w' → w'.cell? ⟨b, 1, none⟩ = some (.slice (some ⟨gC, 0, none⟩) s.stays.length cC) from fun w' hb => (hb.cell (p := ⟨b, 1, none⟩) hbl).trans (h.blk.cell 1))
      have FIN := Lib.hid (fun w' A' c' (hb : Below w.heap.size w w') (ho : w'.ownsRow w.heap.size 5 1 (.slice A' 128 c') 128 (l.map bv)) =>
        (show (∃ ws', RD (w'.setCell ⟨gC, k, none⟩ (.slice A' 128 c')) b gS gC cS cC (.slice KA s.keep.length Kc) vs ws' { s with cache := s.cache.set k l }) ∧ Keep (rfoot b gS gC) w (w'.setCell ⟨gC, k, none⟩ (.slice A' 128 c')) from
          ⟨⟨_, (h.below hb).putC (.inr hl128) (Head.own ho) (Far.own h.lim ho)⟩, (Keep.of_below hb).setCell _ _ (fun _ => .inr (.inr rfl))⟩))
      have HKN := Lib.hid hk
      rw [hl128] at HT
      rw [hd] at c7
      have HL128 := Lib.hid hl128
      have HD0 := Lib.hid hd
      generalize hn : s.stays.length = n at *
      have HN := Lib.hid hn
      clear hh hin he hst hr sv sf her hstt hd h hn
      rw [hl128]
      clear hl128
      go_enter Tryz.func81, Tryz.ntmps81
      go_wp2_with (go_at_call 134; refine HH.out.mono ?_; rintro e _ ⟨rfl, rfl⟩)
      refine wp_region_done_on (fun dn w' => (dn 8 = false → Below w.heap.size w w') ∧ (dn 8 = true → (∃ ws', RD w' b gS gC cS cC (.slice KA s.keep.length Kc) vs ws' { s with cache := s.cache.set k l }) ∧ Keep (rfoot b gS gC) w w')) (putR w.heap.size l ([.pointer (some ⟨b, 0, none⟩), .pointer (some ⟨b, 0, none⟩), .pointer (some ⟨b, 1, none⟩), .slice (some ⟨gC, 0, none⟩) n cC, .int .i64 k, .slice A 128 c, undef, .pointer (some ⟨gC, k, none⟩), undef])) (by kernel_rfl) 64 rfl (by kernel_rfl) ⟨fun _ => (Below.refl _ _).drew, fun e => by cases e⟩ ?_ ?_
      · intro i hi
        have hi2 : i < 9 := hi
        clear hi
        rcases i with _ | i
        · refine done_value (fun dn w' h => ⟨fun e => h.1 (upd_false e), fun e => h.2 (upd_ne e (by decide))⟩) (fun _ => putR_mono) (.pointer (some ⟨b, 0, none⟩)) rfl ?_
          intro dn a8 w8 hS ho hn
          have o0 : a8.tmps[0]? = some _ := (ho 0 (by kernel_rfl)).trans rfl
          clear ho hn
          refine ⟨wanted_free rfl, ?_, rfl⟩
          go_simp
        rcases i with _ | i
        · refine done_value (fun dn w' h => ⟨fun e => h.1 (upd_false e), fun e => h.2 (upd_ne e (by decide))⟩) (fun _ => putR_mono) (.pointer (some ⟨b, 0, none⟩)) rfl ?_
          intro dn a8 w8 hS ho hn
          obtain ⟨_, n18, rfl⟩ := hn 0 22 (by kernel_rfl) rfl
          clear ho hn
          refine ⟨wanted_free rfl, ?_, rfl⟩
          go_simp
        rcases i with _ | i
        · refine done_value (fun dn w' h => ⟨fun e => h.1 (upd_false e), fun e => h.2 (upd_ne e (by decide))⟩) (fun _ => putR_mono) (.pointer (some ⟨b, 1, none⟩)) rfl ?_
          intro dn a8 w8 hS ho hn
          obtain ⟨_, n19, rfl⟩ := hn 1 23 (by kernel_rfl) rfl
          clear ho hn
          refine ⟨wanted_free rfl, ?_, rfl⟩
          go_simp
        rcases i with _ | i
        · refine done_read (fun dn w' h => ⟨fun e => h.1 (upd_false e), fun e => h.2 (upd_ne e (by decide))⟩) (fun _ => putR_mono) (.slice (some ⟨gC, 0, none⟩) n cC) rfl ?_
          intro dn a8 w8 hS hx ho hn
          obtain ⟨_, n20, rfl⟩ := hn 2 24 (by kernel_rfl) rfl
          clear ho hn
          refine ⟨wanted_free rfl, ?_, rfl⟩
          have hc := CX.out w8 (hS.1 (hx 8 (by kernel_rfl)))
          go_simp
        rcases i with _ | i
        · refine done_value (fun dn w' h => ⟨fun e => h.1 (upd_false e), fun e => h.2 (upd_ne e (by decide))⟩) (fun _ => putR_mono) (.int .i64 k) rfl ?_
          intro dn a8 w8 hS ho hn
          have o1 : a8.tmps[1]? = some _ := (ho 1 (by kernel_rfl)).trans rfl
          clear ho hn
          refine ⟨wanted_free rfl, ?_, rfl⟩
          go_simp
        rcases i with _ | i
        · refine done_value (fun dn w' h => ⟨fun e => h.1 (upd_false e), fun e => h.2 (upd_ne e (by decide))⟩) (fun _ => putR_mono) (.slice A 128 c) rfl ?_
          intro dn a8 w8 hS ho hn
          have o2 : a8.tmps[2]? = some _ := (ho 2 (by kernel_rfl)).trans rfl
          clear ho hn
          refine ⟨wanted_free rfl, ?_, rfl⟩
          go_simp
        rcases i with _ | i
        · refine done_call 18 #[.slice A 128 c] rfl ?_
          intro dn a8 w8 hS hd hx ho hn
          obtain ⟨_, n23, rfl⟩ := hn 5 27 (by kernel_rfl) rfl
          clear ho hn
          refine ⟨wanted_free rfl, by go_simp, ?_⟩
          have hb := hS.1 (hx 8 (by kernel_rfl))
          refine (HT.out w8 hb).mono ?_
          rintro e w9 ⟨A', c', rfl, ho, hb9⟩
          exact ⟨_, rfl, ⟨fun _ => hb.trans (hb9.mono hb.size), fun e => absurd (hx 8 (by kernel_rfl)) (by rw [upd_ne e (by decide)]; decide)⟩, ⟨A', c', rfl, fun _ => own_mono3 ho hb.size⟩, fun j u hj hdj hR => putR_other hj hR⟩
        rcases i with _ | i
        · refine done_value (fun dn w' h => ⟨fun e => h.1 (upd_false e), fun e => h.2 (upd_ne e (by decide))⟩) (fun _ => putR_mono) (.pointer (some ⟨gC, k, none⟩)) rfl ?_
          intro dn a8 w8 hS ho hn
          obtain ⟨_, n21, rfl⟩ := hn 3 25 (by kernel_rfl) rfl
          obtain ⟨_, n22, rfl⟩ := hn 4 26 (by kernel_rfl) rfl
          clear ho hn
          refine ⟨wanted_free rfl, ?_, rfl⟩
          have hl := HKN.out
          go_simp
        rcases i with _ | i
        · refine done_store rfl rfl ?_
          intro dn a8 w8 hS hd hx ho hn
          obtain ⟨_, n25, rfl⟩ := hn 7 29 (by kernel_rfl) rfl
          obtain ⟨_, n24, hR24⟩ := hn 6 28 (by kernel_rfl) rfl
          clear ho hn
          refine ⟨wanted_free rfl, ?_⟩
          obtain ⟨A', c', rfl, ho⟩ := hR24
          obtain ⟨hcell, hfz⟩ := CK.out w8 (hS.1 hd)
          refine ⟨w8.setCell ⟨gC, k, none⟩ (.slice A' 128 c'), by go_simp, ⟨fun e => absurd e (by rw [upd_self]; decide), fun _ => FIN.out w8 A' c' (hS.1 hd) (ho hd)⟩, rfl, fun j u hj hdj hR => putR_store hR⟩
        omega
      · intro done f w8 hS hR hD
        have hfin := hS.2 (hD 8 (by decide))
        obtain ⟨⟨ws', hrd⟩, hkp⟩ := hfin
        have HR8 := Lib.hid hrd
        have HKP := Lib.hid hkp
        have c6 : w8.cell? ⟨b, 6, none⟩ = some (.int .i64 s.many) := hrd.blk.cell 6
        have c2 : w8.cell? ⟨b, 2, none⟩ = some (.int .i64 s.write) := hrd.blk.cell 2
        have f6 := hrd.blk.frozen 6
        have f2 := hrd.blk.frozen 2
        clear hR hD hS hkp hrd
        simp only [putAll, List.foldl_cons, List.foldl_nil, Act.put, List.setIfInBounds_toArray, List.set_cons_succ, List.set_cons_zero]
        have c3 : w8.cell? ⟨b, 3, none⟩ = some (.slice KA s.keep.length Kc) := HR8.out.blk.cell 3
        have c4 : w8.cell? ⟨b, 4, none⟩ = some (.int .i64 s.torn) := HR8.out.blk.cell 4
        have c5 : w8.cell? ⟨b, 5, none⟩ = some (.int .i64 s.at_) := HR8.out.blk.cell 5
        obtain ⟨r6, k6⟩ := HR8.out.count (s.many + 1)
        by_cases hw0 : s.write = 0
        · have h1 := HST.out
          have h2 := HE.out
          rw [if_pos hw0, HTK.out] at h1
          rw [if_neg (by omega)] at h2
          rw [hw0] at c2
          subst h1 h2
          have R6 := Lib.hid r6
          have K6 := Lib.hid (HKP.out.trans k6 (fun _ _ h => h))
          clear hw0 r6 k6
          go_wp2
          go_ret
          exact ⟨rfl, ⟨_, _, _, R6.out⟩, K6.out⟩
        · by_cases hw1 : s.write = 1
          · have h1 := HST.out
            have h2 := HE.out
            rw [if_neg hw0, if_pos hw1, HTK.out] at h1
            rw [if_pos hw1] at h2
            rw [hw1] at c2
            subst h1 h2
            obtain ⟨r2, k2⟩ := r6.left 0
            have HF := Lib.hid (rfall_any ⟨0, s.keep, s.torn, s.at_⟩ hf KA Kc (r2.kHead.f r2) r2)
            have K2 := Lib.hid ((HKP.out.trans k6 (fun _ _ h => h)).trans k2 (fun _ _ h => h))
            clear hw0 hw1 r6 k6 r2 k2 hf
            go_wp2_with (go_at_call 132; (have l0 := HF.out; clear l0); (with_reducible refine HF.out.mono ?_); rintro e w9 ⟨⟨v9, rfl⟩, hr9, hk9⟩; have HR9 := Lib.hid hr9; have HK9 := Lib.hid hk9; clear hr9 hk9)
            go_ret
            obtain ⟨vs9, ws9, hr9⟩ := HR9.out
            exact ⟨rfl, ⟨_, vs9, ws9, hr9⟩, K2.out.trans HK9.out (fun _ _ h => h)⟩
          · have h1 := HST.out
            have h2 := HE.out
            rw [if_neg hw0, if_neg hw1, HTK.out] at h1
            rw [if_neg hw1] at h2
            subst h1 h2
            obtain ⟨y, hy⟩ : ∃ y, s.write - 1 = y := ⟨_, rfl⟩
            obtain ⟨r2, k2⟩ := r6.left y
            have hyp : 0 < y := by omega
            have hwn : ¬ s.write = 0 := hw0
            have R2 := Lib.hid r2
            have K2 := Lib.hid ((HKP.out.trans k6 (fun _ _ h => h)).trans k2 (fun _ _ h => h))
            clear hw0 hw1 r6 k6 r2 k2
            go_wp2
            go_ret
            subst hy
            exact ⟨rfl, ⟨_, _, _, R2.out⟩, K2.out⟩
    · have he : writeErr3 s a l = 30 := by unfold writeErr3; rw [hd, if_neg (by decide), if_neg hok]
      have hst : writeSt3 s a l = s := by unfold writeSt3; rw [hd, if_neg (by decide), if_neg hok]
      rw [he, hst]
      rw [hd] at c7
      clear he hst hr h hf
      cases hh : has3 s a
      · rw [hh] at HH
        clear hok hh hd
        go_enter Tryz.func81, Tryz.ntmps81
        go_wp2_with (go_at_call 134; refine HH.out.mono ?_; rintro e _ ⟨rfl, rfl⟩)
        go_ret
        exact ⟨rfl, ⟨_, _, _, HRD.out⟩, Keep.refl _ _⟩
      · rw [hh] at HH
        have hne : ((l.length : Int) != 128) = true := by
          rw [bne_iff_ne]
          intro e
          apply hok
          rw [hh]
          simp
          omega
        generalize l.length = m at *
        clear hok hh hd
        go_enter Tryz.func81, Tryz.ntmps81
        go_wp2_with (go_at_call 134; refine HH.out.mono ?_; rintro e _ ⟨rfl, rfl⟩)
        go_ret
        exact ⟨rfl, ⟨_, _, _, HRD.out⟩, Keep.refl _ _⟩
  · have he : writeErr3 s a l = 31 := by unfold writeErr3; rw [hd, if_pos rfl]
    have hst : writeSt3 s a l = s := by unfold writeSt3; rw [hd, if_pos rfl]
    rw [he, hst]
    rw [hd] at c7
    clear he hst hr h hf hd
    generalize l.length = m at *
    go_enter Tryz.func81, Tryz.ntmps81
    go_wp2
    go_ret
    exact ⟨rfl, ⟨_, _, _, HRD.out⟩, Keep.refl _ _⟩
end
end Go.Proofs.YtkebbjodkhjbmaaGreat

/-
  The given disk of layer 3: it goes down by a crash.
-/
import Derived.Test.YtkebbjodkhjbmaaRDiskD
import Derived.Deep.CutBlock
import Derived.Deep.DeepCutAuto
namespace Go.Proofs.Ytkebbjodkhjbmaa
open Go.RowKit

theorem infoU8x : (Try.prog.info? 5).map (fun i => (i.zero, i.size, i.bytes)) = some (some (.int .u8 0), 1, 1) := by kernel_rfl
theorem keep_self (wr : World) (b : Nat) (v2 v3 v4 v5 v7 : Value) : Keep (fun i => i = b) wr (((((wr.setCell ⟨b, 2, none⟩ v2).setCell ⟨b, 3, none⟩ v3).setCell ⟨b, 4, none⟩ v4).setCell ⟨b, 5, none⟩ v5).setCell ⟨b, 7, none⟩ v7) :=
  (((((Keep.refl (fun i => i = b) wr).setCell ⟨b, 2, none⟩ v2 (fun _ => rfl)).setCell ⟨b, 3, none⟩ v3 (fun _ => rfl)).setCell ⟨b, 4, none⟩ v4 (fun _ => rfl)).setCell ⟨b, 5, none⟩ v5 (fun _ => rfl)).setCell ⟨b, 7, none⟩ v7 (fun _ => rfl)
theorem own_slice3 {w : World} {base e size n : Nat} {v : Value} {xs : List Value} (h : w.ownsRow base e size v n xs) : ∃ A c, v = .slice A n c := by
  rcases h.2 with ⟨e1, h0⟩ | ⟨g, cap, cur, e1, _⟩
  · subst h0
    exact ⟨_, _, e1⟩
  · exact ⟨_, _, e1⟩
theorem reads_one3 (w : World) (t : TypeId) (v : Value) : Reads (w.alloc (.cells #[v] t)) (w.heap.size + 1) 1 (some ⟨w.heap.size, 0, none⟩) 1 [v] := by
  refine ⟨rfl, fun _ => ⟨_, rfl, by show w.heap.size < w.heap.size + 1; omega, fun j u hu => ?_⟩⟩
  rcases j with _ | j
  · injection hu with hu
    subst hu
    exact (Blk.new w t #[v]).cell 0
  · simp at hu
section
variable {b gS gC cS cC : Nat} {kv : Value} {vs ws : List Value} {s : RSt} {w : World}

set_option maxRecDepth 100000 in
set_option maxHeartbeats 400000 in
theorem rfall_any [Aside] (c : DCrash) (hc : c.Fine) (KA : Option Addr) (Kc : Nat) (hk : HeadF b gS gC w (c.keep.map iv) (.slice KA c.keep.length Kc)) (h : RD w b gS gC cS cC kv vs ws s) :
    Calls Try.prog 36 #[.pointer (some ⟨b, 0, none⟩), .agg #[.int .i64 c.write, .slice KA c.keep.length Kc, .int .i64 c.torn, .int .i64 c.at_]] w fun e w' => (∃ v, e = .returned v) ∧ (∃ vs' ws', RD w' b gS gC cS cC (.slice none 0 0) vs' ws' (fallSt s c)) ∧ Keep (rfoot b gS gC) w w' := by
  obtain ⟨i0, hi, hz0, hz1, hz2⟩ := info_parts infoU8x
  have H := Lib.hid h
  have HK := Lib.hid hk
  have HKB : Hid (c.keep.length ≤ 9223372036854775807) := Lib.hid (by
    obtain ⟨_, _, _, h1, h2, _⟩ := hk
    rw [List.length_map] at h1
    omega)
  have hfew := h.ok.few
  obtain ⟨n, hn⟩ : ∃ n, s.stays.length = n := ⟨_, rfl⟩
  rw [hn] at hfew
  have HN := Lib.hid hn
  clear h hn hk
  go_enter Try.func36, Try.ntmps36
  go_wp2
  obtain ⟨w0, hw0⟩ : ∃ w0, w.alloc (.cells #[.int .i64 c.write, .slice KA c.keep.length Kc, .int .i64 c.torn, .int .i64 c.at_] 36) = w0 := ⟨_, rfl⟩
  have hb0 : Below w.heap.size w w0 := by rw [← hw0]; exact (Below.refl _ _).alloc (Nat.le_refl _) _
  have hbx : Blk w0 w.heap.size 36 #[.int .i64 c.write, .slice KA c.keep.length Kc, .int .i64 c.torn, .int .i64 c.at_] := by rw [← hw0]; exact Blk.new w _ _
  rw [hw0]
  have hlt0 : ∀ k, rfoot b gS gC k → k < w.heap.size := fun k hk => (H.out.foot k hk).2.2
  have hk0 : HeadF b gS gC w0 (c.keep.map iv) (.slice KA c.keep.length Kc) := HK.out.keep (Keep.of_below (S := fun _ => False) hb0) (fun _ h => h.elim)
  have HB0 := Lib.hid hb0
  have HBX := Lib.hid hbx
  have HLT := Lib.hid hlt0
  have HK0 := Lib.hid hk0
  have HRD0 := Lib.hid (H.out.below hb0)
  obtain ⟨bb, hbb⟩ : ∃ bb, w.heap.size = bb := ⟨_, rfl⟩
  rw [hbb] at HBX HLT ⊢
  clear hw0 hb0 hbx hlt0 hk0
  go_loopw [4] (fun i wr => ∃ k vs' ws', k ≤ n ∧ i = .int .i64 ((k : Nat) : Int) ∧ RD wr b gS gC cS cC kv vs' ws' (fallTo s c k) ∧ Keep (rfoot b gS gC) w0 wr) (fun i _ => n - (intOf i).toNat)
  case atStart => exact ⟨0, vs, ws, Nat.zero_le _, rfl, HRD0.out, Keep.refl _ _⟩
  case round =>
    obtain ⟨k, vs', ws', hk, rfl, hrd, hkp⟩ := hrel
    have hlen : (fallTo s c k).stays.length = n := (fallTo_length s c k).trans HN.out
    have hbbf : ¬ rfoot b gS gC bb := fun e => by have := HLT.out bb e; omega
    have hbx : Blk wr bb 36 _ := hkp.blk HBX.out hbbf
    have x0 : wr.cell? ⟨bb, 0, none⟩ = some (.int .i64 c.write) := hbx.cell 0
    have x1 : wr.cell? ⟨bb, 1, none⟩ = some (.slice KA c.keep.length Kc) := hbx.cell 1
    have x2 : wr.cell? ⟨bb, 2, none⟩ = some (.int .i64 c.torn) := hbx.cell 2
    have x3 : wr.cell? ⟨bb, 3, none⟩ = some (.int .i64 c.at_) := hbx.cell 3
    have c0 : wr.cell? ⟨b, 0, none⟩ = some (.slice (some ⟨gS, 0, none⟩) (fallTo s c k).stays.length cS) := hrd.blk.cell 0
    have c1 : wr.cell? ⟨b, 1, none⟩ = some (.slice (some ⟨gC, 0, none⟩) (fallTo s c k).stays.length cC) := hrd.blk.cell 1
    rw [hlen] at c0 c1
    have hnx : fallTo s c (k + 1) = if 0 < ((fallTo s c k).cache.getD k []).length then { fallTo s c k with stays := (fallTo s c k).stays.set k (cutAt (stayN c k) ((fallTo s c k).cache.getD k []) ((fallTo s c k).stays.getD k [])), cache := (fallTo s c k).cache.set k [] } else fallTo s c k := rfl
    have HRD := Lib.hid hrd
    have HKP := Lib.hid hkp
    have HLEN := Lib.hid hlen
    have HNX := Lib.hid hnx
    have HBXW := Lib.hid hbx
    clear hkp hlen hnx hbx
    by_cases hlt : k < n
    · obtain ⟨⟨v, sv, sf, hv⟩, ⟨u, cu, cf, hu⟩⟩ := hrd.sector (k := k) (by rw [HLEN.out]; exact hlt)
      have hw8 := hrd.ok.wait _ (get_mem (k := k) (by rw [hrd.ok.same, HLEN.out]; exact hlt))
      have hs8 := hrd.ok.stay _ (get_mem (k := k) (by rw [HLEN.out]; exact hlt))
      have HV := Lib.hid hv
      have HU := Lib.hid hu
      obtain ⟨AC, cc, rfl, _, hcb, hcr, _⟩ := hu
      obtain ⟨AS, cs, rfl, _, hsb, hsr, _⟩ := hv
      rw [List.length_map] at cu sv hcr hsr
      generalize hx : (fallTo s c k).cache.getD k [] = x at *
      generalize hy : (fallTo s c k).stays.getD k [] = y at *
      have HW8 := Lib.hid hw8
      have HS8 := Lib.hid hs8
      have HCR := Lib.hid hcr
      have HSR := Lib.hid hsr
      clear hrd hw8 hs8 hx hy hcr hsr
      by_cases hc0 : 0 < x.length
      · have hx8 : x.length = 128 := by have := HW8.out; omega
        rw [hx8] at cu HCR
        rw [HS8.out] at sv HSR
        rw [if_pos hc0] at HNX
        have HX8 := Lib.hid hx8
        clear hc0 hx8
        have hnn : ∃ n0 : Int, i64ok n0 ∧ n0 = if c.torn = (k : Int) then c.at_ else 0 := ⟨_, by split; exact hc.a; unfold i64ok; omega, rfl⟩
        obtain ⟨n0, hn0, hn1⟩ := hnn
        have HN1 := Lib.hid hn1
        have hkl : ∀ j (hj : j < c.keep.length), ∃ ad, KA = some ad ∧ wr.cell? (ad.add j) = some (.int .i64 (c.keep[j]'hj)) := fun j hj => by
          obtain ⟨A0, c0', e0, _, _, hr0, _⟩ := HK0.out.keep HKP.out (fun i hi => hi)
          injection e0 with e1 _ _
          subst e1
          obtain ⟨ad, e, _, hc⟩ := hr0.int_at (k := j) (by rw [List.length_map]; exact hj) (by rw [List.length_map])
          exact ⟨ad, e, hc⟩
        have HKL := Lib.hid hkl
        clear hkl
        have HN0 := Lib.hid hn0
        clear hn0 hn1
        go_upto_if 30 with (fail)
        go_cut [5] (fun v wx => v = .int .i64 n0 ∧ wr = wx)
        case first =>
          by_cases ht : c.torn = (k : Int)
          · have htt : (c.torn == (k : Int)) = true := by simp [ht]
            have hst : n0 = c.at_ := by rw [HN1.out, if_pos ht]
            have HST := Lib.hid hst
            clear ht hst
            go_wp2
            go_meet
            exact ⟨by rw [HST.out], rfl⟩
          · have htt : (c.torn == (k : Int)) = false := by simp [ht]
            have hst : n0 = 0 := by rw [HN1.out, if_neg ht]
            have HST := Lib.hid hst
            clear ht hst
            go_wp2
            go_meet
            exact ⟨by rw [HST.out], rfl⟩
        case rest =>
          obtain ⟨rfl, hwc⟩ := hcut
          subst hwc
          clear x2 x3
          go_wp2
          go_loopw [5, 6] (fun nn i wi => ∃ (j : Nat) (m : Int), j ≤ c.keep.length ∧ i = .int .i64 ((j : Nat) : Int) ∧ nn = .int .i64 m ∧ m = (if (k : Int) ∈ c.keep.take j then 128 else n0) ∧ wr = wi) (fun _ i _ => c.keep.length - (intOf i).toNat)
          case atStart => exact ⟨0, n0, Nat.zero_le _, rfl, rfl, by simp, rfl⟩
          case round =>
            obtain ⟨j, m, hj, rfl, rfl, hm, hwi⟩ := hrel
            subst hwi
            by_cases hjl : j < c.keep.length
            · obtain ⟨ad, hKA, hcell⟩ := HKL.out j hjl
              subst hKA
              have htk : c.keep.take (j + 1) = c.keep.take j ++ [c.keep[j]] := List.take_succ_eq_append_getElem hjl
              obtain ⟨z, hzj⟩ : ∃ z, c.keep[j] = z := ⟨_, rfl⟩
              rw [hzj] at hcell htk
              clear hzj
              have HTK := Lib.hid htk
              have HM := Lib.hid hm
              clear htk hm c0 c1 cu sv sf cf
              by_cases hz : z = (k : Int)
              · have hzz : (z == (k : Int)) = true := by simp [hz]
                have HZ := Lib.hid hz
                clear hz
                have hkb := HKB.out
                go_wp2
                exact ⟨⟨j + 1, 128, by omega, by go_num, rfl, by rw [HTK.out, HZ.out]; simp, trivial⟩, by simp [intOf]; omega⟩
              · have hzz : (z == (k : Int)) = false := by simp [hz]
                have HZ := Lib.hid (show ¬ (k : Int) = z from fun e => hz e.symm)
                clear hz
                have hkb := HKB.out
                go_wp2
                exact ⟨⟨j + 1, m, by omega, by go_num, rfl, by rw [HTK.out, HM.out]; simp [HZ.out], trivial⟩, by simp [intOf]; omega⟩
            · have hmN : m = stayN c k := by
                rw [hm, List.take_of_length_le (by omega), HN1.out]
                rfl
              have HMN := Lib.hid hmN
              have hmok : i64ok m := by
                rw [hm]
                split
                · unfold i64ok; omega
                · exact HN0.out
              have hml : ∀ j : Nat, j < 128 → ∃ z : UInt8, (cutAt m x y)[j]? = some z ∧ ((j : Int) < m → x[j]? = some z) ∧ (¬ (j : Int) < m → y[j]? = some z) := fun j hj => by
                have h := cutAt_at (n := m) (y := y) (HX8.out) hj
                by_cases hlt : (j : Int) < m
                · rw [if_pos hlt] at h
                  have h2 := List.getElem?_eq_getElem (l := x) (i := j) (by rw [HX8.out]; exact hj)
                  exact ⟨_, h.trans h2, fun _ => h2, fun e => absurd hlt e⟩
                · rw [if_neg hlt] at h
                  have h2 := List.getElem?_eq_getElem (l := y) (i := j) (by rw [HS8.out]; exact hj)
                  exact ⟨_, h.trans h2, fun e => absurd e hlt, fun _ => h2⟩
              have HML := Lib.hid hml
              have HLC : Hid ((cutAt m x y).length = 128) := Lib.hid (cutAt_length HX8.out HS8.out)
              have hbF : ∀ p, rfoot b gS gC p → p < wr.heap.size := fun p hp => (HRD.out.foot p hp).2.2
              have HC3 : Hid (∀ W, Below wr.heap.size wr W → W.cell? ⟨b, 0, none⟩ = some (.slice (some ⟨gS, 0, none⟩) n cS) ∧ W.cell? ⟨b, 1, none⟩ = some (.slice (some ⟨gC, 0, none⟩) n cC) ∧ W.cell? ⟨gS, k, none⟩ = some (.slice AS 128 cs) ∧ W.cell? ⟨gC, k, none⟩ = some (.slice AC 128 cc)) := Lib.hid (fun W hb => ⟨(hb.cell (hbF b (.inl rfl))).trans c0, (hb.cell (hbF b (.inl rfl))).trans c1, (hb.cell (hbF gS (.inr (.inl rfl)))).trans sv, (hb.cell (hbF gC (.inr (.inr rfl)))).trans cu⟩)
              have HXE : Hid (∀ W, Below wr.heap.size wr W → ∀ j z, x[j]? = some z → ∃ ad, AC = some ad ∧ W.cell? (ad.add j) = some (bv z)) := Lib.hid (fun W hb j z hz => by
                obtain ⟨ad, e, _, hcell⟩ := (HCR.out.below hb).2 (by omega)
                exact ⟨ad, e, hcell j (bv z) (by rw [List.getElem?_map, hz]; rfl)⟩)
              have HYE : Hid (∀ W, Below wr.heap.size wr W → ∀ j z, y[j]? = some z → ∃ ad, AS = some ad ∧ W.cell? (ad.add j) = some (bv z)) := Lib.hid (fun W hb j z hz => by
                obtain ⟨ad, e, _, hcell⟩ := (HSR.out.below hb).2 (by omega)
                exact ⟨ad, e, hcell j (bv z) (by rw [List.getElem?_map, hz]; rfl)⟩)
              have HJ0 := Lib.hid hmok.1
              have HJ1 := Lib.hid hmok.2
              clear hml hbF c0 c1 cu sv sf cf hm hmN hmok
              go_wp2
              obtain ⟨wq, hwq⟩ : ∃ wq, wq = wr := ⟨_, rfl⟩
              subst hwq
              go_loopw [7, 8] (fun bb8 i wr => ∃ (j : Nat) (A9 : Option Addr) (c9 : Nat), j ≤ 128 ∧ i = .int .i64 ((j : Nat) : Int) ∧ bb8 = .slice A9 j c9 ∧ wr.ownsRow wq.heap.size 5 1 (.slice A9 j c9) j (((cutAt m x y).take j).map bv) ∧ Below wq.heap.size wq wr) (fun _ i _ => 128 - (intOf i).toNat)
              case atStart => exact ⟨0, none, 0, Nat.zero_le _, rfl, rfl, World.ownsRow_nil _ _ _ _, Below.refl _ _⟩
              case round =>
                obtain ⟨i, A9, c9, hi8, rfl, rfl, hO, hW⟩ := hrel
                obtain ⟨e0, e1, e2, e3⟩ := HC3.out wr hW
                have HW := Lib.hid hW
                have HO := Lib.hid hO
                clear hW hO
                by_cases hi9 : i < 128
                · obtain ⟨z, hz1', hzx, hzy⟩ := HML.out i hi9
                  obtain ⟨zn, hzn⟩ : ∃ zn : Int, ((z.toNat : Nat) : Int) = zn := ⟨_, rfl⟩
                  have hbz : bv z = .int .u8 zn := by rw [← hzn]; rfl
                  have HCT : Hid (((cutAt m x y).take i).map bv ++ [.int .u8 zn] = ((cutAt m x y).take (i + 1)).map bv) := Lib.hid (by
                    have hl : i < (cutAt m x y).length := by rw [HLC.out]; exact hi9
                    rw [List.take_succ_eq_append_getElem hl, List.map_append, List.map_singleton, ← hbz]
                    have h2 := List.getElem?_eq_getElem hl
                    rw [hz1'] at h2
                    injection h2 with h2
                    rw [h2])
                  by_cases hlm : (i : Int) < m
                  · obtain ⟨ad, hA, hcell⟩ := HXE.out wr HW.out i z (hzx (by omega))
                    subst hA
                    rw [hbz] at hcell
                    clear hz1' hzx hzy hzn hbz hi8
                    go_wp2_with (first
                      | (at_builtin; refine wpList_append_any _ rfl _ _ 33 rfl wq.heap.size 5 i0 (.int .u8 0) 1 1 Try.underlying33 hi hz0 hz1 hz2 rfl (by decide) _ i _ rfl (HO.out.alloc _) (wr.heap.size + 1) (some ⟨wr.heap.size, 0, none⟩) 1 1 [.int .u8 zn] rfl (reads_one3 wr _ _) (fun u hu => by rw [List.mem_singleton.1 hu]; rfl) (by unfold maxLen; omega) (by omega) (by have := HW.out.size; simp; omega) ?_
                         intro v2 w2 o2 g2 _
                         rw [HCT.out] at o2
                         obtain ⟨A2, c2', rfl⟩ := own_slice3 o2
                         have B2 := Lib.hid ((HW.out.alloc HW.out.size _).grown g2 (by have := HW.out.size; simp; omega) (fun q e => (HO.out.lt q e).1))
                         have O2 := Lib.hid o2
                         clear g2 o2))
                    exact ⟨⟨i + 1, A2, c2', by omega, by go_num, rfl, O2.out, B2.out⟩, by simp [intOf]; omega⟩
                  · obtain ⟨ad, hA, hcell⟩ := HYE.out wr HW.out i z (hzy (by omega))
                    subst hA
                    rw [hbz] at hcell
                    clear hz1' hzx hzy hzn hbz hi8
                    go_wp2_with (first
                      | (at_builtin; refine wpList_append_any _ rfl _ _ 33 rfl wq.heap.size 5 i0 (.int .u8 0) 1 1 Try.underlying33 hi hz0 hz1 hz2 rfl (by decide) _ i _ rfl (HO.out.alloc _) (wr.heap.size + 1) (some ⟨wr.heap.size, 0, none⟩) 1 1 [.int .u8 zn] rfl (reads_one3 wr _ _) (fun u hu => by rw [List.mem_singleton.1 hu]; rfl) (by unfold maxLen; omega) (by omega) (by have := HW.out.size; simp; omega) ?_
                         intro v2 w2 o2 g2 _
                         rw [HCT.out] at o2
                         obtain ⟨A2, c2', rfl⟩ := own_slice3 o2
                         have B2 := Lib.hid ((HW.out.alloc HW.out.size _).grown g2 (by have := HW.out.size; simp; omega) (fun q e => (HO.out.lt q e).1))
                         have O2 := Lib.hid o2
                         clear g2 o2))
                    exact ⟨⟨i + 1, A2, c2', by omega, by go_num, rfl, O2.out, B2.out⟩, by simp [intOf]; omega⟩
                · obtain rfl : i = 128 := by omega
                  have R8 := Lib.hid (HRD.out.below HW.out)
                  obtain ⟨⟨v8, sv8, sf8, hv8⟩, ⟨u8, cu8, cf8, hu8⟩⟩ := R8.out.sector (k := k) (by rw [HLEN.out]; exact hlt)
                  have hbS : b ≠ gS := fun e => absurd (HRD.out.blk.typ.ne (e ▸ own_typ HRD.out.sOwn)) (by decide)
                  have hbC : b ≠ gC := fun e => absurd (HRD.out.blk.typ.ne (e ▸ own_typ HRD.out.cOwn)) (by decide)
                  have hSC := HRD.out.ne
                  have HTA : Hid ((cutAt m x y).take 128 = cutAt m x y) := Lib.hid (List.take_of_length_le (by rw [HLC.out]; exact Nat.le_refl _))
                  have hown := HO.out
                  rw [HTA.out] at hown
                  have hp1 := R8.out.putS (k := k) (l := cutAt m x y) (v := .slice A9 128 c9) HLC.out (Head.own hown) (Far.own HRD.out.lim hown)
                  have hp2 := hp1.putC (k := k) (l := []) (v := .slice none 0 0) (.inl rfl) (Head.nil _ _) Far.nil
                  have HP2 := Lib.hid hp2
                  clear hown hp1 hp2 hv8 hu8 hi8 hi9
                  go_wp2
                  have hkq := (((HKP.out.trans (Keep.of_below (S := rfoot b gS gC) HW.out) (fun _ _ h => h)).setCell ⟨gS, k, none⟩ (.slice A9 128 c9) (fun _ => .inr (.inl rfl))).setCell ⟨gC, k, none⟩ (.slice none 0 0) (fun _ => .inr (.inr rfl)))
                  exact ⟨⟨k + 1, _, _, by omega, by go_num, by rw [HNX.out, ← HMN.out]; exact HP2.out, hkq⟩, by simp [intOf]; omega⟩
      · have h0 : x.length = 0 := by omega
        rw [h0] at cu
        rw [if_neg hc0] at HNX
        clear hc0 h0
        go_wp2
        exact ⟨⟨k + 1, vs', ws', by omega, by go_num, by rw [HNX.out]; exact HRD.out, HKP.out⟩, by simp [intOf]; omega⟩
    · obtain rfl : k = n := by omega
      have c2 : wr.cell? ⟨b, 2, none⟩ = some (.int .i64 (fallTo s c k).write) := hrd.blk.cell 2
      have c3 : wr.cell? ⟨b, 3, none⟩ = some kv := hrd.blk.cell 3
      have c4 : wr.cell? ⟨b, 4, none⟩ = some (.int .i64 (fallTo s c k).torn) := hrd.blk.cell 4
      have c5 : wr.cell? ⟨b, 5, none⟩ = some (.int .i64 (fallTo s c k).at_) := hrd.blk.cell 5
      have c7 : wr.cell? ⟨b, 7, none⟩ = some (.bool (fallTo s c k).down) := hrd.blk.cell 7
      have f2 := hrd.blk.frozen 2
      have f3 := hrd.blk.frozen 3
      have f4 := hrd.blk.frozen 4
      have f5 := hrd.blk.frozen 5
      have f7 := hrd.blk.frozen 7
      clear hrd
      go_wp2
      go_end0
      have hk1 := keep_self wr b (.int .i64 0) (.slice none 0 0) (.int .i64 0) (.int .i64 0) (.bool true)
      have hb1 := ((((HRD.out.blk.set_ 2 (.int .i64 0)).set_ 3 (.slice none 0 0)).set_ 4 (.int .i64 0)).set_ 5 (.int .i64 0)).set_ 7 (.bool true)
      have hrf := HRD.out.self (s' := fallSt s c) hk1 (by unfold fallSt; rw [HN.out]) (by unfold fallSt; rw [HN.out]) (by
        have : (fallSt s c).many = (fallTo s c k).many := by unfold fallSt; rw [HN.out]
        rw [this]
        exact hb1) (Head.nil _ _) Far.nil
      exact ⟨⟨_, rfl⟩, ⟨_, _, hrf⟩, ((Keep.of_below (S := rfoot b gS gC) HB0.out).trans HKP.out (fun _ _ h => h)).trans hk1 (fun i _ e => by subst e; exact .inl rfl)⟩
end

end Go.Proofs.Ytkebbjodkhjbmaa

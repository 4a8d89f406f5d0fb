/-
  The walk of the statement NoteLogs: a statement's log out of any payloads, and what it has done, are the document's.
-/
import Derived.Test.YtdjneiboeehclaaNtLogsM
import Derived.BigQuiet
import Derived.Deep.CutBlock
import Derived.Deep.DeepCutAuto
import Derived.StillTailTactics
namespace Go.Proofs.Ytdjneiboeehclaa.noteLogs
open Go.RowKit Go.Proofs.Ytdjneiboeehclaa.crc Go.Proofs.Ytdjneiboeehclaa.root Go.Proofs.Ytdjneiboeehclaa.note

section
variable {w : World} {A : Option Addr} {n c : Nat} {ls : List (List UInt8)} {us : List Value}

set_option maxRecDepth 100000 in
theorem walk_big (st s p : Int) (ha : RArgs w A n c ls us) (h : bigL ls = true) :
    Calls Try.prog 4 #[.int .i64 st, .slice A n c, .int .i64 s, .int .i64 p] w fun e w' => e = .returned (.bool true) ∧ Below w.heap.size w w' := by
  have hG := great_any (c := c) ha.rws (by have := ha.cap; omega)
  rw [h] at hG
  have HG := Lib.hid hG
  clear hG ha h
  go_enter Try.func4, Try.ntmps4
  go_wp2_with (go_at_call 13; refine HG.out.mono ?_; rintro e _ ⟨rfl, rfl⟩)
  go_ret
  exact ⟨rfl, Below.refl _ _⟩

set_option maxRecDepth 100000 in
set_option maxHeartbeats 8000000 in
theorem walk_small (st sp pp : Int) (hs : i64ok sp) (hp : i64ok pp) (ha : RArgs w A n c ls us) (h : bigL ls = false) :
    Calls Try.prog 4 #[.int .i64 st, .slice A n c, .int .i64 sp, .int .i64 pp] w fun e w' => e = .returned (.bool true) ∧ Below w.heap.size w w' := by
  obtain ⟨i0, hi, hz0, hz1, hz2⟩ := info_parts info_rows9
  obtain ⟨j0, hj, hy0, hy1, hy2⟩ := info_parts infoU8
  have hG := great_any (c := c) ha.rws (by have := ha.cap; omega)
  rw [h] at hG
  have HG := Lib.hid hG
  obtain ⟨hn150, h100⟩ := bigL_no h
  rw [ha.len] at hn150
  have H100 := Lib.hid h100
  have HLEN := Lib.hid ha.len
  have HA := Lib.hid ha
  have HS := Lib.hid hs
  have HP := Lib.hid hp
  clear hG ha h h100 hs hp
  go_enter Try.func4, Try.ntmps4
  go_wp2_with (go_at_call 13; refine HG.out.mono ?_; rintro e _ ⟨rfl, rfl⟩)
  go_loopw [31, 9] (fun i q wr => ∃ (k : Nat) (v : Value) (vs : List Value), k ≤ n ∧ i = .int .i64 (k : Int) ∧ q = v ∧ Grows w wr (ls.take k) k v vs ∧ Sep vs) (fun i _ _ => n - (intOf i).toNat)
  case atStart => exact ⟨0, _, [], Nat.zero_le _, rfl, rfl, Grows.start w, Sep.nil⟩
  case round =>
    obtain ⟨k, v, vs, hk, rfl, rfl, hG, hSep⟩ := hrel
    obtain ⟨A3, c3, rfl⟩ := own_slice4 hG.own
    by_cases hlt : k < n
    · obtain ⟨ad, B, d, rfl, ck, hrk, hd1, hd2⟩ := (HA.out.below hG.below).one hlt
      have hkl : k < ls.length := by rw [HLEN.out]; exact hlt
      have hat : ls[k]? = some (ls.getD k []) := by rw [List.getD_eq_getElem?_getD, List.getElem?_eq_getElem hkl]; rfl
      obtain ⟨p, hp⟩ : ∃ p, ls.getD k [] = p := ⟨_, rfl⟩
      rw [hp] at ck hrk hd1 hat
      have hm100 := H100.out p (List.mem_of_getElem? hat)
      obtain ⟨m, hm⟩ : ∃ m, p.length = m := ⟨_, rfl⟩
      rw [hm] at ck hrk hd1 hm100
      have HM := Lib.hid hm
      have HTK : Hid (ls.take (k + 1) = ls.take k ++ [p]) := Lib.hid (by rw [List.take_add_one, hat]; rfl)
      have HG := Lib.hid hG
      have HSEP := Lib.hid hSep
      have hkn : (k : Int) < (n : Int) := by omega
      have KE : Hid (Below wr.heap.size wr (wr.alloc (.cells #[] 5))) := Lib.hid ((Below.refl _ _).alloc (Nat.le_refl _) _)
      have HSRC : Hid (Reads (wr.alloc (.cells #[] 5)) wr.heap.size 1 B m (p.map bv)) := Lib.hid (hrk.alloc (Nat.le_refl _) _)
      have HB1 : Hid (∀ u ∈ p.map bv, u.oneCell' = true) := Lib.hid (bv_one p)
      have ck := (World.cell?_alloc_lt wr (.cells #[] 5) _ (lt_of_cell ck)).trans ck
      clear hG hSep hrk hat hp hm hkl hd1 hd2
      go_wp2_with (first
        | (at_builtin; (have l0 := P5.out; clear l0); refine wpList_append_any _ rfl _ _ 35 rfl w.heap.size 24 i0 (.slice none 0 0) 1 24 Try.underlying35 hi hz0 hz1 hz2 rfl (by decide) (.slice A3 k c3) k vs rfl (own_stay (HG.out.next K5.out).own ((Below.refl _ w5).alloc (Nat.le_refl _) _)) _ (some ⟨w5.heap.size, 0, none⟩) 1 1 [.slice A5 m c5] rfl (HR6.out _) (fun u hu => by rw [List.mem_singleton.1 hu]; rfl) (by unfold maxLen; omega) (by omega) (by have := HG.out.below.size; have := K5.out.size; simp; omega) ?_
           intro v7 w7 o7 g7 _
           have hgr := HG.out.more (l := p) (W3 := w7) (v' := v7) (A := A5) (c := c5) (K5.out.alloc K5.out.size (.cells #[.slice A5 m c5] 24)) (by rw [HM.out]; exact own_mono (own_stay P5.out ((Below.refl _ w5).alloc (Nat.le_refl _) _)) HG.out.below.size) (by rw [HM.out]; exact o7) g7
           have hsp := HSEP.out.snoc (u := .slice A5 p.length c5) (B := wr.heap.size) (fun v hv g e => (Grows.lt HG.out v hv g e).2.1) (fun g e => by rw [HM.out] at e; exact (own_is P5.out g e).1)
           rw [← HTK.out] at hgr
           have HGR := Lib.hid hgr
           have HSP := Lib.hid hsp
           clear o7 g7 hgr hsp)
        | (at_builtin; refine wpList_append_any _ rfl _ _ 24 rfl wr.heap.size 5 j0 (.int .u8 0) 1 1 Try.underlying24 hj hy0 hy1 hy2 rfl (by decide) (.slice (some ⟨wr.heap.size, 0, none⟩) 0 0) 0 (([] : List UInt8).map bv) rfl (own_emptyU wr) wr.heap.size B m d (p.map bv) rfl HSRC.out HB1.out (by unfold maxLen; omega) (by omega) (by simp) ?_
           intro v5 w5 o5 g5 _
           obtain ⟨A5, c5, rfl, p5, k5⟩ := app_out (p := m) KE.out (own_emptyU wr) o5 g5 (by omega) (List.nil_append _)
           have K5 := Lib.hid k5
           have P5 := Lib.hid p5
           have HR6 := Lib.hid (fun u => Reads.of_own (own_one_rows w5 w5.heap.size (Nat.le_refl _) u))
           clear o5 g5 p5 k5))
      go_roundw
      case rel => exact ⟨k + 1, v7, _, by omega, by go_num, rfl, HGR.out, HSP.out⟩
      case measure => simp [intOf]; omega
    · obtain rfl : k = n := by omega
      have htk : ls.take k = ls := by rw [← HLEN.out]; exact List.take_length
      rw [htk] at hG
      have HGR := Lib.hid hG
      have HSEP := Lib.hid hSep
      have HNW := Lib.hid (nnew_any st (c := c3) hG.rws (by omega) (own_cap9 hG.own))
      obtain ⟨ns, hns⟩ : ∃ ns, notesN st ls = ns := ⟨_, rfl⟩
      obtain ⟨bg, hbg⟩ : ∃ bg, begunN st ls = bg := ⟨_, rfl⟩
      obtain ⟨g, hg⟩ : ∃ g, ns.length = g := ⟨_, rfl⟩
      have hnle : g ≤ k := by rw [← hg, ← hns, ← HLEN.out]; exact notesN_le st ls
      rw [hns, hbg] at HNW
      have HGL := Lib.hid hg
      have HNT := Lib.hid (fun W (h : Below wr.heap.size wr W) => r9notes_any st (w := W) (HA.out.below (HGR.out.below.trans (h.mono HGR.out.below.size))) (by omega))
      rw [hns, hbg] at HNT
      clear hG hSep htk hns hbg hg hlt hk
      go_upto_region 11 with (first
        | (go_at_call 14; refine HNW.out.mono ?_; rintro e w2 ⟨b, mf, md, v2, rfl, hl, b2⟩
           have K2 := Lib.hid b2
           have L2 := Lib.hid hl
           clear b2 hl)
        | (go_at_call 15; refine (HNT.out w2 K2.out).mono ?_; rintro e w3 ⟨A7, c7, rfl, o7, b3⟩
           have K3 := Lib.hid b3
           have L3 := Lib.hid (L2.out.below b3)
           rw [HGL.out] at o7
           have O3 := Lib.hid o7
           clear o7 b3))
      rw [HGL.out]
      have K13 := Lib.hid (K2.out.trans (K3.out.mono K2.out.size))
      have hrow := HGR.out.own
      have hSBt : ∀ q, SB vs q → w.heap.size ≤ q ∧ q < wr.heap.size ∧ Typ wr q 5 := fun q ⟨u, hu, e⟩ => Grows.lt HGR.out u hu q e
      have HSBT := Lib.hid hSBt
      obtain ⟨w1, hw1⟩ : ∃ w1, wr = w1 := ⟨_, rfl⟩
      subst hw1
      have HROW : Hid (∀ W, Keep (SB vs) w3 W → W.ownsRow w.heap.size 24 1 (.slice A3 k c3) k vs) := Lib.hid (fun W hk => hk.own (own_stay hrow K13.out) (fun q e hq => by
        have h1 := (hSBt q hq).2.2
        exact absurd ((own_typ9 hrow q e).ne h1) (by decide)))
      have HARG : Hid (∀ W, Keep (SB vs) w3 W → RArgs W A k c ls us) := Lib.hid (fun W hk => HA.out.below ((HGR.out.below.trans (K13.out.mono HGR.out.below.size)).trans (hk.below (Nat.le_trans HGR.out.below.size K13.out.size) (fun i hi e => by have := (hSBt i e).1; omega))))
      clear hrow hSBt
      go_wp2
      go_loopw [55] (fun i W => ∃ j : Nat, j ≤ k ∧ i = .int .i64 (j : Int) ∧ Keep (SB vs) w3 W ∧ OL w.heap.size W ls vs j) (fun i _ => k - (intOf i).toNat)
      case atStart => exact ⟨0, Nat.zero_le _, rfl, Keep.refl _ _, (OL.of HGR.out).keep (Keep.of_below (S := fun _ => False) K13.out) (fun _ _ _ _ _ _ e => e)⟩
      case round =>
        obtain ⟨j, hj, rfl, hkw, hol⟩ := hrel
        by_cases hlt : j < k
        case pos =>
          have hjl : j < ls.length := by rw [HLEN.out]; exact hlt
          obtain ⟨p, hp⟩ : ∃ p, ls[j]? = some p := ⟨_, List.getElem?_eq_getElem hjl⟩
          obtain ⟨B, d, hv, hro⟩ := hol j p (Nat.le_refl _) hp
          have hgd : ls.getD j [] = p := by rw [List.getD_eq_getElem?_getD, hp]; rfl
          obtain ⟨ad, B', d', rfl, ca, hra, _, _⟩ := (HARG.out wr hkw).one hlt
          rw [hgd] at ca hra
          obtain ⟨m, hm⟩ : ∃ m, p.length = m := ⟨_, rfl⟩
          rw [hm] at hv hro ca hra
          have hm100 : m ≤ 100 := by rw [← hm]; exact H100.out p (List.mem_of_getElem? hp)
          obtain ⟨g9, rfl⟩ := own_some (HROW.out wr hkw) (by omega)
          obtain ⟨cr, _⟩ := own_atS (HROW.out wr hkw) hv
          have PP : Hid ((p == p) = true) := Lib.hid (by simp)
          have HC : Hid (∀ W, Below wr.heap.size wr W → W.cell? ⟨g9, j, none⟩ = some (.slice B m d) ∧ W.cell? (ad.add j) = some (.slice B' m d') ∧ (convert 24 9 (.slice B m d)).run Try.prog W = .ok (.string ⟨p.toArray⟩) W ∧ (convert 24 9 (.slice B' m d')).run Try.prog W = .ok (.string ⟨p.toArray⟩) W) := Lib.hid (fun W hb =>
            ⟨(hb.cell (p := ⟨g9, j, none⟩) (lt_of_cell cr)).trans cr, (hb.cell (lt_of_cell ca)).trans ca, conv_reads d (Reads.of_own (own_stay hro hb)), conv_reads d' (hra.below hb)⟩)
          have HKW := Lib.hid hkw
          have HOL := Lib.hid hol
          have HRO := Lib.hid hro
          have HV := Lib.hid hv
          have HM := Lib.hid hm
          have hjk : (j : Int) < (k : Int) := by omega
          clear hkw hol hro hra cr ca hv hm hp hgd hjl hlt hj
          go_wp2
          refine wp_region_steps_on (fun W => Below wr.heap.size wr W) (fun i v _ => v = ([.slice (some ⟨g9, 0, none⟩) k c3, .int .i64 (j : Int), .pointer (some ⟨g9, j, none⟩), .slice B m d, .string ⟨p.toArray⟩, .slice (some ad) k c, .int .i64 (j : Int), .pointer (some (ad.add j)), .slice B' m d', .string ⟨p.toArray⟩, .bool false] : List Value).getD i undef) (by kernel_rfl) 185 rfl (by kernel_rfl) ((Below.refl _ wr).drew) ?_ ?_
          · intro i hi
            have hi2 : i < 11 := hi
            clear hi
            rcases i with _ | i
            · refine step_value (.slice (some ⟨g9, 0, none⟩) k c3) rfl ?_
              intro a8 w8 hS ho hn
              have o9 : a8.tmps[9]? = some _ := (ho 9 (by kernel_rfl)).trans rfl
              clear ho hn
              refine ⟨wanted_free rfl, ?_, rfl⟩
              go_simp
            rcases i with _ | i
            · refine step_value (.int .i64 (j : Int)) rfl ?_
              intro a8 w8 hS ho hn
              have o14 : a8.tmps[14]? = some _ := (ho 14 (by kernel_rfl)).trans rfl
              clear ho hn
              refine ⟨wanted_free rfl, ?_, rfl⟩
              go_simp
            rcases i with _ | i
            · refine step_value (.pointer (some ⟨g9, j, none⟩)) rfl ?_
              intro a8 w8 hS ho hn
              obtain ⟨_, n58, rfl⟩ := hn 0 58 (by kernel_rfl) rfl
              obtain ⟨_, n59, rfl⟩ := hn 1 59 (by kernel_rfl) rfl
              clear ho hn
              refine ⟨wanted_free rfl, ?_, rfl⟩
              go_simp
            rcases i with _ | i
            · refine step_value (.slice B m d) rfl ?_
              intro a8 w8 hS ho hn
              obtain ⟨_, n60, rfl⟩ := hn 2 60 (by kernel_rfl) rfl
              clear ho hn
              refine ⟨wanted_free rfl, ?_, rfl⟩
              have h1 := (HC.out w8 hS).1
              go_simp
            rcases i with _ | i
            · refine step_value (.string ⟨p.toArray⟩) rfl ?_
              intro a8 w8 hS ho hn
              obtain ⟨_, n61, rfl⟩ := hn 3 61 (by kernel_rfl) rfl
              clear ho hn
              refine ⟨wanted_free rfl, ?_, rfl⟩
              have h1 := (HC.out w8 hS).2.2.1
              go_simp
            rcases i with _ | i
            · refine step_value (.slice (some ad) k c) rfl ?_
              intro a8 w8 hS ho hn
              have o1 : a8.tmps[1]? = some _ := (ho 1 (by kernel_rfl)).trans rfl
              clear ho hn
              refine ⟨wanted_free rfl, ?_, rfl⟩
              go_simp
            rcases i with _ | i
            · refine step_value (.int .i64 (j : Int)) rfl ?_
              intro a8 w8 hS ho hn
              have o14 : a8.tmps[14]? = some _ := (ho 14 (by kernel_rfl)).trans rfl
              clear ho hn
              refine ⟨wanted_free rfl, ?_, rfl⟩
              go_simp
            rcases i with _ | i
            · refine step_value (.pointer (some (ad.add j))) rfl ?_
              intro a8 w8 hS ho hn
              obtain ⟨_, n63, rfl⟩ := hn 5 63 (by kernel_rfl) rfl
              obtain ⟨_, n64, rfl⟩ := hn 6 64 (by kernel_rfl) rfl
              clear ho hn
              refine ⟨wanted_free rfl, ?_, rfl⟩
              go_simp
            rcases i with _ | i
            · refine step_value (.slice B' m d') rfl ?_
              intro a8 w8 hS ho hn
              obtain ⟨_, n65, rfl⟩ := hn 7 65 (by kernel_rfl) rfl
              clear ho hn
              refine ⟨wanted_free rfl, ?_, rfl⟩
              have h1 := (HC.out w8 hS).2.1
              go_simp
            rcases i with _ | i
            · refine step_value (.string ⟨p.toArray⟩) rfl ?_
              intro a8 w8 hS ho hn
              obtain ⟨_, n66, rfl⟩ := hn 8 66 (by kernel_rfl) rfl
              clear ho hn
              refine ⟨wanted_free rfl, ?_, rfl⟩
              have h1 := (HC.out w8 hS).2.2.2
              go_simp
            rcases i with _ | i
            · refine step_value (.bool false) rfl ?_
              intro a8 w8 hS ho hn
              obtain ⟨_, n62, rfl⟩ := hn 4 62 (by kernel_rfl) rfl
              obtain ⟨_, n67, rfl⟩ := hn 9 67 (by kernel_rfl) rfl
              clear ho hn
              refine ⟨wanted_free rfl, ?_, rfl⟩
              have h1 := PP.out
              go_simp
            omega
          · intro f wA hS hR
            have h68 : f 68 = _ := hR 10 68 rfl
            simp only [putAll, List.foldl_cons, List.foldl_nil, Act.put, List.setIfInBounds_toArray, List.set_cons_succ, List.set_cons_zero, h68, List.getD_cons_zero, List.getD_cons_succ]
            clear hR h68
            have HKA := Lib.hid (HKW.out.trans (Keep.of_below (S := fun _ => False) hS) (fun _ _ e => e.elim))
            have HOA := Lib.hid (HOL.out.keep (Keep.of_below (S := fun _ => False) hS) (fun _ _ _ _ _ _ e => e))
            have HRA := Lib.hid (own_stay HRO.out hS)
            obtain ⟨ca1, _, _, _⟩ := HC.out wA hS
            clear hS HC
            go_wp2
            clear ca1
            go_loopw [74] (fun q W => ∃ t : Nat, t ≤ m ∧ q = .int .i64 (t : Int) ∧ Keep (SB vs) w3 W ∧ OL w.heap.size W ls vs (j + 1) ∧ RowK w.heap.size W B m d p t) (fun q _ => m - (intOf q).toNat)
            case atStart => exact ⟨0, Nat.zero_le _, rfl, HKA.out, HOA.out.succ, _, HRA.out, fun _ _ => rfl⟩
            case round =>
              obtain ⟨t, ht, rfl, hkw, hol, hrk⟩ := hrel
              by_cases hlt : t < m
              case pos =>
                obtain ⟨xs, hxo, hxq⟩ := id hrk
                obtain ⟨gb, rfl⟩ := own_some hxo (by omega)
                have hpt : t < p.length := by have := HM.out; omega
                have hx : xs[t]? = some (bv p[t]) := by rw [hxq t (Nat.le_refl _), List.getElem?_map, List.getElem?_eq_getElem hpt]; rfl
                obtain ⟨cx, fx⟩ := own_atS hxo hx
                obtain ⟨cr, _⟩ := own_atS (HROW.out wr hkw) HV.out
                obtain ⟨x, hxx⟩ : ∃ x : Nat, p[t].toNat = x := ⟨_, rfl⟩
                have hxb : bv p[t] = .int .u8 (x : Int) := by rw [← hxx]; rfl
                rw [hxb] at cx
                have hx256 : x < 256 := by rw [← hxx]; exact UInt8.toNat_lt _
                obtain ⟨y, hy⟩ : ∃ y : Nat, (x + 1) % 256 = y := ⟨_, rfl⟩
                have hw : IntKind.u8.wrap ((x : Int) + 1) = (y : Int) := by
                  rw [← hy]
                  show ((x : Int) + 1) % 256 = (((x + 1) % 256 : Nat) : Int)
                  omega
                have hmem : SB vs gb := ⟨_, List.mem_of_getElem? HV.out, rfl⟩
                have HFIN : Hid (Keep (SB vs) w3 (wr.drew.setCell ⟨gb, t, none⟩ (.int .u8 (y : Int))) ∧ OL w.heap.size (wr.drew.setCell ⟨gb, t, none⟩ (.int .u8 (y : Int))) ls vs (j + 1) ∧ RowK w.heap.size (wr.drew.setCell ⟨gb, t, none⟩ (.int .u8 (y : Int))) (some ⟨gb, 0, none⟩) m d p (t + 1)) := Lib.hid
                  ⟨hkw.drew.setCell _ _ (fun _ => hmem), hol.keep (S := fun i => i = gb) ((Keep.refl _ wr).drew.setCell _ _ (fun _ => rfl)) (fun i u q hij hu hq e => HSEP.out j i _ u (by omega) HV.out hu gb rfl (by rw [hq, e])), hrk.drew.store _⟩
                have htm : (t : Int) < (m : Int) := by omega
                clear hxo hxq hx hpt hxx hxb hy hmem hkw hol hrk hlt ht
                go_wp2
                go_still_tail 14, (by kernel_rfl)
                change wpList _ _ _ _ _ wr.drew
                go_wp2
                go_roundw
                case rel => exact ⟨t + 1, by omega, by go_num, HFIN.out⟩
                case measure => simp [intOf]; omega
              case neg =>
                obtain rfl : t = m := by omega
                have HF := Lib.hid (And.intro hkw hol)
                clear hkw hol hrk hlt ht
                go_wp2
                go_roundw
                case rel => exact ⟨j + 1, by omega, by go_num, HF.out.1, HF.out.2⟩
                case measure => simp [intOf]; omega
        case neg =>
          obtain rfl : j = k := by omega
          have L4 := Lib.hid (L3.out.elder hkw (fun q hq => (HSBT.out q hq).2.1))
          have O4 := Lib.hid (hkw.own O3.out (fun q e hq => by have h1 := (HSBT.out q hq).2.1; have h2 := (own_is O3.out q e).1; have := K2.out.size; omega))
          have HKB : Hid (Below w.heap.size w wr) := Lib.hid ((HGR.out.below.trans (K13.out.mono HGR.out.below.size)).trans (hkw.below (Nat.le_trans HGR.out.below.size K13.out.size) (fun i hi e => by have := (HSBT.out i e).1; omega)))
          have hnt := lnotes_any L4.out
          rw [HGL.out] at hnt
          have HNT2 := Lib.hid hnt
          clear hkw hol hlt hj hnt
          go_upto_region 24 with (first
            | (go_at_call 16; refine HNT2.out.mono ?_; rintro e w5 ⟨A5, c5, rfl, o5, b5⟩
               have B5 := Lib.hid b5
               have G5 := Lib.hid o5
               have HSM := Lib.hid (r9same_any A5 A7 c5 c7 g g ns ns w5 HGL.out HGL.out (Reads.of_own o5) (Reads.of_own (own_stay O4.out b5)) (by omega) (by omega))
               clear o5 b5)
            | (go_at_call 17; refine HSM.out.mono ?_; rintro e w6 ⟨rfl, b6⟩
               have B6 := Lib.hid (B5.out.trans (b6.mono B5.out.size))
               have G6 := Lib.hid (own_stay G5.out b6)
               clear b6))
          go_wp2
          go_loopw [100] (fun i W => ∃ (q : Nat) (xs : List Value), q ≤ g ∧ i = .int .i64 (q : Int) ∧ Below wr.heap.size wr W ∧ W.ownsRow wr.heap.size 23 4 (.slice A5 g c5) g xs) (fun i _ => g - (intOf i).toNat)
          case atStart => exact ⟨0, _, Nat.zero_le _, rfl, B6.out, G6.out⟩
          case round =>
            obtain ⟨q, xs, hq, rfl, hbW, hxo⟩ := hrel
            by_cases hlt : q < g
            case pos =>
              obtain ⟨g5, rfl⟩ := own_some hxo (by omega)
              have hxl : xs.length = g * 4 := hxo.1
              have hq4 : q * 4 < xs.length := by omega
              obtain ⟨cx, fx⟩ := own_atS hxo (List.getElem?_eq_getElem hq4)
              generalize xs[q * 4] = x0 at cx
              have hlo := (own_is hxo g5 rfl).1
              have HFIN := Lib.hid (And.intro (hbW.setCell (p := ⟨g5, q * 4, none⟩) hlo (.int .i64 99)) (own_putS (j := q * 4) hxo (.int .i64 99)))
              have hqg : (q : Int) < (g : Int) := by omega
              clear hbW hxo hlo hxl hq4 hlt hq
              go_wp2
              go_roundw
              case rel => exact ⟨q + 1, _, by omega, by go_num, HFIN.out.1, HFIN.out.2⟩
              case measure => simp [intOf]; omega
            case neg =>
              obtain rfl : q = g := by omega
              have L7 := Lib.hid (L4.out.below hbW)
              have O7 := Lib.hid (own_stay O4.out hbW)
              have K7 := Lib.hid (HKB.out.trans (hbW.mono HKB.out.size))
              obtain ⟨v1, hv1⟩ : ∃ v, (fileN ns 2 sp pp).getD 0 = v := ⟨_, rfl⟩
              obtain ⟨v2, hv2⟩ : ∃ v, (fileN ns 2 sp pp).isSome = v := ⟨_, rfl⟩
              obtain ⟨v3, hv3⟩ : ∃ v, (fileN ns 3 sp pp).getD 0 = v := ⟨_, rfl⟩
              obtain ⟨v4, hv4⟩ : ∃ v, (fileN ns 3 sp pp).isSome = v := ⟨_, rfl⟩
              obtain ⟨D, hD⟩ : ∃ D : Int, (doneN ns sp : Int) = D := ⟨_, rfl⟩
              obtain ⟨SS, hSS⟩ : ∃ S, stepsN ns = S := ⟨_, rfl⟩
              have HV := Lib.hid (And.intro hv1 (And.intro hv2 (And.intro hv3 (And.intro hv4 (And.intro hD hSS)))))
              have HOK := Lib.hid L4.out.ok
              have h1 := ltile_any L7.out sp pp HS.out HP.out
              rw [hv1, hv2] at h1
              have HC1 := Lib.hid h1
              clear hbW hxo hlt hq hv1 hv2 hv3 hv4 hD hSS h1
              go_wp2_with (first
                | (go_at_call 17; (have l0 := Z10.out; clear l0); refine HC11.out.mono ?_; rintro e w12 ⟨rfl, b12⟩
                   have K12 := Lib.hid (K11.out.trans (b12.mono K11.out.size))
                   clear b12)
                | (go_at_call 16; (have l0 := Z9.out; clear l0); refine HC10.out.mono ?_; rintro e w11 ⟨A11, c11, rfl, o11, b11⟩
                   have K11 := Lib.hid (K10.out.trans (b11.mono K10.out.size))
                   have HC11 := Lib.hid (r9same_any A11 A7 c11 c7 q q ns ns w11 HGL.out HGL.out (Reads.of_own o11) (Reads.of_own (own_stay O10.out b11)) (by omega) (by omega))
                   have Z10 : Hid (10 = 10) := Lib.hid rfl
                   clear o11 b11)
                | (go_at_call 25; (have l0 := Z8.out; clear l0); refine HC9.out.mono ?_; rintro e _ ⟨rfl, rfl⟩
                   have h := lnotes_any L10.out
                   rw [HGL.out] at h
                   have HC10 := Lib.hid h
                   have Z9 : Hid (9 = 9) := Lib.hid rfl
                   clear h)
                | (go_at_call 24; (have l0 := Z7.out; clear l0); refine HC8.out.mono ?_; rintro e _ ⟨rfl, rfl⟩
                   have h := r9steps_any A7 c7 q ns w10 HGL.out (Reads.of_own O10.out) HOK.out (by omega)
                   rw [HV.out.2.2.2.2.2] at h
                   have HC9 := Lib.hid h
                   have Z8 : Hid (8 = 8) := Lib.hid rfl
                   clear h)
                | (go_at_call 23; (have l0 := Z6.out; clear l0); refine HC7.out.mono ?_; rintro e w10 ⟨rfl, b10⟩
                   have K10 := Lib.hid (K9.out.trans (b10.mono K9.out.size))
                   have L10 := Lib.hid (L9.out.below b10)
                   have O10 := Lib.hid (own_stay O9.out b10)
                   have h := lsteps_any L10.out
                   rw [HV.out.2.2.2.2.2] at h
                   have HC8 := Lib.hid h
                   have Z7 : Hid (7 = 7) := Lib.hid rfl
                   clear h b10)
                | (go_at_call 22; (have l0 := Z5.out; clear l0); refine HC6.out.mono ?_; rintro e _ ⟨rfl, rfl⟩
                   have h := r9done_any A7 c7 q ns sp w9 HGL.out (Reads.of_own O9.out) (by omega)
                   rw [HV.out.2.2.2.2.1] at h
                   have HC7 := Lib.hid h
                   have Z6 : Hid (6 = 6) := Lib.hid rfl
                   clear h)
                | (go_at_call 21; (have l0 := Z4.out; clear l0); refine HC5.out.mono ?_; rintro e _ ⟨rfl, rfl⟩
                   have h := ldone_any L9.out sp HS.out
                   rw [HV.out.2.2.2.2.1] at h
                   have HC6 := Lib.hid h
                   have Z5 : Hid (5 = 5) := Lib.hid rfl
                   clear h)
                | (go_at_call 19; (have l0 := Z3.out; clear l0); refine HC4.out.mono ?_; rintro e _ ⟨rfl, rfl⟩
                   have HC5 := Lib.hid (lbegun_any L9.out)
                   have Z4 : Hid (4 = 4) := Lib.hid rfl)
                | (go_at_call 20; (have l0 := Z2.out; clear l0); refine HC3.out.mono ?_; rintro e w9 ⟨rfl, b9⟩
                   have K9 := Lib.hid (K8.out.trans (b9.mono K8.out.size))
                   have L9 := Lib.hid (L8.out.below b9)
                   have O9 := Lib.hid (own_stay O8.out b9)
                   have h := r9file_any A7 c7 q ns 3 sp pp w9 HGL.out (Reads.of_own O9.out) (by omega)
                   rw [HV.out.2.2.1, HV.out.2.2.2.1] at h
                   have HC4 := Lib.hid h
                   have Z3 : Hid (3 = 3) := Lib.hid rfl
                   clear h b9)
                | (go_at_call 19; (have l0 := Z1.out; clear l0); refine HC2.out.mono ?_; rintro e _ ⟨rfl, rfl⟩
                   have h := lrun_any L8.out sp pp HS.out HP.out
                   rw [HV.out.2.2.1, HV.out.2.2.2.1] at h
                   have HC3 := Lib.hid h
                   have Z2 : Hid (2 = 2) := Lib.hid rfl
                   clear h)
                | (go_at_call 18; refine HC1.out.mono ?_; rintro e w8 ⟨rfl, b8⟩
                   have K8 := Lib.hid (K7.out.trans (b8.mono K7.out.size))
                   have L8 := Lib.hid (L7.out.below b8)
                   have O8 := Lib.hid (own_stay O7.out b8)
                   have h := r9file_any A7 c7 q ns 2 sp pp w8 HGL.out (Reads.of_own O8.out) (by omega)
                   rw [HV.out.1, HV.out.2.1] at h
                   have HC2 := Lib.hid h
                   have Z1 : Hid (1 = 1) := Lib.hid rfl
                   clear h b8))
              go_ret
              exact ⟨by simp, K12.out⟩

/-- As the end calls it. -/
theorem call (st : Int) (_ : -9223372036854775808 ≤ st) (_ : st ≤ 9223372036854775807) (A : Option Addr) (n c : Nat) (ls : List (List UInt8)) (us : List Value) {W : World} (ha : RArgs W A n c ls us) (s : Int) (h1 : -9223372036854775808 ≤ s) (h2 : s ≤ 9223372036854775807) (p : Int) (h3 : -9223372036854775808 ≤ p) (h4 : p ≤ 9223372036854775807) :
    Calls Try.prog 4 #[.int .i64 st, .slice A n c, .int .i64 s, .int .i64 p] W fun e w' => e = .returned (.bool true) ∧ Below W.heap.size W w' := by
  cases h : bigL ls
  · exact walk_small st s p (by unfold i64ok; omega) (by unfold i64ok; omega) ha h
  · exact walk_big st s p ha h
end
end Go.Proofs.Ytdjneiboeehclaa.noteLogs

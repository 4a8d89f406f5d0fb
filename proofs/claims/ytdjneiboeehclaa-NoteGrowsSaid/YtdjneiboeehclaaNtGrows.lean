/-
  The walk of the statement NoteGrows: a log of fewer payloads has the first ones of its notes, and all that it has done is done with more notes, too; a tile that is noted is done.
-/
import Derived.Test.YtdjneiboeehclaaNtMore
import Derived.Test.YtdjneiboeehclaaNtRefN
import Derived.BigQuiet
import Derived.Deep.CutBlock
import Derived.Deep.DeepCutAuto
namespace Go.Proofs.Ytdjneiboeehclaa.noteGrows
open Go.RowKit Go.Proofs.Ytdjneiboeehclaa.crc Go.Proofs.Ytdjneiboeehclaa.root Go.Proofs.Ytdjneiboeehclaa.note

section
variable {w : World} {A : Option Addr} {n c : Nat} {ls : List (List UInt8)} {us : List Value}

theorem good_of_bad {p : Prop} (h : false = true ↔ ¬ p) : p := Classical.byContradiction fun hn => by cases h.2 hn
theorem tile2 (ns : List NV) (x : NV) (hx : x.k = 2) : fileN (ns ++ [x]) 2 x.a x.b = some x.n := by rw [fileN_snoc, if_pos ⟨hx, rfl, rfl⟩]

set_option maxRecDepth 100000 in
set_option maxHeartbeats 2000000 in
theorem walk_big (st : Int) (z : Nat) (x : NV) (ha : RArgs w A n c ls us) (h : bigL ls = true) :
    Calls Try.prog 7 #[.int .i64 st, .slice A n c, .int .u8 (z : Int), nv x] w fun e w' => e = .returned (.bool true) ∧ Below w.heap.size w w' := by
  obtain ⟨w0, hw0⟩ : ∃ w0, w.alloc (.cells #[.int .i64 x.k, .int .i64 x.a, .int .i64 x.b, .int .i64 x.n] 23) = w0 := ⟨_, rfl⟩
  have hb0 : Below w.heap.size w w0 := by rw [← hw0]; exact (Below.refl _ w).alloc (Nat.le_refl _) _
  have hx0 : Blk w0 w.heap.size 23 #[.int .i64 x.k, .int .i64 x.a, .int .i64 x.b, .int .i64 x.n] := by rw [← hw0]; exact Blk.new w _ _
  have HAL := Lib.hid (nalive_any w0)
  have HB0 := Lib.hid hb0
  have HARG := Lib.hid (fun W (h : Below w0.heap.size w0 W) => ha.below (hb0.trans (h.mono hb0.size)))
  have HG := Lib.hid (fun W (h : Below w0.heap.size w0 W) => great_any (c := c) (HARG.out W h).rws (by have := ha.cap; omega))
  unfold nv
  rw [h] at HG
  clear hx0 hb0 ha h
  go_enter Try.func7, Try.ntmps7
  go_wp2_with (first
    | (go_at_call 27; refine HAL.out.mono ?_; rintro e w1 ⟨rfl, b1⟩; have K1 := Lib.hid b1; clear b1 hw0)
    | (go_at_call 13; refine (HG.out w1 K1.out).mono ?_; rintro e _ ⟨rfl, rfl⟩))
  go_ret
  exact ⟨rfl, HB0.out.trans (K1.out.mono HB0.out.size)⟩

set_option maxRecDepth 100000 in
set_option maxHeartbeats 8000000 in
theorem walk_small (st : Int) (z : Nat) (x : NV) (hz8 : z < 256) (hfx : x.Fine) (ha : RArgs w A n c ls us) (h1 : bigL ls = false) :
    Calls Try.prog 7 #[.int .i64 st, .slice A n c, .int .u8 (z : Int), nv x] w fun e w' => e = .returned (.bool true) ∧ Below w.heap.size w w' := by
  obtain ⟨i0, hi, hz0, hz1, hz2⟩ := info_parts info_rows9
  obtain ⟨w0, hw0⟩ : ∃ w0, w.alloc (.cells #[.int .i64 x.k, .int .i64 x.a, .int .i64 x.b, .int .i64 x.n] 23) = w0 := ⟨_, rfl⟩
  have hb0 : Below w.heap.size w w0 := by rw [← hw0]; exact (Below.refl _ w).alloc (Nat.le_refl _) _
  have hx0 : Blk w0 w.heap.size 23 #[.int .i64 x.k, .int .i64 x.a, .int .i64 x.b, .int .i64 x.n] := by rw [← hw0]; exact Blk.new w _ _
  have HAL := Lib.hid (nalive_any w0)
  have HB0 := Lib.hid hb0
  have HARG := Lib.hid (fun W (h : Below w0.heap.size w0 W) => ha.below (hb0.trans (h.mono hb0.size)))
  have HG := Lib.hid (fun W (h : Below w0.heap.size w0 W) => great_any (c := c) (HARG.out W h).rws (by have := ha.cap; omega))
  rw [h1] at HG
  have hn150 : n ≤ 150 := by have := (bigL_no h1).1; rw [ha.len] at this; exact this
  have hc := ha.cap
  obtain ⟨k, hk⟩ : ∃ k, z % (n + 1) = k := ⟨_, rfl⟩
  have hkn : k ≤ n := by have := Nat.mod_lt z (show 0 < n + 1 by omega); omega
  have et : (z : Int).tmod ((n : Int) + 1) = (k : Int) := by
    rw [← hk]
    have := Int.ofNat_tmod z (n + 1)
    exact this.symm
  have hkc : (k : Int) ≤ (c : Int) := by omega
  have HNF := Lib.hid (fun W (h : Below w0.heap.size w0 W) => nnew_any st (c := c) ((HARG.out W h).front hkn) (by omega) ⟨by omega, hc.2⟩)
  have HNA := Lib.hid (fun W (h : Below w0.heap.size w0 W) => nnew_any st (c := c) (HARG.out W h).rws (by omega) hc)
  have HLEN := Lib.hid ha.len
  obtain ⟨na, hna⟩ : ∃ ns, notesN st (ls.take k) = ns := ⟨_, rfl⟩
  obtain ⟨nb, hnb⟩ : ∃ ns, notesN st ls = ns := ⟨_, rfl⟩
  obtain ⟨bf, hbf⟩ : ∃ bg, begunN st (ls.take k) = bg := ⟨_, rfl⟩
  obtain ⟨bg, hbg⟩ : ∃ bg, begunN st ls = bg := ⟨_, rfl⟩
  rw [hna, hbf] at HNF
  rw [hnb, hbg] at HNA
  have hpre : na <+: nb := by rw [← hna, ← hnb]; exact notes_prefix st ls k
  have hbb : (bf = true → bg = true ∧ 0 < k) ∧ (bg = true → bf = true ∨ k = 0) := by
    rcases Nat.eq_zero_or_pos k with h0 | h0
    · subst h0
      have e : bf = false := by rw [← hbf, List.take_zero]; rfl
      rw [e]
      exact ⟨(fun h => by cases h), fun _ => .inr rfl⟩
    · have e : bf = bg := by rw [← hbf, ← hbg]; exact begun_take h0
      rw [e]
      exact ⟨fun h => ⟨h, h0⟩, fun h => .inl h⟩
  have hnble : nb.length ≤ n := by rw [← hnb, ← ha.len]; exact notesN_le st ls
  obtain ⟨ga, hga⟩ : ∃ g, na.length = g := ⟨_, rfl⟩
  obtain ⟨gb, hgb⟩ : ∃ g, nb.length = g := ⟨_, rfl⟩
  have hab : ga ≤ gb := by rw [← hga, ← hgb]; exact hpre.length_le
  rw [hgb] at hnble
  have htk : nb.take ga = na := by rw [← hga]; exact (List.prefix_iff_eq_take.1 hpre).symm
  have HNS := Lib.hid hnb
  have HBG := Lib.hid hbg
  have HGA := Lib.hid hga
  have HGB := Lib.hid hgb
  have HPRE := Lib.hid hpre
  have HTK := Lib.hid htk
  have HBB := Lib.hid hbb
  have HX0 := Lib.hid hx0
  have XC : Hid (∀ W, Below w0.heap.size w0 W → W.cell? ⟨w.heap.size, 0, none⟩ = some (.int .i64 x.k) ∧ W.cell? ⟨w.heap.size, 1, none⟩ = some (.int .i64 x.a) ∧ W.cell? ⟨w.heap.size, 2, none⟩ = some (.int .i64 x.b) ∧ W.cell? ⟨w.heap.size, 3, none⟩ = some (.int .i64 x.n)) := Lib.hid (fun W h => by
    have hb := hx0.below h hx0.lt
    exact ⟨hb.cell 0, hb.cell 1, hb.cell 2, hb.cell 3⟩)
  have HEX := Lib.hid (fun W => nencode_any x W hfx)
  obtain ⟨ex, hex⟩ : ∃ e, errN x = e := ⟨_, rfl⟩
  rw [hex] at HEX
  have hxo : (ex = 0 ∧ okN x = true) ∨ ex = 90 := by
    rw [← hex]
    unfold errN
    cases okN x
    · exact .inr rfl
    · exact .inl ⟨rfl, rfl⟩
  have HFX := Lib.hid hfx
  have HXO := Lib.hid hxo
  obtain ⟨xk, xa, xb, xn⟩ := x
  unfold nv at HEX ⊢
  simp only at HEX XC ⊢
  have hgab : (ga : Int) ≤ (gb : Int) := by omega
  clear hx0 hb0 hna hnb hbf hbg hga hgb hpre htk hbb hex hxo hfx h1 hk
  have HA := Lib.hid ha
  clear ha
  go_enter Try.func7, Try.ntmps7
  go_upto_region 7 with (first
    | (go_at_call 27; refine HAL.out.mono ?_; rintro e w1 ⟨rfl, b1⟩; have K1 := Lib.hid b1; clear b1 hw0)
    | (go_at_call 13; refine (HG.out w1 K1.out).mono ?_; rintro e _ ⟨rfl, rfl⟩)
    | (go_at_call 14; (have l0 := L2.out; clear l0); refine (HNA.out w2 K2.out).mono ?_; rintro e w3 ⟨b3, mf3, md3, v3, rfl, hl, b23⟩
       have K3 := Lib.hid (K2.out.trans (b23.mono K2.out.size))
       have LA3 := Lib.hid (L2.out.below b23)
       have LB3 := Lib.hid hl
       have HNTA := lnotes_any LA3.out
       rw [HGA.out] at HNTA
       have HNTA := Lib.hid HNTA
       clear hl b23)
    | (go_at_call 14; refine (HNF.out w1 K1.out).mono ?_; rintro e w2 ⟨b2, mf2, md2, v2, rfl, hl, b12⟩
       have K2 := Lib.hid (K1.out.trans (b12.mono K1.out.size))
       have L2 := Lib.hid hl
       clear hl b12)
    | (go_at_call 16; (have l0 := OA4.out; clear l0); refine HNTB.out.mono ?_; rintro e w5 ⟨A5, c5, rfl, o5, b45⟩
       have K5 := Lib.hid (K4.out.trans (b45.mono K4.out.size))
       have LA5 := Lib.hid (LA4.out.below b45)
       have LB5 := Lib.hid (LB4.out.below b45)
       have OA5 := Lib.hid (own_stay OA4.out b45)
       have OB5 := Lib.hid o5
       have hcb := own_cap9 o5
       clear o5 b45)
    | (go_at_call 16; refine HNTA.out.mono ?_; rintro e w4 ⟨A4, c4, rfl, o4, b34⟩
       have K4 := Lib.hid (K3.out.trans (b34.mono K3.out.size))
       have LA4 := Lib.hid (LA3.out.below b34)
       have LB4 := Lib.hid (LB3.out.below b34)
       have OA4 := Lib.hid o4
       have HNTB := lnotes_any LB4.out
       rw [HGB.out] at HNTB
       have HNTB := Lib.hid HNTB
       clear o4 b34))
  have hgc : (ga : Int) ≤ (c5 : Int) := by omega
  have hg1 : ¬ (gb : Int) < (ga : Int) := by omega
  have HSM : Hid (Calls Try.prog 17 #[.slice A4 ga c4, .slice A5 ga c5] w5 fun e w' => e = .returned (.bool true) ∧ Below w5.heap.size w5 w') := Lib.hid (by
    have hr : Reads w5 w5.heap.size 4 A5 ga (na.flatMap nc) := by
      have h0 := Reads.of_own OB5.out
      refine ⟨by rw [nc_length, HGA.out], fun h1 => ?_⟩
      obtain ⟨ad, e, hb, hcc⟩ := h0.2 (by omega)
      refine ⟨ad, e, hb, fun j u hu => hcc j u ?_⟩
      have hf : nb.flatMap nc = na.flatMap nc ++ (nb.drop ga).flatMap nc := by
        rw [← List.flatMap_append, ← HTK.out, List.take_append_drop]
      rw [hf, List.getElem?_append_left (List.getElem?_eq_some_iff.1 hu).1]
      exact hu
    have := r9same_any A4 A5 c4 c5 ga ga na na w5 HGA.out HGA.out (Reads.of_own OA5.out) hr (by omega) (by omega)
    rw [decide_eq_true rfl] at this
    exact this)
  have HBF := Lib.hid (fun W (h : Below w5.heap.size w5 W) => lbegun_any (LA5.out.below h))
  have HBA := Lib.hid (fun W (h : Below w5.heap.size w5 W) => lbegun_any (LB5.out.below h))
  go_cut [86] from 51 to 86 (fun q wx => q = .bool false ∧ Below w5.heap.size w5 wx)
  case first =>
    cases bf
    · cases bg
      · go_wp2_with (first
          | (go_at_call 17; refine HSM.out.mono ?_; rintro e w6 ⟨rfl, b6⟩; have B6 := Lib.hid b6; clear b6)
          | (go_at_call 21; refine Calls.mono (by first | with_reducible exact HBF.out _ B6.out | with_reducible exact HBA.out _ B6.out) ?_; rintro e _ ⟨rfl, rfl⟩))
        go_meet
        case rel => exact ⟨rfl, B6.out⟩
      · have hk0 : ¬ (0 : Int) < (k : Int) := by
          rcases HBB.out.2 rfl with h | h
          · cases h
          · omega
        go_wp2_with (first
          | (go_at_call 17; refine HSM.out.mono ?_; rintro e w6 ⟨rfl, b6⟩; have B6 := Lib.hid b6; clear b6)
          | (go_at_call 21; refine Calls.mono (by first | with_reducible exact HBF.out _ B6.out | with_reducible exact HBA.out _ B6.out) ?_; rintro e _ ⟨rfl, rfl⟩))
        go_meet
        case rel => exact ⟨rfl, B6.out⟩
    · obtain ⟨rfl, hk0⟩ := HBB.out.1 rfl
      have hk1 : (0 : Int) < (k : Int) := by omega
      clear hk0
      go_wp2_with (first
        | (go_at_call 17; refine HSM.out.mono ?_; rintro e w6 ⟨rfl, b6⟩; have B6 := Lib.hid b6; clear b6)
        | (go_at_call 21; refine Calls.mono (by first | with_reducible exact HBF.out _ B6.out | with_reducible exact HBA.out _ B6.out) ?_; rintro e _ ⟨rfl, rfl⟩))
      go_meet
      case rel => exact ⟨rfl, B6.out⟩
  case rest =>
    obtain ⟨rfl, hwc⟩ := hcut
    have HWC := Lib.hid hwc
    clear hwc HSM hg1
    go_wp2
    go_loopw [89] (fun i wr => ∃ j : Nat, j ≤ ga ∧ i = .int .i64 (j : Int) ∧ Below w5.heap.size w5 wr) (fun i _ => ga - (intOf i).toNat)
    case atStart => exact ⟨0, Nat.zero_le _, rfl, HWC.out⟩
    case round =>
      obtain ⟨j, hj, rfl, hwr⟩ := hrel
      have HWR := Lib.hid hwr
      clear hwr HWC
      by_cases hlt : j < ga
      case pos =>
        have hml : j < na.length := by have := HGA.out; omega
        obtain ⟨x', hx'⟩ : ∃ x, na[j]? = some x := ⟨_, List.getElem?_eq_getElem hml⟩
        obtain ⟨ad, rfl, hadb, c0, c1, c2, c3⟩ := note_at (Reads.of_own (own_stay OA5.out HWR.out)) hx' HGA.out
        have hxo := LA5.out.ok x' (List.mem_of_getElem? hx')
        have hfo := file_of na j x' hx'
        have hfm := file_mono HPRE.out hfo
        obtain ⟨xk', xa', xb', xn'⟩ := x'
        simp only at c0 c1 c2 c3 hfm hxo
        have IXA : Hid (i64ok xa') := Lib.hid hxo.2.1.a
        have IXB : Hid (i64ok xb') := Lib.hid hxo.2.1.b
        have hjn : (j : Int) < (ga : Int) := by omega
        have HC0 := Lib.hid (fun W (h : Below wr.heap.size wr W) => (h.cell (p := ad.add (j * 4)) (by rw [block_of_add]; exact hadb)).trans c0)
        have HC : Hid (∀ W, Below wr.heap.size wr W → W.cell? ⟨(ad.add (j * 4)).block, (ad.add (j * 4)).off + 1, none⟩ = some (.int .i64 xa') ∧ W.cell? ⟨(ad.add (j * 4)).block, (ad.add (j * 4)).off + 2, none⟩ = some (.int .i64 xb')) := Lib.hid (fun W h =>
          ⟨(h.cell (p := ⟨(ad.add (j * 4)).block, (ad.add (j * 4)).off + 1, none⟩) (by show (ad.add (j * 4)).block < _; rw [block_of_add]; exact hadb)).trans c1, (h.cell (p := ⟨(ad.add (j * 4)).block, (ad.add (j * 4)).off + 2, none⟩) (by show (ad.add (j * 4)).block < _; rw [block_of_add]; exact hadb)).trans c2⟩)
        have LBW := Lib.hid (fun W (h : Below wr.heap.size wr W) => LB5.out.below (HWR.out.trans (h.mono HWR.out.size)))
        have LAW := Lib.hid (fun W (h : Below wr.heap.size wr W) => LA5.out.below (HWR.out.trans (h.mono HWR.out.size)))
        obtain ⟨v1, hv1⟩ : ∃ v, (fileN nb 2 xa' xb').getD 0 = v := ⟨_, rfl⟩
        obtain ⟨v2, hv2⟩ : ∃ v, (fileN nb 2 xa' xb').isSome = v := ⟨_, rfl⟩
        obtain ⟨v3, hv3⟩ : ∃ v, (fileN nb 3 xa' xb').getD 0 = v := ⟨_, rfl⟩
        obtain ⟨v4, hv4⟩ : ∃ v, (fileN nb 3 xa' xb').isSome = v := ⟨_, rfl⟩
        have HT := Lib.hid (fun W (h : Below wr.heap.size wr W) => ltile_any (LBW.out W h) xa' xb' IXA.out IXB.out)
        have HTR0 := Lib.hid (fun W (h : Below wr.heap.size wr W) => lrun_any (LBW.out W h) xa' xb' IXA.out IXB.out)
        rw [hv1, hv2] at HT
        rw [hv3, hv4] at HTR0
        have hk2 : xk' = 2 → v2 = true := fun h => by subst h; rw [← hv2]; exact hfm
        have hk3 : xk' = 3 → v4 = true := fun h => by subst h; rw [← hv4]; exact hfm
        have hst := steps_mono HPRE.out
        have hdn := done_mono HPRE.out xa'
        have HSA := Lib.hid (fun W (h : Below wr.heap.size wr W) => lsteps_any (LAW.out W h))
        have HSB := Lib.hid (fun W (h : Below wr.heap.size wr W) => lsteps_any (LBW.out W h))
        have HDA := Lib.hid (fun W (h : Below wr.heap.size wr W) => ldone_any (LAW.out W h) xa' IXA.out)
        have HDB := Lib.hid (fun W (h : Below wr.heap.size wr W) => ldone_any (LBW.out W h) xa' IXA.out)
        generalize stepsN na = SA at *
        generalize stepsN nb = SB at *
        obtain ⟨DA, hDA⟩ : ∃ D : Int, (doneN na xa' : Int) = D := ⟨_, rfl⟩
        obtain ⟨DB, hDB⟩ : ∃ D : Int, (doneN nb xa' : Int) = D := ⟨_, rfl⟩
        rw [hDA] at HDA
        rw [hDB] at HDB
        have hs1 : ¬ SB < SA := by omega
        have hd1 : ¬ DB < DA := by omega
        have HK2 := Lib.hid hk2
        have HK3 := Lib.hid hk3
        clear hx' hml hfo hfm hxo hv1 hv2 hv3 hv4 hst hdn hDA hDB hk2 hk3 c3 hadb c0 c1 c2
        go_wp2
        refine wp_region_steps_on (fun W => Below wr.heap.size wr W) (fun i v _ => v = ([.pointer (some ⟨b3, 0, none⟩), .slice (some ad) ga c4, .int .i64 (j : Int), .pointer (some (ad.add (j * 4))), .pointer (some ⟨(ad.add (j * 4)).block, (ad.add (j * 4)).off + 1, none⟩), .int .i64 xa', .slice (some ad) ga c4, .int .i64 (j : Int), .pointer (some (ad.add (j * 4))), .pointer (some ⟨(ad.add (j * 4)).block, (ad.add (j * 4)).off + 2, none⟩), .int .i64 xb', .tuple #[.int .i64 v1, .bool v2], .tuple #[.int .i64 v1, .bool v2], .int .i64 v1, .bool v2, .int .i64 v1, .bool v2] : List Value).getD i undef) (by kernel_rfl) 246 rfl (by kernel_rfl) ((Below.refl _ wr).drew) ?_ ?_
        · intro i hi
          have hi2 : i < 17 := hi
          clear hi
          rcases i with _ | i
          · refine step_value (.pointer (some ⟨b3, 0, none⟩)) rfl ?_
            intro a8 w8 hS ho hn
            have o12 : a8.tmps[12]? = some _ := (ho 12 (by kernel_rfl)).trans rfl
            clear ho hn
            refine ⟨wanted_free rfl, ?_, rfl⟩
            go_simp
          rcases i with _ | i
          · refine step_value (.slice (some ad) ga c4) rfl ?_
            intro a8 w8 hS ho hn
            have o13 : a8.tmps[13]? = some _ := (ho 13 (by kernel_rfl)).trans rfl
            clear ho hn
            refine ⟨wanted_free rfl, ?_, rfl⟩
            go_simp
          rcases i with _ | i
          · refine step_value (.int .i64 (j : Int)) rfl ?_
            intro a8 w8 hS ho hn
            have o15 : a8.tmps[15]? = some _ := (ho 15 (by kernel_rfl)).trans rfl
            clear ho hn
            refine ⟨wanted_free rfl, ?_, rfl⟩
            go_simp
          rcases i with _ | i
          · refine step_value (.pointer (some (ad.add (j * 4)))) rfl ?_
            intro a8 w8 hS ho hn
            obtain ⟨_, n94, rfl⟩ := hn 1 94 (by kernel_rfl) rfl
            obtain ⟨_, n95, rfl⟩ := hn 2 95 (by kernel_rfl) rfl
            clear ho hn
            refine ⟨wanted_free rfl, ?_, rfl⟩
            go_simp
          rcases i with _ | i
          · refine step_value (.pointer (some ⟨(ad.add (j * 4)).block, (ad.add (j * 4)).off + 1, none⟩)) rfl ?_
            intro a8 w8 hS ho hn
            obtain ⟨_, n96, rfl⟩ := hn 3 96 (by kernel_rfl) rfl
            clear ho hn
            refine ⟨wanted_free rfl, ?_, rfl⟩
            go_simp
          rcases i with _ | i
          · refine step_value (.int .i64 xa') rfl ?_
            intro a8 w8 hS ho hn
            obtain ⟨_, n97, rfl⟩ := hn 4 97 (by kernel_rfl) rfl
            clear ho hn
            refine ⟨wanted_free rfl, ?_, rfl⟩
            have h1 := (HC.out w8 hS).1
            go_simp
          rcases i with _ | i
          · refine step_value (.slice (some ad) ga c4) rfl ?_
            intro a8 w8 hS ho hn
            have o13 : a8.tmps[13]? = some _ := (ho 13 (by kernel_rfl)).trans rfl
            clear ho hn
            refine ⟨wanted_free rfl, ?_, rfl⟩
            go_simp
          rcases i with _ | i
          · refine step_value (.int .i64 (j : Int)) rfl ?_
            intro a8 w8 hS ho hn
            have o15 : a8.tmps[15]? = some _ := (ho 15 (by kernel_rfl)).trans rfl
            clear ho hn
            refine ⟨wanted_free rfl, ?_, rfl⟩
            go_simp
          rcases i with _ | i
          · refine step_value (.pointer (some (ad.add (j * 4)))) rfl ?_
            intro a8 w8 hS ho hn
            obtain ⟨_, n99, rfl⟩ := hn 6 99 (by kernel_rfl) rfl
            obtain ⟨_, n100, rfl⟩ := hn 7 100 (by kernel_rfl) rfl
            clear ho hn
            refine ⟨wanted_free rfl, ?_, rfl⟩
            go_simp
          rcases i with _ | i
          · refine step_value (.pointer (some ⟨(ad.add (j * 4)).block, (ad.add (j * 4)).off + 2, none⟩)) rfl ?_
            intro a8 w8 hS ho hn
            obtain ⟨_, n101, rfl⟩ := hn 8 101 (by kernel_rfl) rfl
            clear ho hn
            refine ⟨wanted_free rfl, ?_, rfl⟩
            go_simp
          rcases i with _ | i
          · refine step_value (.int .i64 xb') rfl ?_
            intro a8 w8 hS ho hn
            obtain ⟨_, n102, rfl⟩ := hn 9 102 (by kernel_rfl) rfl
            clear ho hn
            refine ⟨wanted_free rfl, ?_, rfl⟩
            have h1 := (HC.out w8 hS).2
            go_simp
          rcases i with _ | i
          · refine step_call 18 #[.pointer (some ⟨b3, 0, none⟩), .int .i64 xa', .int .i64 xb'] rfl ?_
            intro a8 w8 hS ho hn
            obtain ⟨_, n93, rfl⟩ := hn 0 93 (by kernel_rfl) rfl
            obtain ⟨_, n98, rfl⟩ := hn 5 98 (by kernel_rfl) rfl
            obtain ⟨_, n103, rfl⟩ := hn 10 103 (by kernel_rfl) rfl
            clear ho hn
            refine ⟨wanted_free rfl, by go_simp, ?_⟩
            refine ((HT.out w8 hS)).mono ?_
            rintro e wA ⟨rfl, hw⟩
            exact ⟨_, rfl, hS.trans (hw.mono hS.size), rfl, fun j u _ h => h⟩
          rcases i with _ | i
          · refine step_value (.tuple #[.int .i64 v1, .bool v2]) rfl ?_
            intro a8 w8 hS ho hn
            obtain ⟨_, n104, rfl⟩ := hn 11 104 (by kernel_rfl) rfl
            clear ho hn
            refine ⟨wanted_free rfl, ?_, rfl⟩
            go_simp
          rcases i with _ | i
          · refine step_value (.int .i64 v1) rfl ?_
            intro a8 w8 hS ho hn
            obtain ⟨_, n92, rfl⟩ := hn 12 92 (by kernel_rfl) rfl
            clear ho hn
            refine ⟨wanted_free rfl, ?_, rfl⟩
            go_simp
          rcases i with _ | i
          · refine step_value (.bool v2) rfl ?_
            intro a8 w8 hS ho hn
            obtain ⟨_, n92, rfl⟩ := hn 12 92 (by kernel_rfl) rfl
            clear ho hn
            refine ⟨wanted_free rfl, ?_, rfl⟩
            go_simp
          rcases i with _ | i
          · refine step_value (.int .i64 v1) rfl ?_
            intro a8 w8 hS ho hn
            obtain ⟨_, n105, rfl⟩ := hn 13 105 (by kernel_rfl) rfl
            clear ho hn
            refine ⟨wanted_free rfl, ?_, rfl⟩
            go_simp
          rcases i with _ | i
          · refine step_value (.bool v2) rfl ?_
            intro a8 w8 hS ho hn
            obtain ⟨_, n106, rfl⟩ := hn 14 106 (by kernel_rfl) rfl
            clear ho hn
            refine ⟨wanted_free rfl, ?_, rfl⟩
            go_simp
          omega
        · intro f wA hS hR
          have h17 : f 17 = _ := hR 16 17 rfl
          simp only [putAll, List.foldl_cons, List.foldl_nil, Act.put, List.setIfInBounds_toArray, List.set_cons_succ, List.set_cons_zero, h17, List.getD_cons_zero, List.getD_cons_succ]
          clear hR h17
          go_upto_region 13 with (fail)
          have HSWA := Lib.hid hS
          have HCA := Lib.hid (fun W (h : Below wA.heap.size wA W) => HC.out W (HSWA.out.trans (h.mono HSWA.out.size)))
          have HTR := Lib.hid (fun W (h : Below wA.heap.size wA W) => HTR0.out W (HSWA.out.trans (h.mono HSWA.out.size)))
          clear hS
          refine wp_region_steps_on (fun W => Below wA.heap.size wA W) (fun i v _ => v = ([.pointer (some ⟨b3, 0, none⟩), .slice (some ad) ga c4, .int .i64 (j : Int), .pointer (some (ad.add (j * 4))), .pointer (some ⟨(ad.add (j * 4)).block, (ad.add (j * 4)).off + 1, none⟩), .int .i64 xa', .slice (some ad) ga c4, .int .i64 (j : Int), .pointer (some (ad.add (j * 4))), .pointer (some ⟨(ad.add (j * 4)).block, (ad.add (j * 4)).off + 2, none⟩), .int .i64 xb', .tuple #[.int .i64 v3, .bool v4], .tuple #[.int .i64 v3, .bool v4], .int .i64 v3, .bool v4, .int .i64 v3, .bool v4] : List Value).getD i undef) (by kernel_rfl) 246 rfl (by kernel_rfl) ((Below.refl _ wA).drew) ?_ ?_
          · intro i hi
            have hi2 : i < 17 := hi
            clear hi
            rcases i with _ | i
            · refine step_value (.pointer (some ⟨b3, 0, none⟩)) rfl ?_
              intro a8 w8 hS ho hn
              have o12 : a8.tmps[12]? = some _ := (ho 12 (by kernel_rfl)).trans rfl
              clear ho hn
              refine ⟨wanted_free rfl, ?_, rfl⟩
              go_simp
            rcases i with _ | i
            · refine step_value (.slice (some ad) ga c4) rfl ?_
              intro a8 w8 hS ho hn
              have o13 : a8.tmps[13]? = some _ := (ho 13 (by kernel_rfl)).trans rfl
              clear ho hn
              refine ⟨wanted_free rfl, ?_, rfl⟩
              go_simp
            rcases i with _ | i
            · refine step_value (.int .i64 (j : Int)) rfl ?_
              intro a8 w8 hS ho hn
              have o15 : a8.tmps[15]? = some _ := (ho 15 (by kernel_rfl)).trans rfl
              clear ho hn
              refine ⟨wanted_free rfl, ?_, rfl⟩
              go_simp
            rcases i with _ | i
            · refine step_value (.pointer (some (ad.add (j * 4)))) rfl ?_
              intro a8 w8 hS ho hn
              obtain ⟨_, n109, rfl⟩ := hn 1 109 (by kernel_rfl) rfl
              obtain ⟨_, n110, rfl⟩ := hn 2 110 (by kernel_rfl) rfl
              clear ho hn
              refine ⟨wanted_free rfl, ?_, rfl⟩
              go_simp
            rcases i with _ | i
            · refine step_value (.pointer (some ⟨(ad.add (j * 4)).block, (ad.add (j * 4)).off + 1, none⟩)) rfl ?_
              intro a8 w8 hS ho hn
              obtain ⟨_, n111, rfl⟩ := hn 3 111 (by kernel_rfl) rfl
              clear ho hn
              refine ⟨wanted_free rfl, ?_, rfl⟩
              go_simp
            rcases i with _ | i
            · refine step_value (.int .i64 xa') rfl ?_
              intro a8 w8 hS ho hn
              obtain ⟨_, n112, rfl⟩ := hn 4 112 (by kernel_rfl) rfl
              clear ho hn
              refine ⟨wanted_free rfl, ?_, rfl⟩
              have h1 := (HCA.out w8 hS).1
              go_simp
            rcases i with _ | i
            · refine step_value (.slice (some ad) ga c4) rfl ?_
              intro a8 w8 hS ho hn
              have o13 : a8.tmps[13]? = some _ := (ho 13 (by kernel_rfl)).trans rfl
              clear ho hn
              refine ⟨wanted_free rfl, ?_, rfl⟩
              go_simp
            rcases i with _ | i
            · refine step_value (.int .i64 (j : Int)) rfl ?_
              intro a8 w8 hS ho hn
              have o15 : a8.tmps[15]? = some _ := (ho 15 (by kernel_rfl)).trans rfl
              clear ho hn
              refine ⟨wanted_free rfl, ?_, rfl⟩
              go_simp
            rcases i with _ | i
            · refine step_value (.pointer (some (ad.add (j * 4)))) rfl ?_
              intro a8 w8 hS ho hn
              obtain ⟨_, n114, rfl⟩ := hn 6 114 (by kernel_rfl) rfl
              obtain ⟨_, n115, rfl⟩ := hn 7 115 (by kernel_rfl) rfl
              clear ho hn
              refine ⟨wanted_free rfl, ?_, rfl⟩
              go_simp
            rcases i with _ | i
            · refine step_value (.pointer (some ⟨(ad.add (j * 4)).block, (ad.add (j * 4)).off + 2, none⟩)) rfl ?_
              intro a8 w8 hS ho hn
              obtain ⟨_, n116, rfl⟩ := hn 8 116 (by kernel_rfl) rfl
              clear ho hn
              refine ⟨wanted_free rfl, ?_, rfl⟩
              go_simp
            rcases i with _ | i
            · refine step_value (.int .i64 xb') rfl ?_
              intro a8 w8 hS ho hn
              obtain ⟨_, n117, rfl⟩ := hn 9 117 (by kernel_rfl) rfl
              clear ho hn
              refine ⟨wanted_free rfl, ?_, rfl⟩
              have h1 := (HCA.out w8 hS).2
              go_simp
            rcases i with _ | i
            · refine step_call 20 #[.pointer (some ⟨b3, 0, none⟩), .int .i64 xa', .int .i64 xb'] rfl ?_
              intro a8 w8 hS ho hn
              obtain ⟨_, n108, rfl⟩ := hn 0 108 (by kernel_rfl) rfl
              obtain ⟨_, n113, rfl⟩ := hn 5 113 (by kernel_rfl) rfl
              obtain ⟨_, n118, rfl⟩ := hn 10 118 (by kernel_rfl) rfl
              clear ho hn
              refine ⟨wanted_free rfl, by go_simp, ?_⟩
              refine ((HTR.out w8 hS)).mono ?_
              rintro e wB ⟨rfl, hw⟩
              exact ⟨_, rfl, hS.trans (hw.mono hS.size), rfl, fun j u _ h => h⟩
            rcases i with _ | i
            · refine step_value (.tuple #[.int .i64 v3, .bool v4]) rfl ?_
              intro a8 w8 hS ho hn
              obtain ⟨_, n119, rfl⟩ := hn 11 119 (by kernel_rfl) rfl
              clear ho hn
              refine ⟨wanted_free rfl, ?_, rfl⟩
              go_simp
            rcases i with _ | i
            · refine step_value (.int .i64 v3) rfl ?_
              intro a8 w8 hS ho hn
              obtain ⟨_, n107, rfl⟩ := hn 12 107 (by kernel_rfl) rfl
              clear ho hn
              refine ⟨wanted_free rfl, ?_, rfl⟩
              go_simp
            rcases i with _ | i
            · refine step_value (.bool v4) rfl ?_
              intro a8 w8 hS ho hn
              obtain ⟨_, n107, rfl⟩ := hn 12 107 (by kernel_rfl) rfl
              clear ho hn
              refine ⟨wanted_free rfl, ?_, rfl⟩
              go_simp
            rcases i with _ | i
            · refine step_value (.int .i64 v3) rfl ?_
              intro a8 w8 hS ho hn
              obtain ⟨_, n120, rfl⟩ := hn 13 120 (by kernel_rfl) rfl
              clear ho hn
              refine ⟨wanted_free rfl, ?_, rfl⟩
              go_simp
            rcases i with _ | i
            · refine step_value (.bool v4) rfl ?_
              intro a8 w8 hS ho hn
              obtain ⟨_, n121, rfl⟩ := hn 14 121 (by kernel_rfl) rfl
              clear ho hn
              refine ⟨wanted_free rfl, ?_, rfl⟩
              go_simp
            omega
          · intro f wB hS hR
            have h19 : f 19 = _ := hR 16 19 rfl
            simp only [putAll, List.foldl_cons, List.foldl_nil, Act.put, List.setIfInBounds_toArray, List.set_cons_succ, List.set_cons_zero, h19, List.getD_cons_zero, List.getD_cons_succ]
            clear hR h19
            have HSW := Lib.hid (HSWA.out.trans (hS.mono HSWA.out.size))
            clear hS
            go_upto_region 14 with (fail)
            clear HCA HTR HTR0 HT
            by_cases h2 : xk' = 2
            · subst h2
              obtain rfl := HK2.out rfl
              refine wp_region_steps_on (fun W => Below wB.heap.size wB W) (fun i v _ => v = ([.slice (some ad) ga c4, .int .i64 (j : Int), .pointer (some (ad.add (j * 4))), .pointer (some (ad.add (j * 4))), .int .i64 2, .bool true, .bool true, .bool true, .bool false, .bool false, .bool false, .slice (some ad) ga c4, .int .i64 (j : Int), .pointer (some (ad.add (j * 4))), .pointer (some (ad.add (j * 4))), .int .i64 2, .bool false, .bool false, undef, undef, .bool false, .bool false, .bool false, .pointer (some ⟨b3, 0, none⟩), .int .i64 SB, .pointer (some ⟨b2, 0, none⟩), .int .i64 SA, .bool false, .bool false, .bool false, .pointer (some ⟨b3, 0, none⟩), .slice (some ad) ga c4, .int .i64 (j : Int), .pointer (some (ad.add (j * 4))), .pointer (some ⟨(ad.add (j * 4)).block, (ad.add (j * 4)).off + 1, none⟩), .int .i64 xa', .int .i64 DB, .pointer (some ⟨b2, 0, none⟩), .slice (some ad) ga c4, .int .i64 (j : Int), .pointer (some (ad.add (j * 4))), .pointer (some ⟨(ad.add (j * 4)).block, (ad.add (j * 4)).off + 1, none⟩), .int .i64 xa', .int .i64 DA, .bool false, .bool false] : List Value).getD i undef) (by kernel_rfl) 246 rfl (by kernel_rfl) ((Below.refl _ wB).drew) ?_ ?_
              · intro i hi
                have hi2 : i < 46 := hi
                clear hi
                rcases i with _ | i
                · refine step_value (.slice (some ad) ga c4) rfl ?_
                  intro a8 w8 hS ho hn
                  have o13 : a8.tmps[13]? = some _ := (ho 13 (by kernel_rfl)).trans rfl
                  clear ho hn
                  refine ⟨wanted_free rfl, ?_, rfl⟩
                  go_simp
                rcases i with _ | i
                · refine step_value (.int .i64 (j : Int)) rfl ?_
                  intro a8 w8 hS ho hn
                  have o15 : a8.tmps[15]? = some _ := (ho 15 (by kernel_rfl)).trans rfl
                  clear ho hn
                  refine ⟨wanted_free rfl, ?_, rfl⟩
                  go_simp
                rcases i with _ | i
                · refine step_value (.pointer (some (ad.add (j * 4)))) rfl ?_
                  intro a8 w8 hS ho hn
                  obtain ⟨_, n122, rfl⟩ := hn 0 122 (by kernel_rfl) rfl
                  obtain ⟨_, n123, rfl⟩ := hn 1 123 (by kernel_rfl) rfl
                  clear ho hn
                  refine ⟨wanted_free rfl, ?_, rfl⟩
                  go_simp
                rcases i with _ | i
                · refine step_value (.pointer (some (ad.add (j * 4)))) rfl ?_
                  intro a8 w8 hS ho hn
                  obtain ⟨_, n124, rfl⟩ := hn 2 124 (by kernel_rfl) rfl
                  clear ho hn
                  refine ⟨wanted_free rfl, ?_, rfl⟩
                  go_simp
                rcases i with _ | i
                · refine step_value (.int .i64 2) rfl ?_
                  intro a8 w8 hS ho hn
                  obtain ⟨_, n125, rfl⟩ := hn 3 125 (by kernel_rfl) rfl
                  clear ho hn
                  refine ⟨wanted_free rfl, ?_, rfl⟩
                  have h1 := HC0.out w8 (HSW.out.trans (hS.mono HSW.out.size))
                  go_simp
                rcases i with _ | i
                · refine step_value (.bool true) rfl ?_
                  intro a8 w8 hS ho hn
                  obtain ⟨_, n126, rfl⟩ := hn 4 126 (by kernel_rfl) rfl
                  clear ho hn
                  refine ⟨wanted_free rfl, ?_, rfl⟩
                  go_simp
                rcases i with _ | i
                · refine step_value (.bool true) rfl ?_
                  intro a8 w8 hS ho hn
                  obtain ⟨_, n127, rfl⟩ := hn 5 127 (by kernel_rfl) rfl
                  clear ho hn
                  refine ⟨wanted_free rfl, ?_, rfl⟩
                  go_simp
                rcases i with _ | i
                · refine step_value (.bool true) rfl ?_
                  intro a8 w8 hS ho hn
                  have o17 : a8.tmps[17]? = some _ := (ho 17 (by kernel_rfl)).trans rfl
                  obtain ⟨_, n128, rfl⟩ := hn 6 128 (by kernel_rfl) rfl
                  clear ho hn
                  refine ⟨wanted_of 6 128 rfl rfl n128, ?_, rfl⟩
                  go_simp
                rcases i with _ | i
                · refine step_value (.bool false) rfl ?_
                  intro a8 w8 hS ho hn
                  obtain ⟨_, n129, rfl⟩ := hn 7 129 (by kernel_rfl) rfl
                  obtain ⟨_, n128, rfl⟩ := hn 6 128 (by kernel_rfl) rfl
                  clear ho hn
                  refine ⟨wanted_of 6 128 rfl rfl n128, ?_, rfl⟩
                  go_simp
                rcases i with _ | i
                · refine step_value (.bool false) rfl ?_
                  intro a8 w8 hS ho hn
                  obtain ⟨_, n128, rfl⟩ := hn 6 128 (by kernel_rfl) rfl
                  obtain ⟨_, n130, rfl⟩ := hn 8 130 (by kernel_rfl) rfl
                  clear ho hn
                  refine ⟨wanted_free rfl, ?_, rfl⟩
                  go_simp
                rcases i with _ | i
                · refine step_value (.bool false) rfl ?_
                  intro a8 w8 hS ho hn
                  obtain ⟨_, n131, rfl⟩ := hn 9 131 (by kernel_rfl) rfl
                  clear ho hn
                  refine ⟨wanted_free rfl, ?_, rfl⟩
                  go_simp
                rcases i with _ | i
                · refine step_value (.slice (some ad) ga c4) rfl ?_
                  intro a8 w8 hS ho hn
                  have o13 : a8.tmps[13]? = some _ := (ho 13 (by kernel_rfl)).trans rfl
                  obtain ⟨_, n132, rfl⟩ := hn 10 132 (by kernel_rfl) rfl
                  clear ho hn
                  refine ⟨wanted_of 10 132 rfl rfl n132, ?_, rfl⟩
                  go_simp
                rcases i with _ | i
                · refine step_value (.int .i64 (j : Int)) rfl ?_
                  intro a8 w8 hS ho hn
                  have o15 : a8.tmps[15]? = some _ := (ho 15 (by kernel_rfl)).trans rfl
                  obtain ⟨_, n132, rfl⟩ := hn 10 132 (by kernel_rfl) rfl
                  clear ho hn
                  refine ⟨wanted_of 10 132 rfl rfl n132, ?_, rfl⟩
                  go_simp
                rcases i with _ | i
                · refine step_value (.pointer (some (ad.add (j * 4)))) rfl ?_
                  intro a8 w8 hS ho hn
                  obtain ⟨_, n133, rfl⟩ := hn 11 133 (by kernel_rfl) rfl
                  obtain ⟨_, n134, rfl⟩ := hn 12 134 (by kernel_rfl) rfl
                  obtain ⟨_, n132, rfl⟩ := hn 10 132 (by kernel_rfl) rfl
                  clear ho hn
                  refine ⟨wanted_of 10 132 rfl rfl n132, ?_, rfl⟩
                  go_simp
                rcases i with _ | i
                · refine step_value (.pointer (some (ad.add (j * 4)))) rfl ?_
                  intro a8 w8 hS ho hn
                  obtain ⟨_, n135, rfl⟩ := hn 13 135 (by kernel_rfl) rfl
                  obtain ⟨_, n132, rfl⟩ := hn 10 132 (by kernel_rfl) rfl
                  clear ho hn
                  refine ⟨wanted_of 10 132 rfl rfl n132, ?_, rfl⟩
                  go_simp
                rcases i with _ | i
                · refine step_value (.int .i64 2) rfl ?_
                  intro a8 w8 hS ho hn
                  obtain ⟨_, n136, rfl⟩ := hn 14 136 (by kernel_rfl) rfl
                  obtain ⟨_, n132, rfl⟩ := hn 10 132 (by kernel_rfl) rfl
                  clear ho hn
                  refine ⟨wanted_of 10 132 rfl rfl n132, ?_, rfl⟩
                  have h1 := HC0.out w8 (HSW.out.trans (hS.mono HSW.out.size))
                  go_simp
                rcases i with _ | i
                · refine step_value (.bool false) rfl ?_
                  intro a8 w8 hS ho hn
                  obtain ⟨_, n137, rfl⟩ := hn 15 137 (by kernel_rfl) rfl
                  obtain ⟨_, n132, rfl⟩ := hn 10 132 (by kernel_rfl) rfl
                  clear ho hn
                  refine ⟨wanted_of 10 132 rfl rfl n132, ?_, rfl⟩
                  go_simp
                rcases i with _ | i
                · refine step_value (.bool false) rfl ?_
                  intro a8 w8 hS ho hn
                  obtain ⟨_, n138, rfl⟩ := hn 16 138 (by kernel_rfl) rfl
                  obtain ⟨_, n132, rfl⟩ := hn 10 132 (by kernel_rfl) rfl
                  clear ho hn
                  refine ⟨wanted_of 10 132 rfl rfl n132, ?_, rfl⟩
                  go_simp
                rcases i with _ | i
                · refine step_skip rfl ?_
                  intro a8 w8 hS ho hn
                  obtain ⟨_, n139, rfl⟩ := hn 17 139 (by kernel_rfl) rfl
                  exact ⟨unwanted_of 17 139 rfl rfl n139 rfl, rfl⟩
                rcases i with _ | i
                · refine step_skip rfl ?_
                  intro a8 w8 hS ho hn
                  obtain ⟨_, n139, rfl⟩ := hn 17 139 (by kernel_rfl) rfl
                  exact ⟨unwanted_of 17 139 rfl rfl n139 rfl, rfl⟩
                rcases i with _ | i
                · refine step_value (.bool false) rfl ?_
                  intro a8 w8 hS ho hn
                  obtain ⟨_, n139, rfl⟩ := hn 17 139 (by kernel_rfl) rfl
                  obtain ⟨_, n141, rfl⟩ := hn 19 141 (by kernel_rfl) rfl
                  obtain ⟨_, n132, rfl⟩ := hn 10 132 (by kernel_rfl) rfl
                  clear ho hn
                  refine ⟨wanted_of 10 132 rfl rfl n132, ?_, rfl⟩
                  go_simp
                rcases i with _ | i
                · refine step_value (.bool false) rfl ?_
                  intro a8 w8 hS ho hn
                  obtain ⟨_, n132, rfl⟩ := hn 10 132 (by kernel_rfl) rfl
                  obtain ⟨_, n142, rfl⟩ := hn 20 142 (by kernel_rfl) rfl
                  clear ho hn
                  refine ⟨wanted_free rfl, ?_, rfl⟩
                  go_simp
                rcases i with _ | i
                · refine step_value (.bool false) rfl ?_
                  intro a8 w8 hS ho hn
                  obtain ⟨_, n143, rfl⟩ := hn 21 143 (by kernel_rfl) rfl
                  clear ho hn
                  refine ⟨wanted_free rfl, ?_, rfl⟩
                  go_simp
                rcases i with _ | i
                · refine step_value (.pointer (some ⟨b3, 0, none⟩)) rfl ?_
                  intro a8 w8 hS ho hn
                  have o12 : a8.tmps[12]? = some _ := (ho 12 (by kernel_rfl)).trans rfl
                  obtain ⟨_, n144, rfl⟩ := hn 22 144 (by kernel_rfl) rfl
                  clear ho hn
                  refine ⟨wanted_of 22 144 rfl rfl n144, ?_, rfl⟩
                  go_simp
                rcases i with _ | i
                · refine step_call 24 #[.pointer (some ⟨b3, 0, none⟩)] rfl ?_
                  intro a8 w8 hS ho hn
                  obtain ⟨_, n145, rfl⟩ := hn 23 145 (by kernel_rfl) rfl
                  obtain ⟨_, n144, rfl⟩ := hn 22 144 (by kernel_rfl) rfl
                  clear ho hn
                  refine ⟨wanted_of 22 144 rfl rfl n144, by go_simp, ?_⟩
                  refine ((HSB.out w8 (HSW.out.trans (hS.mono HSW.out.size)))).mono ?_
                  rintro e wD ⟨rfl, rfl⟩
                  exact ⟨_, rfl, hS, rfl, fun j u _ h => h⟩
                rcases i with _ | i
                · refine step_value (.pointer (some ⟨b2, 0, none⟩)) rfl ?_
                  intro a8 w8 hS ho hn
                  have o11 : a8.tmps[11]? = some _ := (ho 11 (by kernel_rfl)).trans rfl
                  obtain ⟨_, n144, rfl⟩ := hn 22 144 (by kernel_rfl) rfl
                  clear ho hn
                  refine ⟨wanted_of 22 144 rfl rfl n144, ?_, rfl⟩
                  go_simp
                rcases i with _ | i
                · refine step_call 24 #[.pointer (some ⟨b2, 0, none⟩)] rfl ?_
                  intro a8 w8 hS ho hn
                  obtain ⟨_, n147, rfl⟩ := hn 25 147 (by kernel_rfl) rfl
                  obtain ⟨_, n144, rfl⟩ := hn 22 144 (by kernel_rfl) rfl
                  clear ho hn
                  refine ⟨wanted_of 22 144 rfl rfl n144, by go_simp, ?_⟩
                  refine ((HSA.out w8 (HSW.out.trans (hS.mono HSW.out.size)))).mono ?_
                  rintro e wD ⟨rfl, rfl⟩
                  exact ⟨_, rfl, hS, rfl, fun j u _ h => h⟩
                rcases i with _ | i
                · refine step_value (.bool false) rfl ?_
                  intro a8 w8 hS ho hn
                  obtain ⟨_, n146, rfl⟩ := hn 24 146 (by kernel_rfl) rfl
                  obtain ⟨_, n148, rfl⟩ := hn 26 148 (by kernel_rfl) rfl
                  obtain ⟨_, n144, rfl⟩ := hn 22 144 (by kernel_rfl) rfl
                  clear ho hn
                  refine ⟨wanted_of 22 144 rfl rfl n144, ?_, rfl⟩
                  go_simp
                rcases i with _ | i
                · refine step_value (.bool false) rfl ?_
                  intro a8 w8 hS ho hn
                  obtain ⟨_, n144, rfl⟩ := hn 22 144 (by kernel_rfl) rfl
                  obtain ⟨_, n149, rfl⟩ := hn 27 149 (by kernel_rfl) rfl
                  clear ho hn
                  refine ⟨wanted_free rfl, ?_, rfl⟩
                  go_simp
                rcases i with _ | i
                · refine step_value (.bool false) rfl ?_
                  intro a8 w8 hS ho hn
                  obtain ⟨_, n150, rfl⟩ := hn 28 150 (by kernel_rfl) rfl
                  clear ho hn
                  refine ⟨wanted_free rfl, ?_, rfl⟩
                  go_simp
                rcases i with _ | i
                · refine step_value (.pointer (some ⟨b3, 0, none⟩)) rfl ?_
                  intro a8 w8 hS ho hn
                  have o12 : a8.tmps[12]? = some _ := (ho 12 (by kernel_rfl)).trans rfl
                  obtain ⟨_, n151, rfl⟩ := hn 29 151 (by kernel_rfl) rfl
                  clear ho hn
                  refine ⟨wanted_of 29 151 rfl rfl n151, ?_, rfl⟩
                  go_simp
                rcases i with _ | i
                · refine step_value (.slice (some ad) ga c4) rfl ?_
                  intro a8 w8 hS ho hn
                  have o13 : a8.tmps[13]? = some _ := (ho 13 (by kernel_rfl)).trans rfl
                  obtain ⟨_, n151, rfl⟩ := hn 29 151 (by kernel_rfl) rfl
                  clear ho hn
                  refine ⟨wanted_of 29 151 rfl rfl n151, ?_, rfl⟩
                  go_simp
                rcases i with _ | i
                · refine step_value (.int .i64 (j : Int)) rfl ?_
                  intro a8 w8 hS ho hn
                  have o15 : a8.tmps[15]? = some _ := (ho 15 (by kernel_rfl)).trans rfl
                  obtain ⟨_, n151, rfl⟩ := hn 29 151 (by kernel_rfl) rfl
                  clear ho hn
                  refine ⟨wanted_of 29 151 rfl rfl n151, ?_, rfl⟩
                  go_simp
                rcases i with _ | i
                · refine step_value (.pointer (some (ad.add (j * 4)))) rfl ?_
                  intro a8 w8 hS ho hn
                  obtain ⟨_, n153, rfl⟩ := hn 31 153 (by kernel_rfl) rfl
                  obtain ⟨_, n154, rfl⟩ := hn 32 154 (by kernel_rfl) rfl
                  obtain ⟨_, n151, rfl⟩ := hn 29 151 (by kernel_rfl) rfl
                  clear ho hn
                  refine ⟨wanted_of 29 151 rfl rfl n151, ?_, rfl⟩
                  go_simp
                rcases i with _ | i
                · refine step_value (.pointer (some ⟨(ad.add (j * 4)).block, (ad.add (j * 4)).off + 1, none⟩)) rfl ?_
                  intro a8 w8 hS ho hn
                  obtain ⟨_, n155, rfl⟩ := hn 33 155 (by kernel_rfl) rfl
                  obtain ⟨_, n151, rfl⟩ := hn 29 151 (by kernel_rfl) rfl
                  clear ho hn
                  refine ⟨wanted_of 29 151 rfl rfl n151, ?_, rfl⟩
                  go_simp
                rcases i with _ | i
                · refine step_value (.int .i64 xa') rfl ?_
                  intro a8 w8 hS ho hn
                  obtain ⟨_, n156, rfl⟩ := hn 34 156 (by kernel_rfl) rfl
                  obtain ⟨_, n151, rfl⟩ := hn 29 151 (by kernel_rfl) rfl
                  clear ho hn
                  refine ⟨wanted_of 29 151 rfl rfl n151, ?_, rfl⟩
                  have h1 := (HC.out w8 (HSW.out.trans (hS.mono HSW.out.size))).1
                  go_simp
                rcases i with _ | i
                · refine step_call 22 #[.pointer (some ⟨b3, 0, none⟩), .int .i64 xa'] rfl ?_
                  intro a8 w8 hS ho hn
                  obtain ⟨_, n152, rfl⟩ := hn 30 152 (by kernel_rfl) rfl
                  obtain ⟨_, n157, rfl⟩ := hn 35 157 (by kernel_rfl) rfl
                  obtain ⟨_, n151, rfl⟩ := hn 29 151 (by kernel_rfl) rfl
                  clear ho hn
                  refine ⟨wanted_of 29 151 rfl rfl n151, by go_simp, ?_⟩
                  refine ((HDB.out w8 (HSW.out.trans (hS.mono HSW.out.size)))).mono ?_
                  rintro e wD ⟨rfl, rfl⟩
                  exact ⟨_, rfl, hS, rfl, fun j u _ h => h⟩
                rcases i with _ | i
                · refine step_value (.pointer (some ⟨b2, 0, none⟩)) rfl ?_
                  intro a8 w8 hS ho hn
                  have o11 : a8.tmps[11]? = some _ := (ho 11 (by kernel_rfl)).trans rfl
                  obtain ⟨_, n151, rfl⟩ := hn 29 151 (by kernel_rfl) rfl
                  clear ho hn
                  refine ⟨wanted_of 29 151 rfl rfl n151, ?_, rfl⟩
                  go_simp
                rcases i with _ | i
                · refine step_value (.slice (some ad) ga c4) rfl ?_
                  intro a8 w8 hS ho hn
                  have o13 : a8.tmps[13]? = some _ := (ho 13 (by kernel_rfl)).trans rfl
                  obtain ⟨_, n151, rfl⟩ := hn 29 151 (by kernel_rfl) rfl
                  clear ho hn
                  refine ⟨wanted_of 29 151 rfl rfl n151, ?_, rfl⟩
                  go_simp
                rcases i with _ | i
                · refine step_value (.int .i64 (j : Int)) rfl ?_
                  intro a8 w8 hS ho hn
                  have o15 : a8.tmps[15]? = some _ := (ho 15 (by kernel_rfl)).trans rfl
                  obtain ⟨_, n151, rfl⟩ := hn 29 151 (by kernel_rfl) rfl
                  clear ho hn
                  refine ⟨wanted_of 29 151 rfl rfl n151, ?_, rfl⟩
                  go_simp
                rcases i with _ | i
                · refine step_value (.pointer (some (ad.add (j * 4)))) rfl ?_
                  intro a8 w8 hS ho hn
                  obtain ⟨_, n160, rfl⟩ := hn 38 160 (by kernel_rfl) rfl
                  obtain ⟨_, n161, rfl⟩ := hn 39 161 (by kernel_rfl) rfl
                  obtain ⟨_, n151, rfl⟩ := hn 29 151 (by kernel_rfl) rfl
                  clear ho hn
                  refine ⟨wanted_of 29 151 rfl rfl n151, ?_, rfl⟩
                  go_simp
                rcases i with _ | i
                · refine step_value (.pointer (some ⟨(ad.add (j * 4)).block, (ad.add (j * 4)).off + 1, none⟩)) rfl ?_
                  intro a8 w8 hS ho hn
                  obtain ⟨_, n162, rfl⟩ := hn 40 162 (by kernel_rfl) rfl
                  obtain ⟨_, n151, rfl⟩ := hn 29 151 (by kernel_rfl) rfl
                  clear ho hn
                  refine ⟨wanted_of 29 151 rfl rfl n151, ?_, rfl⟩
                  go_simp
                rcases i with _ | i
                · refine step_value (.int .i64 xa') rfl ?_
                  intro a8 w8 hS ho hn
                  obtain ⟨_, n163, rfl⟩ := hn 41 163 (by kernel_rfl) rfl
                  obtain ⟨_, n151, rfl⟩ := hn 29 151 (by kernel_rfl) rfl
                  clear ho hn
                  refine ⟨wanted_of 29 151 rfl rfl n151, ?_, rfl⟩
                  have h1 := (HC.out w8 (HSW.out.trans (hS.mono HSW.out.size))).1
                  go_simp
                rcases i with _ | i
                · refine step_call 22 #[.pointer (some ⟨b2, 0, none⟩), .int .i64 xa'] rfl ?_
                  intro a8 w8 hS ho hn
                  obtain ⟨_, n159, rfl⟩ := hn 37 159 (by kernel_rfl) rfl
                  obtain ⟨_, n164, rfl⟩ := hn 42 164 (by kernel_rfl) rfl
                  obtain ⟨_, n151, rfl⟩ := hn 29 151 (by kernel_rfl) rfl
                  clear ho hn
                  refine ⟨wanted_of 29 151 rfl rfl n151, by go_simp, ?_⟩
                  refine ((HDA.out w8 (HSW.out.trans (hS.mono HSW.out.size)))).mono ?_
                  rintro e wD ⟨rfl, rfl⟩
                  exact ⟨_, rfl, hS, rfl, fun j u _ h => h⟩
                rcases i with _ | i
                · refine step_value (.bool false) rfl ?_
                  intro a8 w8 hS ho hn
                  obtain ⟨_, n158, rfl⟩ := hn 36 158 (by kernel_rfl) rfl
                  obtain ⟨_, n165, rfl⟩ := hn 43 165 (by kernel_rfl) rfl
                  obtain ⟨_, n151, rfl⟩ := hn 29 151 (by kernel_rfl) rfl
                  clear ho hn
                  refine ⟨wanted_of 29 151 rfl rfl n151, ?_, rfl⟩
                  go_simp
                rcases i with _ | i
                · refine step_value (.bool false) rfl ?_
                  intro a8 w8 hS ho hn
                  obtain ⟨_, n151, rfl⟩ := hn 29 151 (by kernel_rfl) rfl
                  obtain ⟨_, n166, rfl⟩ := hn 44 166 (by kernel_rfl) rfl
                  clear ho hn
                  refine ⟨wanted_free rfl, ?_, rfl⟩
                  go_simp
                omega
              · intro f wD hS hR
                have h167 : f 167 = _ := hR 45 167 rfl
                simp only [putAll, List.foldl_cons, List.foldl_nil, Act.put, List.setIfInBounds_toArray, List.set_cons_succ, List.set_cons_zero, h167, List.getD_cons_zero, List.getD_cons_succ]
                clear hR h167
                go_wp2
                go_roundw
                case rel => exact ⟨j + 1, by omega, by go_num, HWR.out.trans ((HSW.out.trans (hS.mono HSW.out.size)).mono HWR.out.size)⟩
                case measure => simp [intOf]; omega
            · have e2 : (xk' == 2) = false := by rw [beq_eq_false_iff_ne]; exact h2
              clear h2
              by_cases h3 : xk' = 3
              · subst h3
                obtain rfl := HK3.out rfl
                refine wp_region_steps_on (fun W => Below wB.heap.size wB W) (fun i v _ => v = ([.slice (some ad) ga c4, .int .i64 (j : Int), .pointer (some (ad.add (j * 4))), .pointer (some (ad.add (j * 4))), .int .i64 3, .bool false, .bool false, undef, undef, .bool false, .bool false, .slice (some ad) ga c4, .int .i64 (j : Int), .pointer (some (ad.add (j * 4))), .pointer (some (ad.add (j * 4))), .int .i64 3, .bool true, .bool true, .bool true, .bool false, .bool false, .bool false, .bool false, .pointer (some ⟨b3, 0, none⟩), .int .i64 SB, .pointer (some ⟨b2, 0, none⟩), .int .i64 SA, .bool false, .bool false, .bool false, .pointer (some ⟨b3, 0, none⟩), .slice (some ad) ga c4, .int .i64 (j : Int), .pointer (some (ad.add (j * 4))), .pointer (some ⟨(ad.add (j * 4)).block, (ad.add (j * 4)).off + 1, none⟩), .int .i64 xa', .int .i64 DB, .pointer (some ⟨b2, 0, none⟩), .slice (some ad) ga c4, .int .i64 (j : Int), .pointer (some (ad.add (j * 4))), .pointer (some ⟨(ad.add (j * 4)).block, (ad.add (j * 4)).off + 1, none⟩), .int .i64 xa', .int .i64 DA, .bool false, .bool false] : List Value).getD i undef) (by kernel_rfl) 246 rfl (by kernel_rfl) ((Below.refl _ wB).drew) ?_ ?_
                · intro i hi
                  have hi2 : i < 46 := hi
                  clear hi
                  rcases i with _ | i
                  · refine step_value (.slice (some ad) ga c4) rfl ?_
                    intro a8 w8 hS ho hn
                    have o13 : a8.tmps[13]? = some _ := (ho 13 (by kernel_rfl)).trans rfl
                    clear ho hn
                    refine ⟨wanted_free rfl, ?_, rfl⟩
                    go_simp
                  rcases i with _ | i
                  · refine step_value (.int .i64 (j : Int)) rfl ?_
                    intro a8 w8 hS ho hn
                    have o15 : a8.tmps[15]? = some _ := (ho 15 (by kernel_rfl)).trans rfl
                    clear ho hn
                    refine ⟨wanted_free rfl, ?_, rfl⟩
                    go_simp
                  rcases i with _ | i
                  · refine step_value (.pointer (some (ad.add (j * 4)))) rfl ?_
                    intro a8 w8 hS ho hn
                    obtain ⟨_, n122, rfl⟩ := hn 0 122 (by kernel_rfl) rfl
                    obtain ⟨_, n123, rfl⟩ := hn 1 123 (by kernel_rfl) rfl
                    clear ho hn
                    refine ⟨wanted_free rfl, ?_, rfl⟩
                    go_simp
                  rcases i with _ | i
                  · refine step_value (.pointer (some (ad.add (j * 4)))) rfl ?_
                    intro a8 w8 hS ho hn
                    obtain ⟨_, n124, rfl⟩ := hn 2 124 (by kernel_rfl) rfl
                    clear ho hn
                    refine ⟨wanted_free rfl, ?_, rfl⟩
                    go_simp
                  rcases i with _ | i
                  · refine step_value (.int .i64 3) rfl ?_
                    intro a8 w8 hS ho hn
                    obtain ⟨_, n125, rfl⟩ := hn 3 125 (by kernel_rfl) rfl
                    clear ho hn
                    refine ⟨wanted_free rfl, ?_, rfl⟩
                    have h1 := HC0.out w8 (HSW.out.trans (hS.mono HSW.out.size))
                    go_simp
                  rcases i with _ | i
                  · refine step_value (.bool false) rfl ?_
                    intro a8 w8 hS ho hn
                    obtain ⟨_, n126, rfl⟩ := hn 4 126 (by kernel_rfl) rfl
                    clear ho hn
                    refine ⟨wanted_free rfl, ?_, rfl⟩
                    go_simp
                  rcases i with _ | i
                  · refine step_value (.bool false) rfl ?_
                    intro a8 w8 hS ho hn
                    obtain ⟨_, n127, rfl⟩ := hn 5 127 (by kernel_rfl) rfl
                    clear ho hn
                    refine ⟨wanted_free rfl, ?_, rfl⟩
                    go_simp
                  rcases i with _ | i
                  · refine step_skip rfl ?_
                    intro a8 w8 hS ho hn
                    obtain ⟨_, n128, rfl⟩ := hn 6 128 (by kernel_rfl) rfl
                    exact ⟨unwanted_of 6 128 rfl rfl n128 rfl, rfl⟩
                  rcases i with _ | i
                  · refine step_skip rfl ?_
                    intro a8 w8 hS ho hn
                    obtain ⟨_, n128, rfl⟩ := hn 6 128 (by kernel_rfl) rfl
                    exact ⟨unwanted_of 6 128 rfl rfl n128 rfl, rfl⟩
                  rcases i with _ | i
                  · refine step_value (.bool false) rfl ?_
                    intro a8 w8 hS ho hn
                    obtain ⟨_, n128, rfl⟩ := hn 6 128 (by kernel_rfl) rfl
                    obtain ⟨_, n130, rfl⟩ := hn 8 130 (by kernel_rfl) rfl
                    clear ho hn
                    refine ⟨wanted_free rfl, ?_, rfl⟩
                    go_simp
                  rcases i with _ | i
                  · refine step_value (.bool false) rfl ?_
                    intro a8 w8 hS ho hn
                    obtain ⟨_, n131, rfl⟩ := hn 9 131 (by kernel_rfl) rfl
                    clear ho hn
                    refine ⟨wanted_free rfl, ?_, rfl⟩
                    go_simp
                  rcases i with _ | i
                  · refine step_value (.slice (some ad) ga c4) rfl ?_
                    intro a8 w8 hS ho hn
                    have o13 : a8.tmps[13]? = some _ := (ho 13 (by kernel_rfl)).trans rfl
                    obtain ⟨_, n132, rfl⟩ := hn 10 132 (by kernel_rfl) rfl
                    clear ho hn
                    refine ⟨wanted_of 10 132 rfl rfl n132, ?_, rfl⟩
                    go_simp
                  rcases i with _ | i
                  · refine step_value (.int .i64 (j : Int)) rfl ?_
                    intro a8 w8 hS ho hn
                    have o15 : a8.tmps[15]? = some _ := (ho 15 (by kernel_rfl)).trans rfl
                    obtain ⟨_, n132, rfl⟩ := hn 10 132 (by kernel_rfl) rfl
                    clear ho hn
                    refine ⟨wanted_of 10 132 rfl rfl n132, ?_, rfl⟩
                    go_simp
                  rcases i with _ | i
                  · refine step_value (.pointer (some (ad.add (j * 4)))) rfl ?_
                    intro a8 w8 hS ho hn
                    obtain ⟨_, n133, rfl⟩ := hn 11 133 (by kernel_rfl) rfl
                    obtain ⟨_, n134, rfl⟩ := hn 12 134 (by kernel_rfl) rfl
                    obtain ⟨_, n132, rfl⟩ := hn 10 132 (by kernel_rfl) rfl
                    clear ho hn
                    refine ⟨wanted_of 10 132 rfl rfl n132, ?_, rfl⟩
                    go_simp
                  rcases i with _ | i
                  · refine step_value (.pointer (some (ad.add (j * 4)))) rfl ?_
                    intro a8 w8 hS ho hn
                    obtain ⟨_, n135, rfl⟩ := hn 13 135 (by kernel_rfl) rfl
                    obtain ⟨_, n132, rfl⟩ := hn 10 132 (by kernel_rfl) rfl
                    clear ho hn
                    refine ⟨wanted_of 10 132 rfl rfl n132, ?_, rfl⟩
                    go_simp
                  rcases i with _ | i
                  · refine step_value (.int .i64 3) rfl ?_
                    intro a8 w8 hS ho hn
                    obtain ⟨_, n136, rfl⟩ := hn 14 136 (by kernel_rfl) rfl
                    obtain ⟨_, n132, rfl⟩ := hn 10 132 (by kernel_rfl) rfl
                    clear ho hn
                    refine ⟨wanted_of 10 132 rfl rfl n132, ?_, rfl⟩
                    have h1 := HC0.out w8 (HSW.out.trans (hS.mono HSW.out.size))
                    go_simp
                  rcases i with _ | i
                  · refine step_value (.bool true) rfl ?_
                    intro a8 w8 hS ho hn
                    obtain ⟨_, n137, rfl⟩ := hn 15 137 (by kernel_rfl) rfl
                    obtain ⟨_, n132, rfl⟩ := hn 10 132 (by kernel_rfl) rfl
                    clear ho hn
                    refine ⟨wanted_of 10 132 rfl rfl n132, ?_, rfl⟩
                    go_simp
                  rcases i with _ | i
                  · refine step_value (.bool true) rfl ?_
                    intro a8 w8 hS ho hn
                    obtain ⟨_, n138, rfl⟩ := hn 16 138 (by kernel_rfl) rfl
                    obtain ⟨_, n132, rfl⟩ := hn 10 132 (by kernel_rfl) rfl
                    clear ho hn
                    refine ⟨wanted_of 10 132 rfl rfl n132, ?_, rfl⟩
                    go_simp
                  rcases i with _ | i
                  · refine step_value (.bool true) rfl ?_
                    intro a8 w8 hS ho hn
                    have o19 : a8.tmps[19]? = some _ := (ho 19 (by kernel_rfl)).trans rfl
                    obtain ⟨_, n139, rfl⟩ := hn 17 139 (by kernel_rfl) rfl
                    clear ho hn
                    refine ⟨wanted_of 17 139 rfl rfl n139, ?_, rfl⟩
                    go_simp
                  rcases i with _ | i
                  · refine step_value (.bool false) rfl ?_
                    intro a8 w8 hS ho hn
                    obtain ⟨_, n140, rfl⟩ := hn 18 140 (by kernel_rfl) rfl
                    obtain ⟨_, n139, rfl⟩ := hn 17 139 (by kernel_rfl) rfl
                    clear ho hn
                    refine ⟨wanted_of 17 139 rfl rfl n139, ?_, rfl⟩
                    go_simp
                  rcases i with _ | i
                  · refine step_value (.bool false) rfl ?_
                    intro a8 w8 hS ho hn
                    obtain ⟨_, n139, rfl⟩ := hn 17 139 (by kernel_rfl) rfl
                    obtain ⟨_, n141, rfl⟩ := hn 19 141 (by kernel_rfl) rfl
                    obtain ⟨_, n132, rfl⟩ := hn 10 132 (by kernel_rfl) rfl
                    clear ho hn
                    refine ⟨wanted_of 10 132 rfl rfl n132, ?_, rfl⟩
                    go_simp
                  rcases i with _ | i
                  · refine step_value (.bool false) rfl ?_
                    intro a8 w8 hS ho hn
                    obtain ⟨_, n132, rfl⟩ := hn 10 132 (by kernel_rfl) rfl
                    obtain ⟨_, n142, rfl⟩ := hn 20 142 (by kernel_rfl) rfl
                    clear ho hn
                    refine ⟨wanted_free rfl, ?_, rfl⟩
                    go_simp
                  rcases i with _ | i
                  · refine step_value (.bool false) rfl ?_
                    intro a8 w8 hS ho hn
                    obtain ⟨_, n143, rfl⟩ := hn 21 143 (by kernel_rfl) rfl
                    clear ho hn
                    refine ⟨wanted_free rfl, ?_, rfl⟩
                    go_simp
                  rcases i with _ | i
                  · refine step_value (.pointer (some ⟨b3, 0, none⟩)) rfl ?_
                    intro a8 w8 hS ho hn
                    have o12 : a8.tmps[12]? = some _ := (ho 12 (by kernel_rfl)).trans rfl
                    obtain ⟨_, n144, rfl⟩ := hn 22 144 (by kernel_rfl) rfl
                    clear ho hn
                    refine ⟨wanted_of 22 144 rfl rfl n144, ?_, rfl⟩
                    go_simp
                  rcases i with _ | i
                  · refine step_call 24 #[.pointer (some ⟨b3, 0, none⟩)] rfl ?_
                    intro a8 w8 hS ho hn
                    obtain ⟨_, n145, rfl⟩ := hn 23 145 (by kernel_rfl) rfl
                    obtain ⟨_, n144, rfl⟩ := hn 22 144 (by kernel_rfl) rfl
                    clear ho hn
                    refine ⟨wanted_of 22 144 rfl rfl n144, by go_simp, ?_⟩
                    refine ((HSB.out w8 (HSW.out.trans (hS.mono HSW.out.size)))).mono ?_
                    rintro e wD ⟨rfl, rfl⟩
                    exact ⟨_, rfl, hS, rfl, fun j u _ h => h⟩
                  rcases i with _ | i
                  · refine step_value (.pointer (some ⟨b2, 0, none⟩)) rfl ?_
                    intro a8 w8 hS ho hn
                    have o11 : a8.tmps[11]? = some _ := (ho 11 (by kernel_rfl)).trans rfl
                    obtain ⟨_, n144, rfl⟩ := hn 22 144 (by kernel_rfl) rfl
                    clear ho hn
                    refine ⟨wanted_of 22 144 rfl rfl n144, ?_, rfl⟩
                    go_simp
                  rcases i with _ | i
                  · refine step_call 24 #[.pointer (some ⟨b2, 0, none⟩)] rfl ?_
                    intro a8 w8 hS ho hn
                    obtain ⟨_, n147, rfl⟩ := hn 25 147 (by kernel_rfl) rfl
                    obtain ⟨_, n144, rfl⟩ := hn 22 144 (by kernel_rfl) rfl
                    clear ho hn
                    refine ⟨wanted_of 22 144 rfl rfl n144, by go_simp, ?_⟩
                    refine ((HSA.out w8 (HSW.out.trans (hS.mono HSW.out.size)))).mono ?_
                    rintro e wD ⟨rfl, rfl⟩
                    exact ⟨_, rfl, hS, rfl, fun j u _ h => h⟩
                  rcases i with _ | i
                  · refine step_value (.bool false) rfl ?_
                    intro a8 w8 hS ho hn
                    obtain ⟨_, n146, rfl⟩ := hn 24 146 (by kernel_rfl) rfl
                    obtain ⟨_, n148, rfl⟩ := hn 26 148 (by kernel_rfl) rfl
                    obtain ⟨_, n144, rfl⟩ := hn 22 144 (by kernel_rfl) rfl
                    clear ho hn
                    refine ⟨wanted_of 22 144 rfl rfl n144, ?_, rfl⟩
                    go_simp
                  rcases i with _ | i
                  · refine step_value (.bool false) rfl ?_
                    intro a8 w8 hS ho hn
                    obtain ⟨_, n144, rfl⟩ := hn 22 144 (by kernel_rfl) rfl
                    obtain ⟨_, n149, rfl⟩ := hn 27 149 (by kernel_rfl) rfl
                    clear ho hn
                    refine ⟨wanted_free rfl, ?_, rfl⟩
                    go_simp
                  rcases i with _ | i
                  · refine step_value (.bool false) rfl ?_
                    intro a8 w8 hS ho hn
                    obtain ⟨_, n150, rfl⟩ := hn 28 150 (by kernel_rfl) rfl
                    clear ho hn
                    refine ⟨wanted_free rfl, ?_, rfl⟩
                    go_simp
                  rcases i with _ | i
                  · refine step_value (.pointer (some ⟨b3, 0, none⟩)) rfl ?_
                    intro a8 w8 hS ho hn
                    have o12 : a8.tmps[12]? = some _ := (ho 12 (by kernel_rfl)).trans rfl
                    obtain ⟨_, n151, rfl⟩ := hn 29 151 (by kernel_rfl) rfl
                    clear ho hn
                    refine ⟨wanted_of 29 151 rfl rfl n151, ?_, rfl⟩
                    go_simp
                  rcases i with _ | i
                  · refine step_value (.slice (some ad) ga c4) rfl ?_
                    intro a8 w8 hS ho hn
                    have o13 : a8.tmps[13]? = some _ := (ho 13 (by kernel_rfl)).trans rfl
                    obtain ⟨_, n151, rfl⟩ := hn 29 151 (by kernel_rfl) rfl
                    clear ho hn
                    refine ⟨wanted_of 29 151 rfl rfl n151, ?_, rfl⟩
                    go_simp
                  rcases i with _ | i
                  · refine step_value (.int .i64 (j : Int)) rfl ?_
                    intro a8 w8 hS ho hn
                    have o15 : a8.tmps[15]? = some _ := (ho 15 (by kernel_rfl)).trans rfl
                    obtain ⟨_, n151, rfl⟩ := hn 29 151 (by kernel_rfl) rfl
                    clear ho hn
                    refine ⟨wanted_of 29 151 rfl rfl n151, ?_, rfl⟩
                    go_simp
                  rcases i with _ | i
                  · refine step_value (.pointer (some (ad.add (j * 4)))) rfl ?_
                    intro a8 w8 hS ho hn
                    obtain ⟨_, n153, rfl⟩ := hn 31 153 (by kernel_rfl) rfl
                    obtain ⟨_, n154, rfl⟩ := hn 32 154 (by kernel_rfl) rfl
                    obtain ⟨_, n151, rfl⟩ := hn 29 151 (by kernel_rfl) rfl
                    clear ho hn
                    refine ⟨wanted_of 29 151 rfl rfl n151, ?_, rfl⟩
                    go_simp
                  rcases i with _ | i
                  · refine step_value (.pointer (some ⟨(ad.add (j * 4)).block, (ad.add (j * 4)).off + 1, none⟩)) rfl ?_
                    intro a8 w8 hS ho hn
                    obtain ⟨_, n155, rfl⟩ := hn 33 155 (by kernel_rfl) rfl
                    obtain ⟨_, n151, rfl⟩ := hn 29 151 (by kernel_rfl) rfl
                    clear ho hn
                    refine ⟨wanted_of 29 151 rfl rfl n151, ?_, rfl⟩
                    go_simp
                  rcases i with _ | i
                  · refine step_value (.int .i64 xa') rfl ?_
                    intro a8 w8 hS ho hn
                    obtain ⟨_, n156, rfl⟩ := hn 34 156 (by kernel_rfl) rfl
                    obtain ⟨_, n151, rfl⟩ := hn 29 151 (by kernel_rfl) rfl
                    clear ho hn
                    refine ⟨wanted_of 29 151 rfl rfl n151, ?_, rfl⟩
                    have h1 := (HC.out w8 (HSW.out.trans (hS.mono HSW.out.size))).1
                    go_simp
                  rcases i with _ | i
                  · refine step_call 22 #[.pointer (some ⟨b3, 0, none⟩), .int .i64 xa'] rfl ?_
                    intro a8 w8 hS ho hn
                    obtain ⟨_, n152, rfl⟩ := hn 30 152 (by kernel_rfl) rfl
                    obtain ⟨_, n157, rfl⟩ := hn 35 157 (by kernel_rfl) rfl
                    obtain ⟨_, n151, rfl⟩ := hn 29 151 (by kernel_rfl) rfl
                    clear ho hn
                    refine ⟨wanted_of 29 151 rfl rfl n151, by go_simp, ?_⟩
                    refine ((HDB.out w8 (HSW.out.trans (hS.mono HSW.out.size)))).mono ?_
                    rintro e wD ⟨rfl, rfl⟩
                    exact ⟨_, rfl, hS, rfl, fun j u _ h => h⟩
                  rcases i with _ | i
                  · refine step_value (.pointer (some ⟨b2, 0, none⟩)) rfl ?_
                    intro a8 w8 hS ho hn
                    have o11 : a8.tmps[11]? = some _ := (ho 11 (by kernel_rfl)).trans rfl
                    obtain ⟨_, n151, rfl⟩ := hn 29 151 (by kernel_rfl) rfl
                    clear ho hn
                    refine ⟨wanted_of 29 151 rfl rfl n151, ?_, rfl⟩
                    go_simp
                  rcases i with _ | i
                  · refine step_value (.slice (some ad) ga c4) rfl ?_
                    intro a8 w8 hS ho hn
                    have o13 : a8.tmps[13]? = some _ := (ho 13 (by kernel_rfl)).trans rfl
                    obtain ⟨_, n151, rfl⟩ := hn 29 151 (by kernel_rfl) rfl
                    clear ho hn
                    refine ⟨wanted_of 29 151 rfl rfl n151, ?_, rfl⟩
                    go_simp
                  rcases i with _ | i
                  · refine step_value (.int .i64 (j : Int)) rfl ?_
                    intro a8 w8 hS ho hn
                    have o15 : a8.tmps[15]? = some _ := (ho 15 (by kernel_rfl)).trans rfl
                    obtain ⟨_, n151, rfl⟩ := hn 29 151 (by kernel_rfl) rfl
                    clear ho hn
                    refine ⟨wanted_of 29 151 rfl rfl n151, ?_, rfl⟩
                    go_simp
                  rcases i with _ | i
                  · refine step_value (.pointer (some (ad.add (j * 4)))) rfl ?_
                    intro a8 w8 hS ho hn
                    obtain ⟨_, n160, rfl⟩ := hn 38 160 (by kernel_rfl) rfl
                    obtain ⟨_, n161, rfl⟩ := hn 39 161 (by kernel_rfl) rfl
                    obtain ⟨_, n151, rfl⟩ := hn 29 151 (by kernel_rfl) rfl
                    clear ho hn
                    refine ⟨wanted_of 29 151 rfl rfl n151, ?_, rfl⟩
                    go_simp
                  rcases i with _ | i
                  · refine step_value (.pointer (some ⟨(ad.add (j * 4)).block, (ad.add (j * 4)).off + 1, none⟩)) rfl ?_
                    intro a8 w8 hS ho hn
                    obtain ⟨_, n162, rfl⟩ := hn 40 162 (by kernel_rfl) rfl
                    obtain ⟨_, n151, rfl⟩ := hn 29 151 (by kernel_rfl) rfl
                    clear ho hn
                    refine ⟨wanted_of 29 151 rfl rfl n151, ?_, rfl⟩
                    go_simp
                  rcases i with _ | i
                  · refine step_value (.int .i64 xa') rfl ?_
                    intro a8 w8 hS ho hn
                    obtain ⟨_, n163, rfl⟩ := hn 41 163 (by kernel_rfl) rfl
                    obtain ⟨_, n151, rfl⟩ := hn 29 151 (by kernel_rfl) rfl
                    clear ho hn
                    refine ⟨wanted_of 29 151 rfl rfl n151, ?_, rfl⟩
                    have h1 := (HC.out w8 (HSW.out.trans (hS.mono HSW.out.size))).1
                    go_simp
                  rcases i with _ | i
                  · refine step_call 22 #[.pointer (some ⟨b2, 0, none⟩), .int .i64 xa'] rfl ?_
                    intro a8 w8 hS ho hn
                    obtain ⟨_, n159, rfl⟩ := hn 37 159 (by kernel_rfl) rfl
                    obtain ⟨_, n164, rfl⟩ := hn 42 164 (by kernel_rfl) rfl
                    obtain ⟨_, n151, rfl⟩ := hn 29 151 (by kernel_rfl) rfl
                    clear ho hn
                    refine ⟨wanted_of 29 151 rfl rfl n151, by go_simp, ?_⟩
                    refine ((HDA.out w8 (HSW.out.trans (hS.mono HSW.out.size)))).mono ?_
                    rintro e wD ⟨rfl, rfl⟩
                    exact ⟨_, rfl, hS, rfl, fun j u _ h => h⟩
                  rcases i with _ | i
                  · refine step_value (.bool false) rfl ?_
                    intro a8 w8 hS ho hn
                    obtain ⟨_, n158, rfl⟩ := hn 36 158 (by kernel_rfl) rfl
                    obtain ⟨_, n165, rfl⟩ := hn 43 165 (by kernel_rfl) rfl
                    obtain ⟨_, n151, rfl⟩ := hn 29 151 (by kernel_rfl) rfl
                    clear ho hn
                    refine ⟨wanted_of 29 151 rfl rfl n151, ?_, rfl⟩
                    go_simp
                  rcases i with _ | i
                  · refine step_value (.bool false) rfl ?_
                    intro a8 w8 hS ho hn
                    obtain ⟨_, n151, rfl⟩ := hn 29 151 (by kernel_rfl) rfl
                    obtain ⟨_, n166, rfl⟩ := hn 44 166 (by kernel_rfl) rfl
                    clear ho hn
                    refine ⟨wanted_free rfl, ?_, rfl⟩
                    go_simp
                  omega
                · intro f wD hS hR
                  have h167 : f 167 = _ := hR 45 167 rfl
                  simp only [putAll, List.foldl_cons, List.foldl_nil, Act.put, List.setIfInBounds_toArray, List.set_cons_succ, List.set_cons_zero, h167, List.getD_cons_zero, List.getD_cons_succ]
                  clear hR h167
                  go_wp2
                  go_roundw
                  case rel => exact ⟨j + 1, by omega, by go_num, HWR.out.trans ((HSW.out.trans (hS.mono HSW.out.size)).mono HWR.out.size)⟩
                  case measure => simp [intOf]; omega
              · have e3 : (xk' == 3) = false := by rw [beq_eq_false_iff_ne]; exact h3
                clear h3
                refine wp_region_steps_on (fun W => Below wB.heap.size wB W) (fun i v _ => v = ([.slice (some ad) ga c4, .int .i64 (j : Int), .pointer (some (ad.add (j * 4))), .pointer (some (ad.add (j * 4))), .int .i64 xk', .bool false, .bool false, undef, undef, .bool false, .bool false, .slice (some ad) ga c4, .int .i64 (j : Int), .pointer (some (ad.add (j * 4))), .pointer (some (ad.add (j * 4))), .int .i64 xk', .bool false, .bool false, undef, undef, .bool false, .bool false, .bool false, .pointer (some ⟨b3, 0, none⟩), .int .i64 SB, .pointer (some ⟨b2, 0, none⟩), .int .i64 SA, .bool false, .bool false, .bool false, .pointer (some ⟨b3, 0, none⟩), .slice (some ad) ga c4, .int .i64 (j : Int), .pointer (some (ad.add (j * 4))), .pointer (some ⟨(ad.add (j * 4)).block, (ad.add (j * 4)).off + 1, none⟩), .int .i64 xa', .int .i64 DB, .pointer (some ⟨b2, 0, none⟩), .slice (some ad) ga c4, .int .i64 (j : Int), .pointer (some (ad.add (j * 4))), .pointer (some ⟨(ad.add (j * 4)).block, (ad.add (j * 4)).off + 1, none⟩), .int .i64 xa', .int .i64 DA, .bool false, .bool false] : List Value).getD i undef) (by kernel_rfl) 246 rfl (by kernel_rfl) ((Below.refl _ wB).drew) ?_ ?_
                · intro i hi
                  have hi2 : i < 46 := hi
                  clear hi
                  rcases i with _ | i
                  · refine step_value (.slice (some ad) ga c4) rfl ?_
                    intro a8 w8 hS ho hn
                    have o13 : a8.tmps[13]? = some _ := (ho 13 (by kernel_rfl)).trans rfl
                    clear ho hn
                    refine ⟨wanted_free rfl, ?_, rfl⟩
                    go_simp
                  rcases i with _ | i
                  · refine step_value (.int .i64 (j : Int)) rfl ?_
                    intro a8 w8 hS ho hn
                    have o15 : a8.tmps[15]? = some _ := (ho 15 (by kernel_rfl)).trans rfl
                    clear ho hn
                    refine ⟨wanted_free rfl, ?_, rfl⟩
                    go_simp
                  rcases i with _ | i
                  · refine step_value (.pointer (some (ad.add (j * 4)))) rfl ?_
                    intro a8 w8 hS ho hn
                    obtain ⟨_, n122, rfl⟩ := hn 0 122 (by kernel_rfl) rfl
                    obtain ⟨_, n123, rfl⟩ := hn 1 123 (by kernel_rfl) rfl
                    clear ho hn
                    refine ⟨wanted_free rfl, ?_, rfl⟩
                    go_simp
                  rcases i with _ | i
                  · refine step_value (.pointer (some (ad.add (j * 4)))) rfl ?_
                    intro a8 w8 hS ho hn
                    obtain ⟨_, n124, rfl⟩ := hn 2 124 (by kernel_rfl) rfl
                    clear ho hn
                    refine ⟨wanted_free rfl, ?_, rfl⟩
                    go_simp
                  rcases i with _ | i
                  · refine step_value (.int .i64 xk') rfl ?_
                    intro a8 w8 hS ho hn
                    obtain ⟨_, n125, rfl⟩ := hn 3 125 (by kernel_rfl) rfl
                    clear ho hn
                    refine ⟨wanted_free rfl, ?_, rfl⟩
                    have h1 := HC0.out w8 (HSW.out.trans (hS.mono HSW.out.size))
                    go_simp
                  rcases i with _ | i
                  · refine step_value (.bool false) rfl ?_
                    intro a8 w8 hS ho hn
                    obtain ⟨_, n126, rfl⟩ := hn 4 126 (by kernel_rfl) rfl
                    clear ho hn
                    refine ⟨wanted_free rfl, ?_, rfl⟩
                    go_simp
                  rcases i with _ | i
                  · refine step_value (.bool false) rfl ?_
                    intro a8 w8 hS ho hn
                    obtain ⟨_, n127, rfl⟩ := hn 5 127 (by kernel_rfl) rfl
                    clear ho hn
                    refine ⟨wanted_free rfl, ?_, rfl⟩
                    go_simp
                  rcases i with _ | i
                  · refine step_skip rfl ?_
                    intro a8 w8 hS ho hn
                    obtain ⟨_, n128, rfl⟩ := hn 6 128 (by kernel_rfl) rfl
                    exact ⟨unwanted_of 6 128 rfl rfl n128 rfl, rfl⟩
                  rcases i with _ | i
                  · refine step_skip rfl ?_
                    intro a8 w8 hS ho hn
                    obtain ⟨_, n128, rfl⟩ := hn 6 128 (by kernel_rfl) rfl
                    exact ⟨unwanted_of 6 128 rfl rfl n128 rfl, rfl⟩
                  rcases i with _ | i
                  · refine step_value (.bool false) rfl ?_
                    intro a8 w8 hS ho hn
                    obtain ⟨_, n128, rfl⟩ := hn 6 128 (by kernel_rfl) rfl
                    obtain ⟨_, n130, rfl⟩ := hn 8 130 (by kernel_rfl) rfl
                    clear ho hn
                    refine ⟨wanted_free rfl, ?_, rfl⟩
                    go_simp
                  rcases i with _ | i
                  · refine step_value (.bool false) rfl ?_
                    intro a8 w8 hS ho hn
                    obtain ⟨_, n131, rfl⟩ := hn 9 131 (by kernel_rfl) rfl
                    clear ho hn
                    refine ⟨wanted_free rfl, ?_, rfl⟩
                    go_simp
                  rcases i with _ | i
                  · refine step_value (.slice (some ad) ga c4) rfl ?_
                    intro a8 w8 hS ho hn
                    have o13 : a8.tmps[13]? = some _ := (ho 13 (by kernel_rfl)).trans rfl
                    obtain ⟨_, n132, rfl⟩ := hn 10 132 (by kernel_rfl) rfl
                    clear ho hn
                    refine ⟨wanted_of 10 132 rfl rfl n132, ?_, rfl⟩
                    go_simp
                  rcases i with _ | i
                  · refine step_value (.int .i64 (j : Int)) rfl ?_
                    intro a8 w8 hS ho hn
                    have o15 : a8.tmps[15]? = some _ := (ho 15 (by kernel_rfl)).trans rfl
                    obtain ⟨_, n132, rfl⟩ := hn 10 132 (by kernel_rfl) rfl
                    clear ho hn
                    refine ⟨wanted_of 10 132 rfl rfl n132, ?_, rfl⟩
                    go_simp
                  rcases i with _ | i
                  · refine step_value (.pointer (some (ad.add (j * 4)))) rfl ?_
                    intro a8 w8 hS ho hn
                    obtain ⟨_, n133, rfl⟩ := hn 11 133 (by kernel_rfl) rfl
                    obtain ⟨_, n134, rfl⟩ := hn 12 134 (by kernel_rfl) rfl
                    obtain ⟨_, n132, rfl⟩ := hn 10 132 (by kernel_rfl) rfl
                    clear ho hn
                    refine ⟨wanted_of 10 132 rfl rfl n132, ?_, rfl⟩
                    go_simp
                  rcases i with _ | i
                  · refine step_value (.pointer (some (ad.add (j * 4)))) rfl ?_
                    intro a8 w8 hS ho hn
                    obtain ⟨_, n135, rfl⟩ := hn 13 135 (by kernel_rfl) rfl
                    obtain ⟨_, n132, rfl⟩ := hn 10 132 (by kernel_rfl) rfl
                    clear ho hn
                    refine ⟨wanted_of 10 132 rfl rfl n132, ?_, rfl⟩
                    go_simp
                  rcases i with _ | i
                  · refine step_value (.int .i64 xk') rfl ?_
                    intro a8 w8 hS ho hn
                    obtain ⟨_, n136, rfl⟩ := hn 14 136 (by kernel_rfl) rfl
                    obtain ⟨_, n132, rfl⟩ := hn 10 132 (by kernel_rfl) rfl
                    clear ho hn
                    refine ⟨wanted_of 10 132 rfl rfl n132, ?_, rfl⟩
                    have h1 := HC0.out w8 (HSW.out.trans (hS.mono HSW.out.size))
                    go_simp
                  rcases i with _ | i
                  · refine step_value (.bool false) rfl ?_
                    intro a8 w8 hS ho hn
                    obtain ⟨_, n137, rfl⟩ := hn 15 137 (by kernel_rfl) rfl
                    obtain ⟨_, n132, rfl⟩ := hn 10 132 (by kernel_rfl) rfl
                    clear ho hn
                    refine ⟨wanted_of 10 132 rfl rfl n132, ?_, rfl⟩
                    go_simp
                  rcases i with _ | i
                  · refine step_value (.bool false) rfl ?_
                    intro a8 w8 hS ho hn
                    obtain ⟨_, n138, rfl⟩ := hn 16 138 (by kernel_rfl) rfl
                    obtain ⟨_, n132, rfl⟩ := hn 10 132 (by kernel_rfl) rfl
                    clear ho hn
                    refine ⟨wanted_of 10 132 rfl rfl n132, ?_, rfl⟩
                    go_simp
                  rcases i with _ | i
                  · refine step_skip rfl ?_
                    intro a8 w8 hS ho hn
                    obtain ⟨_, n139, rfl⟩ := hn 17 139 (by kernel_rfl) rfl
                    exact ⟨unwanted_of 17 139 rfl rfl n139 rfl, rfl⟩
                  rcases i with _ | i
                  · refine step_skip rfl ?_
                    intro a8 w8 hS ho hn
                    obtain ⟨_, n139, rfl⟩ := hn 17 139 (by kernel_rfl) rfl
                    exact ⟨unwanted_of 17 139 rfl rfl n139 rfl, rfl⟩
                  rcases i with _ | i
                  · refine step_value (.bool false) rfl ?_
                    intro a8 w8 hS ho hn
                    obtain ⟨_, n139, rfl⟩ := hn 17 139 (by kernel_rfl) rfl
                    obtain ⟨_, n141, rfl⟩ := hn 19 141 (by kernel_rfl) rfl
                    obtain ⟨_, n132, rfl⟩ := hn 10 132 (by kernel_rfl) rfl
                    clear ho hn
                    refine ⟨wanted_of 10 132 rfl rfl n132, ?_, rfl⟩
                    go_simp
                  rcases i with _ | i
                  · refine step_value (.bool false) rfl ?_
                    intro a8 w8 hS ho hn
                    obtain ⟨_, n132, rfl⟩ := hn 10 132 (by kernel_rfl) rfl
                    obtain ⟨_, n142, rfl⟩ := hn 20 142 (by kernel_rfl) rfl
                    clear ho hn
                    refine ⟨wanted_free rfl, ?_, rfl⟩
                    go_simp
                  rcases i with _ | i
                  · refine step_value (.bool false) rfl ?_
                    intro a8 w8 hS ho hn
                    obtain ⟨_, n143, rfl⟩ := hn 21 143 (by kernel_rfl) rfl
                    clear ho hn
                    refine ⟨wanted_free rfl, ?_, rfl⟩
                    go_simp
                  rcases i with _ | i
                  · refine step_value (.pointer (some ⟨b3, 0, none⟩)) rfl ?_
                    intro a8 w8 hS ho hn
                    have o12 : a8.tmps[12]? = some _ := (ho 12 (by kernel_rfl)).trans rfl
                    obtain ⟨_, n144, rfl⟩ := hn 22 144 (by kernel_rfl) rfl
                    clear ho hn
                    refine ⟨wanted_of 22 144 rfl rfl n144, ?_, rfl⟩
                    go_simp
                  rcases i with _ | i
                  · refine step_call 24 #[.pointer (some ⟨b3, 0, none⟩)] rfl ?_
                    intro a8 w8 hS ho hn
                    obtain ⟨_, n145, rfl⟩ := hn 23 145 (by kernel_rfl) rfl
                    obtain ⟨_, n144, rfl⟩ := hn 22 144 (by kernel_rfl) rfl
                    clear ho hn
                    refine ⟨wanted_of 22 144 rfl rfl n144, by go_simp, ?_⟩
                    refine ((HSB.out w8 (HSW.out.trans (hS.mono HSW.out.size)))).mono ?_
                    rintro e wD ⟨rfl, rfl⟩
                    exact ⟨_, rfl, hS, rfl, fun j u _ h => h⟩
                  rcases i with _ | i
                  · refine step_value (.pointer (some ⟨b2, 0, none⟩)) rfl ?_
                    intro a8 w8 hS ho hn
                    have o11 : a8.tmps[11]? = some _ := (ho 11 (by kernel_rfl)).trans rfl
                    obtain ⟨_, n144, rfl⟩ := hn 22 144 (by kernel_rfl) rfl
                    clear ho hn
                    refine ⟨wanted_of 22 144 rfl rfl n144, ?_, rfl⟩
                    go_simp
                  rcases i with _ | i
                  · refine step_call 24 #[.pointer (some ⟨b2, 0, none⟩)] rfl ?_
                    intro a8 w8 hS ho hn
                    obtain ⟨_, n147, rfl⟩ := hn 25 147 (by kernel_rfl) rfl
                    obtain ⟨_, n144, rfl⟩ := hn 22 144 (by kernel_rfl) rfl
                    clear ho hn
                    refine ⟨wanted_of 22 144 rfl rfl n144, by go_simp, ?_⟩
                    refine ((HSA.out w8 (HSW.out.trans (hS.mono HSW.out.size)))).mono ?_
                    rintro e wD ⟨rfl, rfl⟩
                    exact ⟨_, rfl, hS, rfl, fun j u _ h => h⟩
                  rcases i with _ | i
                  · refine step_value (.bool false) rfl ?_
                    intro a8 w8 hS ho hn
                    obtain ⟨_, n146, rfl⟩ := hn 24 146 (by kernel_rfl) rfl
                    obtain ⟨_, n148, rfl⟩ := hn 26 148 (by kernel_rfl) rfl
                    obtain ⟨_, n144, rfl⟩ := hn 22 144 (by kernel_rfl) rfl
                    clear ho hn
                    refine ⟨wanted_of 22 144 rfl rfl n144, ?_, rfl⟩
                    go_simp
                  rcases i with _ | i
                  · refine step_value (.bool false) rfl ?_
                    intro a8 w8 hS ho hn
                    obtain ⟨_, n144, rfl⟩ := hn 22 144 (by kernel_rfl) rfl
                    obtain ⟨_, n149, rfl⟩ := hn 27 149 (by kernel_rfl) rfl
                    clear ho hn
                    refine ⟨wanted_free rfl, ?_, rfl⟩
                    go_simp
                  rcases i with _ | i
                  · refine step_value (.bool false) rfl ?_
                    intro a8 w8 hS ho hn
                    obtain ⟨_, n150, rfl⟩ := hn 28 150 (by kernel_rfl) rfl
                    clear ho hn
                    refine ⟨wanted_free rfl, ?_, rfl⟩
                    go_simp
                  rcases i with _ | i
                  · refine step_value (.pointer (some ⟨b3, 0, none⟩)) rfl ?_
                    intro a8 w8 hS ho hn
                    have o12 : a8.tmps[12]? = some _ := (ho 12 (by kernel_rfl)).trans rfl
                    obtain ⟨_, n151, rfl⟩ := hn 29 151 (by kernel_rfl) rfl
                    clear ho hn
                    refine ⟨wanted_of 29 151 rfl rfl n151, ?_, rfl⟩
                    go_simp
                  rcases i with _ | i
                  · refine step_value (.slice (some ad) ga c4) rfl ?_
                    intro a8 w8 hS ho hn
                    have o13 : a8.tmps[13]? = some _ := (ho 13 (by kernel_rfl)).trans rfl
                    obtain ⟨_, n151, rfl⟩ := hn 29 151 (by kernel_rfl) rfl
                    clear ho hn
                    refine ⟨wanted_of 29 151 rfl rfl n151, ?_, rfl⟩
                    go_simp
                  rcases i with _ | i
                  · refine step_value (.int .i64 (j : Int)) rfl ?_
                    intro a8 w8 hS ho hn
                    have o15 : a8.tmps[15]? = some _ := (ho 15 (by kernel_rfl)).trans rfl
                    obtain ⟨_, n151, rfl⟩ := hn 29 151 (by kernel_rfl) rfl
                    clear ho hn
                    refine ⟨wanted_of 29 151 rfl rfl n151, ?_, rfl⟩
                    go_simp
                  rcases i with _ | i
                  · refine step_value (.pointer (some (ad.add (j * 4)))) rfl ?_
                    intro a8 w8 hS ho hn
                    obtain ⟨_, n153, rfl⟩ := hn 31 153 (by kernel_rfl) rfl
                    obtain ⟨_, n154, rfl⟩ := hn 32 154 (by kernel_rfl) rfl
                    obtain ⟨_, n151, rfl⟩ := hn 29 151 (by kernel_rfl) rfl
                    clear ho hn
                    refine ⟨wanted_of 29 151 rfl rfl n151, ?_, rfl⟩
                    go_simp
                  rcases i with _ | i
                  · refine step_value (.pointer (some ⟨(ad.add (j * 4)).block, (ad.add (j * 4)).off + 1, none⟩)) rfl ?_
                    intro a8 w8 hS ho hn
                    obtain ⟨_, n155, rfl⟩ := hn 33 155 (by kernel_rfl) rfl
                    obtain ⟨_, n151, rfl⟩ := hn 29 151 (by kernel_rfl) rfl
                    clear ho hn
                    refine ⟨wanted_of 29 151 rfl rfl n151, ?_, rfl⟩
                    go_simp
                  rcases i with _ | i
                  · refine step_value (.int .i64 xa') rfl ?_
                    intro a8 w8 hS ho hn
                    obtain ⟨_, n156, rfl⟩ := hn 34 156 (by kernel_rfl) rfl
                    obtain ⟨_, n151, rfl⟩ := hn 29 151 (by kernel_rfl) rfl
                    clear ho hn
                    refine ⟨wanted_of 29 151 rfl rfl n151, ?_, rfl⟩
                    have h1 := (HC.out w8 (HSW.out.trans (hS.mono HSW.out.size))).1
                    go_simp
                  rcases i with _ | i
                  · refine step_call 22 #[.pointer (some ⟨b3, 0, none⟩), .int .i64 xa'] rfl ?_
                    intro a8 w8 hS ho hn
                    obtain ⟨_, n152, rfl⟩ := hn 30 152 (by kernel_rfl) rfl
                    obtain ⟨_, n157, rfl⟩ := hn 35 157 (by kernel_rfl) rfl
                    obtain ⟨_, n151, rfl⟩ := hn 29 151 (by kernel_rfl) rfl
                    clear ho hn
                    refine ⟨wanted_of 29 151 rfl rfl n151, by go_simp, ?_⟩
                    refine ((HDB.out w8 (HSW.out.trans (hS.mono HSW.out.size)))).mono ?_
                    rintro e wD ⟨rfl, rfl⟩
                    exact ⟨_, rfl, hS, rfl, fun j u _ h => h⟩
                  rcases i with _ | i
                  · refine step_value (.pointer (some ⟨b2, 0, none⟩)) rfl ?_
                    intro a8 w8 hS ho hn
                    have o11 : a8.tmps[11]? = some _ := (ho 11 (by kernel_rfl)).trans rfl
                    obtain ⟨_, n151, rfl⟩ := hn 29 151 (by kernel_rfl) rfl
                    clear ho hn
                    refine ⟨wanted_of 29 151 rfl rfl n151, ?_, rfl⟩
                    go_simp
                  rcases i with _ | i
                  · refine step_value (.slice (some ad) ga c4) rfl ?_
                    intro a8 w8 hS ho hn
                    have o13 : a8.tmps[13]? = some _ := (ho 13 (by kernel_rfl)).trans rfl
                    obtain ⟨_, n151, rfl⟩ := hn 29 151 (by kernel_rfl) rfl
                    clear ho hn
                    refine ⟨wanted_of 29 151 rfl rfl n151, ?_, rfl⟩
                    go_simp
                  rcases i with _ | i
                  · refine step_value (.int .i64 (j : Int)) rfl ?_
                    intro a8 w8 hS ho hn
                    have o15 : a8.tmps[15]? = some _ := (ho 15 (by kernel_rfl)).trans rfl
                    obtain ⟨_, n151, rfl⟩ := hn 29 151 (by kernel_rfl) rfl
                    clear ho hn
                    refine ⟨wanted_of 29 151 rfl rfl n151, ?_, rfl⟩
                    go_simp
                  rcases i with _ | i
                  · refine step_value (.pointer (some (ad.add (j * 4)))) rfl ?_
                    intro a8 w8 hS ho hn
                    obtain ⟨_, n160, rfl⟩ := hn 38 160 (by kernel_rfl) rfl
                    obtain ⟨_, n161, rfl⟩ := hn 39 161 (by kernel_rfl) rfl
                    obtain ⟨_, n151, rfl⟩ := hn 29 151 (by kernel_rfl) rfl
                    clear ho hn
                    refine ⟨wanted_of 29 151 rfl rfl n151, ?_, rfl⟩
                    go_simp
                  rcases i with _ | i
                  · refine step_value (.pointer (some ⟨(ad.add (j * 4)).block, (ad.add (j * 4)).off + 1, none⟩)) rfl ?_
                    intro a8 w8 hS ho hn
                    obtain ⟨_, n162, rfl⟩ := hn 40 162 (by kernel_rfl) rfl
                    obtain ⟨_, n151, rfl⟩ := hn 29 151 (by kernel_rfl) rfl
                    clear ho hn
                    refine ⟨wanted_of 29 151 rfl rfl n151, ?_, rfl⟩
                    go_simp
                  rcases i with _ | i
                  · refine step_value (.int .i64 xa') rfl ?_
                    intro a8 w8 hS ho hn
                    obtain ⟨_, n163, rfl⟩ := hn 41 163 (by kernel_rfl) rfl
                    obtain ⟨_, n151, rfl⟩ := hn 29 151 (by kernel_rfl) rfl
                    clear ho hn
                    refine ⟨wanted_of 29 151 rfl rfl n151, ?_, rfl⟩
                    have h1 := (HC.out w8 (HSW.out.trans (hS.mono HSW.out.size))).1
                    go_simp
                  rcases i with _ | i
                  · refine step_call 22 #[.pointer (some ⟨b2, 0, none⟩), .int .i64 xa'] rfl ?_
                    intro a8 w8 hS ho hn
                    obtain ⟨_, n159, rfl⟩ := hn 37 159 (by kernel_rfl) rfl
                    obtain ⟨_, n164, rfl⟩ := hn 42 164 (by kernel_rfl) rfl
                    obtain ⟨_, n151, rfl⟩ := hn 29 151 (by kernel_rfl) rfl
                    clear ho hn
                    refine ⟨wanted_of 29 151 rfl rfl n151, by go_simp, ?_⟩
                    refine ((HDA.out w8 (HSW.out.trans (hS.mono HSW.out.size)))).mono ?_
                    rintro e wD ⟨rfl, rfl⟩
                    exact ⟨_, rfl, hS, rfl, fun j u _ h => h⟩
                  rcases i with _ | i
                  · refine step_value (.bool false) rfl ?_
                    intro a8 w8 hS ho hn
                    obtain ⟨_, n158, rfl⟩ := hn 36 158 (by kernel_rfl) rfl
                    obtain ⟨_, n165, rfl⟩ := hn 43 165 (by kernel_rfl) rfl
                    obtain ⟨_, n151, rfl⟩ := hn 29 151 (by kernel_rfl) rfl
                    clear ho hn
                    refine ⟨wanted_of 29 151 rfl rfl n151, ?_, rfl⟩
                    go_simp
                  rcases i with _ | i
                  · refine step_value (.bool false) rfl ?_
                    intro a8 w8 hS ho hn
                    obtain ⟨_, n151, rfl⟩ := hn 29 151 (by kernel_rfl) rfl
                    obtain ⟨_, n166, rfl⟩ := hn 44 166 (by kernel_rfl) rfl
                    clear ho hn
                    refine ⟨wanted_free rfl, ?_, rfl⟩
                    go_simp
                  omega
                · intro f wD hS hR
                  have h167 : f 167 = _ := hR 45 167 rfl
                  simp only [putAll, List.foldl_cons, List.foldl_nil, Act.put, List.setIfInBounds_toArray, List.set_cons_succ, List.set_cons_zero, h167, List.getD_cons_zero, List.getD_cons_succ]
                  clear hR h167
                  go_wp2
                  go_roundw
                  case rel => exact ⟨j + 1, by omega, by go_num, HWR.out.trans ((HSW.out.trans (hS.mono HSW.out.size)).mono HWR.out.size)⟩
                  case measure => simp [intOf]; omega
      case neg =>
        obtain rfl : j = ga := by omega
        have hb5r := HWR.out
        have KR := Lib.hid (K5.out.trans (hb5r.mono K5.out.size))
        obtain ⟨x0, x1, x2, x3⟩ := XC.out wr KR.out
        obtain ⟨O, hO⟩ : ∃ O, outN ⟨xk, xa, xb, xn⟩ = O := ⟨_, rfl⟩
        rw [hO] at HEX
        obtain ⟨lo, hlo⟩ : ∃ lo, O.length = lo := ⟨_, rfl⟩
        have HO := Lib.hid hO
        have HLO := Lib.hid hlo
        have LBR := Lib.hid (LB5.out.below hb5r)
        have OBR := Lib.hid (own_stay OB5.out hb5r)
        clear hb5r hO hlo hlt hj hgc hgab et hkc
        go_upto_region 18 with (first
          | (go_at_call 9; refine (HEX.out wr).mono ?_; rintro e w11 ⟨v11, rfl, g11⟩
             obtain ⟨A11, c11, rfl, o11, b11⟩ := gives_len g11 HLO.out
             have K11 := Lib.hid (KR.out.trans (b11.mono KR.out.size))
             have LB11 := Lib.hid (LBR.out.below b11)
             have OB11 := Lib.hid (own_stay OBR.out b11)
             have O11 := Lib.hid o11
             clear x0 x1 x2 x3
             obtain ⟨x0, x1, x2, x3⟩ := XC.out w11 K11.out
             clear g11 o11 b11))
        obtain ⟨bad, hbad⟩ : ∃ b : Bool, b = true ↔ ¬ (ex = 0 ∧ xk = 2 ∧ bg = true ∧ (gb : Int) = (n : Int) - 1 ∧ lastB nb = true) := by
          by_cases h : (ex = 0 ∧ xk = 2 ∧ bg = true ∧ (gb : Int) = (n : Int) - 1 ∧ lastB nb = true)
          · exact ⟨false, by simp [h]⟩
          · exact ⟨true, by simp [h]⟩
        have HBAD := Lib.hid hbad
        have HBT := Lib.hid (fun h => congrArg Value.bool (hbad.2 h).symm)
        have HBFALSE : Hid ((ex = 0 ∧ xk = 2 ∧ bg = true ∧ (gb : Int) = (n : Int) - 1 ∧ lastB nb = true) → Value.bool false = Value.bool bad) := Lib.hid (fun h => by
          cases bad
          · rfl
          · exact absurd h (hbad.1 rfl))
        have HBEG := Lib.hid (lbegun_any LB11.out)
        clear hbad
        go_cut [208] from 174 to 208 (fun q wx => q = .bool bad ∧ wx = w11)
        case first =>
          by_cases he : ex = 0
          · subst he
            by_cases hk : xk = 2
            · subst hk
              cases bg
              · go_wp2_with (go_at_call 21; refine HBEG.out.mono ?_; rintro e _ ⟨rfl, rfl⟩)
                go_meet
                case rel => exact ⟨HBT.out (fun h => by simp at h), rfl⟩
              · by_cases hg : (gb : Int) = (n : Int) - 1
                · have q1 : ((gb : Int) != (n : Int) - 1) = false := by rw [bne_eq_false_iff_eq]; exact hg
                  have HG1 := Lib.hid hg
                  clear hg
                  rcases Nat.eq_zero_or_pos gb with h0 | h0
                  · have q2 : ¬ (0 : Int) < (gb : Int) := by omega
                    have HL : Hid (lastB nb = true) := Lib.hid (lastB_iff.2 (fun z hz => by
                      have := HGB.out
                      have hn : nb = [] := List.eq_nil_of_length_eq_zero (by omega)
                      rw [hn] at hz
                      cases hz))
                    clear h0
                    go_wp2_with (go_at_call 21; refine HBEG.out.mono ?_; rintro e _ ⟨rfl, rfl⟩)
                    go_meet
                    case rel => exact ⟨HBFALSE.out ⟨by trivial, by trivial, by trivial, HG1.out, HL.out⟩, rfl⟩
                  · obtain ⟨m, hm⟩ : ∃ m, gb = m + 1 := ⟨gb - 1, by omega⟩
                    obtain ⟨z', hz1, hz2⟩ := last_at (HGB.out.trans hm)
                    have q2 : (0 : Int) < (gb : Int) := by omega
                    have q3 : (gb : Int) - 1 = (m : Int) := by omega
                    have q4 : (m : Int) < (gb : Int) := by omega
                    obtain ⟨ad, rfl, _, z0, _, _, _⟩ := note_at (Reads.of_own OB11.out) hz1 HGB.out
                    have HZ : Hid (lastB nb = true ↔ z'.k ≤ 3) := Lib.hid (by unfold lastB; rw [hz2]; simp)
                    obtain ⟨zk, za, zb, zn⟩ := z'
                    simp only at z0 HZ
                    clear h0 hm hz1 hz2
                    by_cases hz3 : (3 : Int) < zk
                    · have HN : Hid (¬ lastB nb = true) := Lib.hid (fun h => by have := HZ.out.1 h; omega)
                      go_wp2_with (go_at_call 21; refine HBEG.out.mono ?_; rintro e _ ⟨rfl, rfl⟩)
                      go_meet
                      case rel => exact ⟨HBT.out (fun h => HN.out h.2.2.2.2), rfl⟩
                    · have HN : Hid (lastB nb = true) := Lib.hid (HZ.out.2 (by omega))
                      go_wp2_with (go_at_call 21; refine HBEG.out.mono ?_; rintro e _ ⟨rfl, rfl⟩)
                      go_meet
                      case rel => exact ⟨by rw [decide_eq_false (show ¬ (3 : Int) < zk by omega)]; exact HBFALSE.out ⟨by trivial, by trivial, by trivial, HG1.out, HN.out⟩, rfl⟩
                · have q1 : ((gb : Int) != (n : Int) - 1) = true := by rw [bne_iff_ne]; exact hg
                  have HG1 := Lib.hid hg
                  clear hg
                  go_wp2_with (go_at_call 21; refine HBEG.out.mono ?_; rintro e _ ⟨rfl, rfl⟩)
                  go_meet
                  case rel => exact ⟨HBT.out (fun h => HG1.out h.2.2.2.1), rfl⟩
            · have q1 : (xk != 2) = true := by rw [bne_iff_ne]; exact hk
              have HJ := Lib.hid hk
              clear hk
              go_wp2
              go_meet
              case rel => exact ⟨HBT.out (fun h => HJ.out h.2.1), rfl⟩
          · have q1 : (ex != 0) = true := by rw [bne_iff_ne]; exact he
            have HJ := Lib.hid he
            clear he
            go_wp2
            go_meet
            case rel => exact ⟨HBT.out (fun h => HJ.out h.1), rfl⟩
        case rest =>
          obtain ⟨rfl, rfl⟩ := hcut
          cases bad
          case true =>
            go_wp2
            go_ret
            exact ⟨rfl, HB0.out.trans (K11.out.mono HB0.out.size)⟩
          case false =>
            obtain ⟨rfl, rfl, rfl, hgn, hlast⟩ := good_of_bad HBAD.out
            have hox : okN ⟨2, xa, xb, xn⟩ = true := by
              rcases HXO.out with h | h
              · exact h.2
              · cases h
            have hOe : O = encN ⟨2, xa, xb, xn⟩ := by rw [← HO.out]; unfold outN; rw [if_pos hox]
            have hnm : notesN st (ls ++ [O]) = nb ++ [⟨2, xa, xb, xn⟩] := by
              have h := notes_more (st := st) (l := ls) HBG.out (by rw [HNS.out, HGB.out, HLEN.out]; omega) (by rw [HNS.out]; exact lastB_iff.1 hlast) [O]
              rw [h, HNS.out, hOe, takeN_enc hox HFX.out (.inl rfl)]
              rfl
            have hbm : begunN st (ls ++ [O]) = true := begun_append HBG.out
            have HNM := Lib.hid hnm
            have HBM := Lib.hid hbm
            have F1 : Hid (fileN (nb ++ [⟨2, xa, xb, xn⟩]) 2 xa xb = some xn) := Lib.hid (tile2 nb ⟨2, xa, xb, xn⟩ rfl)
            obtain ⟨g1, hg1⟩ : ∃ g, (nb ++ [(⟨2, xa, xb, xn⟩ : NV)]).length = g := ⟨_, rfl⟩
            have q9 : ((g1 : Int) == (gb : Int) + 1) = true := by
              rw [beq_iff_eq, ← hg1, List.length_append, HGB.out]
              simp
            have HG1 := Lib.hid hg1
            have RA := Lib.hid (HARG.out wc K11.out)
            have RB : Hid (Reads wc wc.heap.size 1 A11 O.length (O.map bv)) := Lib.hid (by rw [HLO.out]; exact Reads.of_own O11.out)
            have KE : Hid (Below wc.heap.size wc (wc.alloc (.cells #[] 24))) := Lib.hid ((Below.refl _ _).alloc (Nat.le_refl _) _)
            have RS1 : Hid (Reads (wc.alloc (.cells #[] 24)) wc.heap.size 1 A n us) := Lib.hid (RA.out.reads.alloc (Nat.le_refl _) _)
            have ON1 := Lib.hid RA.out.rws.one_val
            have IXA : Hid (i64ok xa) := Lib.hid HFX.out.a
            have IXB : Hid (i64ok xb) := Lib.hid HFX.out.b
            clear hox hOe hnm hbm hgn hlast hg1
            go_wp2_with (first
              | (at_builtin; (have l0 := P7.out; clear l0); refine wpList_append_any _ rfl _ _ 35 rfl wc.heap.size 24 i0 (.slice none 0 0) 1 24 Try.underlying35 hi hz0 hz1 hz2 rfl (by decide) (.slice A7 n c7) n us rfl (own_stay P7.out ((Below.refl _ w7).alloc (Nat.le_refl _) _)) _ (some ⟨w7.heap.size, 0, none⟩) 1 1 [.slice A11 lo c11] rfl (HR8.out _) (fun u hu => by rw [List.mem_singleton.1 hu]; rfl) (by unfold maxLen; omega) (by omega) (by have := K7.out.size; simp; omega) ?_
                 intro v8 w8 o8 g8 _; obtain ⟨A8, c8, rfl, p8, k8⟩ := app_rows (p := n + 1) (K7.out.alloc K7.out.size _) (own_stay P7.out ((Below.refl _ w7).alloc (Nat.le_refl _) _)) o8 g8 rfl rfl; have hnm := new_more1 (l := O) (d := c11) st RA.out RB.out k8 (by rw [HLO.out]; exact p8) (by omega); rw [HBM.out, HNM.out] at hnm; have HN8 := Lib.hid hnm; have K8 := Lib.hid k8; clear o8 g8 p8 k8 hnm)
              | (at_builtin; refine wpList_append_any _ rfl _ _ 35 rfl wc.heap.size 24 i0 (.slice none 0 0) 1 24 Try.underlying35 hi hz0 hz1 hz2 rfl (by decide) (.slice (some ⟨wc.heap.size, 0, none⟩) 0 0) 0 [] rfl (rows_empty wc _ (Nat.le_refl _)) wc.heap.size A n c us rfl RS1.out ON1.out (by unfold maxLen; omega) (by omega) (by simp) ?_
                 intro v7 w7 o7 g7 _; obtain ⟨A7, c7, rfl, p7, k7⟩ := app_rows (p := n) KE.out (rows_empty wc _ (Nat.le_refl _)) o7 g7 (by omega) (List.nil_append _); have K7 := Lib.hid k7; have P7 := Lib.hid p7; have HR8 := Lib.hid (fun u => Reads.of_own (own_one_rows w7 w7.heap.size (Nat.le_refl _) u)); clear o7 g7 p7 k7)
              | (go_at_call 14; refine HN8.out.mono ?_; rintro e w9 ⟨b9, mf9, md9, v9, rfl, l9, b89⟩
                 have k69 : Below wc.heap.size wc w9 := K8.out.trans (b89.mono K8.out.size)
                 have K9 := Lib.hid (K11.out.trans (k69.mono K11.out.size))
                 have L9 := Lib.hid l9
                 have hr := ltile_any l9 xa xb IXA.out IXB.out
                 rw [F1.out] at hr
                 have HR1 := Lib.hid hr
                 clear x0 x1 x2 x3
                 obtain ⟨x0, x1, x2, x3⟩ := XC.out w9 K9.out
                 clear l9 b89 k69 hr)
              | (go_at_call 18; refine HR1.out.mono ?_; rintro e w10 ⟨rfl, b10⟩
                 have K10 := Lib.hid (K9.out.trans (b10.mono K9.out.size))
                 have hn10 := lnotes_any (L9.out.below b10)
                 rw [HG1.out] at hn10
                 have HN10 := Lib.hid hn10
                 clear x0 x1 x2 x3
                 obtain ⟨x0, x1, x2, x3⟩ := XC.out w10 K10.out
                 clear b10 hn10)
              | (go_at_call 16; refine HN10.out.mono ?_; rintro e w12 ⟨A12, c12, rfl, _, b12⟩
                 have K12 := Lib.hid (K10.out.trans (b12.mono K10.out.size))
                 clear b12))
            go_ret
            exact ⟨rfl, HB0.out.trans (K12.out.mono HB0.out.size)⟩

/-- As the end calls it. -/
theorem call (st : Int) (_ : -9223372036854775808 ≤ st) (_ : st ≤ 9223372036854775807) (A : Option Addr) (n c : Nat) (ls : List (List UInt8)) (us : List Value) {W : World} (ha : RArgs W A n c ls us) (z : Nat) (hz : z < 256) (x : NV) (hx : x.Fine) :
    Calls Try.prog 7 #[.int .i64 st, .slice A n c, .int .u8 (z : Int), nv x] W fun e w' => e = .returned (.bool true) ∧ Below W.heap.size W w' := by
  cases h : bigL ls
  · exact walk_small st z x hz hx ha h
  · exact walk_big st z x ha h
end
end Go.Proofs.Ytdjneiboeehclaa.noteGrows

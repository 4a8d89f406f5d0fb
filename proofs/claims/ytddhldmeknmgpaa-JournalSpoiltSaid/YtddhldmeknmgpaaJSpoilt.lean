/-
  The walk of the statement JournalSpoilt: with one byte of a record's sector turned, the records ahead of it are told, and no more.
-/
import Derived.Test.YtddhldmeknmgpaaJSpM
namespace Go.Proofs.Ytddhldmeknmgpaa.journalSpoilt
open Go.RowKit Go.Proofs.Ytddhldmeknmgpaa.crc Go.Proofs.Ytddhldmeknmgpaa.root Go.Proofs.Ytddhldmeknmgpaa.journal

section
variable {w : World} {A : Option Addr} {n c : Nat} {ls : List (List UInt8)} {us : List Value}

theorem walk_big (wh at_ by_ : Nat) (h : n = 0 ∨ 20 < n) :
    Calls Try.prog 6 #[.slice A n c, .int .u8 wh, .int .u8 at_, .int .u8 by_] w fun e w' => e = .returned (.bool true) ∧ Below w.heap.size w w' := by
  by_cases h0 : n = 0
  · subst h0
    clear h
    go_enter Try.func6, Try.ntmps6
    go_wp2_with (go_at_call 19; refine (jalive_any w).mono ?_; rintro e w1 ⟨rfl, b1⟩; have K1 := Lib.hid b1; clear b1)
    go_ret
    exact ⟨rfl, K1.out⟩
  · have hd0 : ((n : Int) == 0) = false := by rw [beq_eq_false_iff_ne]; omega
    have hd : (20 : Int) < (n : Int) := by omega
    clear h h0
    go_enter Try.func6, Try.ntmps6
    go_wp2_with (go_at_call 19; refine (jalive_any w).mono ?_; rintro e w1 ⟨rfl, b1⟩; have K1 := Lib.hid b1; clear b1)
    go_ret
    exact ⟨rfl, K1.out⟩

set_option maxRecDepth 100000 in
set_option maxHeartbeats 4000000 in
theorem walk_small (wh at_ : Nat) (by_ : UInt8) (hwh : wh < 256) (hat : at_ < 256) (ra : RArgs w A n c ls us) (h0 : n ≠ 0) (h20 : n ≤ 20) :
    Calls Try.prog 6 #[.slice A n c, .int .u8 wh, .int .u8 at_, .int .u8 by_.toNat] w fun e w' => e = .returned (.bool true) ∧ Below w.heap.size w w' := by
  have hd0 : ((n : Int) == 0) = false := by rw [beq_eq_false_iff_ne]; omega
  have hd : ¬ (20 : Int) < (n : Int) := by omega
  have HRA := Lib.hid ra
  have hcap := ra.cap
  have hLN := ra.len
  obtain ⟨ad, rfl, _, _⟩ := ra.reads.2 (by omega)
  clear ra
  have HLN := Lib.hid hLN
  clear hLN
  go_enter Try.func6, Try.ntmps6
  go_wp2_with (first
    | (go_at_call 19; refine (jalive_any w).mono ?_; rintro e w1 ⟨rfl, b1⟩
       have HN := Lib.hid (lnew (w0 := w) (w := w1) 40 b1.size b1 (by decide) (by decide) (flat_new 40)); have K1 := Lib.hid b1; clear b1)
    | (go_at_call 13; refine HN.out.mono ?_; rintro e w2 ⟨d, rfl, L2, hb2, hf2⟩
       have HO := Lib.hid (lopen_ok (M := 30) (ep := 5) L2 (open30 (zeros_length 40)) (by decide) (by decide) (by decide) (ls30_new (by decide)))
       have HSZ := Lib.hid (Nat.le_trans K1.out.size hb2.size); clear L2 hb2 hf2)
    | (go_at_call 14; refine HO.out.mono ?_; rintro e w3 ⟨b, pv, vs, rfl, hb3, bl3, L3, J3, F3⟩
       have HJB0 : Hid (JB w w3 d b 5 (zeros 40) [] 0) := Lib.hid ⟨zeros 40, pv, vs, zeros_length 40, OnDisk.nil _ _ _, fun i _ => rfl, L3, J3.mono HSZ.out, (fun l h => by cases h), fun i x hx => by rw [List.eq_of_mem_replicate (List.mem_of_getElem? hx)]; rfl⟩
       clear hb3 bl3 L3 J3 F3))
  go_loopw [53] (fun q wr => ∃ k : Nat, k ≤ n ∧ q = .int .i64 (k : Int) ∧ JB w wr d b 5 (zeros 40) (ls.take k) k) (fun q _ => n - (RowKit.intOf q).toNat)
  case atStart => exact ⟨0, by omega, rfl, HJB0.out⟩
  case round =>
    obtain ⟨k, hk, rfl, hjb⟩ := hrel
    have hra := HRA.out.below hjb.below
    by_cases hlt : k < n
    · obtain ⟨l, hl⟩ : ∃ l, ls[k]? = some l := ⟨_, List.getElem?_eq_getElem (by rw [HLN.out]; exact hlt)⟩
      obtain ⟨B, dl, hu, hs⟩ := HRA.out.heads k l hl
      obtain ⟨ad2, e2, _, hca⟩ := hra.reads.2 (by omega)
      injection e2 with e2
      subst e2
      have c1 : wr.cell? (ad.add k) = some (.slice B l.length dl) := hca k _ hu
      obtain ⟨m, hm⟩ : ∃ m, l.length = m := ⟨_, rfl⟩
      have hrd := hs.reads
      rw [List.length_map, hm] at hrd
      rw [hm] at c1
      have hlt9 : (k : Int) < (n : Int) := by omega
      have hts : ls.take (k + 1) = ls.take k ++ [l] := by rw [List.take_add_one, hl]; rfl
      have htl : (ls.take k).length = k := by rw [List.length_take, HLN.out]; omega
      by_cases h64 : 64 < m
      · have hd64 : (64 : Int) < (m : Int) := by omega
        have HF := Lib.hid hjb.below
        clear hjb hra hl hu hs hca hrd hts htl hm h64
        go_wp2
        go_ret
        exact ⟨rfl, HF.out⟩
      · have hd64 : ¬ (64 : Int) < (m : Int) := by omega
        have HA := Lib.hid (hjb.app (c := dl) (by decide) hm (by omega) hrd (by omega) (by omega))
        rw [← hts] at HA
        clear hjb hra hl hu hs hca hrd hts htl hm h64
        go_wp2_with (go_at_call 15; refine HA.out.mono ?_; rintro e w5 ⟨rfl, j5⟩; have HJ5 := Lib.hid j5; clear j5)
        exact ⟨⟨k + 1, by omega, by go_num, HJ5.out⟩, by simp [RowKit.intOf]; omega⟩
    · obtain rfl : k = n := by omega
      have htk : ls.take k = ls := by rw [← HLN.out]; exact List.take_length
      rw [htk] at hjb
      have hlt9 : ¬ (k : Int) < (k : Int) := by omega
      obtain ⟨S, pv, vs, hS, hon, hrest, L, J, h64, h128⟩ := hjb
      have HRW := Lib.hid hra
      obtain ⟨q, hq⟩ : ∃ q, wh % k = q := ⟨_, rfl⟩
      obtain ⟨p, hp⟩ : ∃ p, at_ % 128 = p := ⟨_, rfl⟩
      have hp128 : p < 128 := by rw [← hp]; exact Nat.mod_lt _ (by omega)
      have hqk : q < k := by rw [← hq]; exact Nat.mod_lt _ (by omega)
      have et : (wh : Int).tmod (k : Int) = (q : Int) := by rw [Int.tmod_eq_emod_of_nonneg (by omega), ← Int.natCast_emod, hq]
      have ep : (at_ : Int).tmod 128 = (p : Int) := by rw [Int.tmod_eq_emod_of_nonneg (by omega)]; omega
      have HP := Lib.hid (⟨hS, hon, hrest, h64, h128, hqk⟩ : _ ∧ _ ∧ _ ∧ _ ∧ _ ∧ _)
      have HL := Lib.hid L
      have hsl : (S.getD (3 + q) []).length = 128 := h128 (3 + q) _ (by rw [List.getD_eq_getElem?_getD, List.getElem?_eq_getElem (by omega)]; rfl)
      obtain ⟨old, hold⟩ : ∃ old, S.getD (3 + q) [] = old := ⟨_, rfl⟩
      obtain ⟨a, ha⟩ : ∃ a, 3 + q = a := ⟨_, rfl⟩
      have hak : a < 40 := by omega
      rw [ha] at hold
      rw [ha, hold] at hsl
      have HRD := Lib.hid (lread (er := 0) (l := old) (a : Int) L (flat_err S k a (by omega)) (by rw [flat_out S k a (by omega), hold]))
      obtain ⟨x, hx⟩ : ∃ x, old[p]? = some x := ⟨_, List.getElem?_eq_getElem (by omega)⟩
      have HX := Lib.hid hx
      have HSL := Lib.hid hsl
      have hxo := Go.Proofs.Ytddhldmeknmgpaa.journal.u8_xor x by_
      have a3 : (3 : Int) + (q : Int) = (a : Int) := by omega
      obtain ⟨S2, hS2⟩ : ∃ S2, S.set a (old.set p (x ^^^ by_)) = S2 := ⟨_, rfl⟩
      have hls2 : S2.length = 40 := by rw [← hS2, List.length_set]; exact hS
      have hsp := flat_spoil S k a (old.set p (x ^^^ by_)) (by omega) (by rw [List.length_set]; exact hsl)
      rw [hS2] at hsp
      have hop := spoilt_is (m := k) (y := by_) hS hon hrest h64 (by rw [HLN.out]; exact h20) (by rw [HLN.out]; exact hqk) ha hold hx
      rw [hS2] at hop
      have HSP := Lib.hid hsp
      have HL2 := Lib.hid hls2
      have H64 := Lib.hid h64
      by_cases hy : by_ = 0
      · rw [if_pos hy] at hop
        have HOP := Lib.hid hop
        have hy0 : ((by_.toNat : Int) == 0) = true := by rw [hy]; rfl
        have HRW := Lib.hid (HLN.out : ls.length = k)
        clear hra hS hon hrest L J h64 hx hsl hold ha hS2 hls2 hsp hop hy h128
        go_wp2_with (first
          | (go_at_call 21; refine HRD.out.mono ?_; rintro e w5 ⟨v, rfl, ro, l5⟩
             obtain ⟨g, rfl, cx, fx, hy5⟩ := read_turn ro HSL.out HX.out
             obtain ⟨b5, r5⟩ := hy5 (x ^^^ by_)
             have HSPO := Lib.hid (lspoil (er := 0) (a : Int) (some ⟨g, 0, none⟩) 128 128 (old.set p (x ^^^ by_)) (HL.out.next HL.out.lt b5) (by rw [List.length_set]; exact HSL.out) r5 HSP.out.1 HSP.out.2)
             clear ro l5 hy5 b5 r5)
          | (go_at_call 25; refine HSPO.out.mono ?_; rintro e w6 ⟨rfl, l6, -⟩
             have HO6 := Lib.hid (lopen_ok (M := 30) (ep := 5) l6 (open30 HL2.out) (by decide) (by decide) (by decide) HOP.out)
             clear l6)
          | (go_at_call 14; refine HO6.out.mono ?_; rintro e w7 ⟨b7, pv7, vs7, rfl, -, bl7, L7, J7, -⟩
             have HR7 := Lib.hid (jrecords_n J7 H64.out (HLN.out)); have HL7 := Lib.hid L7; clear L7 J7 bl7)
          | (go_at_call 20; refine HR7.out.mono ?_; rintro e w8 ⟨A8, c8, us8, rfl, g8⟩
             have L8 := HL7.out.next HL7.out.lt g8.below
             have ra8 := HRA.out.below L8.below
             have HLI := Lib.hid (lists_any (w := w8) (la := ls) (lb := ls) (c := c8) (d := c) (HLN.out) (HLN.out) (by omega) (Reads.of_own g8.own) ra8.reads (RHeads.of g8.owns.heads) ra8.rheads)
             rw [show (ls == ls) = true from beq_self_eq_true _] at HLI
             have HL8 := Lib.hid L8
             clear g8 L8 ra8)
          | (go_at_call 24; refine HLI.out.mono ?_; rintro e _ ⟨rfl, z, rfl⟩))
        go_ret
        exact ⟨rfl, (HL8.out.next HL8.out.lt (below_drewN (Below.refl _ _) z)).below⟩
      · rw [if_neg hy] at hop
        have HOP := Lib.hid hop
        have hy0 : ((by_.toNat : Int) == 0) = false := by
          rw [beq_eq_false_iff_ne]
          intro e
          exact hy (UInt8.toNat_inj.1 (by rw [UInt8.toNat_zero]; omega))
        have HTL : Hid ((ls.take q).length = q) := Lib.hid (by rw [List.length_take, HLN.out]; omega)
        have H64T : Hid (∀ l ∈ ls.take q, l.length ≤ 64) := Lib.hid (fun l hl => h64 l (List.mem_of_mem_take hl))
        have HQK := Lib.hid (Nat.le_of_lt hqk)
        clear hra hS hon hrest L J h64 hx hsl hold ha hS2 hls2 hsp hop hy h128
        go_wp2_with (first
          | (go_at_call 21; refine HRD.out.mono ?_; rintro e w5 ⟨v, rfl, ro, l5⟩
             obtain ⟨g, rfl, cx, fx, hy5⟩ := read_turn ro HSL.out HX.out
             obtain ⟨b5, r5⟩ := hy5 (x ^^^ by_)
             have HSPO := Lib.hid (lspoil (er := 0) (a : Int) (some ⟨g, 0, none⟩) 128 128 (old.set p (x ^^^ by_)) (HL.out.next HL.out.lt b5) (by rw [List.length_set]; exact HSL.out) r5 HSP.out.1 HSP.out.2)
             clear ro l5 hy5 b5 r5)
          | (go_at_call 25; refine HSPO.out.mono ?_; rintro e w6 ⟨rfl, l6, -⟩
             have HO6 := Lib.hid (lopen_ok (M := 30) (ep := 5) l6 (open30 HL2.out) (by decide) (by decide) (by decide) HOP.out)
             clear l6)
          | (go_at_call 14; refine HO6.out.mono ?_; rintro e w7 ⟨b7, pv7, vs7, rfl, -, bl7, L7, J7, -⟩
             have HR7 := Lib.hid (jrecords_n J7 H64T.out HTL.out); have HL7 := Lib.hid L7; clear L7 J7 bl7)
          | (go_at_call 20; refine HR7.out.mono ?_; rintro e w8 ⟨A8, c8, us8, rfl, g8⟩
             have L8 := HL7.out.next HL7.out.lt g8.below
             have ra8 := HRA.out.below L8.below
             have HLI := Lib.hid (lists_any (w := w8) (la := (ls.take q)) (lb := (ls.take q)) (c := c8) (d := c) HTL.out HTL.out (by omega) (Reads.of_own g8.own) (ra8.front HQK.out).1 (RHeads.of g8.owns.heads) (ra8.front HQK.out).2)
             rw [show ((ls.take q) == (ls.take q)) = true from beq_self_eq_true _] at HLI
             have HL8 := Lib.hid L8
             clear g8 L8 ra8)
          | (go_at_call 24; refine HLI.out.mono ?_; rintro e _ ⟨rfl, z, rfl⟩))
        go_ret
        exact ⟨rfl, (HL8.out.next HL8.out.lt (below_drewN (Below.refl _ _) z)).below⟩
end
theorem call {w : World} (A : Option Addr) (n c : Nat) (ls : List (List UInt8)) (us : List Value) (ra : RArgs w A n c ls us) (wh : Nat) (hwh : wh < 256) (at_ : Nat) (hat : at_ < 256) (by_ : Nat) (hby : by_ < 256) :
    Calls Try.prog 6 #[.slice A n c, .int .u8 wh, .int .u8 at_, .int .u8 by_] w fun e w' => e = .returned (.bool true) ∧ Below w.heap.size w w' := by
  by_cases h : n = 0 ∨ 20 < n
  · exact walk_big wh at_ by_ h
  · obtain ⟨b, rfl⟩ : ∃ b : UInt8, b.toNat = by_ := ⟨UInt8.ofNat by_, by rw [UInt8.toNat_ofNat']; exact Nat.mod_eq_of_lt hby⟩
    exact walk_small wh at_ b hwh hat ra (fun e => h (.inl e)) (by omega)
end Go.Proofs.Ytddhldmeknmgpaa.journalSpoilt

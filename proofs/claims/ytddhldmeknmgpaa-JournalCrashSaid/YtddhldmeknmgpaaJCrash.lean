/-
  The walk of the statement JournalCrash: an Append that goes down keeps the records ahead of it, and its own whole or not at all.
-/
import Derived.Test.YtddhldmeknmgpaaJCrM
import Derived.Test.YtddhldmeknmgpaaCrcSeals
import Derived.Deep.QuietTactic
import Derived.BigQuiet
namespace Go.Proofs.Ytddhldmeknmgpaa.journalCrash
open Go.RowKit Go.Proofs.Ytddhldmeknmgpaa.crc Go.Proofs.Ytddhldmeknmgpaa.root Go.Proofs.Ytddhldmeknmgpaa.journal

section
variable {w : World} {A A2 A3 : Option Addr} {n c n2 c2 n3 c3 : Nat} {ls ls2 : List (List UInt8)} {us us2 : List Value} {last : List UInt8}

theorem prior_of {S : List (List UInt8)} {ls : List (List UInt8)} (hon : OnDisk S 3 4 ls) (hrest : ∀ i, 3 + ls.length ≤ i → S.getD i [] = (zeros 40).getD i []) (h64 : ∀ l ∈ ls, l.length ≤ 64) : ∀ i, i < 30 → Prior (S.getD (3 + i) []) i := fun i hi => by
  by_cases h : i < ls.length
  · obtain ⟨l, hl⟩ : ∃ l, ls[i]? = some l := ⟨_, List.getElem?_eq_getElem h⟩
    exact .inr ⟨l, h64 l (List.mem_of_getElem? hl), hon i l hl⟩
  · left
    rw [hrest _ (by omega), zeros_at _ _ (by omega)]

set_option maxRecDepth 100000 in
theorem walk_big (kp : Bool) (at_ : Int) (h : 20 < n ∨ 20 < n2) :
    Calls Try.prog 5 #[.slice A n c, .slice A2 n2 c2, .slice A3 n3 c3, .bool kp, .int .i64 at_] w fun e w' => e = .returned (.bool true) ∧ Below w.heap.size w w' := by
  by_cases h0 : 20 < n
  · have hd : (20 : Int) < (n : Int) := by omega
    clear h h0
    go_enter Try.func5, Try.ntmps5
    go_wp2_with (go_at_call 19; refine (jalive_any w).mono ?_; rintro e w1 ⟨rfl, b1⟩; have K1 := Lib.hid b1; clear b1)
    go_ret
    exact ⟨rfl, K1.out⟩
  · have hd0 : ¬ (20 : Int) < (n : Int) := by omega
    have hd : (20 : Int) < (n2 : Int) := by omega
    clear h h0
    go_enter Try.func5, Try.ntmps5
    go_wp2_with (go_at_call 19; refine (jalive_any w).mono ?_; rintro e w1 ⟨rfl, b1⟩; have K1 := Lib.hid b1; clear b1)
    go_ret
    exact ⟨rfl, K1.out⟩

set_option maxRecDepth 100000 in
set_option maxHeartbeats 4000000 in
theorem walk_small (kp : Bool) (at_ : Int) (hat : i64ok at_) (ra : RArgs w A n c ls us) (rb : RArgs w A2 n2 c2 ls2 us2) (hl3 : last.length = n3) (hr3 : Reads w w.heap.size 1 A3 n3 (last.map bv)) (h20 : n ≤ 20) (h202 : n2 ≤ 20) :
    Calls Try.prog 5 #[.slice A n c, .slice A2 n2 c2, .slice A3 n3 c3, .bool kp, .int .i64 at_] w fun e w' => e = .returned (.bool true) ∧ Below w.heap.size w w' := by
  have hd : ¬ (20 : Int) < (n : Int) := by omega
  have hd2 : ¬ (20 : Int) < (n2 : Int) := by omega
  have HRA := Lib.hid ra
  have HRB := Lib.hid rb
  have HL3 := Lib.hid hl3
  have HR3 := Lib.hid hr3
  have hcap := ra.cap
  have hcap2 := rb.cap
  have HLN := Lib.hid ra.len
  have HLN2 := Lib.hid rb.len
  have HAT := Lib.hid hat
  clear ra rb hl3 hr3 hat
  go_enter Try.func5, Try.ntmps5
  go_wp2_with (first
    | (go_at_call 19; refine (jalive_any w).mono ?_; rintro e w1 ⟨rfl, b1⟩
       have HN := Lib.hid (lnew (w0 := w) (w := w1) 40 b1.size b1 (by decide) (by decide) (flat_new 40)); have K1 := Lib.hid b1; clear b1)
    | (go_at_call 13; refine HN.out.mono ?_; rintro e w2 ⟨d, rfl, L2, hb2, hf2⟩
       have HO := Lib.hid (lopen_ok (M := 30) (ep := 4) L2 (open30 (zeros_length 40)) (by decide) (by decide) (by decide) (ls30_new (by decide)))
       have HSZ := Lib.hid (Nat.le_trans K1.out.size hb2.size); clear L2 hb2 hf2)
    | (go_at_call 14; refine HO.out.mono ?_; rintro e w3 ⟨b, pv, vs, rfl, hb3, bl3, L3, J3, F3⟩
       have HJB0 : Hid (JB w w3 d b 4 (zeros 40) [] 0) := Lib.hid ⟨zeros 40, pv, vs, zeros_length 40, OnDisk.nil _ _ _, fun i _ => rfl, L3, J3.mono HSZ.out, (fun l h => by cases h), fun i x hx => by rw [List.eq_of_mem_replicate (List.mem_of_getElem? hx)]; rfl⟩
       clear hb3 bl3 L3 J3 F3))
  go_loopw [61] (fun q wr => ∃ k : Nat, k ≤ n ∧ q = .int .i64 (k : Int) ∧ JB w wr d b 4 (zeros 40) (ls.take k) k) (fun q _ => n - (RowKit.intOf q).toNat)
  case atStart => exact ⟨0, by omega, rfl, HJB0.out⟩
  case round =>
    obtain ⟨k, hk, rfl, hjb⟩ := hrel
    have hra := HRA.out.below hjb.below
    by_cases hlt : k < n
    · obtain ⟨l, hl⟩ : ∃ l, ls[k]? = some l := ⟨_, List.getElem?_eq_getElem (by rw [HLN.out]; exact hlt)⟩
      obtain ⟨B, dl, hu, hs⟩ := HRA.out.heads k l hl
      obtain ⟨ad, e2, _, hca⟩ := hra.reads.2 (by omega)
      subst e2
      have c1 : wr.cell? (ad.add k) = some (.slice B l.length dl) := hca k _ hu
      obtain ⟨m, hm⟩ : ∃ m, l.length = m := ⟨_, rfl⟩
      have hrd := hs.reads
      rw [List.length_map, hm] at hrd
      rw [hm] at c1
      have hlt9 : (k : Int) < (n : Int) := by omega
      have hts : ls.take (k + 1) = ls.take k ++ [l] := by rw [List.take_add_one, hl]; rfl
      have htl : (ls.take k).length = k := by rw [List.length_take, HLN.out]; omega
      by_cases h64 : 64 < m
      · have hd64 : (64 : Int) < (m : Int) := by omega
        have HF := Lib.hid hjb.below
        clear hjb hra hl hu hs hca hrd hts htl hm h64
        go_wp2
        go_ret
        exact ⟨rfl, HF.out⟩
      · have hd64 : ¬ (64 : Int) < (m : Int) := by omega
        have HA := Lib.hid (hjb.app (c := dl) (by decide) hm (by omega) hrd (by omega) (by omega))
        rw [← hts] at HA
        clear hjb hra hl hu hs hca hrd hts htl hm h64
        go_wp2_with (go_at_call 15; refine HA.out.mono ?_; rintro e w5 ⟨rfl, j5⟩; have HJ5 := Lib.hid j5; clear j5)
        exact ⟨⟨k + 1, by omega, by go_num, HJ5.out⟩, by simp [RowKit.intOf]; omega⟩
    · obtain rfl : k = n := by omega
      have htk : ls.take k = ls := by rw [← HLN.out]; exact List.take_length
      rw [htk] at hjb
      obtain ⟨S, pv, vs, hS, hon, hrest, L, J, h64, h128⟩ := hjb
      have hpr := prior_of hon hrest h64
      have HPR := Lib.hid hpr
      have HS := Lib.hid hS
      have H128 := Lib.hid h128
      have hlt9 : ¬ (k : Int) < (k : Int) := by omega
      have HO2 := Lib.hid (lopen_ok (M := 30) (ep := 5) L (open30 hS) (by decide) (by decide) (by decide) (whole_open hS (by decide) (OnDisk.nil _ _ _) (fun l h => by cases h) (by decide) (fun _ => (hpr 0 (by omega)).bad 0 (by omega))))
      have HSZ2 := Lib.hid L.lt
      clear hra hS hon hrest L J h64 h128 hpr htk
      go_wp2_with (first
        | (go_at_call 14; refine HO2.out.mono ?_; rintro e w5 ⟨b2, pv2, vs2, rfl, hb5, bl5, L5, J5, F5⟩
           have HJL := Lib.hid (jlen_any J5)
           have HJB2 : Hid (JB w w5 d b2 5 S [] k) := Lib.hid ⟨S, pv2, vs2, HS.out, OnDisk.nil _ _ _, fun i _ => rfl, L5, J5.mono HSZ2.out, (fun l h => by cases h), H128.out⟩
           clear hb5 bl5 L5 J5 F5)
        | (go_at_call 16; refine HJL.out.mono ?_; rintro e _ ⟨rfl, rfl⟩))
      go_loopw [103] (fun q wr => ∃ j : Nat, j ≤ n2 ∧ q = .int .i64 (j : Int) ∧ JB w wr d b2 5 S (ls2.take j) (k + j)) (fun q _ => n2 - (RowKit.intOf q).toNat)
      case atStart => exact ⟨0, by omega, rfl, HJB2.out⟩
      case round =>
        obtain ⟨j, hk, rfl, hjb⟩ := hrel
        have hra := HRB.out.below hjb.below
        by_cases hlt : j < n2
        · obtain ⟨l2, hl2⟩ : ∃ l2, ls2[j]? = some l2 := ⟨_, List.getElem?_eq_getElem (by rw [HLN2.out]; exact hlt)⟩
          obtain ⟨B, dl, hu, hs⟩ := HRB.out.heads j l2 hl2
          obtain ⟨ad2, e2, _, hca⟩ := hra.reads.2 (by omega)
          subst e2
          have c1 : wr.cell? (ad2.add j) = some (.slice B l2.length dl) := hca j _ hu
          obtain ⟨m2, hm2⟩ : ∃ m2, l2.length = m2 := ⟨_, rfl⟩
          have hrd := hs.reads
          rw [List.length_map, hm2] at hrd
          rw [hm2] at c1
          have hlt9 : (j : Int) < (n2 : Int) := by omega
          have hts : ls2.take (j + 1) = ls2.take j ++ [l2] := by rw [List.take_add_one, hl2]; rfl
          have htl : (ls2.take j).length = j := by rw [List.length_take, HLN2.out]; omega
          by_cases h64 : 64 < m2
          · have hd64 : (64 : Int) < (m2 : Int) := by omega
            have HF := Lib.hid hjb.below
            clear hjb hra hl2 hu hs hca hrd hts htl hm2 h64
            go_wp2
            go_ret
            exact ⟨rfl, HF.out⟩
          · have hd64 : ¬ (64 : Int) < (m2 : Int) := by omega
            have HA := Lib.hid (hjb.app (c := dl) (by decide) hm2 (by omega) hrd (by omega) (by omega))
            rw [← hts] at HA
            clear hjb hra hl2 hu hs hca hrd hts htl hm2 h64
            go_wp2_with (go_at_call 15; refine HA.out.mono ?_; rintro e w5 ⟨rfl, j5⟩; have HJ5 := Lib.hid j5; clear j5)
            exact ⟨⟨j + 1, by omega, by go_num, HJ5.out⟩, by simp [RowKit.intOf]; omega⟩
        · obtain rfl : j = n2 := by omega
          have htk2 : ls2.take j = ls2 := by rw [← HLN2.out]; exact List.take_length
          rw [htk2] at hjb
          obtain ⟨S', pv', vs', hS, hon, hrest, L, J, h64, h128⟩ := hjb
          have hlt8 : ¬ (j : Int) < (j : Int) := by omega
          by_cases h3 : 64 < n3
          · have hd3 : (64 : Int) < (n3 : Int) := by omega
            have HF := Lib.hid L.below
            clear hra hS hon hrest L J h64 h128 htk2 h3
            go_wp2
            go_ret
            exact ⟨rfl, HF.out⟩
          · have hd3 : ¬ (64 : Int) < (n3 : Int) := by omega
            have hl20 : ls2.length ≤ 20 := by rw [HLN2.out]; exact h202
            have hpr2 : ∀ i, ls2.length ≤ i → i < 30 → Prior (S'.getD (3 + i) []) i := fun i h1 h2 => by
              rw [hrest _ (by omega)]
              exact HPR.out i h2
            obtain ⟨a, ha⟩ : ∃ a, 3 + j = a := ⟨_, rfl⟩
            obtain ⟨j1, hj1⟩ : ∃ j1, j + 1 = j1 := ⟨_, rfl⟩
            obtain ⟨old, hold⟩ : ∃ old, S'.getD a [] = old := ⟨_, rfl⟩
            obtain ⟨new, hnew⟩ : ∃ new, sectJ ⟨5, j1, last⟩ = new := ⟨_, rfl⟩
            obtain ⟨f, hf⟩ : ∃ f : Nat, (f : Int) = max 0 (min at_ 128) := ⟨(max 0 (min at_ 128)).toNat, by omega⟩
            obtain ⟨mn, hmn⟩ : ∃ mn : Int, min at_ 128 = mn := ⟨_, rfl⟩
            have hf128 : f ≤ 128 := by omega
            have hmin : ∀ ts t W, (Builtin.min_ ts t #[.int .i64 at_, .int .i64 128]).run Try.prog W = .ok (.int .i64 mn) W := fun ts t W => by
              have e : (if (128 : Int) < at_ then (128 : Int) else at_) = mn := by rw [← hmn]; split <;> omega
              rw [run_min_int2, e]
            have hmax : ∀ ts t W, (Builtin.max_ ts t #[.int .i64 0, .int .i64 mn]).run Try.prog W = .ok (.int .i64 (f : Int)) W := fun ts t W => by
              have e : (if mn > (0 : Int) then mn else (0 : Int)) = (f : Int) := by rw [hf, hmn]; split <;> omega
              rw [run_max_int2, e]
            have hak : a < 40 := by omega
            have a3 : (3 : Int) + (j : Int) = (a : Int) := by omega
            have e1 : (j : Int) + 1 = (j1 : Int) := by omega
            have hj21 : j1 ≤ 21 := by omega
            have hlen3 : last.length ≤ 64 := by rw [HL3.out]; omega
            obtain ⟨S2, hS2, c1, c2, c3⟩ := crash_now (m := k + j) (kp := kp) (old := old) (new := new) hS hon hpr2 h64 hl20 hlen3 (by rw [HLN2.out]; exact ha) hold (by rw [HLN2.out, hj1]; exact hnew) hf
            have holl : old.length = 128 := by have := (hpr2 j (by rw [HLN2.out]; omega) (by omega)).length; rw [ha, hold] at this; exact this
            have hnll : new.length = 128 := by rw [← hnew]; exact sectJ_length hlen3
            have hok : okJ ⟨5, j1, last⟩ = true := okJ_iff.2 ⟨by show 1 ≤ j1; omega, hlen3⟩
            have hfit : (⟨3, 30, 5, ls2⟩ : JS).Fit := fit30 (by omega) (by decide)
            have hfoot : ∀ i, d.foot i → i < wr.heap.size := fun i hi => by
              obtain ⟨kv, hdk⟩ := L.dk
              exact hdk.lt i hi
            have HRD := Lib.hid (lread (er := 0) (l := old) (a : Int) L (flat_err S' (k + j) a (by omega)) (by rw [flat_out S' (k + j) a (by omega), hold]))
            have HJ := Lib.hid J
            have HL := Lib.hid L
            have HS2 := Lib.hid hS2
            have HC1 := Lib.hid c1
            have HC2 := Lib.hid c2
            have HOL := Lib.hid holl
            have HNL := Lib.hid hnll
            have HOK := Lib.hid hok
            have HFIT := Lib.hid hfit
            have HFOOT := Lib.hid hfoot
            have HNEW := Lib.hid hnew
            have HLE := Lib.hid hlen3
            have H64 := Lib.hid h64
            have HJ1 := Lib.hid hj1
            have HA := Lib.hid ha
            obtain ⟨s1, hs1⟩ : ∃ s1, armSt3 (flat S' (k + j)) ⟨1, kpJ kp a, (a : Int), at_⟩ = s1 := ⟨_, rfl⟩
            obtain ⟨s2, hs2⟩ : ∃ s2, writeK s1 (a : Int) new = s2 := ⟨_, rfl⟩
            have hfw : Few s1 := by rw [← hs1]; exact few_arm S' _ (by omega)
            have HFW := Lib.hid hfw
            have HS1 := Lib.hid hs1
            have HSS2 := Lib.hid hs2
            obtain ⟨od, hod⟩ : ∃ od, old.drop f = od := ⟨_, rfl⟩
            obtain ⟨nd, hnd⟩ : ∃ nd, new.drop f = nd := ⟨_, rfl⟩
            rw [hod, hnd] at c3
            have HOD := Lib.hid hod
            have HND := Lib.hid hnd
            have hatk := HAT.out
            unfold i64ok at hatk
            clear hra hS hon hrest L J h64 h128 htk2 h3 hpr2 ha hj1 hold hnew hf hmn c1 c2 holl hnll hok hfit hfoot hlen3 hl20 hs1 hs2 hfw hod hnd
            cases kp
            · by_cases hde : od = nd
              · rw [if_pos (.inr hde)] at c3
                have hq : (od == nd) = true := by rw [beq_iff_eq]; exact hde
                have HC3 := Lib.hid c3
                clear c3 hde
                go_wp2_with (first
                  | (go_at_call 21; refine HRD.out.mono ?_; rintro e w5 ⟨v, rfl, ro, l5⟩
                     obtain ⟨g5, rfl, hg5, b5, r5⟩ := read_is ro HOL.out
                     have hen := jencode_ok 5 j1 A3 c3 n3 last w5 (by decide) (by omega) HL3.out ((HR3.out.below l5.below).more l5.below.size) HOK.out
                     rw [HNEW.out] at hen
                     have HEN := Lib.hid hen; have HL5 := Lib.hid l5; have HB5 := Lib.hid b5; have HR5 := Lib.hid r5; have HG5 := Lib.hid hg5; clear ro hen l5 b5 r5 hg5)
                  | (go_at_call 9; (have l0 := HEN.out; clear l0); refine HEN.out.mono ?_; rintro e w6 ⟨v, rfl, gg⟩
                     obtain ⟨A6, c6, rfl, o6, b6⟩ := gives_len gg HNL.out
                     obtain ⟨g6, rfl, hg6⟩ := own_128 o6
                     obtain ⟨hc6, hc6b⟩ := own_cap o6
                     have hbr : Below wr.heap.size wr w6 := HB5.out.trans (b6.mono HB5.out.size)
                     have hs6 := hbr.size
                     obtain ⟨WA, hWA⟩ : ∃ WA, w6.alloc (.cells #[.int .i64 1, .slice none 0 0, .int .i64 (a : Int), .int .i64 at_] 52) = WA := ⟨_, rfl⟩
                     have hbA : Below w6.heap.size w6 WA := by rw [← hWA]; exact (Below.refl _ w6).alloc (Nat.le_refl _) _
                     have hcA : Blk WA w6.heap.size 52 #[.int .i64 1, .slice none 0 0, .int .i64 (a : Int), .int .i64 at_] := by rw [← hWA]; exact Blk.new w6 _ _
                     have hslA : Sl WA WA.heap.size none 0 ((kpJ false a).map iv) := ⟨Reads.none_, Nat.le_refl _, by omega⟩
                     have hKne : ∀ ad : Addr, none = some ad → ad.block ≠ d.b := fun ad e => by cases e
                     have y0 := hcA.cell 0
                     have y1 := hcA.cell 1
                     have y2 := hcA.cell 2
                     have y3 := hcA.cell 3
                     have hbW := hbr.trans (hbA.mono hs6)
                     have lA := HL.out.next HL.out.lt hbW
                     have jA := HJ.out.below hbW
                     have harm := larm ⟨1, kpJ false a, (a : Int), at_⟩ none 0 0 ⟨by unfold i64ok; simp only; omega, by unfold i64ok; simp only; omega, HAT.out, (fun x hx => by cases hx)⟩ lA rfl hslA (by simp [kpJ]) hKne (er := 0) rfl HS1.out
                     have HARM := Lib.hid harm; have HJA := Lib.hid jA; have HLA := Lib.hid lA
                     have HRO := Lib.hid ((((HR5.out.below b6).more b6.size).below hbA).more hbA.size)
                     have HRN := Lib.hid (((Reads.of_own o6).below hbA).more hbA.size)
                     have HN5 : Hid (¬ d.foot g5) := Lib.hid (fun h => by have := HFOOT.out _ h; have := HG5.out; omega)
                     have HN6 : Hid (¬ d.foot g6) := Lib.hid (fun h => by have := HFOOT.out _ h; have := HB5.out.size; omega)
                     clear gg o6 b6 hg6 hbr hs6 hbA hcA hslA hKne hbW lA jA harm HEN)
                  | (go_at_call 22; (with_reducible refine HARM.out.mono ?_); rintro e WB ⟨rfl, lB, kB⟩; clear hWA y0 y1 y2 y3
                     obtain ⟨kv, hdk⟩ := HLA.out.dk
                     have jB := HJA.out.disk hdk kB
                     have HRO2 := Lib.hid (Reads.call HRO.out kB HN5.out); have HRN2 := Lib.hid (Reads.call HRN.out kB HN6.out)
                     have hap := japp_no (c := c3) lB jB HFIT.out HL3.out ((HR3.out.below lB.below).more lB.below.size) (by have := HLE.out; rw [HL3.out] at this; exact this) (by rw [HLN2.out]; omega) HFW.out (E := 31) (s1 := s2) (by rw [HLN2.out, a3, HJ1.out, HNEW.out, ← HS1.out]; exact HC1.out) (by rw [HLN2.out, a3, HJ1.out, HNEW.out]; exact HSS2.out) (by decide)
                     have HAP := Lib.hid hap; clear lB kB hdk jB hap)
                  | (go_at_call 15; (have l0 := HAP.out; clear l0); (with_reducible refine HAP.out.mono ?_); rintro e WC ⟨rfl, lC, jC, kC⟩
                     have HRO3 := Lib.hid (Reads.call HRO2.out kC HN5.out); have HRN3 := Lib.hid (Reads.call HRN2.out kC HN6.out)
                     have HBO := Lib.hid (lboot lC (s' := flat S2 (k + j + 1)) (by rw [← HSS2.out, ← HS1.out]; exact HC2.out)); clear lC jC kC HAP)
                  | (go_at_call 23; (with_reducible refine HBO.out.mono ?_); rintro e WD ⟨rfl, lD, kD⟩
                     have HRO4 := Lib.hid (Reads.call HRO3.out kD HN5.out); have HRN4 := Lib.hid (Reads.call HRN3.out kD HN6.out)
                     have HO7 := Lib.hid (lopen_ok (M := 30) (ep := 5) lD (open30 HS2.out) (by decide) (by decide) (by decide) HC3.out)
                     have HLD := Lib.hid lD; clear lD kD)
                  | (go_at_call 14; (have l0 := HO7.out; clear l0); refine HO7.out.mono ?_; rintro e WE ⟨b7, pv7, vs7, rfl, -, bl7, L7, J7, F7⟩
                     have HK : Hid (KJ w WE d b7 S2 (k + j + 1) (ls2 ++ [last])) := Lib.hid ⟨L7, ⟨pv7, vs7, J7.mono HLD.out.lt⟩, F7⟩
                     have HRO5 := Lib.hid ((HRO4.out.below bl7).more bl7.size); have HRN5 := Lib.hid ((HRN4.out.below bl7).more bl7.size); clear L7 J7 F7 bl7 HO7))
                have CVA : Hid (∀ W, Below WE.heap.size WE W → (convert 23 9 (.slice (if 128 = f then some ⟨g5, 0, none⟩ else some ⟨g5, f, none⟩) (128 - f) (128 - f))).run Try.prog W = .ok (.string ⟨od.toArray⟩) W) := Lib.hid (fun W hb => conv_reads _ (by have h := (HRO5.out.below hb).cut (k := f) (cap := 128) hf128 (Nat.le_refl _); rw [Nat.mul_one, ← List.map_drop, HOD.out, Option.map_some, Addr.add_mid, Nat.zero_add] at h; exact h))
                have CVB : Hid (∀ W, Below WE.heap.size WE W → (convert 23 9 (.slice (if c6 = f then some ⟨g6, 0, none⟩ else some ⟨g6, f, none⟩) (128 - f) (c6 - f))).run Try.prog W = .ok (.string ⟨nd.toArray⟩) W) := Lib.hid (fun W hb => conv_reads _ (by have h := (HRN5.out.below hb).cut (k := f) (cap := c6) hf128 hc6; rw [Nat.mul_one, ← List.map_drop, HND.out, Option.map_some, Addr.add_mid, Nat.zero_add] at h; exact h))
                refine wp_region_steps_on (fun W => Below WE.heap.size WE W) (fun i v _ => v = ([.bool false, .bool false, .slice (some ⟨g5, 0, none⟩) 128 128, .int .i64 (f : Int), .slice (if 128 = f then some ⟨g5, 0, none⟩ else some ⟨g5, f, none⟩) (128 - f) (128 - f), .string ⟨od.toArray⟩, .slice (some ⟨g6, 0, none⟩) 128 c6, .int .i64 (f : Int), .slice (if c6 = f then some ⟨g6, 0, none⟩ else some ⟨g6, f, none⟩) (128 - f) (c6 - f), .string ⟨nd.toArray⟩, .bool true, .bool true] : List Value).getD i undef) (by kernel_rfl) 243 rfl (by kernel_rfl) ((Below.refl _ _).drew) ?_ ?_
                · intro i hi
                  have hi2 : i < 12 := hi
                  clear hi
                  rcases i with _ | i
                  · refine step_value (.bool false) rfl ?_
                    intro a8 w8 hS ho hn
                    have o3 : a8.tmps[3]? = some _ := (ho 3 (by kernel_rfl)).trans rfl
                    clear ho hn
                    refine ⟨wanted_free rfl, ?_, rfl⟩
                    go_simp
                  rcases i with _ | i
                  · refine step_value (.bool false) rfl ?_
                    intro a8 w8 hS ho hn
                    obtain ⟨_, n196, rfl⟩ := hn 0 196 (by kernel_rfl) rfl
                    clear ho hn
                    refine ⟨wanted_free rfl, ?_, rfl⟩
                    go_simp
                  rcases i with _ | i
                  · refine step_value (.slice (some ⟨g5, 0, none⟩) 128 128) rfl ?_
                    intro a8 w8 hS ho hn
                    have o20 : a8.tmps[20]? = some _ := (ho 20 (by kernel_rfl)).trans rfl
                    obtain ⟨_, n197, rfl⟩ := hn 1 197 (by kernel_rfl) rfl
                    clear ho hn
                    refine ⟨wanted_of 1 197 rfl rfl n197, ?_, rfl⟩
                    go_simp
                  rcases i with _ | i
                  · refine step_value (.int .i64 (f : Int)) rfl ?_
                    intro a8 w8 hS ho hn
                    have o24 : a8.tmps[24]? = some _ := (ho 24 (by kernel_rfl)).trans rfl
                    obtain ⟨_, n197, rfl⟩ := hn 1 197 (by kernel_rfl) rfl
                    clear ho hn
                    refine ⟨wanted_of 1 197 rfl rfl n197, ?_, rfl⟩
                    go_simp
                  rcases i with _ | i
                  · refine step_value (.slice (if 128 = f then some ⟨g5, 0, none⟩ else some ⟨g5, f, none⟩) (128 - f) (128 - f)) rfl ?_
                    intro a8 w8 hS ho hn
                    obtain ⟨_, n198, rfl⟩ := hn 2 198 (by kernel_rfl) rfl
                    obtain ⟨_, n199, rfl⟩ := hn 3 199 (by kernel_rfl) rfl
                    obtain ⟨_, n197, rfl⟩ := hn 1 197 (by kernel_rfl) rfl
                    clear ho hn
                    refine ⟨wanted_of 1 197 rfl rfl n197, ?_, rfl⟩
                    go_simp
                    intro h
                    omega
                  rcases i with _ | i
                  · refine step_value (.string ⟨od.toArray⟩) rfl ?_
                    intro a8 w8 hS ho hn
                    obtain ⟨_, n200, rfl⟩ := hn 4 200 (by kernel_rfl) rfl
                    obtain ⟨_, n197, rfl⟩ := hn 1 197 (by kernel_rfl) rfl
                    clear ho hn
                    refine ⟨wanted_of 1 197 rfl rfl n197, ?_, rfl⟩
                    have cv := CVA.out w8 hS
                    go_simp
                  rcases i with _ | i
                  · refine step_value (.slice (some ⟨g6, 0, none⟩) 128 c6) rfl ?_
                    intro a8 w8 hS ho hn
                    have o22 : a8.tmps[22]? = some _ := (ho 22 (by kernel_rfl)).trans rfl
                    obtain ⟨_, n197, rfl⟩ := hn 1 197 (by kernel_rfl) rfl
                    clear ho hn
                    refine ⟨wanted_of 1 197 rfl rfl n197, ?_, rfl⟩
                    go_simp
                  rcases i with _ | i
                  · refine step_value (.int .i64 (f : Int)) rfl ?_
                    intro a8 w8 hS ho hn
                    have o24 : a8.tmps[24]? = some _ := (ho 24 (by kernel_rfl)).trans rfl
                    obtain ⟨_, n197, rfl⟩ := hn 1 197 (by kernel_rfl) rfl
                    clear ho hn
                    refine ⟨wanted_of 1 197 rfl rfl n197, ?_, rfl⟩
                    go_simp
                  rcases i with _ | i
                  · refine step_value (.slice (if c6 = f then some ⟨g6, 0, none⟩ else some ⟨g6, f, none⟩) (128 - f) (c6 - f)) rfl ?_
                    intro a8 w8 hS ho hn
                    obtain ⟨_, n202, rfl⟩ := hn 6 202 (by kernel_rfl) rfl
                    obtain ⟨_, n203, rfl⟩ := hn 7 203 (by kernel_rfl) rfl
                    obtain ⟨_, n197, rfl⟩ := hn 1 197 (by kernel_rfl) rfl
                    clear ho hn
                    refine ⟨wanted_of 1 197 rfl rfl n197, ?_, rfl⟩
                    go_simp
                    intro h
                    omega
                  rcases i with _ | i
                  · refine step_value (.string ⟨nd.toArray⟩) rfl ?_
                    intro a8 w8 hS ho hn
                    obtain ⟨_, n204, rfl⟩ := hn 8 204 (by kernel_rfl) rfl
                    obtain ⟨_, n197, rfl⟩ := hn 1 197 (by kernel_rfl) rfl
                    clear ho hn
                    refine ⟨wanted_of 1 197 rfl rfl n197, ?_, rfl⟩
                    have cv := CVB.out w8 hS
                    go_simp
                  rcases i with _ | i
                  · refine step_value (.bool true) rfl ?_
                    intro a8 w8 hS ho hn
                    obtain ⟨_, n201, rfl⟩ := hn 5 201 (by kernel_rfl) rfl
                    obtain ⟨_, n205, rfl⟩ := hn 9 205 (by kernel_rfl) rfl
                    obtain ⟨_, n197, rfl⟩ := hn 1 197 (by kernel_rfl) rfl
                    clear ho hn
                    refine ⟨wanted_of 1 197 rfl rfl n197, ?_, rfl⟩
                    go_simp
                  rcases i with _ | i
                  · refine step_value (.bool true) rfl ?_
                    intro a8 w8 hS ho hn
                    obtain ⟨_, n197, rfl⟩ := hn 1 197 (by kernel_rfl) rfl
                    obtain ⟨_, n206, rfl⟩ := hn 10 206 (by kernel_rfl) rfl
                    clear ho hn
                    refine ⟨wanted_free rfl, ?_, rfl⟩
                    go_simp
                  omega
                · intro fz w9 hS hR
                  have h207 : fz 207 = _ := hR 11 207 rfl
                  simp only [putAll, List.foldl_cons, List.foldl_nil, Act.put, List.setIfInBounds_toArray, List.set_cons_succ, List.set_cons_zero, h207, List.getD_cons_zero, List.getD_cons_succ]
                  clear hR h207
                  have HS9 := Lib.hid hS; clear hS
                  obtain ⟨i0, hi, hz0, hz1, hz2⟩ := info_parts info_rows
                  obtain ⟨j2, hj2⟩ : ∃ j2, j1 + 1 = j2 := ⟨_, rfl⟩
                  have e2 : (j1 : Int) + 1 = (j2 : Int) := by omega
                  have HOE := Lib.hid (own_no_rows w9)
                  have HB9 := Lib.hid ((Below.refl _ w9).alloc (Nat.le_refl _) (.cells #[] 23))
                  have HK9 := Lib.hid (HK.out.next HS9.out)
                  have HRL := Lib.hid (((HRB.out.below HK9.out.L.below).below HB9.out).reads.more (Nat.le_refl _))
                  have HJ2 := Lib.hid hj2; clear hj2
                  go_wp2_with (first
                    | (at_builtin; (have l0 := O8.out; clear l0); refine wpList_append_any _ rfl _ _ 44 rfl w9.heap.size 23 i0 (.slice none 0 0) 1 24 Try.underlying44 hi hz0 hz1 hz2 rfl (by decide) _ j us2 rfl O8.out _ (some ⟨w7.heap.size, 0, none⟩) 1 1 [.slice A3 n3 c3] rfl HR8.out (fun u hu => by rw [List.mem_singleton.1 hu]; rfl) (by unfold maxLen; omega) (by omega) (by have := B7.out.size; have := B8.out.size; omega) ?_; intro v10 w10 o10 g10 _
                       rw [HJ1.out] at o10
                       obtain ⟨A10, c10, rfl⟩ := own_slice3 o10
                       have hb10 : Below w9.heap.size w9 w10 := (B7.out.trans (B8.out.mono B7.out.size)).grown g10 (B7.out.trans (B8.out.mono B7.out.size)).size (fun k e => (O8.out.lt k e).1)
                       have HK10 := Lib.hid (HK9.out.next hb10)
                       have HREC := Lib.hid (HK10.out.records (n := j1) (fun l h => (List.mem_append.1 h).elim (fun h => H64.out l h) (fun h => by rw [List.mem_singleton.1 h]; exact HLE.out)) (by rw [List.length_append, HLN2.out]; exact HJ1.out))
                       have O10 := Lib.hid o10; clear o10 g10 hb10)
                    | (at_builtin; (have l0 := HOE.out; clear l0); refine wpList_append_any _ rfl _ _ 44 rfl w9.heap.size 23 i0 (.slice none 0 0) 1 24 Try.underlying44 hi hz0 hz1 hz2 rfl (by decide) _ 0 [] rfl HOE.out _ A2 j c2 us2 rfl HRL.out HRB.out.one (by unfold maxLen; omega) (by omega) HB9.out.size ?_; intro v7 w7 o7 g7 _
                       rw [Nat.zero_add, List.nil_append] at o7
                       obtain ⟨A7, c7, rfl⟩ := own_slice3 o7
                       have B7 := Lib.hid (HB9.out.grown g7 HB9.out.size (fun k e => (HOE.out.lt k e).1))
                       have hb8 := (Below.refl _ w7).alloc (Nat.le_refl _) (.cells #[.slice A3 n3 c3] 23)
                       have O8 := Lib.hid (own_stay o7 hb8); have B8 := Lib.hid hb8
                       have HR8 := Lib.hid (Reads.of_own (own_one_rows w7 w7.heap.size (Nat.le_refl _) (.slice A3 n3 c3)))
                       clear o7 g7 hb8 HOE)
                    | (go_at_call 20; refine HREC.out.mono ?_; rintro e w11 ⟨A11, c11, us11, rfl, g11⟩
                       have hk11 := HK10.out.next g11.below
                       have rb11 := HRB.out.below hk11.L.below
                       have o11 := own_stay O10.out g11.below
                       have rr := RHeads.snoc rb11.rheads (l := last) (A := A3) (c := c3) (by rw [HL3.out]; exact (HR3.out.below hk11.L.below).more hk11.L.below.size)
                       rw [HL3.out] at rr
                       have hli := lists_any (w := w11) (la := (ls2 ++ [last])) (lb := (ls2 ++ [last])) (n := j1) (m := j1) (c := c11) (d := c10) (by rw [List.length_append, HLN2.out]; exact HJ1.out) (by rw [List.length_append, HLN2.out]; exact HJ1.out) (by omega) (Reads.of_own g11.own) (Reads.of_own o11) (RHeads.of g11.owns.heads) rr
                       rw [show ((ls2 ++ [last]) == (ls2 ++ [last])) = true from beq_self_eq_true _] at hli
                       have HLI := Lib.hid hli; have HK11 := Lib.hid hk11; clear hli hk11 rb11 g11 o11 rr)
                    | (go_at_call 24; refine HLI.out.mono ?_; rintro e w12 ⟨rfl, z, hz⟩
                       have hk12 := HK11.out.next (show Below w11.heap.size w11 w12 by rw [hz]; exact below_drewN (Below.refl _ _) z)
                       have HON := Lib.hid (hk12.on (n := j1) (C := #[.int .u8 111, .int .u8 110]) HS2.out (by rw [List.length_append, HLN2.out]; exact HJ1.out) (by omega) (by omega) rfl rfl)
                       have cvo := conv_lit w12 #[.int .u8 111, .int .u8 110] 2 2
                       clear hk12 hz)
                    | (go_at_call 15; refine HON.out.mono ?_; rintro e w13 ⟨rfl, b13, pv13, vs13, j13⟩
                       have HLEN := Lib.hid (jlen_n (n := j2) j13 (by rw [List.length_append, List.length_append, HLN2.out]; show j + 1 + 1 = j2; rw [HJ1.out]; exact HJ2.out)); have B13 := Lib.hid b13; clear b13 j13)
                    | (go_at_call 16; refine HLEN.out.mono ?_; rintro e _ ⟨rfl, rfl⟩))
                  go_ret
                  exact ⟨rfl, B13.out⟩
              · rw [if_neg (fun h => h.elim (fun h => by cases h) hde)] at c3
                have hq : (od == nd) = false := by rw [beq_eq_false_iff_ne]; exact hde
                have HC3 := Lib.hid c3
                clear c3 hde
                go_wp2_with (first
                  | (go_at_call 21; refine HRD.out.mono ?_; rintro e w5 ⟨v, rfl, ro, l5⟩
                     obtain ⟨g5, rfl, hg5, b5, r5⟩ := read_is ro HOL.out
                     have hen := jencode_ok 5 j1 A3 c3 n3 last w5 (by decide) (by omega) HL3.out ((HR3.out.below l5.below).more l5.below.size) HOK.out
                     rw [HNEW.out] at hen
                     have HEN := Lib.hid hen; have HL5 := Lib.hid l5; have HB5 := Lib.hid b5; have HR5 := Lib.hid r5; have HG5 := Lib.hid hg5; clear ro hen l5 b5 r5 hg5)
                  | (go_at_call 9; (have l0 := HEN.out; clear l0); refine HEN.out.mono ?_; rintro e w6 ⟨v, rfl, gg⟩
                     obtain ⟨A6, c6, rfl, o6, b6⟩ := gives_len gg HNL.out
                     obtain ⟨g6, rfl, hg6⟩ := own_128 o6
                     obtain ⟨hc6, hc6b⟩ := own_cap o6
                     have hbr : Below wr.heap.size wr w6 := HB5.out.trans (b6.mono HB5.out.size)
                     have hs6 := hbr.size
                     obtain ⟨WA, hWA⟩ : ∃ WA, w6.alloc (.cells #[.int .i64 1, .slice none 0 0, .int .i64 (a : Int), .int .i64 at_] 52) = WA := ⟨_, rfl⟩
                     have hbA : Below w6.heap.size w6 WA := by rw [← hWA]; exact (Below.refl _ w6).alloc (Nat.le_refl _) _
                     have hcA : Blk WA w6.heap.size 52 #[.int .i64 1, .slice none 0 0, .int .i64 (a : Int), .int .i64 at_] := by rw [← hWA]; exact Blk.new w6 _ _
                     have hslA : Sl WA WA.heap.size none 0 ((kpJ false a).map iv) := ⟨Reads.none_, Nat.le_refl _, by omega⟩
                     have hKne : ∀ ad : Addr, none = some ad → ad.block ≠ d.b := fun ad e => by cases e
                     have y0 := hcA.cell 0
                     have y1 := hcA.cell 1
                     have y2 := hcA.cell 2
                     have y3 := hcA.cell 3
                     have hbW := hbr.trans (hbA.mono hs6)
                     have lA := HL.out.next HL.out.lt hbW
                     have jA := HJ.out.below hbW
                     have harm := larm ⟨1, kpJ false a, (a : Int), at_⟩ none 0 0 ⟨by unfold i64ok; simp only; omega, by unfold i64ok; simp only; omega, HAT.out, (fun x hx => by cases hx)⟩ lA rfl hslA (by simp [kpJ]) hKne (er := 0) rfl HS1.out
                     have HARM := Lib.hid harm; have HJA := Lib.hid jA; have HLA := Lib.hid lA
                     have HRO := Lib.hid ((((HR5.out.below b6).more b6.size).below hbA).more hbA.size)
                     have HRN := Lib.hid (((Reads.of_own o6).below hbA).more hbA.size)
                     have HN5 : Hid (¬ d.foot g5) := Lib.hid (fun h => by have := HFOOT.out _ h; have := HG5.out; omega)
                     have HN6 : Hid (¬ d.foot g6) := Lib.hid (fun h => by have := HFOOT.out _ h; have := HB5.out.size; omega)
                     clear gg o6 b6 hg6 hbr hs6 hbA hcA hslA hKne hbW lA jA harm HEN)
                  | (go_at_call 22; (with_reducible refine HARM.out.mono ?_); rintro e WB ⟨rfl, lB, kB⟩; clear hWA y0 y1 y2 y3
                     obtain ⟨kv, hdk⟩ := HLA.out.dk
                     have jB := HJA.out.disk hdk kB
                     have HRO2 := Lib.hid (Reads.call HRO.out kB HN5.out); have HRN2 := Lib.hid (Reads.call HRN.out kB HN6.out)
                     have hap := japp_no (c := c3) lB jB HFIT.out HL3.out ((HR3.out.below lB.below).more lB.below.size) (by have := HLE.out; rw [HL3.out] at this; exact this) (by rw [HLN2.out]; omega) HFW.out (E := 31) (s1 := s2) (by rw [HLN2.out, a3, HJ1.out, HNEW.out, ← HS1.out]; exact HC1.out) (by rw [HLN2.out, a3, HJ1.out, HNEW.out]; exact HSS2.out) (by decide)
                     have HAP := Lib.hid hap; clear lB kB hdk jB hap)
                  | (go_at_call 15; (have l0 := HAP.out; clear l0); (with_reducible refine HAP.out.mono ?_); rintro e WC ⟨rfl, lC, jC, kC⟩
                     have HRO3 := Lib.hid (Reads.call HRO2.out kC HN5.out); have HRN3 := Lib.hid (Reads.call HRN2.out kC HN6.out)
                     have HBO := Lib.hid (lboot lC (s' := flat S2 (k + j + 1)) (by rw [← HSS2.out, ← HS1.out]; exact HC2.out)); clear lC jC kC HAP)
                  | (go_at_call 23; (with_reducible refine HBO.out.mono ?_); rintro e WD ⟨rfl, lD, kD⟩
                     have HRO4 := Lib.hid (Reads.call HRO3.out kD HN5.out); have HRN4 := Lib.hid (Reads.call HRN3.out kD HN6.out)
                     have HO7 := Lib.hid (lopen_ok (M := 30) (ep := 5) lD (open30 HS2.out) (by decide) (by decide) (by decide) HC3.out)
                     have HLD := Lib.hid lD; clear lD kD)
                  | (go_at_call 14; (have l0 := HO7.out; clear l0); refine HO7.out.mono ?_; rintro e WE ⟨b7, pv7, vs7, rfl, -, bl7, L7, J7, F7⟩
                     have HK : Hid (KJ w WE d b7 S2 (k + j + 1) ls2) := Lib.hid ⟨L7, ⟨pv7, vs7, J7.mono HLD.out.lt⟩, F7⟩
                     have HRO5 := Lib.hid ((HRO4.out.below bl7).more bl7.size); have HRN5 := Lib.hid ((HRN4.out.below bl7).more bl7.size); clear L7 J7 F7 bl7 HO7))
                have CVA : Hid (∀ W, Below WE.heap.size WE W → (convert 23 9 (.slice (if 128 = f then some ⟨g5, 0, none⟩ else some ⟨g5, f, none⟩) (128 - f) (128 - f))).run Try.prog W = .ok (.string ⟨od.toArray⟩) W) := Lib.hid (fun W hb => conv_reads _ (by have h := (HRO5.out.below hb).cut (k := f) (cap := 128) hf128 (Nat.le_refl _); rw [Nat.mul_one, ← List.map_drop, HOD.out, Option.map_some, Addr.add_mid, Nat.zero_add] at h; exact h))
                have CVB : Hid (∀ W, Below WE.heap.size WE W → (convert 23 9 (.slice (if c6 = f then some ⟨g6, 0, none⟩ else some ⟨g6, f, none⟩) (128 - f) (c6 - f))).run Try.prog W = .ok (.string ⟨nd.toArray⟩) W) := Lib.hid (fun W hb => conv_reads _ (by have h := (HRN5.out.below hb).cut (k := f) (cap := c6) hf128 hc6; rw [Nat.mul_one, ← List.map_drop, HND.out, Option.map_some, Addr.add_mid, Nat.zero_add] at h; exact h))
                refine wp_region_steps_on (fun W => Below WE.heap.size WE W) (fun i v _ => v = ([.bool false, .bool false, .slice (some ⟨g5, 0, none⟩) 128 128, .int .i64 (f : Int), .slice (if 128 = f then some ⟨g5, 0, none⟩ else some ⟨g5, f, none⟩) (128 - f) (128 - f), .string ⟨od.toArray⟩, .slice (some ⟨g6, 0, none⟩) 128 c6, .int .i64 (f : Int), .slice (if c6 = f then some ⟨g6, 0, none⟩ else some ⟨g6, f, none⟩) (128 - f) (c6 - f), .string ⟨nd.toArray⟩, .bool false, .bool false] : List Value).getD i undef) (by kernel_rfl) 243 rfl (by kernel_rfl) ((Below.refl _ _).drew) ?_ ?_
                · intro i hi
                  have hi2 : i < 12 := hi
                  clear hi
                  rcases i with _ | i
                  · refine step_value (.bool false) rfl ?_
                    intro a8 w8 hS ho hn
                    have o3 : a8.tmps[3]? = some _ := (ho 3 (by kernel_rfl)).trans rfl
                    clear ho hn
                    refine ⟨wanted_free rfl, ?_, rfl⟩
                    go_simp
                  rcases i with _ | i
                  · refine step_value (.bool false) rfl ?_
                    intro a8 w8 hS ho hn
                    obtain ⟨_, n196, rfl⟩ := hn 0 196 (by kernel_rfl) rfl
                    clear ho hn
                    refine ⟨wanted_free rfl, ?_, rfl⟩
                    go_simp
                  rcases i with _ | i
                  · refine step_value (.slice (some ⟨g5, 0, none⟩) 128 128) rfl ?_
                    intro a8 w8 hS ho hn
                    have o20 : a8.tmps[20]? = some _ := (ho 20 (by kernel_rfl)).trans rfl
                    obtain ⟨_, n197, rfl⟩ := hn 1 197 (by kernel_rfl) rfl
                    clear ho hn
                    refine ⟨wanted_of 1 197 rfl rfl n197, ?_, rfl⟩
                    go_simp
                  rcases i with _ | i
                  · refine step_value (.int .i64 (f : Int)) rfl ?_
                    intro a8 w8 hS ho hn
                    have o24 : a8.tmps[24]? = some _ := (ho 24 (by kernel_rfl)).trans rfl
                    obtain ⟨_, n197, rfl⟩ := hn 1 197 (by kernel_rfl) rfl
                    clear ho hn
                    refine ⟨wanted_of 1 197 rfl rfl n197, ?_, rfl⟩
                    go_simp
                  rcases i with _ | i
                  · refine step_value (.slice (if 128 = f then some ⟨g5, 0, none⟩ else some ⟨g5, f, none⟩) (128 - f) (128 - f)) rfl ?_
                    intro a8 w8 hS ho hn
                    obtain ⟨_, n198, rfl⟩ := hn 2 198 (by kernel_rfl) rfl
                    obtain ⟨_, n199, rfl⟩ := hn 3 199 (by kernel_rfl) rfl
                    obtain ⟨_, n197, rfl⟩ := hn 1 197 (by kernel_rfl) rfl
                    clear ho hn
                    refine ⟨wanted_of 1 197 rfl rfl n197, ?_, rfl⟩
                    go_simp
                    intro h
                    omega
                  rcases i with _ | i
                  · refine step_value (.string ⟨od.toArray⟩) rfl ?_
                    intro a8 w8 hS ho hn
                    obtain ⟨_, n200, rfl⟩ := hn 4 200 (by kernel_rfl) rfl
                    obtain ⟨_, n197, rfl⟩ := hn 1 197 (by kernel_rfl) rfl
                    clear ho hn
                    refine ⟨wanted_of 1 197 rfl rfl n197, ?_, rfl⟩
                    have cv := CVA.out w8 hS
                    go_simp
                  rcases i with _ | i
                  · refine step_value (.slice (some ⟨g6, 0, none⟩) 128 c6) rfl ?_
                    intro a8 w8 hS ho hn
                    have o22 : a8.tmps[22]? = some _ := (ho 22 (by kernel_rfl)).trans rfl
                    obtain ⟨_, n197, rfl⟩ := hn 1 197 (by kernel_rfl) rfl
                    clear ho hn
                    refine ⟨wanted_of 1 197 rfl rfl n197, ?_, rfl⟩
                    go_simp
                  rcases i with _ | i
                  · refine step_value (.int .i64 (f : Int)) rfl ?_
                    intro a8 w8 hS ho hn
                    have o24 : a8.tmps[24]? = some _ := (ho 24 (by kernel_rfl)).trans rfl
                    obtain ⟨_, n197, rfl⟩ := hn 1 197 (by kernel_rfl) rfl
                    clear ho hn
                    refine ⟨wanted_of 1 197 rfl rfl n197, ?_, rfl⟩
                    go_simp
                  rcases i with _ | i
                  · refine step_value (.slice (if c6 = f then some ⟨g6, 0, none⟩ else some ⟨g6, f, none⟩) (128 - f) (c6 - f)) rfl ?_
                    intro a8 w8 hS ho hn
                    obtain ⟨_, n202, rfl⟩ := hn 6 202 (by kernel_rfl) rfl
                    obtain ⟨_, n203, rfl⟩ := hn 7 203 (by kernel_rfl) rfl
                    obtain ⟨_, n197, rfl⟩ := hn 1 197 (by kernel_rfl) rfl
                    clear ho hn
                    refine ⟨wanted_of 1 197 rfl rfl n197, ?_, rfl⟩
                    go_simp
                    intro h
                    omega
                  rcases i with _ | i
                  · refine step_value (.string ⟨nd.toArray⟩) rfl ?_
                    intro a8 w8 hS ho hn
                    obtain ⟨_, n204, rfl⟩ := hn 8 204 (by kernel_rfl) rfl
                    obtain ⟨_, n197, rfl⟩ := hn 1 197 (by kernel_rfl) rfl
                    clear ho hn
                    refine ⟨wanted_of 1 197 rfl rfl n197, ?_, rfl⟩
                    have cv := CVB.out w8 hS
                    go_simp
                  rcases i with _ | i
                  · refine step_value (.bool false) rfl ?_
                    intro a8 w8 hS ho hn
                    obtain ⟨_, n201, rfl⟩ := hn 5 201 (by kernel_rfl) rfl
                    obtain ⟨_, n205, rfl⟩ := hn 9 205 (by kernel_rfl) rfl
                    obtain ⟨_, n197, rfl⟩ := hn 1 197 (by kernel_rfl) rfl
                    clear ho hn
                    refine ⟨wanted_of 1 197 rfl rfl n197, ?_, rfl⟩
                    go_simp
                  rcases i with _ | i
                  · refine step_value (.bool false) rfl ?_
                    intro a8 w8 hS ho hn
                    obtain ⟨_, n197, rfl⟩ := hn 1 197 (by kernel_rfl) rfl
                    obtain ⟨_, n206, rfl⟩ := hn 10 206 (by kernel_rfl) rfl
                    clear ho hn
                    refine ⟨wanted_free rfl, ?_, rfl⟩
                    go_simp
                  omega
                · intro fz w9 hS hR
                  have h207 : fz 207 = _ := hR 11 207 rfl
                  simp only [putAll, List.foldl_cons, List.foldl_nil, Act.put, List.setIfInBounds_toArray, List.set_cons_succ, List.set_cons_zero, h207, List.getD_cons_zero, List.getD_cons_succ]
                  clear hR h207
                  have HS9 := Lib.hid hS; clear hS
                  have HK9 := Lib.hid (HK.out.next HS9.out)
                  have HREC := Lib.hid (HK9.out.records H64.out HLN2.out)
                  go_wp2_with (first
                    | (go_at_call 20; refine HREC.out.mono ?_; rintro e w11 ⟨A11, c11, us11, rfl, g11⟩
                       have hk11 := HK9.out.next g11.below
                       have rb11 := HRB.out.below hk11.L.below
                       have hli := lists_any (w := w11) (la := ls2) (lb := ls2) (n := j) (m := j) (c := c11) (d := c2) HLN2.out HLN2.out (by omega) (Reads.of_own g11.own) rb11.reads (RHeads.of g11.owns.heads) rb11.rheads
                       rw [show (ls2 == ls2) = true from beq_self_eq_true _] at hli
                       have HLI := Lib.hid hli; have HK11 := Lib.hid hk11; clear hli hk11 rb11 g11)
                    | (go_at_call 24; refine HLI.out.mono ?_; rintro e w12 ⟨rfl, z, hz⟩
                       have hk12 := HK11.out.next (show Below w11.heap.size w11 w12 by rw [hz]; exact below_drewN (Below.refl _ _) z)
                       have HON := Lib.hid (hk12.on (n := j) (C := #[.int .u8 111, .int .u8 110]) HS2.out HLN2.out (by omega) (by omega) rfl rfl)
                       have cvo := conv_lit w12 #[.int .u8 111, .int .u8 110] 2 2
                       clear hk12 hz)
                    | (go_at_call 15; refine HON.out.mono ?_; rintro e w13 ⟨rfl, b13, pv13, vs13, j13⟩
                       have HLEN := Lib.hid (jlen_n (n := j1) j13 (by rw [List.length_append, HLN2.out]; exact HJ1.out)); have B13 := Lib.hid b13; clear b13 j13)
                    | (go_at_call 16; refine HLEN.out.mono ?_; rintro e _ ⟨rfl, rfl⟩))
                  go_ret
                  exact ⟨rfl, B13.out⟩
            · rw [if_pos (.inl rfl)] at c3
              have HC3 := Lib.hid c3
              clear c3
              go_wp2_with (first
                | (go_at_call 21; refine HRD.out.mono ?_; rintro e w5 ⟨v, rfl, ro, l5⟩
                   obtain ⟨g5, rfl, hg5, b5, r5⟩ := read_is ro HOL.out
                   have hen := jencode_ok 5 j1 A3 c3 n3 last w5 (by decide) (by omega) HL3.out ((HR3.out.below l5.below).more l5.below.size) HOK.out
                   rw [HNEW.out] at hen
                   have HEN := Lib.hid hen; have HL5 := Lib.hid l5; have HB5 := Lib.hid b5; have HR5 := Lib.hid r5; have HG5 := Lib.hid hg5; clear ro hen l5 b5 r5 hg5)
                | (go_at_call 9; (have l0 := HEN.out; clear l0); refine HEN.out.mono ?_; rintro e w6 ⟨v, rfl, gg⟩
                   obtain ⟨A6, c6, rfl, o6, b6⟩ := gives_len gg HNL.out
                   obtain ⟨g6, rfl, hg6⟩ := own_128 o6
                   obtain ⟨hc6, hc6b⟩ := own_cap o6
                   have hbr : Below wr.heap.size wr w6 := HB5.out.trans (b6.mono HB5.out.size)
                   have hs6 := hbr.size
                   obtain ⟨WA, hWA⟩ : ∃ WA, ((w6.alloc (.cells #[.int .i64 1, .slice none 0 0, .int .i64 (a : Int), .int .i64 at_] 52)).alloc (.cells #[.int .i64 (a : Int)] 3)).setCell ⟨w6.heap.size, 1, none⟩ (.slice (some ⟨w6.heap.size + 1, 0, none⟩) 1 1) = WA := ⟨_, rfl⟩
                   have hbA : Below w6.heap.size w6 WA := by rw [← hWA]; exact (((Below.refl _ w6).alloc (Nat.le_refl _) _).alloc (by simp) _).setCell (by show w6.heap.size ≤ w6.heap.size; omega) _
                   have hcA : Blk WA w6.heap.size 52 #[.int .i64 1, .slice (some ⟨w6.heap.size + 1, 0, none⟩) 1 1, .int .i64 (a : Int), .int .i64 at_] := by rw [← hWA]; exact ((Blk.new w6 52 #[.int .i64 1, .slice none 0 0, .int .i64 (a : Int), .int .i64 at_]).alloc (.cells #[.int .i64 (a : Int)] 3)).set_ 1 (.slice (some ⟨w6.heap.size + 1, 0, none⟩) 1 1)
                   have hslA : Sl WA WA.heap.size (some ⟨w6.heap.size + 1, 0, none⟩) 1 ((kpJ true a).map iv) := by have h := (Blk.new (w6.alloc (.cells #[.int .i64 1, .slice none 0 0, .int .i64 (a : Int), .int .i64 at_] 52)) 3 #[.int .i64 (a : Int)]).far (p := ⟨w6.heap.size, 1, none⟩) (by simp) (.slice (some ⟨w6.heap.size + 1, 0, none⟩) 1 1); simp only [World.size_alloc] at h; rw [hWA] at h; exact ⟨reads_kept h, by simp [kpJ], by omega⟩
                   have hKne : ∀ ad : Addr, some (⟨w6.heap.size + 1, 0, none⟩ : Addr) = some ad → ad.block ≠ d.b := fun ad e => by injection e with e; subst e; intro h; have := HFOOT.out d.b (.inl rfl); simp only at h; omega
                   have y0 := hcA.cell 0
                   have y1 := hcA.cell 1
                   have y2 := hcA.cell 2
                   have y3 := hcA.cell 3
                   have hbW := hbr.trans (hbA.mono hs6)
                   have lA := HL.out.next HL.out.lt hbW
                   have jA := HJ.out.below hbW
                   have harm := larm ⟨1, kpJ true a, (a : Int), at_⟩ (some ⟨w6.heap.size + 1, 0, none⟩) 1 1 ⟨by unfold i64ok; simp only; omega, by unfold i64ok; simp only; omega, HAT.out, (fun x hx => by simp [kpJ] at hx; unfold i64ok; omega)⟩ lA rfl hslA (by simp [kpJ]) hKne (er := 0) rfl HS1.out
                   have HARM := Lib.hid harm; have HJA := Lib.hid jA; have HLA := Lib.hid lA
                   have HRO := Lib.hid ((((HR5.out.below b6).more b6.size).below hbA).more hbA.size)
                   have HRN := Lib.hid (((Reads.of_own o6).below hbA).more hbA.size)
                   have HN5 : Hid (¬ d.foot g5) := Lib.hid (fun h => by have := HFOOT.out _ h; have := HG5.out; omega)
                   have HN6 : Hid (¬ d.foot g6) := Lib.hid (fun h => by have := HFOOT.out _ h; have := HB5.out.size; omega)
                   clear gg o6 b6 hg6 hbr hs6 hbA hcA hslA hKne hbW lA jA harm HEN)
                | (go_at_call 22; (with_reducible refine HARM.out.mono ?_); rintro e WB ⟨rfl, lB, kB⟩; clear hWA y0 y1 y2 y3
                   obtain ⟨kv, hdk⟩ := HLA.out.dk
                   have jB := HJA.out.disk hdk kB
                   have HRO2 := Lib.hid (Reads.call HRO.out kB HN5.out); have HRN2 := Lib.hid (Reads.call HRN.out kB HN6.out)
                   have hap := japp_no (c := c3) lB jB HFIT.out HL3.out ((HR3.out.below lB.below).more lB.below.size) (by have := HLE.out; rw [HL3.out] at this; exact this) (by rw [HLN2.out]; omega) HFW.out (E := 31) (s1 := s2) (by rw [HLN2.out, a3, HJ1.out, HNEW.out, ← HS1.out]; exact HC1.out) (by rw [HLN2.out, a3, HJ1.out, HNEW.out]; exact HSS2.out) (by decide)
                   have HAP := Lib.hid hap; clear lB kB hdk jB hap)
                | (go_at_call 15; (have l0 := HAP.out; clear l0); (with_reducible refine HAP.out.mono ?_); rintro e WC ⟨rfl, lC, jC, kC⟩
                   have HRO3 := Lib.hid (Reads.call HRO2.out kC HN5.out); have HRN3 := Lib.hid (Reads.call HRN2.out kC HN6.out)
                   have HBO := Lib.hid (lboot lC (s' := flat S2 (k + j + 1)) (by rw [← HSS2.out, ← HS1.out]; exact HC2.out)); clear lC jC kC HAP)
                | (go_at_call 23; (with_reducible refine HBO.out.mono ?_); rintro e WD ⟨rfl, lD, kD⟩
                   have HRO4 := Lib.hid (Reads.call HRO3.out kD HN5.out); have HRN4 := Lib.hid (Reads.call HRN3.out kD HN6.out)
                   have HO7 := Lib.hid (lopen_ok (M := 30) (ep := 5) lD (open30 HS2.out) (by decide) (by decide) (by decide) HC3.out)
                   have HLD := Lib.hid lD; clear lD kD)
                | (go_at_call 14; (have l0 := HO7.out; clear l0); refine HO7.out.mono ?_; rintro e WE ⟨b7, pv7, vs7, rfl, -, bl7, L7, J7, F7⟩
                   have HK : Hid (KJ w WE d b7 S2 (k + j + 1) (ls2 ++ [last])) := Lib.hid ⟨L7, ⟨pv7, vs7, J7.mono HLD.out.lt⟩, F7⟩
                   have HRO5 := Lib.hid ((HRO4.out.below bl7).more bl7.size); have HRN5 := Lib.hid ((HRN4.out.below bl7).more bl7.size); clear L7 J7 F7 bl7 HO7))
              refine wp_region_steps_on (fun W => Below WE.heap.size WE W) (fun i v _ => v = ([.bool true, .bool true, undef, undef, undef, undef, undef, undef, undef, undef, undef, .bool true] : List Value).getD i undef) (by kernel_rfl) 243 rfl (by kernel_rfl) ((Below.refl _ _).drew) ?_ ?_
              · intro i hi
                have hi2 : i < 12 := hi
                clear hi
                rcases i with _ | i
                · refine step_value (.bool true) rfl ?_
                  intro a8 w8 hS ho hn
                  have o3 : a8.tmps[3]? = some _ := (ho 3 (by kernel_rfl)).trans rfl
                  clear ho hn
                  refine ⟨wanted_free rfl, ?_, rfl⟩
                  go_simp
                rcases i with _ | i
                · refine step_value (.bool true) rfl ?_
                  intro a8 w8 hS ho hn
                  obtain ⟨_, n196, rfl⟩ := hn 0 196 (by kernel_rfl) rfl
                  clear ho hn
                  refine ⟨wanted_free rfl, ?_, rfl⟩
                  go_simp
                rcases i with _ | i
                · refine step_skip rfl ?_
                  intro a8 w8 hS ho hn
                  obtain ⟨_, n197, rfl⟩ := hn 1 197 (by kernel_rfl) rfl
                  exact ⟨unwanted_of 1 197 rfl rfl n197 rfl, rfl⟩
                rcases i with _ | i
                · refine step_skip rfl ?_
                  intro a8 w8 hS ho hn
                  obtain ⟨_, n197, rfl⟩ := hn 1 197 (by kernel_rfl) rfl
                  exact ⟨unwanted_of 1 197 rfl rfl n197 rfl, rfl⟩
                rcases i with _ | i
                · refine step_skip rfl ?_
                  intro a8 w8 hS ho hn
                  obtain ⟨_, n197, rfl⟩ := hn 1 197 (by kernel_rfl) rfl
                  exact ⟨unwanted_of 1 197 rfl rfl n197 rfl, rfl⟩
                rcases i with _ | i
                · refine step_skip rfl ?_
                  intro a8 w8 hS ho hn
                  obtain ⟨_, n197, rfl⟩ := hn 1 197 (by kernel_rfl) rfl
                  exact ⟨unwanted_of 1 197 rfl rfl n197 rfl, rfl⟩
                rcases i with _ | i
                · refine step_skip rfl ?_
                  intro a8 w8 hS ho hn
                  obtain ⟨_, n197, rfl⟩ := hn 1 197 (by kernel_rfl) rfl
                  exact ⟨unwanted_of 1 197 rfl rfl n197 rfl, rfl⟩
                rcases i with _ | i
                · refine step_skip rfl ?_
                  intro a8 w8 hS ho hn
                  obtain ⟨_, n197, rfl⟩ := hn 1 197 (by kernel_rfl) rfl
                  exact ⟨unwanted_of 1 197 rfl rfl n197 rfl, rfl⟩
                rcases i with _ | i
                · refine step_skip rfl ?_
                  intro a8 w8 hS ho hn
                  obtain ⟨_, n197, rfl⟩ := hn 1 197 (by kernel_rfl) rfl
                  exact ⟨unwanted_of 1 197 rfl rfl n197 rfl, rfl⟩
                rcases i with _ | i
                · refine step_skip rfl ?_
                  intro a8 w8 hS ho hn
                  obtain ⟨_, n197, rfl⟩ := hn 1 197 (by kernel_rfl) rfl
                  exact ⟨unwanted_of 1 197 rfl rfl n197 rfl, rfl⟩
                rcases i with _ | i
                · refine step_skip rfl ?_
                  intro a8 w8 hS ho hn
                  obtain ⟨_, n197, rfl⟩ := hn 1 197 (by kernel_rfl) rfl
                  exact ⟨unwanted_of 1 197 rfl rfl n197 rfl, rfl⟩
                rcases i with _ | i
                · refine step_value (.bool true) rfl ?_
                  intro a8 w8 hS ho hn
                  obtain ⟨_, n197, rfl⟩ := hn 1 197 (by kernel_rfl) rfl
                  obtain ⟨_, n206, rfl⟩ := hn 10 206 (by kernel_rfl) rfl
                  clear ho hn
                  refine ⟨wanted_free rfl, ?_, rfl⟩
                  go_simp
                omega
              · intro fz w9 hS hR
                have h207 : fz 207 = _ := hR 11 207 rfl
                simp only [putAll, List.foldl_cons, List.foldl_nil, Act.put, List.setIfInBounds_toArray, List.set_cons_succ, List.set_cons_zero, h207, List.getD_cons_zero, List.getD_cons_succ]
                clear hR h207
                have HS9 := Lib.hid hS; clear hS
                obtain ⟨i0, hi, hz0, hz1, hz2⟩ := info_parts info_rows
                obtain ⟨j2, hj2⟩ : ∃ j2, j1 + 1 = j2 := ⟨_, rfl⟩
                have e2 : (j1 : Int) + 1 = (j2 : Int) := by omega
                have HOE := Lib.hid (own_no_rows w9)
                have HB9 := Lib.hid ((Below.refl _ w9).alloc (Nat.le_refl _) (.cells #[] 23))
                have HK9 := Lib.hid (HK.out.next HS9.out)
                have HRL := Lib.hid (((HRB.out.below HK9.out.L.below).below HB9.out).reads.more (Nat.le_refl _))
                have HJ2 := Lib.hid hj2; clear hj2
                go_wp2_with (first
                  | (at_builtin; (have l0 := O8.out; clear l0); refine wpList_append_any _ rfl _ _ 44 rfl w9.heap.size 23 i0 (.slice none 0 0) 1 24 Try.underlying44 hi hz0 hz1 hz2 rfl (by decide) _ j us2 rfl O8.out _ (some ⟨w7.heap.size, 0, none⟩) 1 1 [.slice A3 n3 c3] rfl HR8.out (fun u hu => by rw [List.mem_singleton.1 hu]; rfl) (by unfold maxLen; omega) (by omega) (by have := B7.out.size; have := B8.out.size; omega) ?_; intro v10 w10 o10 g10 _
                     rw [HJ1.out] at o10
                     obtain ⟨A10, c10, rfl⟩ := own_slice3 o10
                     have hb10 : Below w9.heap.size w9 w10 := (B7.out.trans (B8.out.mono B7.out.size)).grown g10 (B7.out.trans (B8.out.mono B7.out.size)).size (fun k e => (O8.out.lt k e).1)
                     have HK10 := Lib.hid (HK9.out.next hb10)
                     have HREC := Lib.hid (HK10.out.records (n := j1) (fun l h => (List.mem_append.1 h).elim (fun h => H64.out l h) (fun h => by rw [List.mem_singleton.1 h]; exact HLE.out)) (by rw [List.length_append, HLN2.out]; exact HJ1.out))
                     have O10 := Lib.hid o10; clear o10 g10 hb10)
                  | (at_builtin; (have l0 := HOE.out; clear l0); refine wpList_append_any _ rfl _ _ 44 rfl w9.heap.size 23 i0 (.slice none 0 0) 1 24 Try.underlying44 hi hz0 hz1 hz2 rfl (by decide) _ 0 [] rfl HOE.out _ A2 j c2 us2 rfl HRL.out HRB.out.one (by unfold maxLen; omega) (by omega) HB9.out.size ?_; intro v7 w7 o7 g7 _
                     rw [Nat.zero_add, List.nil_append] at o7
                     obtain ⟨A7, c7, rfl⟩ := own_slice3 o7
                     have B7 := Lib.hid (HB9.out.grown g7 HB9.out.size (fun k e => (HOE.out.lt k e).1))
                     have hb8 := (Below.refl _ w7).alloc (Nat.le_refl _) (.cells #[.slice A3 n3 c3] 23)
                     have O8 := Lib.hid (own_stay o7 hb8); have B8 := Lib.hid hb8
                     have HR8 := Lib.hid (Reads.of_own (own_one_rows w7 w7.heap.size (Nat.le_refl _) (.slice A3 n3 c3)))
                     clear o7 g7 hb8 HOE)
                  | (go_at_call 20; refine HREC.out.mono ?_; rintro e w11 ⟨A11, c11, us11, rfl, g11⟩
                     have hk11 := HK10.out.next g11.below
                     have rb11 := HRB.out.below hk11.L.below
                     have o11 := own_stay O10.out g11.below
                     have rr := RHeads.snoc rb11.rheads (l := last) (A := A3) (c := c3) (by rw [HL3.out]; exact (HR3.out.below hk11.L.below).more hk11.L.below.size)
                     rw [HL3.out] at rr
                     have hli := lists_any (w := w11) (la := (ls2 ++ [last])) (lb := (ls2 ++ [last])) (n := j1) (m := j1) (c := c11) (d := c10) (by rw [List.length_append, HLN2.out]; exact HJ1.out) (by rw [List.length_append, HLN2.out]; exact HJ1.out) (by omega) (Reads.of_own g11.own) (Reads.of_own o11) (RHeads.of g11.owns.heads) rr
                     rw [show ((ls2 ++ [last]) == (ls2 ++ [last])) = true from beq_self_eq_true _] at hli
                     have HLI := Lib.hid hli; have HK11 := Lib.hid hk11; clear hli hk11 rb11 g11 o11 rr)
                  | (go_at_call 24; refine HLI.out.mono ?_; rintro e w12 ⟨rfl, z, hz⟩
                     have hk12 := HK11.out.next (show Below w11.heap.size w11 w12 by rw [hz]; exact below_drewN (Below.refl _ _) z)
                     have HON := Lib.hid (hk12.on (n := j1) (C := #[.int .u8 111, .int .u8 110]) HS2.out (by rw [List.length_append, HLN2.out]; exact HJ1.out) (by omega) (by omega) rfl rfl)
                     have cvo := conv_lit w12 #[.int .u8 111, .int .u8 110] 2 2
                     clear hk12 hz)
                  | (go_at_call 15; refine HON.out.mono ?_; rintro e w13 ⟨rfl, b13, pv13, vs13, j13⟩
                     have HLEN := Lib.hid (jlen_n (n := j2) j13 (by rw [List.length_append, List.length_append, HLN2.out]; show j + 1 + 1 = j2; rw [HJ1.out]; exact HJ2.out)); have B13 := Lib.hid b13; clear b13 j13)
                  | (go_at_call 16; refine HLEN.out.mono ?_; rintro e _ ⟨rfl, rfl⟩))
                go_ret
                exact ⟨rfl, B13.out⟩
end
theorem call {w : World} (A : Option Addr) (n c : Nat) (ls : List (List UInt8)) (us : List Value) (ra : RArgs w A n c ls us) (A2 : Option Addr) (n2 c2 : Nat) (ls2 : List (List UInt8)) (us2 : List Value) (rb : RArgs w A2 n2 c2 ls2 us2) (A3 : Option Addr) (c3 : Nat) (last : List UInt8) (e3 : Arg w A3 c3 last) (kp : Bool) (at_ : Int) (h1 : -9223372036854775808 ≤ at_) (h2 : at_ ≤ 9223372036854775807) :
    Calls Try.prog 5 #[.slice A n c, .slice A2 n2 c2, .slice A3 last.length c3, .bool kp, .int .i64 at_] w fun e w' => e = .returned (.bool true) ∧ Below w.heap.size w w' := by
  by_cases h : 20 < n ∨ 20 < n2
  · exact walk_big kp at_ h
  · exact walk_small kp at_ ⟨h1, h2⟩ ra rb rfl e3.reads (by omega) (by omega)
end Go.Proofs.Ytddhldmeknmgpaa.journalCrash

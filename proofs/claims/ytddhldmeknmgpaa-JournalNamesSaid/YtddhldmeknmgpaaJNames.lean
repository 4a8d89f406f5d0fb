/-
  The walk of the statement JournalNames: the error and the limit have their numbers; the examples of the chapter; what is refused; calls on none.
-/
import Derived.Test.YtddhldmeknmgpaaJNamesM
namespace Go.Proofs.Ytddhldmeknmgpaa.journalNames
open Go.RowKit Go.Proofs.Ytddhldmeknmgpaa.crc Go.Proofs.Ytddhldmeknmgpaa.root Go.Proofs.Ytddhldmeknmgpaa.journal

theorem enc_x (w : World) : Calls Try.prog 9 #[.int .u64 5, .int .u64 1, .slice (some ⟨w.heap.size, 0, none⟩) 3 3] (w.alloc (.cells #[.int .u8 120, .int .u8 121, .int .u8 122] 5 (3, 4))) fun e w' => ∃ v, e = .returned (.tuple #[v, .int .i64 0]) ∧ Gives (w.alloc (.cells #[.int .u8 120, .int .u8 121, .int .u8 122] 5 (3, 4))) w' v nX :=
  jencode_ok 5 1 (some ⟨w.heap.size, 0, none⟩) 3 3 [120, 121, 122] (w.alloc (.cells #[.int .u8 120, .int .u8 121, .int .u8 122] 5 (3, 4))) (by decide) (by decide) rfl (lit_read w _ [120, 121, 122] 3 rfl rfl (3, 4)) (by decide)
theorem u8_xor_one (x : UInt8) : bits .xor .u8 (x.toNat : Int) 1 = (((x ^^^ 1).toNat : Nat) : Int) := by
  have h := u8_xor_nat x.toNat 1 x.toNat_lt (by omega)
  rw [UInt8.toNat_xor]
  exact h
theorem own_some {w : World} {base n c : Nat} {A : Option Addr} {xs : List Value} (h : w.ownsRow base 5 1 (.slice A (n + 1) c) (n + 1) xs) : ∃ g, A = some ⟨g, 0, none⟩ ∧ base ≤ g := by
  rcases h.2 with ⟨_, h0⟩ | ⟨g, cap, cur, e, hb, _⟩
  · omega
  · injection e with e
    exact ⟨g, e, hb⟩

set_option maxRecDepth 100000 in
set_option maxHeartbeats 8000000 in
theorem walk (w : World) : Calls Try.prog 4 #[] w fun e w' => e = .returned (.bool true) ∧ Below w.heap.size w w' := by
  have HN := Lib.hid (lnew (w0 := w) (w := w) 4 (Nat.le_refl _) (Below.refl _ _) (by decide) (by decide) (flat_new 4))
  obtain ⟨C65, hC65⟩ := zeros_made (m := 65) (by omega) 65 rfl
  obtain ⟨C64, hC64⟩ := zeros_made (m := 64) (by omega) 64 rfl
  have hmk65 := fun W => (hC65 W).1
  have hmk64 := fun W => (hC64 W).1
  have HZ65 := Lib.hid (fun W => (hC65 W).2)
  have HZ64 := Lib.hid (fun W => (hC64 W).2)
  clear hC65 hC64
  go_enter Try.func4, Try.ntmps4
  go_wp2_with (first
    | (go_at_call 14; (have l0 := HO15.out; clear l0); refine HO15.out.mono ?_; rintro e w16 ⟨rfl, bl16⟩
       have H16 := Lib.hid (H15.out.next bl16)
       have cv3 := conv_lit w16 #[.int .u8 120, .int .u8 121, .int .u8 122] 3 3
       have HE16 := Lib.hid (enc_x w16)
       clear HO15)
    | (go_at_call 14; (have l0 := HO14.out; clear l0); refine HO14.out.mono ?_; rintro e w15 ⟨rfl, bl15, _⟩
       have H15 := Lib.hid (H14.out.next bl15)
       have HO15 := Lib.hid (lopen_nil (w := w15) (ep := 7) (at_ := 0) (M := 1) (by decide) (by decide) (by decide))
       clear HO14)
    | (go_at_call 14; (have l0 := HO13.out; clear l0); refine HO13.out.mono ?_; rintro e w14 ⟨rfl, bl14, _⟩
       have H14 := Lib.hid (H13.out.next bl14)
       have HO14 := Lib.hid (lopen_no (ep := 7) H14.out.l e_neg (by decide) (by decide) (by decide))
       clear HO13)
    | (go_at_call 14; (have l0 := HO12.out; clear l0); refine HO12.out.mono ?_; rintro e w13 ⟨rfl, bl13, _⟩
       have H13 := Lib.hid (H12.out.next bl13)
       have HO13 := Lib.hid (lopen_no (ep := 7) H13.out.l e_none (by decide) (by decide) (by decide))
       clear HO12)
    | (go_at_call 14; (have l0 := HO6.out; clear l0); refine HO6.out.mono ?_; rintro e w6 ⟨b6, pv6, vs6, rfl, hb6, bl6, L6, J6, F6⟩
       have H6 := Lib.hid (show NB w.heap.size w w6 d aS2 2 w4.heap.size b pv4 vs4 [[97], [98, 99]] b5 pv5 vs5 b6 pv6 vs6 from ⟨L6, (HJ4.out.below bl5).below bl6, HJ5.out.below bl6, J6.mono bl5.size⟩)
       have HA7 := Lib.hid (japp_long (c := 65) ((H6.out.next ((Below.refl _ _).alloc (Nat.le_refl _) (.cells C65 5))).j) (fit3 (by decide) (by decide)) (l := List.replicate 65 0) (n := 65) List.length_replicate (Reads.of_own (HZ65.out w6)) (by decide))
       clear HO6 hb6 bl6 L6 J6 F6 bl5)
    | (go_at_call 14; (have l0 := HO5.out; clear l0); refine HO5.out.mono ?_; rintro e w5 ⟨b5, pv5, vs5, rfl, hb5, bl5, L5, J5, F5⟩
       have HJ5 := Lib.hid J5
       have HO6 := Lib.hid (lopen_ok (M := 2) (ep := 7) L5 e_late (by decide) (by decide) (by decide) ls_late)
       clear HO5 hb5 L5 J5 F5)
    | (go_at_call 14; refine HO.out.mono ?_; rintro e w2 ⟨b, pv, vs, rfl, hb2, bl2, L2, J2, F2⟩
       have cv1 := conv_lit w2 #[.int .u8 97] 1 1
       have HA1 := Lib.hid (lapp_lit (l := [97]) (fr := (1, 2)) L2 (J2.mono HB1.out.size) F2 rfl rfl rfl (by decide) (by decide) (by rw [zeros_length]; decide) (by decide) (S' := aS1) rfl)
       clear HO hb2 bl2 L2 J2 F2)
    | (go_at_call 13; refine HN.out.mono ?_; rintro e w1 ⟨d, rfl, L1, hb1, hf1⟩
       have HO := Lib.hid (lopen_ok (M := 3) (ep := 7) L1 a_open0 (by decide) (by decide) (by decide) a_ls0)
       have HB1 := Lib.hid hb1; clear L1 hf1 hb1)
    | (go_at_call 15; (have l0 := HA10.out; clear l0); refine HA10.out.mono ?_; rintro e w10 ⟨rfl, bl10⟩
       have H10 := Lib.hid ((H9.out.next ((Below.refl _ _).alloc (Nat.le_refl _) (.cells C65 5))).next bl10)
       have HL11 := Lib.hid (jlen_any H10.out.o)
       have HF11 := Lib.hid (jleft_any (k := 3) H10.out.o (fit3 (by decide) (by decide)) rfl)
       clear HA10 bl10)
    | (go_at_call 15; (have l0 := HA9.out; clear l0); refine HA9.out.mono ?_; rintro e w9 ⟨rfl, bl9⟩
       have H9 := Lib.hid (H8.out.next bl9)
       have HA10 := Lib.hid (japp_long (c := 65) ((H9.out.next ((Below.refl _ _).alloc (Nat.le_refl _) (.cells C65 5))).j) (fit3 (by decide) (by decide)) (l := List.replicate 65 0) (n := 65) List.length_replicate (Reads.of_own (HZ65.out w9)) (by decide))
       clear HA9 bl9)
    | (go_at_call 15; (have l0 := HA8.out; clear l0); refine HA8.out.mono ?_; rintro e w8 ⟨rfl, L8, ⟨pv8, vs8, J8⟩, hk8⟩
       have H8 := Lib.hid (show NB w.heap.size w w8 d aS3 3 w4.heap.size b pv8 vs8 [[97], [98, 99], List.replicate 64 0] b5 pv5 vs5 b6 pv6 vs6 from by
         have h := H7.out.next ((Below.refl _ _).alloc (Nat.le_refl _) (.cells C64 5))
         exact ⟨L8, J8, later_keep h.l h.j h.o HB4.out.1 HB4.out.2 hk8, later_keep h.l h.j h.q HB4.out.1 HB4.out.2 hk8⟩)
       have HA9 := Lib.hid (japp_full (A := none) (c := 0) (n := 0) (l := []) H8.out.j (fit3 (by decide) (by decide)) rfl Reads.none_ (by decide) rfl)
       clear HA8 L8 J8 hk8)
    | (go_at_call 15; (have l0 := HA7.out; clear l0); refine HA7.out.mono ?_; rintro e w7 ⟨rfl, bl7⟩
       have H7 := Lib.hid ((H6.out.next ((Below.refl _ _).alloc (Nat.le_refl _) (.cells C65 5))).next bl7)
       have HA8 : Hid _ := Lib.hid (lapp (a := 1) (c := 64) (H7.out.next ((Below.refl _ _).alloc (Nat.le_refl _) (.cells C64 5))).l (H7.out.next ((Below.refl _ _).alloc (Nat.le_refl _) (.cells C64 5))).j (fit3 (by decide) (by decide)) (l := List.replicate 64 0) (n := 64) List.length_replicate (Reads.of_own (HZ64.out w7)) (sep_lit (H7.out.next ((Below.refl _ _).alloc (Nat.le_refl _) (.cells C64 5))).l) (by decide) (by decide) (by rw [aS2_len]; decide) (by decide) (S' := aS3) rfl)
       clear HA7 bl7)
    | (go_at_call 15; (have l0 := HA2.out; clear l0); refine HA2.out.mono ?_; rintro e w4 ⟨rfl, L4, ⟨pv4, vs4, J4⟩, F4⟩
       have HO5 := Lib.hid (lopen_ok (M := 3) (ep := 8) L4 e_other (by decide) (by decide) (by decide) ls_other)
       have HJ4 := Lib.hid J4; have HB4 := Lib.hid (And.intro J4.lt (fun g e => (own_typ2 J4.own g e).2))
       clear HA2 L4 J4 F4)
    | (go_at_call 15; refine HA1.out.mono ?_; rintro e w3 ⟨rfl, L3, ⟨pv3, vs3, J3⟩, F3⟩
       have cv2 := conv_lit w3 #[.int .u8 98, .int .u8 99] 2 2
       have HA2 := Lib.hid (lapp_lit (l := [98, 99]) (fr := (2, 3)) L3 J3 F3 rfl rfl rfl (by decide) (by decide) (by rw [aS1_len]; decide) (by decide) (S' := aS2) rfl)
       clear HA1 L3 J3 F3)
    | (go_at_call 16; (have l0 := HLq.out; clear l0); refine HLq.out.mono ?_; rintro e _ ⟨rfl, rfl⟩)
    | (go_at_call 16; refine HL11.out.mono ?_; rintro e _ ⟨rfl, rfl⟩)
    | (go_at_call 17; (have l0 := HFj.out; clear l0); refine HFj.out.mono ?_; rintro e _ ⟨rfl, nz2, rfl⟩
       have H12 := Lib.hid (H10.out.next (below_drewN (Below.refl _ _) (nz + nz2)))
       have HO12 := Lib.hid (lopen_no (ep := 7) H12.out.l e_far (by decide) (by decide) (by decide)))
    | (go_at_call 17; refine HF11.out.mono ?_; rintro e _ ⟨rfl, nz, rfl⟩
       have H11 := Lib.hid (H10.out.next (below_drewN (Below.refl _ _) nz))
       have HEo := Lib.hid (jepoch_any H11.out.o)
       have HLq := Lib.hid (jlen_any H11.out.q)
       have HFj := Lib.hid (jleft_any (k := 0) H11.out.j (fit3 (by decide) (by decide)) rfl))
    | (go_at_call 18; refine HEo.out.mono ?_; rintro e _ ⟨rfl, rfl⟩)
    | (go_at_call 9; (have l0 := HE18.out; clear l0); refine HE18.out.mono ?_; rintro e _ ⟨rfl, rfl⟩
       have b18 : Below w17.heap.size w17 (w17.alloc (.cells C65 5)) := (Below.refl _ _).alloc (Nat.le_refl _) _
       have o18 := own_stay O17.out b18
       have cvf := conv_reads c17 ((Reads.of_own o18).front (k := 23) (by decide))
       rw [nX_front] at cvf
       have H18 := Lib.hid (H17.out.next b18); have O18 := Lib.hid o18
       obtain ⟨hc1, hc2⟩ := own_cap o18
       clear HE18 b18 o18)
    | (go_at_call 9; (have l0 := HE17.out; clear l0); refine HE17.out.mono ?_; rintro e _ ⟨rfl, rfl⟩
       have HE18 := Lib.hid (jencode_bad 5 1 (some ⟨w17.heap.size, 0, none⟩) 65 65 (List.replicate 65 0) (w17.alloc (.cells C65 5)) List.length_replicate (by decide)))
    | (go_at_call 9; refine HE16.out.mono ?_; rintro e w17 ⟨v, rfl, g⟩; obtain ⟨A17, c17, rfl, o17, b17⟩ := gives_len g nX_len
       obtain ⟨g17, rfl, hg17⟩ := own_some o17
       have b1617 : Below w16.heap.size w16 w17 := ((Below.refl _ w16).alloc (Nat.le_refl _) _).trans (b17.mono (by simp))
       have H17 := Lib.hid (H16.out.next b1617); have O17 := Lib.hid o17
       have HE17 := Lib.hid (jencode_bad 5 0 none 0 0 [] w17 rfl (by decide))
       clear HE16 g o17 b17 b1617))
  obtain ⟨W, hW⟩ : ∃ W, w17.alloc (.cells C65 5) = W := ⟨_, rfl⟩
  rw [hW] at H18 O18 ⊢
  obtain ⟨i0, hi, hz0, hz1, hz2⟩ := info_parts infoU8
  clear hW cvf hmk65 hmk64
  go_loopw [193, 28] (fun q1 q2 wr => ∃ k : Nat, k ≤ 128 ∧ q1 = .int .i64 (k : Int) ∧ q2 = .bool true ∧ Below W.heap.size W wr) (fun q1 _ _ => 128 - (RowKit.intOf q1).toNat)
  case atStart => exact ⟨0, by omega, rfl, rfl, Below.refl _ _⟩
  case round =>
    obtain ⟨k, hk, rfl, rfl, hb⟩ := hrel
    by_cases hlt : k < 128
    · have hkl : k < nX.length := by rw [nX_len]; exact hlt
      obtain ⟨y, hy⟩ : ∃ y, nX[k]? = some y := ⟨_, List.getElem?_eq_getElem hkl⟩
      have hyd : nX.getD k 0 = y := by rw [List.getD_eq_getElem?_getD, hy]; rfl
      have hbad : goodJ (nX.set k (y ^^^ 1)) = false := by
        have := nX_turned ⟨k, hlt⟩
        simp only [hyd] at this
        exact this
      have HBAD := Lib.hid hbad
      have hx1 := u8_xor_one y
      have HB := Lib.hid hb
      have HOE : Hid ((wr.alloc (.cells #[] 5)).ownsRow wr.heap.size 5 1 (.slice (some ⟨wr.heap.size, 0, none⟩) 0 0) 0 (([] : List UInt8).map bv)) := Lib.hid (own_of_alloc wr #[] [] 0 rfl rfl (by unfold maxLen; omega))
      have HBE := Lib.hid ((Below.refl _ wr).alloc (Nat.le_refl _) (.cells #[] 5))
      have HRB := Lib.hid ((((Reads.of_own O18.out).below hb).more hb.size |>.below HBE.out).more HBE.out.size)
      have HBS : Hid (wr.heap.size ≤ (wr.alloc (.cells #[] 5)).heap.size) := Lib.hid (by simp)
      have hlt9 : (k : Int) < 128 := by omega
      have HY := Lib.hid hy
      clear hb hbad hyd hy hkl
      go_wp2_with (at_builtin; refine wpList_append_any _ rfl _ _ 23 rfl wr.heap.size 5 i0 (.int .u8 0) 1 1 Try.underlying23 hi hz0 hz1 hz2 rfl (by decide) _ 0 (([] : List UInt8).map bv) rfl HOE.out _ (some ⟨g17, 0, none⟩) 128 c17 (nX.map bv) rfl HRB.out (bv_one nX) (by unfold maxLen; omega) (by omega) HBS.out ?_; intro v7 w7 o7 g7 _
                   obtain ⟨A7, c7, rfl, p7, k7⟩ := app_out (p := 128) HBE.out HOE.out o7 g7 rfl (List.nil_append nX)
                   obtain ⟨g7', rfl, hg7⟩ := own_some p7
                   obtain ⟨cx, fx⟩ := own_at p7 (j := k) (v := bv y) (by rw [List.getElem?_map, HY.out]; rfl)
                   have hp7 := own_put p7 (j := k) (bv (y ^^^ 1))
                   have HP7 := Lib.hid hp7
                   have HK7 := Lib.hid (k7.setCell (p := ⟨g7', k, none⟩) (by show wr.heap.size ≤ g7'; exact hg7) (bv (y ^^^ 1)))
                   unfold bv at cx
                   clear o7 g7 p7 k7 hp7)
      have HLS : Hid ((nX.set k (y ^^^ 1)).length = 128) := Lib.hid (by rw [List.length_set]; exact nX_len)
      have hms : (nX.set k (y ^^^ 1)).map bv = (nX.map bv).set k (bv (y ^^^ 1)) := List.map_set
      rw [← hms] at HP7
      have HDX := Lib.hid (jdecode_any (some ⟨g7', 0, none⟩) c7 128 (nX.set k (y ^^^ 1)) _ HLS.out (Reads.of_own HP7.out))
      unfold decJ decErrJ at HDX
      rw [HBAD.out] at HDX
      simp only [Bool.false_eq_true, if_false, noJ] at HDX
      clear hms
      go_wp2_with (go_at_call 11; refine HDX.out.mono ?_; rintro e w9 ⟨v, rfl, A9, c9, rfl, _, b9⟩; have HB9 := Lib.hid (HB.out.trans ((HK7.out.trans (b9.mono HK7.out.size)).mono HB.out.size)); clear b9)
      exact ⟨⟨k + 1, by omega, by go_num, rfl, HB9.out⟩, by simp [RowKit.intOf]; omega⟩
    · obtain rfl : k = 128 := by omega
      have HWW : Hid (∀ W2, Below wr.heap.size wr W2 → Below w.heap.size w W2) := Lib.hid (fun W2 h => (H18.out.next (hb.trans (h.mono hb.size))).l.below)
      have HAL := Lib.hid (jalive_any (wr.alloc (.cells #[.pointer none, .pointer none, .int .i64 0, .int .i64 0, .int .u64 0, .slice none 0 0] 46)))
      clear hb hk hlt
      go_wp2_with (first
        | (go_at_call 19; refine HAL.out.mono ?_; rintro e wz ⟨rfl, bz⟩
           have hz := (Blk.new wr 46 #[.pointer none, .pointer none, .int .i64 0, .int .i64 0, .int .u64 0, .slice none 0 0]).below bz (by simp)
           have HID0 : Hid (Idle wz none) := Lib.hid (.inl rfl)
           have HIDZ : Hid (Idle wz (some ⟨wr.heap.size, 0, none⟩)) := Lib.hid (.inr ⟨_, rfl, hz.cell 0⟩)
           have HZ := Lib.hid (HWW.out wz (((Below.refl _ wr).alloc (Nat.le_refl _) _).trans (bz.mono (by simp))))
           clear bz hz)
        | (go_at_call 15; (with_reducible refine (japp_idle wz none _ _ _ HID0.out).mono ?_); rintro e _ ⟨rfl, rfl⟩)
        | (go_at_call 15; (with_reducible refine (japp_idle wz (some ⟨wr.heap.size, 0, none⟩) _ _ _ HIDZ.out).mono ?_); rintro e _ ⟨rfl, rfl⟩)
        | (go_at_call 16; (with_reducible refine (jlen_idle wz none HID0.out).mono ?_); rintro e _ ⟨rfl, rfl⟩)
        | (go_at_call 17; (with_reducible refine (jleft_idle wz (some ⟨wr.heap.size, 0, none⟩) HIDZ.out).mono ?_); rintro e _ ⟨rfl, rfl⟩)
        | (go_at_call 20; (with_reducible refine (jrecords_idle wz none HID0.out).mono ?_); rintro e _ ⟨rfl, rfl⟩)
        | (go_at_call 18; (with_reducible refine (jepoch_idle wz (some ⟨wr.heap.size, 0, none⟩) HIDZ.out).mono ?_); rintro e _ ⟨rfl, rfl⟩))
      go_ret
      exact ⟨rfl, HZ.out⟩
end Go.Proofs.Ytddhldmeknmgpaa.journalNames

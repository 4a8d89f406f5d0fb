/-
  The document's own Encode and Decode for layer 8.
-/
import Derived.Test.YtddhldmeknmgpaaJDec2
import Derived.Test.YtddhldmeknmgpaaRtRefD
import Derived.Test.YtddhldmeknmgpaaDone
import Derived.Test.YtddhldmeknmgpaaInts
namespace Go.Proofs.Ytddhldmeknmgpaa.journal
open Go.RowKit Go.Proofs.Ytddhldmeknmgpaa.crc Go.Proofs.Ytddhldmeknmgpaa.root

theorem be_one (n : Nat) : be 1 n = [UInt8.ofNat (n % 256)] := by
  have h := be_succ 0 n
  rw [h]
  unfold lowByte
  simp [be]

theorem r8encode_bad (ep no : Nat) (A : Option Addr) (c n : Nat) (l : List UInt8) (w : World) (hl : l.length = n) (hok : okJ ⟨ep, no, l⟩ = false) :
    Calls Try.prog 10 #[.int .u64 ep, .int .u64 no, .slice A n c] w fun e w' => e = .returned (.tuple #[.slice none 0 0, .int .i64 80]) ∧ w = w' := by
  by_cases h0 : no = 0
  · subst h0
    clear hok
    go_enter Try.func10, Try.ntmps10
    go_wp2
    go_ret2
    exact ⟨rfl, rfl⟩
  · have d0 : ((no : Int) == 0) = false := by rw [beq_eq_false_iff_ne]; omega
    have h2 : (64 : Int) < (n : Int) := by
      unfold okJ at hok
      simp only [hl] at hok
      rw [decide_eq_true (show 1 ≤ no by omega), Bool.true_and] at hok
      have := of_decide_eq_false hok
      omega
    clear hok h0
    go_enter Try.func10, Try.ntmps10
    go_wp2
    go_ret2
    exact ⟨rfl, rfl⟩

set_option maxRecDepth 100000 in
set_option maxHeartbeats 4000000 in
theorem r8encode_ok (ep no : Nat) (A : Option Addr) (c n : Nat) (l : List UInt8) (w : World) (he : ep < 18446744073709551616) (hno : no < 18446744073709551616) (hl : l.length = n) (hr : Reads w w.heap.size 1 A n (l.map bv)) (hok : okJ ⟨ep, no, l⟩ = true) :
    Calls Try.prog 10 #[.int .u64 ep, .int .u64 no, .slice A n c] w fun e w' => ∃ A' c', e = .returned (.tuple #[.slice A' 128 c', .int .i64 0]) ∧ w'.ownsRow w.heap.size 5 1 (.slice A' 128 c') 128 ((sectJ ⟨ep, no, l⟩).map bv) ∧ Below w.heap.size w w' := by
  obtain ⟨h1, h64⟩ := okJ_iff.1 hok
  have h2 : l.length ≤ 64 := h64
  rw [hl] at h2
  have h1 : 1 ≤ no := h1
  obtain ⟨S0, hS0⟩ : ∃ S, sectJ ⟨ep, no, l⟩ = S := ⟨_, rfl⟩
  obtain ⟨M4, hM4⟩ : ∃ M : List UInt8, [81, 74, 1, UInt8.ofNat n] = M := ⟨_, rfl⟩
  obtain ⟨B12, hB12⟩ : ∃ B, M4 ++ be 8 ep = B := ⟨_, rfl⟩
  obtain ⟨B20, hB20⟩ : ∃ B, B12 ++ be 8 no = B := ⟨_, rfl⟩
  obtain ⟨BP, hBP⟩ : ∃ B, B20 ++ l = B := ⟨_, rfl⟩
  obtain ⟨p, hp⟩ : ∃ p, 20 + n = p := ⟨_, rfl⟩
  obtain ⟨BB, hBB⟩ : ∃ B, BP ++ List.replicate (88 - n) 0 = B := ⟨_, rfl⟩
  have hmod : n % 256 = n := Nat.mod_eq_of_lt (by omega)
  have hhead : headJ ⟨ep, no, l⟩ = BB := by
    unfold headJ
    simp only [hl]
    rw [← hBB, ← hBP, ← hB20, ← hB12, ← hM4, be_one, hmod]
    simp only [List.append_assoc, List.cons_append, List.nil_append]
  have hBBl : BB.length = 108 := by rw [← hhead]; exact headJ_length h64
  obtain ⟨BS, hBS⟩ : ∃ B, BB ++ four (sum (bitsB BB)) = B := ⟨_, rfl⟩
  obtain ⟨BE, hBE⟩ : ∃ B, BS ++ be 8 ep = B := ⟨_, rfl⟩
  have hfull : BE ++ be 8 no = S0 := by rw [← hS0, ← hBE, ← hBS, ← hhead]; rfl
  have k1 : IntKind.u8.wrap (n : Int) = (n : Int) := by unfold IntKind.wrap; simp [IntKind.signed, IntKind.bits]; omega
  have d0 : ((no : Int) == 0) = false := by rw [beq_eq_false_iff_ne]; omega
  have d1 : ¬ (64 : Int) < (n : Int) := by omega
  have num4 : ∀ x : Nat, x < 4294967296 → numErr 4 x = 0 ∧ numOut 4 x = be 4 x := fun x hx => by
    have e : numErr 4 x = 0 := by simp [numErr, sized, fitsB]; omega
    exact ⟨e, by simp [numOut, e]⟩
  have num8 : ∀ x : Nat, x < 18446744073709551616 → numErr 8 x = 0 ∧ numOut 8 x = be 8 x := fun x hx => by
    have e : numErr 8 x = 0 := by simp [numErr, sized, fitsB]; omega
    exact ⟨e, by simp [numOut, e]⟩
  have H8 : Hid (∀ x : Nat, x < 18446744073709551616 → ∀ W, Calls Try.prog 31 #[.int .i64 8, .int .u64 x] W fun e w' => ∃ v, e = .returned (.tuple #[v, .int .i64 0]) ∧ Gives W w' v (be 8 x)) := Lib.hid (fun x hx W => by
    have h := refnum_any W 8 x (by omega) (by omega) (by omega)
    rwa [(num8 x hx).1, (num8 x hx).2] at h)
  have H4 : Hid (∀ x : Nat, x < 4294967296 → ∀ W, Calls Try.prog 31 #[.int .i64 4, .int .u64 x] W fun e w' => ∃ v, e = .returned (.tuple #[v, .int .i64 0]) ∧ Gives W w' v (be 4 x)) := Lib.hid (fun x hx W => by
    have h := refnum_any W 4 x (by omega) (by omega) (by omega)
    rwa [(num4 x hx).1, (num4 x hx).2] at h)
  have HB12 := Lib.hid hB12
  have HB20 := Lib.hid hB20
  have HBP := Lib.hid hBP
  have HBB := Lib.hid hBB
  have HBBL := Lib.hid hBBl
  have HBS := Lib.hid hBS
  have HBE := Lib.hid hBE
  have HFULL := Lib.hid hfull
  have HR := Lib.hid hr
  have HP := Lib.hid hp
  have HN := Lib.hid h2
  obtain ⟨i0, hi, hz0, hz1, hz2⟩ := info_parts infoU8
  have HO1 : Hid (∀ w1 : World, (w1.alloc (.cells #[.int .u8 81, .int .u8 74, .int .u8 1, .int .u8 n] 5)).ownsRow w1.heap.size 5 1 (.slice (some ⟨w1.heap.size, 0, none⟩) 4 4) 4 (M4.map bv)) := Lib.hid (fun w1 => own_of_alloc w1 _ _ 4 (by rw [← hM4, List.map_cons, List.map_cons, List.map_cons, List.map_cons, bv_ofNat n (by omega)]; rfl) (by rw [← hM4]; simp) (by unfold maxLen; omega))
  rw [hS0]
  clear hS0 hM4 hB12 hB20 hBP hBB hhead hBBl hBS hBE hfull num4 num8 hok hr hp h1 h64 hmod
  go_enter Try.func10, Try.ntmps10
  go_wp2_with (first
    | (go_at_call 31; (have l0 := K1.out; clear l0); (with_reducible refine (H8.out no hno w1).mono ?_); rintro e w2 ⟨v, rfl, g⟩; obtain ⟨A2, c2, rfl, o2, b2⟩ := gives_len g (be_length 8 no); have K2 := Lib.hid (K1.out.trans (b2.mono K1.out.size)); have HA1 := Lib.hid (fun W (h : Below w2.heap.size w2 W) => (((Reads.of_own (own_stay Q1.out b2)).below h).more h.size)); have HA2 := Lib.hid (fun W (h : Below w2.heap.size w2 W) => (((Reads.of_own o2).below h).more h.size)); have P2 := Lib.hid (HO1.out w2); have K3 := Lib.hid ((Below.refl _ w2).alloc (Nat.le_refl _) (.cells #[.int .u8 81, .int .u8 74, .int .u8 1, .int .u8 n] 5)); have HAP := Lib.hid (fun W (h : Below w2.heap.size w2 W) => (((HR.out.below K2.out).more K2.out.size).below h).more h.size); clear g o2 b2)
    | (go_at_call 31; (with_reducible refine (H8.out ep he w).mono ?_); rintro e w1 ⟨v, rfl, g⟩; obtain ⟨A1, c1, rfl, o1, b1⟩ := gives_len g (be_length 8 ep); have K1 := Lib.hid b1; have Q1 := Lib.hid o1; clear g o1 b1)
    | (at_builtin; (have l0 := P5.out; clear l0); refine wpList_append_any _ rfl _ _ 23 rfl w2.heap.size 5 i0 (.int .u8 0) 1 1 Try.underlying23 hi hz0 hz1 hz2 rfl (by decide) _ 20 (B20.map bv) rfl P5.out _ A n c (l.map bv) rfl (HAP.out _ K5.out) (bv_one _) (by unfold maxLen; omega) (by omega) K5.out.size ?_; intro v7 w7 o7 g7 _; obtain ⟨A7, c7, rfl, p7, k7⟩ := app_out (p := p) K5.out P5.out o7 g7 HP.out HBP.out; have K7 := Lib.hid k7; have P7 := Lib.hid p7; clear o7 g7 p7 k7)
    | (at_builtin; (have l0 := P4.out; clear l0); refine wpList_append_any _ rfl _ _ 23 rfl w2.heap.size 5 i0 (.int .u8 0) 1 1 Try.underlying23 hi hz0 hz1 hz2 rfl (by decide) _ 12 (B12.map bv) rfl P4.out _ A2 8 c2 ((be 8 no).map bv) rfl (HA2.out w4 K4.out) (bv_one _) (by unfold maxLen; omega) (by omega) K4.out.size ?_; intro v5 w5 o5 g5 _; obtain ⟨A5, c5, rfl, p5, k5⟩ := app_out (p := 20) K4.out P4.out o5 g5 rfl HB20.out; have K5 := Lib.hid k5; have P5 := Lib.hid p5; clear o5 g5 p5 k5)
    | (at_builtin; (have l0 := P2.out; clear l0); refine wpList_append_any _ rfl _ _ 23 rfl w2.heap.size 5 i0 (.int .u8 0) 1 1 Try.underlying23 hi hz0 hz1 hz2 rfl (by decide) _ 4 (M4.map bv) rfl P2.out _ A1 8 c1 ((be 8 ep).map bv) rfl (HA1.out _ K3.out) (bv_one _) (by unfold maxLen; omega) (by omega) K3.out.size ?_; intro v4 w4 o4 g4 _; obtain ⟨A4, c4, rfl, p4, k4⟩ := app_out (p := 12) K3.out P2.out o4 g4 rfl HB12.out; have K4 := Lib.hid k4; have P4 := Lib.hid p4; clear o4 g4 p4 k4))
  have HST : Hid (w7.ownsRow w2.heap.size 5 1 (.slice A7 (p + 0) c7) (p + 0) ((BP ++ List.replicate 0 (0 : UInt8)).map bv)) := Lib.hid (by
    have h := P7.out
    simpa using h)
  have hpb : p ≤ 84 ∧ 20 ≤ p := by have := HP.out; omega
  clear P2 K3 K4 P4 K5 P5 P7 H8 K1 Q1 HO1
  go_loopw [12] (fun b ws => ∃ (z q : Nat) (A' : Option Addr) (c' : Nat), q ≤ 108 ∧ p + z = q ∧ b = .slice A' q c' ∧ ws.ownsRow w2.heap.size 5 1 (.slice A' q c') q ((BP ++ List.replicate z (0 : UInt8)).map bv) ∧ Below w2.heap.size w2 ws) (fun b _ => 108 - (match b with | .slice _ q _ => q | _ => 0))
  case atStart => exact ⟨0, p, A7, c7, by omega, rfl, rfl, HST.out, K7.out⟩
  case round =>
    obtain ⟨z, q, A9, c9, hz, hq, rfl, hown, hB⟩ := hrel
    by_cases hlt : q < 108
    · have hd : decide ((q : Int) < 108) = true := decide_eq_true (by omega)
      have hsn : BP ++ List.replicate z (0 : UInt8) ++ [0] = BP ++ List.replicate (z + 1) 0 := by rw [List.append_assoc, ← List.replicate_succ']
      obtain ⟨M0, hM0⟩ : ∃ M, BP ++ List.replicate z (0 : UInt8) = M := ⟨_, rfl⟩
      obtain ⟨M1, hM1⟩ : ∃ M, BP ++ List.replicate (z + 1) (0 : UInt8) = M := ⟨_, rfl⟩
      rw [hM0] at hown
      rw [hM0, hM1] at hsn
      have P9 := Lib.hid (hown.alloc (.cells #[.int .u8 0] 5))
      have K9 := Lib.hid (hB.alloc hB.size (.cells #[.int .u8 0] 5))
      have HSN := Lib.hid hsn
      have HM1 := Lib.hid hM1
      have HRR := Lib.hid (Reads.of_own (own_one wr wr.heap.size (Nat.le_refl _) (.int .u8 0)))
      have hqb : q ≤ 9000 := by omega
      have HQ := Lib.hid hq
      have HLT := Lib.hid hlt
      clear hown hB hM0 hM1 hsn hq hlt hz hpb
      go_wp2_with (at_builtin; refine wpList_append_any _ rfl _ _ 23 rfl w2.heap.size 5 i0 (.int .u8 0) 1 1 Try.underlying23 hi hz0 hz1 hz2 rfl (by decide) _ q (M0.map bv) rfl P9.out _ _ 1 1 [bv 0] rfl HRR.out (bv_one [0]) (by unfold maxLen; omega) (by omega) K9.out.size ?_; intro v3 w3 o3 g3 _; obtain ⟨A3, c3, rfl, p3, k3⟩ := app_out (p := q + 1) (M := [0]) K9.out P9.out o3 g3 rfl HSN.out; have K3 := Lib.hid k3; have P3 := Lib.hid p3; clear o3 g3 p3 k3)
      refine ⟨⟨z + 1, q + 1, A3, c3, by have := HLT.out; omega, by have := HQ.out; omega, rfl, ?_, K3.out⟩, ?_⟩
      · rw [HM1.out]
        exact P3.out
      · show 108 - (q + 1) < 108 - q
        have := HQ.out
        have := HLT.out
        omega
    · obtain rfl : q = 108 := by omega
      have hz2' : z = 88 - n := by have := HP.out; omega
      rw [hz2', HBB.out] at hown
      have HOF := Lib.hid (fun W h => r2of_cut A9 c9 BB 108 W h HBBL.out (by omega))
      have hsl := (sum (bitsB BB)).isLt
      have h4 := HBS.out
      rw [← be_four] at h4
      unfold rv at HOF
      generalize (sum (bitsB BB)).toNat = sB at *
      have HBS4 := Lib.hid h4
      have hsl4 : sB < 4294967296 := by omega
      have k3 : IntKind.u64.wrap (sB : Int) = (sB : Int) := by rw [wrap_u64]; omega
      have HOWN := Lib.hid hown
      have HB9 := Lib.hid hB
      clear hown hB h4 hsl hq hlt hz hz2' hpb
      go_wp2_with (first
        | (go_at_call 32; (with_reducible refine (HOF.out wr (Reads.of_own HOWN.out)).mono ?_); rintro e _ ⟨rfl, rfl⟩)
        | (go_at_call 31; (with_reducible refine (H4.out sB hsl4 wr).mono ?_); rintro e w8 ⟨v, rfl, g⟩; obtain ⟨A5, c5, rfl, o5, b5⟩ := gives_len g (be_length 4 sB); have K5 := Lib.hid (HB9.out.trans (b5.mono HB9.out.size)); have P5 := Lib.hid (own_stay HOWN.out b5); have Q5 := Lib.hid o5; clear g o5 b5)
        | (at_builtin; (have l0 := P10.out; clear l0); refine wpList_append_any _ rfl _ _ 23 rfl w2.heap.size 5 i0 (.int .u8 0) 1 1 Try.underlying23 hi hz0 hz1 hz2 rfl (by decide) _ 120 (BE.map bv) rfl P10.out _ A2 8 c2 ((be 8 no).map bv) rfl (HA2.out _ K10.out) (bv_one _) (by unfold maxLen; omega) (by omega) K10.out.size ?_; intro v4 w4 o4 g4 _; obtain ⟨A4, c4, rfl, p4, k4⟩ := app_out (p := 128) K10.out P10.out o4 g4 rfl HFULL.out; have K4 := Lib.hid k4; have P4 := Lib.hid p4; clear o4 g4 p4 k4)
        | (at_builtin; (have l0 := P8.out; clear l0); refine wpList_append_any _ rfl _ _ 23 rfl w2.heap.size 5 i0 (.int .u8 0) 1 1 Try.underlying23 hi hz0 hz1 hz2 rfl (by decide) _ 112 (BS.map bv) rfl P8.out _ A1 8 c1 ((be 8 ep).map bv) rfl (HA1.out _ K8.out) (bv_one _) (by unfold maxLen; omega) (by omega) K8.out.size ?_; intro v10 w10 o10 g10 _; obtain ⟨A10, c10, rfl, p10, k10⟩ := app_out (p := 120) K8.out P8.out o10 g10 rfl HBE.out; have K10 := Lib.hid k10; have P10 := Lib.hid p10; clear o10 g10 p10 k10)
        | (at_builtin; refine wpList_append_any _ rfl _ _ 23 rfl w2.heap.size 5 i0 (.int .u8 0) 1 1 Try.underlying23 hi hz0 hz1 hz2 rfl (by decide) _ 108 (BB.map bv) rfl P5.out _ A5 4 c5 ((be 4 sB).map bv) rfl (Reads.of_own Q5.out) (bv_one _) (by unfold maxLen; omega) (by omega) K5.out.size ?_; intro v3 w3 o3 g3 _; obtain ⟨A3, c3, rfl, p3, k3⟩ := app_out (p := 112) K5.out P5.out o3 g3 rfl HBS4.out; have K8 := Lib.hid k3; have P8 := Lib.hid p3; clear o3 g3 p3 k3))
      go_ret2
      exact ⟨A4, c4, rfl, own_mono P4.out K2.out.size, K2.out.trans (K4.out.mono K2.out.size)⟩

theorem r8encode_any (r : JV) (A : Option Addr) (c n : Nat) (w : World) (hf : r.Fine) (hl : r.pl.length = n) (hr : Reads w w.heap.size 1 A n (r.pl.map bv)) :
    Calls Try.prog 10 #[.int .u64 r.ep, .int .u64 r.n, .slice A n c] w fun e w' => ∃ v, e = .returned (.tuple #[v, .int .i64 (errJ r)]) ∧ Gives w w' v (outJ r) := by
  unfold errJ outJ
  cases hok : okJ r
  · rw [if_neg (by decide), if_neg (by decide)]
    refine (r8encode_bad r.ep r.n A c n r.pl w hl hok).mono ?_
    rintro e w' ⟨rfl, rfl⟩
    exact ⟨_, rfl, Gives.nil w⟩
  · rw [if_pos rfl, if_pos rfl]
    refine (r8encode_ok r.ep r.n A c n r.pl w hf.ep hf.n hl hr hok).mono ?_
    rintro e w' ⟨A, c, rfl, ho, hb⟩
    have hll := sectJ_length (okJ_iff.1 hok).2
    exact ⟨_, rfl, A, c, by rw [hll], by rw [hll]; exact ho, hb⟩

theorem lenJ_good {l : List UInt8} (h : goodJ l = true) : lenJ l ≤ 64 := by
  have hg := goodJ_of h
  have h2 := (okJ_iff.1 hg.2.1).2
  have h3 := candJ_pl hg.1
  by_cases hk : lenJ l ≤ 108
  · rw [if_pos hk] at h3; omega
  · exfalso
    rw [if_neg hk] at h3
    have hp : (candJ l).pl = [] := List.eq_nil_of_length_eq_zero h3
    have e : lenJ (sectJ (candJ l)) = 0 := by
      have es : sectJ (candJ l) = [81, 74, 1] ++ (be 1 0 ++ (be 8 (candJ l).ep ++ be 8 (candJ l).n ++ List.replicate 88 0 ++ four (sum (bitsB (headJ (candJ l)))) ++ be 8 (candJ l).ep ++ be 8 (candJ l).n)) := by
        show ((headJ (candJ l) ++ four _) ++ be 8 _) ++ be 8 _ = _
        conv => lhs; arg 1; arg 1; arg 1; unfold headJ
        rw [hp]
        simp only [List.append_assoc, List.length_nil, List.append_nil]
      unfold lenJ
      rw [es]
      rfl
    rw [hg.2.2] at e
    omega


theorem r8dec_short (A : Option Addr) (c n : Nat) (w : World) (h1 : n ≠ 128) :
    Calls Try.prog 12 #[.slice A n c] w fun e w' => e = .returned (.tuple #[.int .u64 0, .int .u64 0, .slice none 0 0, .int .i64 80]) ∧ w = w' := by
  have hd : ((n : Int) != 128) = true := by rw [bne_iff_ne]; omega
  clear h1
  go_enter Try.func12, Try.ntmps12
  go_wp2
  (try simp only [Exit.inBlock, Exit.then])
  refine bodyPost_ret (results_four rfl rfl rfl rfl rfl) rfl ?_
  exact ⟨rfl, rfl⟩

theorem head_len {l : List UInt8} (hl : l.length = 128) : ∃ x, l[3]? = some x ∧ x.toNat = lenJ l := by
  have h3 : 3 < l.length := by omega
  refine ⟨l[3], List.getElem?_eq_getElem h3, ?_⟩
  have e : l.drop 3 = l[3] :: l.drop 4 := List.drop_eq_getElem_cons h3
  unfold lenJ
  rw [e]
  show _ = num [l[3]]
  simp [num]

set_option maxRecDepth 100000 in
set_option maxHeartbeats 4000000 in
theorem r8dec_long (ad : Addr) (c : Nat) (l : List UInt8) (w : World) (hr : Reads w w.heap.size 1 (some ad) 128 (l.map bv)) (hl : l.length = 128) (hc : 128 ≤ c ∧ c ≤ 9223372036854775807) :
    Calls Try.prog 12 #[.slice (some ad) 128 c] w fun e w' => ∃ v, e = .returned (.tuple #[.int .u64 (decJ l).ep, .int .u64 (decJ l).n, v, .int .i64 (decErrJ l)]) ∧ Gives w w' v (decJ l).pl := by
  obtain ⟨x, hx, hxl⟩ := head_len hl
  obtain ⟨k, hk⟩ : ∃ k, lenJ l = k := ⟨_, rfl⟩
  rw [hk] at hxl
  have c3 : w.cell? ⟨ad.block, ad.off + 3, none⟩ = some (.int .u8 (k : Int)) := by
    obtain ⟨ad', e, _, hcl⟩ := hr.2 (by omega)
    injection e with e
    subst e
    have := hcl 3 (bv x) (by rw [List.getElem?_map, hx]; rfl)
    have h3 : ad.add 3 = ⟨ad.block, ad.off + 3, none⟩ := rfl
    rw [← h3, this]
    unfold bv
    rw [hxl]
  have hkb : k < 256 := by rw [← hk]; exact lenJ_lt l
  have hcb := hc.1
  have hcm := hc.2
  have d0 : ((128 : Int) != 128) = false := rfl
  by_cases h64 : k ≤ 64
  · obtain ⟨l4, hl4⟩ : ∃ x, (l.drop 3).drop 1 = x := ⟨_, rfl⟩
    obtain ⟨l12, hl12⟩ : ∃ x, l4.drop 8 = x := ⟨_, rfl⟩
    obtain ⟨l20, hl20⟩ : ∃ x, l12.drop 8 = x := ⟨_, rfl⟩
    obtain ⟨ep, hep⟩ : ∃ x, num (l4.take 8) = x := ⟨_, rfl⟩
    obtain ⟨no, hno⟩ : ∃ x, num (l12.take 8) = x := ⟨_, rfl⟩
    obtain ⟨P, hP⟩ : ∃ x, l20.take k = x := ⟨_, rfl⟩
    have d4 : l.drop 4 = l4 := by rw [← hl4, List.drop_drop]
    have d12 : l.drop 12 = l12 := by rw [← hl12, ← d4, List.drop_drop]
    have d20 : l.drop 20 = l20 := by rw [← hl20, ← d12, List.drop_drop]
    have hcand : candJ l = ⟨ep, no, P⟩ := by
      unfold candJ
      rw [hk, hl4, hl12, hl20, hep, hno, if_pos (by omega), hP]
    have hPl : P.length = k := by rw [← hP, List.length_take, ← d20, List.length_drop]; omega
    have sub : ∀ (a m : Nat), 0 < a → a < 128 → a + m ≤ 128 → ∀ W, Below w.heap.size w W → Reads W W.heap.size 1 (some (ad.add a)) m (((l.drop a).take m).map bv) := fun a m ha hal h W hb => by
      have h1 := ((hr.below hb).more hb.size).cut (k := a) (cap := c) (by omega) hc.1
      rw [if_neg (by omega), Nat.mul_one, ← List.map_drop] at h1
      exact h1.front (k := m) (by omega)
    have HWF : Hid (∀ W, Below w.heap.size w W → Calls Try.prog 35 #[.slice (some ⟨ad.block, ad.off + 4, none⟩) 8 (c - 4)] W fun e w' => e = .returned (.int .u64 (ep : Int)) ∧ W = w') := Lib.hid (fun W hb => by
      exact whole_at W _ _ 8 ep (l4.take 8) (by have := sub 4 8 (by omega) (by omega) (by omega) W hb; rw [d4] at this; exact this) (by rw [List.length_take, ← d4, List.length_drop]; omega) (by omega) hep)
    have HWM : Hid (∀ W, Below w.heap.size w W → Calls Try.prog 35 #[.slice (some ⟨ad.block, ad.off + 12, none⟩) 8 (c - 12)] W fun e w' => e = .returned (.int .u64 (no : Int)) ∧ W = w') := Lib.hid (fun W hb => by
      exact whole_at W _ _ 8 no (l12.take 8) (by have := sub 12 8 (by omega) (by omega) (by omega) W hb; rw [d12] at this; exact this) (by rw [List.length_take, ← d12, List.length_drop]; omega) (by omega) hno)
    have HTW : Hid (Calls Try.prog 8 #[.slice (some ⟨ad.block, ad.off + 20, none⟩) k (c - 20)] w fun e w' => ∃ A' c', e = .returned (.slice A' k c') ∧ w'.ownsRow w.heap.size 5 1 (.slice A' k c') k (P.map bv) ∧ Below w.heap.size w w') := Lib.hid (by
      have := sub 20 k (by omega) (by omega) (by omega) w (Below.refl _ _)
      rw [d20, hP] at this
      exact twin_any _ _ _ P w this (by omega))
    have hgood : goodJ l = (okJ (candJ l) && (sectJ (candJ l) == l)) := by unfold goodJ; rw [decide_eq_true hl, Bool.true_and]
    have hcf := candJ_fine l
    unfold decJ decErrJ
    rw [hgood]
    rw [hcand] at hcf ⊢
    have ENC := Lib.hid (fun A c W h => r8encode_any ⟨ep, no, P⟩ A c k W hcf hPl h)
    have HRL := Lib.hid (fun W (hb : Below w.heap.size w W) => conv_reads c ((hr.below hb)))
    have HSL : Hid (okJ ⟨ep, no, P⟩ = true → (sectJ ⟨ep, no, P⟩).length = 128) := Lib.hid (fun h => sectJ_length (okJ_iff.1 h).2)
    unfold errJ outJ at ENC
    simp only at ENC
    have HPL := Lib.hid hPl
    have n64 : ¬ (64 : Int) < (k : Int) := by omega
    clear hgood hr hcand hep hno hk hxl hx hl4 hl12 hl20 sub d4 d12 d20 hl hc hcf hP hPl
    cases hok : okJ ⟨ep, no, P⟩
    · rw [hok] at ENC
      simp only [Bool.false_eq_true, if_false, Bool.false_and] at ENC ⊢
      clear hok HSL
      go_enter Try.func12, Try.ntmps12
      go_wp2_with (first
        | (go_at_call 35; (with_reducible refine (HWF.out w (Below.refl _ _)).mono ?_); rintro e _ ⟨rfl, rfl⟩)
        | (go_at_call 35; (with_reducible refine (HWM.out w (Below.refl _ _)).mono ?_); rintro e _ ⟨rfl, rfl⟩)
        | (go_at_call 8; (with_reducible refine HTW.out.mono ?_); rintro e w1 ⟨A1, c1, rfl, o1, b1⟩; have O1 := Lib.hid o1; have HB1 := Lib.hid b1; clear o1 b1)
        | (go_at_call 10; refine (ENC.out A1 c1 w1 (Reads.of_own O1.out)).mono ?_; rintro e w2 ⟨v, rfl, g⟩; obtain ⟨A2, c2, rfl, o2, b2⟩ := gives_len g rfl; have HB2 := Lib.hid (HB1.out.trans (b2.mono HB1.out.size)); clear g o2 b2))
      (try simp only [Exit.inBlock, Exit.then])
      refine bodyPost_ret (results_four rfl rfl rfl rfl rfl) rfl ?_
      exact ⟨_, rfl, none, 0, rfl, World.ownsRow_nil _ _ _ _, HB2.out⟩
    · have HSL1 := Lib.hid (HSL.out hok)
      rw [hok] at ENC
      simp only [if_true, Bool.true_and] at ENC ⊢
      clear hok HSL
      generalize sectJ ⟨ep, no, P⟩ = BT at *
      cases heq : BT == l
      · simp only [Bool.false_eq_true, if_false]
        go_enter Try.func12, Try.ntmps12
        go_wp2_with (first
          | (go_at_call 35; (with_reducible refine (HWF.out w (Below.refl _ _)).mono ?_); rintro e _ ⟨rfl, rfl⟩)
          | (go_at_call 35; (with_reducible refine (HWM.out w (Below.refl _ _)).mono ?_); rintro e _ ⟨rfl, rfl⟩)
          | (go_at_call 8; (with_reducible refine HTW.out.mono ?_); rintro e w1 ⟨A1, c1, rfl, o1, b1⟩; have O1 := Lib.hid o1; have HB1 := Lib.hid b1; clear o1 b1)
          | (go_at_call 10; refine (ENC.out A1 c1 w1 (Reads.of_own O1.out)).mono ?_; rintro e w2 ⟨v, rfl, g⟩; obtain ⟨A2, c2, rfl, o2, b2⟩ := gives_len g HSL1.out; have HB2 := Lib.hid (HB1.out.trans (b2.mono HB1.out.size)); have cv1 := conv_reads c2 (Reads.of_own o2); have cv2 := HRL.out w2 HB2.out; clear g o2 b2))
        (try simp only [Exit.inBlock, Exit.then])
        refine bodyPost_ret (results_four rfl rfl rfl rfl rfl) rfl ?_
        exact ⟨_, rfl, none, 0, rfl, World.ownsRow_nil _ _ _ _, HB2.out⟩
      · simp only [if_true]
        go_enter Try.func12, Try.ntmps12
        go_wp2_with (first
          | (go_at_call 35; (with_reducible refine (HWF.out w (Below.refl _ _)).mono ?_); rintro e _ ⟨rfl, rfl⟩)
          | (go_at_call 35; (with_reducible refine (HWM.out w (Below.refl _ _)).mono ?_); rintro e _ ⟨rfl, rfl⟩)
          | (go_at_call 8; (with_reducible refine HTW.out.mono ?_); rintro e w1 ⟨A1, c1, rfl, o1, b1⟩; have O1 := Lib.hid o1; have HB1 := Lib.hid b1; clear o1 b1)
          | (go_at_call 10; refine (ENC.out A1 c1 w1 (Reads.of_own O1.out)).mono ?_; rintro e w2 ⟨v, rfl, g⟩; obtain ⟨A2, c2, rfl, o2, b2⟩ := gives_len g HSL1.out; have HB2 := Lib.hid (HB1.out.trans (b2.mono HB1.out.size)); have HO2 := Lib.hid (own_stay (own_mono O1.out (Nat.le_refl _)) b2); have cv1 := conv_reads c2 (Reads.of_own o2); have cv2 := HRL.out w2 HB2.out; clear g o2 b2))
        (try simp only [Exit.inBlock, Exit.then])
        refine bodyPost_ret (results_four rfl rfl rfl rfl rfl) rfl ?_
        refine ⟨_, rfl, A1, c1, by rw [HPL.out]; rfl, ?_, HB2.out⟩
        rw [HPL.out]
        exact HO2.out
  · have hg : goodJ l = false := by
      cases h : goodJ l
      · rfl
      · have := lenJ_good h; omega
    have hd : decJ l = noJ := by unfold decJ; rw [hg]; rfl
    have he : decErrJ l = 80 := by unfold decErrJ; rw [hg]; rfl
    rw [hd, he]
    have n64 : (64 : Int) < (k : Int) := by omega
    clear hg hd he hr hk hxl hx hl hc
    go_enter Try.func12, Try.ntmps12
    go_wp2
    (try simp only [Exit.inBlock, Exit.then])
    refine bodyPost_ret (results_four rfl rfl rfl rfl rfl) rfl ?_
    exact ⟨_, rfl, Gives.nil w⟩

theorem r8decode_any (A : Option Addr) (c n : Nat) (l : List UInt8) (w : World) (hl : l.length = n) (hr : Reads w w.heap.size 1 A n (l.map bv)) (hc : n ≤ c) (hm : c ≤ 9223372036854775807) :
    Calls Try.prog 12 #[.slice A n c] w fun e w' => ∃ v, e = .returned (.tuple #[.int .u64 (decJ l).ep, .int .u64 (decJ l).n, v, .int .i64 (decErrJ l)]) ∧ Gives w w' v (decJ l).pl := by
  by_cases h1 : n = 128
  · subst h1
    obtain ⟨ad, rfl, _⟩ := hr.2 (by omega)
    exact r8dec_long ad c l w hr hl ⟨hc, hm⟩
  · have hg : goodJ l = false := by unfold goodJ; rw [decide_eq_false (by omega), Bool.false_and]
    have hd : decJ l = noJ := by unfold decJ; rw [hg]; rfl
    have he : decErrJ l = 80 := by unfold decErrJ; rw [hg]; rfl
    rw [hd, he]
    refine (r8dec_short A c n w h1).mono ?_
    rintro e w' ⟨rfl, rfl⟩
    exact ⟨_, rfl, Gives.nil w⟩

end Go.Proofs.Ytddhldmeknmgpaa.journal

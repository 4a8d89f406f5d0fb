/-
  The document's own Area and Encode for layer 6.
-/
import Derived.Test.YtoiopoghcjkgcaaRtDec
import Derived.Test.YtoiopoghcjkgcaaRefR
namespace Go.Proofs.Ytoiopoghcjkgcaa.root
open Go.RowKit Go.Proofs.Ytoiopoghcjkgcaa.crc

theorem r6area_any (n : Nat) (w : World) (hn : n < 18446744073709551616) : Calls Try.prog 11 #[.int .u64 n] w fun e w' => e = .returned (.int .i64 (areaR n)) ∧ w = w' := by
  unfold areaR
  rcases Nat.mod_two_eq_zero_or_one n with h | h
  · rw [if_pos h]
    have e : (((n : Int) % 2) == 0) = true := by rw [beq_iff_eq]; omega
    clear h
    go_enter Try.func11, Try.ntmps11
    go_wp2
    go_ret
    exact ⟨rfl, rfl⟩
  · rw [if_neg (by omega)]
    have e : (((n : Int) % 2) == 0) = false := by rw [beq_eq_false_iff_ne]; omega
    clear h
    go_enter Try.func11, Try.ntmps11
    go_wp2
    go_ret
    exact ⟨rfl, rfl⟩

theorem r6encode_bad (r : RV) (w : World) (hok : okR r = false) : Calls Try.prog 7 #[rtv r] w fun e w' => e = .returned (.tuple #[.slice none 0 0, .int .i64 60]) ∧ Below w.heap.size w w' := by
  obtain ⟨n, len, s⟩ := r
  unfold okR at hok
  simp only at hok
  unfold rtv
  simp only
  have hb : Below w.heap.size w (w.alloc (.cells #[.int .u64 n, .int .i64 len, .int .u32 s] 25)) := (Below.refl _ _).alloc (Nat.le_refl _) _
  have HB := Lib.hid hb
  by_cases h0 : n = 0
  · subst h0
    clear hb hok
    go_enter Try.func7, Try.ntmps7
    go_wp2
    go_ret2
    exact ⟨rfl, HB.out⟩
  · have d0 : ((n : Int) == 0) = false := by rw [beq_eq_false_iff_ne]; omega
    by_cases h2 : len < 0
    · have d2 : decide (len < 0) = true := decide_eq_true h2
      clear hb hok h0
      go_enter Try.func7, Try.ntmps7
      go_wp2
      go_ret2
      exact ⟨rfl, HB.out⟩
    · have h3 : 3072 < len := by
        rw [decide_eq_true (show 1 ≤ n by omega), decide_eq_true (show 0 ≤ len by omega), Bool.true_and, Bool.true_and] at hok
        have := of_decide_eq_false hok
        omega
      have d2 : decide (len < 0) = false := decide_eq_false h2
      have d3 : decide (3072 < len) = true := decide_eq_true h3
      clear hb hok h0
      go_enter Try.func7, Try.ntmps7
      go_wp2
      go_ret2
      exact ⟨rfl, HB.out⟩

set_option maxRecDepth 100000 in
set_option maxHeartbeats 4000000 in
theorem r6encode_ok (r : RV) (w : World) (hf : r.Fine) (hok : okR r = true) : Calls Try.prog 7 #[rtv r] w fun e w' => ∃ A' c', e = .returned (.tuple #[.slice A' 128 c', .int .i64 0]) ∧ w'.ownsRow w.heap.size 5 1 (.slice A' 128 c') 128 ((sectR r).map bv) ∧ Below w.heap.size w w' := by
  obtain ⟨h1, h2, h3⟩ := okR_iff.1 hok
  obtain ⟨n, len, s⟩ := r
  simp only at h1 h2 h3
  have hn := hf.n
  have hs := hf.sm
  simp only at hn hs
  obtain ⟨k, rfl⟩ := Int.eq_ofNat_of_zero_le h2
  obtain ⟨S0, hS0⟩ : ∃ S, sectR ⟨n, (k : Int), s⟩ = S := ⟨_, rfl⟩
  obtain ⟨B12, hB12⟩ : ∃ B, [81, 82, 1, 0] ++ be 8 n = B := ⟨_, rfl⟩
  obtain ⟨B16, hB16⟩ : ∃ B, B12 ++ be 4 k = B := ⟨_, rfl⟩
  obtain ⟨B20, hB20⟩ : ∃ B, B16 ++ be 4 s = B := ⟨_, rfl⟩
  obtain ⟨BB, hBB⟩ : ∃ B, B20 ++ List.replicate 96 0 = B := ⟨_, rfl⟩
  have hhead : headR ⟨n, (k : Int), s⟩ = BB := by
    unfold headR
    simp only [Int.toNat_natCast]
    rw [← hBB, ← hB20, ← hB16, ← hB12]
  have hBBl : BB.length = 116 := by rw [← hhead]; exact headR_length _
  obtain ⟨BS, hBS⟩ : ∃ B, BB ++ four (sum (bitsB BB)) = B := ⟨_, rfl⟩
  have hfull : BS ++ be 8 n = S0 := by rw [← hS0, ← hBS, ← hhead]; rfl
  obtain ⟨w0, hw0⟩ : ∃ w0, w.alloc (.cells #[.int .u64 n, .int .i64 (k : Int), .int .u32 s] 25) = w0 := ⟨_, rfl⟩
  have hx : Blk w0 w.heap.size 25 #[.int .u64 n, .int .i64 (k : Int), .int .u32 s] := by rw [← hw0]; exact Blk.new w _ _
  have hb0 : Below w.heap.size w w0 := by rw [← hw0]; exact (Below.refl _ _).alloc (Nat.le_refl _) _
  have k1 : IntKind.u64.wrap (k : Int) = (k : Int) := by rw [wrap_u64]; omega
  have k2 : IntKind.u64.wrap (s : Int) = (s : Int) := by rw [wrap_u64]; omega
  have d0 : ((n : Int) == 0) = false := by rw [beq_eq_false_iff_ne]; omega
  have d3 : decide (3072 < (k : Int)) = false := decide_eq_false (by omega)
  have d2 : decide ((k : Int) < 0) = false := decide_eq_false (by omega)
  have num4 : ∀ x : Nat, x < 4294967296 → numErr 4 x = 0 ∧ numOut 4 x = be 4 x := fun x hx => by
    have e : numErr 4 x = 0 := by simp [numErr, sized, fitsB]; omega
    exact ⟨e, by simp [numOut, e]⟩
  have num8 : numErr 8 n = 0 ∧ numOut 8 n = be 8 n := by
    have e : numErr 8 n = 0 := by simp [numErr, sized, fitsB]; omega
    exact ⟨e, by simp [numOut, e]⟩
  have H8 : Hid (∀ W, Calls Try.prog 19 #[.int .i64 8, .int .u64 n] W fun e w' => ∃ v, e = .returned (.tuple #[v, .int .i64 0]) ∧ Gives W w' v (be 8 n)) := Lib.hid (fun W => by
    have h := refnum_any W 8 n (by omega) (by omega) (by omega)
    rwa [num8.1, num8.2] at h)
  have H4 : Hid (∀ x : Nat, x < 4294967296 → ∀ W, Calls Try.prog 19 #[.int .i64 4, .int .u64 x] W fun e w' => ∃ v, e = .returned (.tuple #[v, .int .i64 0]) ∧ Gives W w' v (be 4 x)) := Lib.hid (fun x hx W => by
    have h := refnum_any W 4 x (by omega) (by omega) (by omega)
    rwa [(num4 x hx).1, (num4 x hx).2] at h)
  have XC : Hid (∀ W, Below w0.heap.size w0 W → W.cell? ⟨w.heap.size, 0, none⟩ = some (.int .u64 n) ∧ W.cell? ⟨w.heap.size, 1, none⟩ = some (.int .i64 (k : Int)) ∧ W.cell? ⟨w.heap.size, 2, none⟩ = some (.int .u32 s)) := Lib.hid (fun W h => by
    have hb := hx.below h hx.lt
    exact ⟨hb.cell 0, hb.cell 1, hb.cell 2⟩)
  have HB0 := Lib.hid hb0
  have HB12 := Lib.hid hB12
  have HB16 := Lib.hid hB16
  have HB20 := Lib.hid hB20
  have HBB := Lib.hid hBB
  have HBBL := Lib.hid hBBl
  have HBS := Lib.hid hBS
  have HFULL := Lib.hid hfull
  have hq4 : s < 4294967296 := hs
  have hk4 : k < 4294967296 := by omega
  obtain ⟨i0, hi, hz0, hz1, hz2⟩ := info_parts infoU8
  have HO1 : Hid (∀ w1 : World, (w1.alloc (.cells #[.int .u8 81, .int .u8 82, .int .u8 1, .int .u8 0] 5)).ownsRow w1.heap.size 5 1 (.slice (some ⟨w1.heap.size, 0, none⟩) 4 4) 4 (([81, 82, 1, 0] : List UInt8).map bv)) := Lib.hid (fun w1 => own_of_alloc w1 _ _ 4 (by rfl) (by simp) (by unfold maxLen; omega))
  rw [hS0]
  obtain ⟨x0, x1, x2⟩ := XC.out w0 (Below.refl _ _)
  clear hS0 hB12 hB16 hB20 hBB hhead hBBl hBS hfull hx hb0 num4 num8 hok hf h2 hs
  unfold rtv
  simp only
  go_enter Try.func7, Try.ntmps7
  go_wp2_with (first
    | (go_at_call 19; (have l0 := P5.out; clear l0); (with_reducible refine (H4.out s hq4 w5).mono ?_); rintro e w6 ⟨v, rfl, g⟩; obtain ⟨A6, c6, rfl, o6, b6⟩ := gives_len g (be_length 4 s); have K6 := Lib.hid (K5.out.trans (b6.mono K5.out.size)); have P6 := Lib.hid (own_stay P5.out b6); have Q6 := Lib.hid o6; clear g o6 b6)
    | (go_at_call 19; (have l0 := K1.out; clear l0); (with_reducible refine (H4.out k hk4 w1).mono ?_); rintro e w2 ⟨v, rfl, g⟩; obtain ⟨A2, c2, rfl, o2, b2⟩ := gives_len g (be_length 4 k); have K2 := Lib.hid (K1.out.trans (b2.mono K1.out.size)); have HA1 := Lib.hid (fun W (h : Below w2.heap.size w2 W) => (((Reads.of_own (own_stay Q1.out b2)).below h).more h.size)); have HA2 := Lib.hid (fun W (h : Below w2.heap.size w2 W) => (((Reads.of_own o2).below h).more h.size)); have P2 := Lib.hid (HO1.out w2); have K3 := Lib.hid ((Below.refl _ w2).alloc (Nat.le_refl _) (.cells #[.int .u8 81, .int .u8 82, .int .u8 1, .int .u8 0] 5)); clear g o2 b2)
    | (go_at_call 19; (with_reducible refine (H8.out w0).mono ?_); rintro e w1 ⟨v, rfl, g⟩; clear hw0; obtain ⟨A1, c1, rfl, o1, b1⟩ := gives_len g (be_length 8 n); have K1 := Lib.hid b1; have Q1 := Lib.hid o1; obtain ⟨x0, x1, x2⟩ := XC.out w1 b1; clear g o1 b1)
    | (at_builtin; (have l0 := P6.out; clear l0); refine wpList_append_any _ rfl _ _ 26 rfl w2.heap.size 5 i0 (.int .u8 0) 1 1 Try.underlying26 hi hz0 hz1 hz2 rfl (by decide) _ 16 (B16.map bv) rfl P6.out _ A6 4 c6 ((be 4 s).map bv) rfl (Reads.of_own Q6.out) (bv_one _) (by unfold maxLen; omega) (by omega) K6.out.size ?_; intro v7 w7 o7 g7 _; obtain ⟨A7, c7, rfl, p7, k7⟩ := app_out (p := 20) K6.out P6.out o7 g7 rfl HB20.out; have K7 := Lib.hid k7; have P7 := Lib.hid p7; clear o7 g7 p7 k7)
    | (at_builtin; (have l0 := P4.out; clear l0); refine wpList_append_any _ rfl _ _ 26 rfl w2.heap.size 5 i0 (.int .u8 0) 1 1 Try.underlying26 hi hz0 hz1 hz2 rfl (by decide) _ 12 (B12.map bv) rfl P4.out _ A2 4 c2 ((be 4 k).map bv) rfl (HA2.out w4 K4.out) (bv_one _) (by unfold maxLen; omega) (by omega) K4.out.size ?_; intro v5 w5 o5 g5 _; obtain ⟨A5, c5, rfl, p5, k5⟩ := app_out (p := 16) K4.out P4.out o5 g5 rfl HB16.out; have K5 := Lib.hid k5; have P5 := Lib.hid p5; obtain ⟨x0, x1, x2⟩ := XC.out w5 (K2.out.trans (k5.mono K2.out.size)); clear o5 g5 p5 k5)
    | (at_builtin; (have l0 := P2.out; clear l0); refine wpList_append_any _ rfl _ _ 26 rfl w2.heap.size 5 i0 (.int .u8 0) 1 1 Try.underlying26 hi hz0 hz1 hz2 rfl (by decide) _ 4 (([81, 82, 1, 0] : List UInt8).map bv) rfl P2.out _ A1 8 c1 ((be 8 n).map bv) rfl (HA1.out _ K3.out) (bv_one _) (by unfold maxLen; omega) (by omega) K3.out.size ?_; intro v4 w4 o4 g4 _; obtain ⟨A4, c4, rfl, p4, k4⟩ := app_out (p := 12) K3.out P2.out o4 g4 rfl HB12.out; have K4 := Lib.hid k4; have P4 := Lib.hid p4; clear o4 g4 p4 k4))
  have HST : Hid (w7.ownsRow w2.heap.size 5 1 (.slice A7 (20 + 0) c7) (20 + 0) ((B20 ++ List.replicate 0 (0 : UInt8)).map bv)) := Lib.hid (by
    have h := P7.out
    simpa using h)
  clear P2 K3 HA2 K4 P4 K5 P5 K6 P6 Q6 P7 x0 x1 x2 H8 K1 Q1 HO1
  go_loopw [8] (fun b ws => ∃ (z q : Nat) (A' : Option Addr) (c' : Nat), z ≤ 96 ∧ 20 + z = q ∧ b = .slice A' q c' ∧ ws.ownsRow w2.heap.size 5 1 (.slice A' q c') q ((B20 ++ List.replicate z (0 : UInt8)).map bv) ∧ Below w2.heap.size w2 ws) (fun b _ => 116 - (match b with | .slice _ q _ => q | _ => 0))
  case atStart => exact ⟨0, 20, A7, c7, Nat.zero_le _, rfl, rfl, HST.out, K7.out⟩
  case round =>
    obtain ⟨z, q, A9, c9, hz, hq, rfl, hown, hB⟩ := hrel
    by_cases hlt : z < 96
    · have hd : decide ((q : Int) < 116) = true := decide_eq_true (by omega)
      have hsn : B20 ++ List.replicate z (0 : UInt8) ++ [0] = B20 ++ List.replicate (z + 1) 0 := by rw [List.append_assoc, ← List.replicate_succ']
      obtain ⟨M0, hM0⟩ : ∃ M, B20 ++ List.replicate z (0 : UInt8) = M := ⟨_, rfl⟩
      obtain ⟨M1, hM1⟩ : ∃ M, B20 ++ List.replicate (z + 1) (0 : UInt8) = M := ⟨_, rfl⟩
      rw [hM0] at hown
      rw [hM0, hM1] at hsn
      have P9 := Lib.hid (hown.alloc (.cells #[.int .u8 0] 5))
      have K9 := Lib.hid (hB.alloc hB.size (.cells #[.int .u8 0] 5))
      have HSN := Lib.hid hsn
      have HM1 := Lib.hid hM1
      have HRR := Lib.hid (Reads.of_own (own_one wr wr.heap.size (Nat.le_refl _) (.int .u8 0)))
      have hqb : q ≤ 9000 := by omega
      have HQ := Lib.hid hq
      have HLT := Lib.hid hlt
      clear hown hB hM0 hM1 hsn hq hlt hz
      go_wp2_with (at_builtin; refine wpList_append_any _ rfl _ _ 26 rfl w2.heap.size 5 i0 (.int .u8 0) 1 1 Try.underlying26 hi hz0 hz1 hz2 rfl (by decide) _ q (M0.map bv) rfl P9.out _ _ 1 1 [bv 0] rfl HRR.out (bv_one [0]) (by unfold maxLen; omega) (by omega) K9.out.size ?_; intro v3 w3 o3 g3 _; obtain ⟨A3, c3, rfl, p3, k3⟩ := app_out (p := q + 1) (M := [0]) K9.out P9.out o3 g3 rfl HSN.out; have K3 := Lib.hid k3; have P3 := Lib.hid p3; clear o3 g3 p3 k3)
      refine ⟨⟨z + 1, q + 1, A3, c3, by have := HLT.out; omega, by have := HQ.out; omega, rfl, ?_, K3.out⟩, ?_⟩
      · rw [HM1.out]
        exact P3.out
      · show 116 - (q + 1) < 116 - q
        have := HQ.out
        have := HLT.out
        omega
    · obtain rfl : z = 96 := by omega
      obtain rfl : q = 116 := by omega
      rw [HBB.out] at hown
      have HOF := Lib.hid (fun W h => r2of_cut A9 c9 BB 116 W h HBBL.out (by omega))
      have hsl := (sum (bitsB BB)).isLt
      have h4 := HBS.out
      rw [← be_four] at h4
      unfold rv at HOF
      generalize (sum (bitsB BB)).toNat = sB at *
      have HBS4 := Lib.hid h4
      have hsl4 : sB < 4294967296 := by omega
      have k3 : IntKind.u64.wrap (sB : Int) = (sB : Int) := by rw [wrap_u64]; omega
      have HOWN := Lib.hid hown
      have HB9 := Lib.hid hB
      clear hown hB h4 hsl hq hlt hz
      go_wp2_with (first
        | (go_at_call 20; (with_reducible refine (HOF.out wr (Reads.of_own HOWN.out)).mono ?_); rintro e _ ⟨rfl, rfl⟩)
        | (go_at_call 19; (with_reducible refine (H4.out sB hsl4 wr).mono ?_); rintro e w8 ⟨v, rfl, g⟩; obtain ⟨A5, c5, rfl, o5, b5⟩ := gives_len g (be_length 4 sB); have K5 := Lib.hid (HB9.out.trans (b5.mono HB9.out.size)); have P5 := Lib.hid (own_stay HOWN.out b5); have Q5 := Lib.hid o5; clear g o5 b5)
        | (at_builtin; (have l0 := P8.out; clear l0); refine wpList_append_any _ rfl _ _ 26 rfl w2.heap.size 5 i0 (.int .u8 0) 1 1 Try.underlying26 hi hz0 hz1 hz2 rfl (by decide) _ 120 (BS.map bv) rfl P8.out _ A1 8 c1 ((be 8 n).map bv) rfl (HA1.out _ K8.out) (bv_one _) (by unfold maxLen; omega) (by omega) K8.out.size ?_; intro v4 w4 o4 g4 _; obtain ⟨A4, c4, rfl, p4, k4⟩ := app_out (p := 128) K8.out P8.out o4 g4 rfl HFULL.out; have K4 := Lib.hid k4; have P4 := Lib.hid p4; clear o4 g4 p4 k4)
        | (at_builtin; refine wpList_append_any _ rfl _ _ 26 rfl w2.heap.size 5 i0 (.int .u8 0) 1 1 Try.underlying26 hi hz0 hz1 hz2 rfl (by decide) _ 116 (BB.map bv) rfl P5.out _ A5 4 c5 ((be 4 sB).map bv) rfl (Reads.of_own Q5.out) (bv_one _) (by unfold maxLen; omega) (by omega) K5.out.size ?_; intro v3 w3 o3 g3 _; obtain ⟨A3, c3, rfl, p3, k3⟩ := app_out (p := 120) K5.out P5.out o3 g3 rfl HBS4.out; have K8 := Lib.hid k3; have P8 := Lib.hid p3; clear o3 g3 p3 k3))
      go_ret2
      have hk2 := HB0.out.trans (K2.out.mono HB0.out.size)
      exact ⟨A4, c4, rfl, own_mono P4.out hk2.size, hk2.trans (K4.out.mono hk2.size)⟩

theorem r6encode_any (r : RV) (w : World) (hf : r.Fine) : Calls Try.prog 7 #[rtv r] w fun e w' => ∃ v, e = .returned (.tuple #[v, .int .i64 (errR r)]) ∧ Gives w w' v (outR r) := by
  unfold errR outR
  cases hok : okR r
  · rw [if_neg (by decide), if_neg (by decide)]
    refine (r6encode_bad r w hok).mono ?_
    rintro e w' ⟨rfl, hb⟩
    exact ⟨_, rfl, none, 0, rfl, World.ownsRow_nil _ _ _ _, hb⟩
  · rw [if_pos rfl, if_pos rfl]
    refine (r6encode_ok r w hf hok).mono ?_
    rintro e w' ⟨A, c, rfl, ho, hb⟩
    have hl := sectR_length r
    exact ⟨_, rfl, A, c, by rw [hl], by rw [hl]; exact ho, hb⟩

end Go.Proofs.Ytoiopoghcjkgcaa.root

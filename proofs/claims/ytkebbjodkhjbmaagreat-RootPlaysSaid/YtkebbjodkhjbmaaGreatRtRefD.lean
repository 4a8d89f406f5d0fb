/-
  The document's own Area and Encode for layer 6.
  The document's own Decode for layer 6.
-/
import Derived.Test.YtkebbjodkhjbmaaGreatRtDec
import Derived.Test.YtkebbjodkhjbmaaGreatRefR
import Derived.Test.YtkebbjodkhjbmaaGreatDone
namespace Go.Proofs.YtkebbjodkhjbmaaGreat.root
open Go.RowKit Go.Proofs.YtkebbjodkhjbmaaGreat.crc

theorem r6area_any (n : Nat) (w : World) (hn : n < 18446744073709551616) : Calls Tryz.prog 163 #[.int .u64 n] w fun e w' => e = .returned (.int .i64 (areaR n)) ∧ w = w' := by
  unfold areaR
  rcases Nat.mod_two_eq_zero_or_one n with h | h
  · rw [if_pos h]
    have e : (((n : Int) % 2) == 0) = true := by rw [beq_iff_eq]; omega
    clear h
    go_enter Tryz.func163, Tryz.ntmps163
    go_wp2
    go_ret
    exact ⟨rfl, rfl⟩
  · rw [if_neg (by omega)]
    have e : (((n : Int) % 2) == 0) = false := by rw [beq_eq_false_iff_ne]; omega
    clear h
    go_enter Tryz.func163, Tryz.ntmps163
    go_wp2
    go_ret
    exact ⟨rfl, rfl⟩

theorem r6encode_bad (r : RV) (w : World) (hok : okR r = false) : Calls Tryz.prog 129 #[rtv r] w fun e w' => e = .returned (.tuple #[.slice none 0 0, .int .i64 60]) ∧ Below w.heap.size w w' := by
  obtain ⟨n, len, s⟩ := r
  unfold okR at hok
  simp only at hok
  unfold rtv
  simp only
  have hb : Below w.heap.size w (w.alloc (.cells #[.int .u64 n, .int .i64 len, .int .u32 s] 35)) := (Below.refl _ _).alloc (Nat.le_refl _) _
  have HB := Lib.hid hb
  by_cases h0 : n = 0
  · subst h0
    clear hb hok
    go_enter Tryz.func129, Tryz.ntmps129
    go_wp2
    go_ret2
    exact ⟨rfl, HB.out⟩
  · have d0 : ((n : Int) == 0) = false := by rw [beq_eq_false_iff_ne]; omega
    by_cases h2 : len < 0
    · have d2 : decide (len < 0) = true := decide_eq_true h2
      clear hb hok h0
      go_enter Tryz.func129, Tryz.ntmps129
      go_wp2
      go_ret2
      exact ⟨rfl, HB.out⟩
    · have h3 : 3072 < len := by
        rw [decide_eq_true (show 1 ≤ n by omega), decide_eq_true (show 0 ≤ len by omega), Bool.true_and, Bool.true_and] at hok
        have := of_decide_eq_false hok
        omega
      have d2 : decide (len < 0) = false := decide_eq_false h2
      have d3 : decide (3072 < len) = true := decide_eq_true h3
      clear hb hok h0
      go_enter Tryz.func129, Tryz.ntmps129
      go_wp2
      go_ret2
      exact ⟨rfl, HB.out⟩

set_option maxRecDepth 100000 in
set_option maxHeartbeats 4000000 in
theorem r6encode_ok (r : RV) (w : World) (hf : r.Fine) (hok : okR r = true) : Calls Tryz.prog 129 #[rtv r] w fun e w' => ∃ A' c', e = .returned (.tuple #[.slice A' 128 c', .int .i64 0]) ∧ w'.ownsRow w.heap.size 5 1 (.slice A' 128 c') 128 ((sectR r).map bv) ∧ Below w.heap.size w w' := by
  obtain ⟨h1, h2, h3⟩ := okR_iff.1 hok
  obtain ⟨n, len, s⟩ := r
  simp only at h1 h2 h3
  have hn := hf.n
  have hs := hf.sm
  simp only at hn hs
  obtain ⟨k, rfl⟩ := Int.eq_ofNat_of_zero_le h2
  obtain ⟨S0, hS0⟩ : ∃ S, sectR ⟨n, (k : Int), s⟩ = S := ⟨_, rfl⟩
  obtain ⟨B12, hB12⟩ : ∃ B, [81, 82, 1, 0] ++ be 8 n = B := ⟨_, rfl⟩
  obtain ⟨B16, hB16⟩ : ∃ B, B12 ++ be 4 k = B := ⟨_, rfl⟩
  obtain ⟨B20, hB20⟩ : ∃ B, B16 ++ be 4 s = B := ⟨_, rfl⟩
  obtain ⟨BB, hBB⟩ : ∃ B, B20 ++ List.replicate 96 0 = B := ⟨_, rfl⟩
  have hhead : headR ⟨n, (k : Int), s⟩ = BB := by
    unfold headR
    simp only [Int.toNat_natCast]
    rw [← hBB, ← hB20, ← hB16, ← hB12]
  have hBBl : BB.length = 116 := by rw [← hhead]; exact headR_length _
  obtain ⟨BS, hBS⟩ : ∃ B, BB ++ four (sum (bitsB BB)) = B := ⟨_, rfl⟩
  have hfull : BS ++ be 8 n = S0 := by rw [← hS0, ← hBS, ← hhead]; rfl
  obtain ⟨w0, hw0⟩ : ∃ w0, w.alloc (.cells #[.int .u64 n, .int .i64 (k : Int), .int .u32 s] 35) = w0 := ⟨_, rfl⟩
  have hx : Blk w0 w.heap.size 35 #[.int .u64 n, .int .i64 (k : Int), .int .u32 s] := by rw [← hw0]; exact Blk.new w _ _
  have hb0 : Below w.heap.size w w0 := by rw [← hw0]; exact (Below.refl _ _).alloc (Nat.le_refl _) _
  have k1 : IntKind.u64.wrap (k : Int) = (k : Int) := by rw [wrap_u64]; omega
  have k2 : IntKind.u64.wrap (s : Int) = (s : Int) := by rw [wrap_u64]; omega
  have d0 : ((n : Int) == 0) = false := by rw [beq_eq_false_iff_ne]; omega
  have d3 : decide (3072 < (k : Int)) = false := decide_eq_false (by omega)
  have d2 : decide ((k : Int) < 0) = false := decide_eq_false (by omega)
  have num4 : ∀ x : Nat, x < 4294967296 → numErr 4 x = 0 ∧ numOut 4 x = be 4 x := fun x hx => by
    have e : numErr 4 x = 0 := by simp [numErr, sized, fitsB]; omega
    exact ⟨e, by simp [numOut, e]⟩
  have num8 : numErr 8 n = 0 ∧ numOut 8 n = be 8 n := by
    have e : numErr 8 n = 0 := by simp [numErr, sized, fitsB]; omega
    exact ⟨e, by simp [numOut, e]⟩
  have H8 : Hid (∀ W, Calls Tryz.prog 91 #[.int .i64 8, .int .u64 n] W fun e w' => ∃ v, e = .returned (.tuple #[v, .int .i64 0]) ∧ Gives W w' v (be 8 n)) := Lib.hid (fun W => by
    have h := refnum_any W 8 n (by omega) (by omega) (by omega)
    rwa [num8.1, num8.2] at h)
  have H4 : Hid (∀ x : Nat, x < 4294967296 → ∀ W, Calls Tryz.prog 91 #[.int .i64 4, .int .u64 x] W fun e w' => ∃ v, e = .returned (.tuple #[v, .int .i64 0]) ∧ Gives W w' v (be 4 x)) := Lib.hid (fun x hx W => by
    have h := refnum_any W 4 x (by omega) (by omega) (by omega)
    rwa [(num4 x hx).1, (num4 x hx).2] at h)
  have XC : Hid (∀ W, Below w0.heap.size w0 W → W.cell? ⟨w.heap.size, 0, none⟩ = some (.int .u64 n) ∧ W.cell? ⟨w.heap.size, 1, none⟩ = some (.int .i64 (k : Int)) ∧ W.cell? ⟨w.heap.size, 2, none⟩ = some (.int .u32 s)) := Lib.hid (fun W h => by
    have hb := hx.below h hx.lt
    exact ⟨hb.cell 0, hb.cell 1, hb.cell 2⟩)
  have HB0 := Lib.hid hb0
  have HB12 := Lib.hid hB12
  have HB16 := Lib.hid hB16
  have HB20 := Lib.hid hB20
  have HBB := Lib.hid hBB
  have HBBL := Lib.hid hBBl
  have HBS := Lib.hid hBS
  have HFULL := Lib.hid hfull
  have hq4 : s < 4294967296 := hs
  have hk4 : k < 4294967296 := by omega
  obtain ⟨i0, hi, hz0, hz1, hz2⟩ := info_parts infoU8
  have HO1 : Hid (∀ w1 : World, (w1.alloc (.cells #[.int .u8 81, .int .u8 82, .int .u8 1, .int .u8 0] 5)).ownsRow w1.heap.size 5 1 (.slice (some ⟨w1.heap.size, 0, none⟩) 4 4) 4 (([81, 82, 1, 0] : List UInt8).map bv)) := Lib.hid (fun w1 => own_of_alloc w1 _ _ 4 (by rfl) (by simp) (by unfold maxLen; omega))
  rw [hS0]
  obtain ⟨x0, x1, x2⟩ := XC.out w0 (Below.refl _ _)
  clear hS0 hB12 hB16 hB20 hBB hhead hBBl hBS hfull hx hb0 num4 num8 hok hf h2 hs
  unfold rtv
  simp only
  go_enter Tryz.func129, Tryz.ntmps129
  go_wp2_with (first
    | (go_at_call 91; (have l0 := P5.out; clear l0); (with_reducible refine (H4.out s hq4 w5).mono ?_); rintro e w6 ⟨v, rfl, g⟩; obtain ⟨A6, c6, rfl, o6, b6⟩ := gives_len g (be_length 4 s); have K6 := Lib.hid (K5.out.trans (b6.mono K5.out.size)); have P6 := Lib.hid (own_stay P5.out b6); have Q6 := Lib.hid o6; clear g o6 b6)
    | (go_at_call 91; (have l0 := K1.out; clear l0); (with_reducible refine (H4.out k hk4 w1).mono ?_); rintro e w2 ⟨v, rfl, g⟩; obtain ⟨A2, c2, rfl, o2, b2⟩ := gives_len g (be_length 4 k); have K2 := Lib.hid (K1.out.trans (b2.mono K1.out.size)); have HA1 := Lib.hid (fun W (h : Below w2.heap.size w2 W) => (((Reads.of_own (own_stay Q1.out b2)).below h).more h.size)); have HA2 := Lib.hid (fun W (h : Below w2.heap.size w2 W) => (((Reads.of_own o2).below h).more h.size)); have P2 := Lib.hid (HO1.out w2); have K3 := Lib.hid ((Below.refl _ w2).alloc (Nat.le_refl _) (.cells #[.int .u8 81, .int .u8 82, .int .u8 1, .int .u8 0] 5)); clear g o2 b2)
    | (go_at_call 91; (with_reducible refine (H8.out w0).mono ?_); rintro e w1 ⟨v, rfl, g⟩; clear hw0; obtain ⟨A1, c1, rfl, o1, b1⟩ := gives_len g (be_length 8 n); have K1 := Lib.hid b1; have Q1 := Lib.hid o1; obtain ⟨x0, x1, x2⟩ := XC.out w1 b1; clear g o1 b1)
    | (at_builtin; (have l0 := P6.out; clear l0); refine wpList_append_any _ rfl _ _ 36 rfl w2.heap.size 5 i0 (.int .u8 0) 1 1 Tryz.underlying36 hi hz0 hz1 hz2 rfl (by decide) _ 16 (B16.map bv) rfl P6.out _ A6 4 c6 ((be 4 s).map bv) rfl (Reads.of_own Q6.out) (bv_one _) (by unfold maxLen; omega) (by omega) K6.out.size ?_; intro v7 w7 o7 g7 _; obtain ⟨A7, c7, rfl, p7, k7⟩ := app_out (p := 20) K6.out P6.out o7 g7 rfl HB20.out; have K7 := Lib.hid k7; have P7 := Lib.hid p7; clear o7 g7 p7 k7)
    | (at_builtin; (have l0 := P4.out; clear l0); refine wpList_append_any _ rfl _ _ 36 rfl w2.heap.size 5 i0 (.int .u8 0) 1 1 Tryz.underlying36 hi hz0 hz1 hz2 rfl (by decide) _ 12 (B12.map bv) rfl P4.out _ A2 4 c2 ((be 4 k).map bv) rfl (HA2.out w4 K4.out) (bv_one _) (by unfold maxLen; omega) (by omega) K4.out.size ?_; intro v5 w5 o5 g5 _; obtain ⟨A5, c5, rfl, p5, k5⟩ := app_out (p := 16) K4.out P4.out o5 g5 rfl HB16.out; have K5 := Lib.hid k5; have P5 := Lib.hid p5; obtain ⟨x0, x1, x2⟩ := XC.out w5 (K2.out.trans (k5.mono K2.out.size)); clear o5 g5 p5 k5)
    | (at_builtin; (have l0 := P2.out; clear l0); refine wpList_append_any _ rfl _ _ 36 rfl w2.heap.size 5 i0 (.int .u8 0) 1 1 Tryz.underlying36 hi hz0 hz1 hz2 rfl (by decide) _ 4 (([81, 82, 1, 0] : List UInt8).map bv) rfl P2.out _ A1 8 c1 ((be 8 n).map bv) rfl (HA1.out _ K3.out) (bv_one _) (by unfold maxLen; omega) (by omega) K3.out.size ?_; intro v4 w4 o4 g4 _; obtain ⟨A4, c4, rfl, p4, k4⟩ := app_out (p := 12) K3.out P2.out o4 g4 rfl HB12.out; have K4 := Lib.hid k4; have P4 := Lib.hid p4; clear o4 g4 p4 k4))
  have HST : Hid (w7.ownsRow w2.heap.size 5 1 (.slice A7 (20 + 0) c7) (20 + 0) ((B20 ++ List.replicate 0 (0 : UInt8)).map bv)) := Lib.hid (by
    have h := P7.out
    simpa using h)
  clear P2 K3 HA2 K4 P4 K5 P5 K6 P6 Q6 P7 x0 x1 x2 H8 K1 Q1 HO1
  go_loopw [8] (fun b ws => ∃ (z q : Nat) (A' : Option Addr) (c' : Nat), z ≤ 96 ∧ 20 + z = q ∧ b = .slice A' q c' ∧ ws.ownsRow w2.heap.size 5 1 (.slice A' q c') q ((B20 ++ List.replicate z (0 : UInt8)).map bv) ∧ Below w2.heap.size w2 ws) (fun b _ => 116 - (match b with | .slice _ q _ => q | _ => 0))
  case atStart => exact ⟨0, 20, A7, c7, Nat.zero_le _, rfl, rfl, HST.out, K7.out⟩
  case round =>
    obtain ⟨z, q, A9, c9, hz, hq, rfl, hown, hB⟩ := hrel
    by_cases hlt : z < 96
    · have hd : decide ((q : Int) < 116) = true := decide_eq_true (by omega)
      have hsn : B20 ++ List.replicate z (0 : UInt8) ++ [0] = B20 ++ List.replicate (z + 1) 0 := by rw [List.append_assoc, ← List.replicate_succ']
      obtain ⟨M0, hM0⟩ : ∃ M, B20 ++ List.replicate z (0 : UInt8) = M := ⟨_, rfl⟩
      obtain ⟨M1, hM1⟩ : ∃ M, B20 ++ List.replicate (z + 1) (0 : UInt8) = M := ⟨_, rfl⟩
      rw [hM0] at hown
      rw [hM0, hM1] at hsn
      have P9 := Lib.hid (hown.alloc (.cells #[.int .u8 0] 5))
      have K9 := Lib.hid (hB.alloc hB.size (.cells #[.int .u8 0] 5))
      have HSN := Lib.hid hsn
      have HM1 := Lib.hid hM1
      have HRR := Lib.hid (Reads.of_own (own_one wr wr.heap.size (Nat.le_refl _) (.int .u8 0)))
      have hqb : q ≤ 9000 := by omega
      have HQ := Lib.hid hq
      have HLT := Lib.hid hlt
      clear hown hB hM0 hM1 hsn hq hlt hz
      go_wp2_with (at_builtin; refine wpList_append_any _ rfl _ _ 36 rfl w2.heap.size 5 i0 (.int .u8 0) 1 1 Tryz.underlying36 hi hz0 hz1 hz2 rfl (by decide) _ q (M0.map bv) rfl P9.out _ _ 1 1 [bv 0] rfl HRR.out (bv_one [0]) (by unfold maxLen; omega) (by omega) K9.out.size ?_; intro v3 w3 o3 g3 _; obtain ⟨A3, c3, rfl, p3, k3⟩ := app_out (p := q + 1) (M := [0]) K9.out P9.out o3 g3 rfl HSN.out; have K3 := Lib.hid k3; have P3 := Lib.hid p3; clear o3 g3 p3 k3)
      refine ⟨⟨z + 1, q + 1, A3, c3, by have := HLT.out; omega, by have := HQ.out; omega, rfl, ?_, K3.out⟩, ?_⟩
      · rw [HM1.out]
        exact P3.out
      · show 116 - (q + 1) < 116 - q
        have := HQ.out
        have := HLT.out
        omega
    · obtain rfl : z = 96 := by omega
      obtain rfl : q = 116 := by omega
      rw [HBB.out] at hown
      have HOF := Lib.hid (fun W h => r2of_cut A9 c9 BB 116 W h HBBL.out (by omega))
      have hsl := (sum (bitsB BB)).isLt
      have h4 := HBS.out
      rw [← be_four] at h4
      unfold rv at HOF
      generalize (sum (bitsB BB)).toNat = sB at *
      have HBS4 := Lib.hid h4
      have hsl4 : sB < 4294967296 := by omega
      have k3 : IntKind.u64.wrap (sB : Int) = (sB : Int) := by rw [wrap_u64]; omega
      have HOWN := Lib.hid hown
      have HB9 := Lib.hid hB
      clear hown hB h4 hsl hq hlt hz
      go_wp2_with (first
        | (go_at_call 164; (with_reducible refine (HOF.out wr (Reads.of_own HOWN.out)).mono ?_); rintro e _ ⟨rfl, rfl⟩)
        | (go_at_call 91; (with_reducible refine (H4.out sB hsl4 wr).mono ?_); rintro e w8 ⟨v, rfl, g⟩; obtain ⟨A5, c5, rfl, o5, b5⟩ := gives_len g (be_length 4 sB); have K5 := Lib.hid (HB9.out.trans (b5.mono HB9.out.size)); have P5 := Lib.hid (own_stay HOWN.out b5); have Q5 := Lib.hid o5; clear g o5 b5)
        | (at_builtin; (have l0 := P8.out; clear l0); refine wpList_append_any _ rfl _ _ 36 rfl w2.heap.size 5 i0 (.int .u8 0) 1 1 Tryz.underlying36 hi hz0 hz1 hz2 rfl (by decide) _ 120 (BS.map bv) rfl P8.out _ A1 8 c1 ((be 8 n).map bv) rfl (HA1.out _ K8.out) (bv_one _) (by unfold maxLen; omega) (by omega) K8.out.size ?_; intro v4 w4 o4 g4 _; obtain ⟨A4, c4, rfl, p4, k4⟩ := app_out (p := 128) K8.out P8.out o4 g4 rfl HFULL.out; have K4 := Lib.hid k4; have P4 := Lib.hid p4; clear o4 g4 p4 k4)
        | (at_builtin; refine wpList_append_any _ rfl _ _ 36 rfl w2.heap.size 5 i0 (.int .u8 0) 1 1 Tryz.underlying36 hi hz0 hz1 hz2 rfl (by decide) _ 116 (BB.map bv) rfl P5.out _ A5 4 c5 ((be 4 sB).map bv) rfl (Reads.of_own Q5.out) (bv_one _) (by unfold maxLen; omega) (by omega) K5.out.size ?_; intro v3 w3 o3 g3 _; obtain ⟨A3, c3, rfl, p3, k3⟩ := app_out (p := 120) K5.out P5.out o3 g3 rfl HBS4.out; have K8 := Lib.hid k3; have P8 := Lib.hid p3; clear o3 g3 p3 k3))
      go_ret2
      have hk2 := HB0.out.trans (K2.out.mono HB0.out.size)
      exact ⟨A4, c4, rfl, own_mono P4.out hk2.size, hk2.trans (K4.out.mono hk2.size)⟩

theorem r6encode_any (r : RV) (w : World) (hf : r.Fine) : Calls Tryz.prog 129 #[rtv r] w fun e w' => ∃ v, e = .returned (.tuple #[v, .int .i64 (errR r)]) ∧ Gives w w' v (outR r) := by
  unfold errR outR
  cases hok : okR r
  · rw [if_neg (by decide), if_neg (by decide)]
    refine (r6encode_bad r w hok).mono ?_
    rintro e w' ⟨rfl, hb⟩
    exact ⟨_, rfl, none, 0, rfl, World.ownsRow_nil _ _ _ _, hb⟩
  · rw [if_pos rfl, if_pos rfl]
    refine (r6encode_ok r w hf hok).mono ?_
    rintro e w' ⟨A, c, rfl, ho, hb⟩
    have hl := sectR_length r
    exact ⟨_, rfl, A, c, by rw [hl], by rw [hl]; exact ho, hb⟩

end Go.Proofs.YtkebbjodkhjbmaaGreat.root

namespace Go.Proofs.YtkebbjodkhjbmaaGreat.root
open Go.RowKit Go.Proofs.YtkebbjodkhjbmaaGreat.crc

/-- The worlds of a drawn region that turns memory twice, one behind the other. -/
def pick3 (W0 W1 W2 : World) (a b : Nat) (dn : Nat → Bool) : World := if dn b = true then W2 else if dn a = true then W1 else W0
theorem pick3_all {W0 W1 W2 : World} {a b : Nat} {P : World → Prop} (h0 : P W0) (h1 : P W1) (h2 : P W2) (dn : Nat → Bool) : P (pick3 W0 W1 W2 a b dn) := by
  unfold pick3
  split
  · exact h2
  · split
    · exact h1
    · exact h0
theorem whole_at (w : World) (A : Option Addr) (c m x : Nat) (l : List UInt8) (hr : Reads w w.heap.size 1 A m (l.map bv)) (hm : l.length = m) (h8 : m ≤ 8) (hx : num l = x) :
    Calls Tryz.prog 96 #[.slice A m c] w fun e w' => e = .returned (.int .u64 (x : Int)) ∧ w = w' := by
  subst hm hx
  exact whole_any w A c l hr h8

set_option maxHeartbeats 2000000 in
theorem r6dec_short (A : Option Addr) (c n : Nat) (w : World) (h1 : n ≠ 128) :
    Calls Tryz.prog 141 #[.slice A n c] w fun e w' => e = .returned (.tuple #[rtv noR, .int .i64 60]) ∧ Below w.heap.size w w' := by
  have hx := Blk.new w 35 #[.int .u64 0, .int .i64 0, .int .u32 0]
  have hb0 : Below w.heap.size w (w.alloc (.cells #[.int .u64 0, .int .i64 0, .int .u32 0] 35)) := (Below.refl _ _).alloc (Nat.le_refl _) _
  have hd : ((n : Int) != 128) = true := by rw [bne_iff_ne]; omega
  have HX := Lib.hid hx
  have HB0 := Lib.hid hb0
  clear hx hb0 h1
  go_enter Tryz.func141, Tryz.ntmps141
  go_wp2
  refine bodyPost_ret (results_root2 rfl rfl rfl HX.out) rfl ?_
  exact ⟨rfl, HB0.out⟩

set_option maxRecDepth 100000 in
set_option maxHeartbeats 4000000 in
theorem r6dec_long (ad : Addr) (c : Nat) (l : List UInt8) (w : World) (hr : Reads w w.heap.size 1 (some ad) 128 (l.map bv)) (hl : l.length = 128) (hc : 128 ≤ c ∧ c ≤ 9223372036854775807) :
    Calls Tryz.prog 141 #[.slice (some ad) 128 c] w fun e w' => e = .returned (.tuple #[rtv (decR l), .int .i64 (decErrR l)]) ∧ Below w.heap.size w w' := by
  obtain ⟨w0, hw0⟩ : ∃ w0, w.alloc (.cells #[.int .u64 0, .int .i64 0, .int .u32 0] 35) = w0 := ⟨_, rfl⟩
  have hx0 : Blk w0 w.heap.size 35 #[.int .u64 0, .int .i64 0, .int .u32 0] := by rw [← hw0]; exact Blk.new w _ _
  have hb0 : Below w.heap.size w w0 := by rw [← hw0]; exact (Below.refl _ _).alloc (Nat.le_refl _) _
  have HX := Lib.hid hx0
  have HB := Lib.hid hb0
  obtain ⟨l4, hl4⟩ : ∃ x, l.drop 4 = x := ⟨_, rfl⟩
  obtain ⟨l12, hl12⟩ : ∃ x, l4.drop 8 = x := ⟨_, rfl⟩
  obtain ⟨l16, hl16⟩ : ∃ x, l12.drop 4 = x := ⟨_, rfl⟩
  obtain ⟨nf, hf⟩ : ∃ x, num (l4.take 8) = x := ⟨_, rfl⟩
  obtain ⟨nm, hm⟩ : ∃ x, num (l12.take 4) = x := ⟨_, rfl⟩
  obtain ⟨ns, hs⟩ : ∃ x, num (l16.take 4) = x := ⟨_, rfl⟩
  have hcand : candR l = ⟨nf, (nm : Int), ns⟩ := by
    unfold candR
    rw [hl4, hl12, hl16, hf, hm, hs]
  have sub : ∀ (a m : Nat), 0 < m → 0 < a → a + m ≤ 128 → ∀ W, Below w.heap.size w W → Reads W W.heap.size 1 (some (ad.add a)) m (((l.drop a).take m).map bv) := fun a m h0 ha h W hb => by
    have h1 := ((hr.below hb).more hb.size).cut (k := a) (cap := c) (by omega) hc.1
    rw [if_neg (by omega), Nat.mul_one, ← List.map_drop] at h1
    exact h1.front (k := m) (by omega)
  have d4 : l.drop 4 = l4 := hl4
  have d12 : l.drop 12 = l12 := by rw [← hl12, ← d4, List.drop_drop]
  have d16 : l.drop 16 = l16 := by rw [← hl16, ← d12, List.drop_drop]
  have HCN : Hid (128 ≤ c ∧ c ≤ 9223372036854775807) := Lib.hid hc
  have HWF : Hid (∀ W, Below w.heap.size w W → Calls Tryz.prog 96 #[.slice (some ⟨ad.block, ad.off + 4, none⟩) 8 (c - 4)] W fun e w' => e = .returned (.int .u64 (nf : Int)) ∧ W = w') := Lib.hid (fun W hb => by
    exact whole_at W _ _ 8 nf (l4.take 8) (by have := sub 4 8 (by omega) (by omega) (by omega) W hb; rw [d4] at this; exact this) (by rw [List.length_take, ← d4, List.length_drop]; omega) (by omega) hf)
  have HWM : Hid (∀ W, Below w.heap.size w W → Calls Tryz.prog 96 #[.slice (some ⟨ad.block, ad.off + 12, none⟩) 4 (c - 12)] W fun e w' => e = .returned (.int .u64 (nm : Int)) ∧ W = w') := Lib.hid (fun W hb => by
    exact whole_at W _ _ 4 nm (l12.take 4) (by have := sub 12 4 (by omega) (by omega) (by omega) W hb; rw [d12] at this; exact this) (by rw [List.length_take, ← d12, List.length_drop]; omega) (by omega) hm)
  have HWS : Hid (∀ W, Below w.heap.size w W → Calls Tryz.prog 96 #[.slice (some ⟨ad.block, ad.off + 16, none⟩) 4 (c - 16)] W fun e w' => e = .returned (.int .u64 (ns : Int)) ∧ W = w') := Lib.hid (fun W hb => by
    exact whole_at W _ _ 4 ns (l16.take 4) (by have := sub 16 4 (by omega) (by omega) (by omega) W hb; rw [d16] at this; exact this) (by rw [List.length_take, ← d16, List.length_drop]; omega) (by omega) hs)
  have hfb : nf < 18446744073709551616 := by rw [← hf]; exact num_take_lt _ 8
  have hmb : nm < 4294967296 := by rw [← hm]; exact num_take_lt _ 4
  have hsb : ns < 4294967296 := by rw [← hs]; exact num_take_lt _ 4
  have HM9 : Hid (IntKind.i64.wrap (nm : Int) = (nm : Int)) := Lib.hid (by rw [IntKind.wrap_i64]; omega)
  have HS9 : Hid (IntKind.u32.wrap (ns : Int) = (ns : Int)) := Lib.hid (by unfold IntKind.wrap; simp [IntKind.signed, IntKind.bits]; omega)
  have hgood : goodR l = (okR (candR l) && (sectR (candR l) == l)) := by unfold goodR; rw [decide_eq_true hl, Bool.true_and]
  have hcf := candR_fine l
  unfold decR decErrR
  rw [hgood]
  rw [hcand] at hcf ⊢
  have ENC := Lib.hid (fun W => r6encode_any ⟨nf, (nm : Int), ns⟩ W hcf)
  have HRL := Lib.hid (fun W (hb : Below w.heap.size w W) => conv_reads c ((hr.below hb)))
  have HSL := Lib.hid (sectR_length ⟨nf, (nm : Int), ns⟩)
  unfold errR outR at ENC
  obtain ⟨dR, hdR⟩ : ∃ x, (if (okR ⟨nf, (nm : Int), ns⟩ && (sectR ⟨nf, (nm : Int), ns⟩ == l)) = true then (⟨nf, (nm : Int), ns⟩ : RV) else noR) = x := ⟨_, rfl⟩
  obtain ⟨dE, hdE⟩ : ∃ x, (if (okR ⟨nf, (nm : Int), ns⟩ && (sectR ⟨nf, (nm : Int), ns⟩ == l)) = true then (0 : Int) else 60) = x := ⟨_, rfl⟩
  rw [hdR, hdE]
  have HDR := Lib.hid hdR
  have HDE := Lib.hid hdE
  clear hdR hdE
  clear hgood hr hcand hf hm hs hl4 hl12 hl16 sub d4 d12 d16 hx0 hb0 hl hc hcf
  go_enter Tryz.func141, Tryz.ntmps141
  go_wp2_with fail
  obtain ⟨W12, hW12⟩ : ∃ W, w0.drew.alloc (.cells #[.int .u64 0, .int .i64 0, .int .u32 0] 35) = W := ⟨_, rfl⟩
  obtain ⟨W13, hW13⟩ : ∃ W, ((W12.setCell ⟨w0.heap.size, 0, none⟩ (.int .u64 (nf : Int))).setCell ⟨w0.heap.size, 1, none⟩ (.int .i64 (nm : Int))).setCell ⟨w0.heap.size, 2, none⟩ (.int .u32 (ns : Int)) = W := ⟨_, rfl⟩
  have hx12 : Blk W12 w0.heap.size 35 #[.int .u64 0, .int .i64 0, .int .u32 0] := by rw [← hW12]; exact Blk.new w0.drew _ _
  have hB12 : Below w0.heap.size w0 W12 := by rw [← hW12]; exact (Below.refl _ w0).drew.alloc (Nat.le_refl _) _
  have hx13 : Blk W13 w0.heap.size 35 #[.int .u64 (nf : Int), .int .i64 (nm : Int), .int .u32 (ns : Int)] := by rw [← hW13]; exact blk_root _ _ _ hx12
  have hB13 : Below w0.heap.size w0 W13 := by rw [← hW13]; exact hB12.trans ((keep_root W12 w0.heap.size _ _ _).below hB12.size (fun i hi e => by omega))
  have PK : Hid (∀ dn, Below w.heap.size w (pick3 w0.drew W12 W13 12 13 dn)) := Lib.hid (pick3_all HB.out.drew (HB.out.trans (hB12.mono HB.out.size)) (HB.out.trans (hB13.mono HB.out.size)))
  have HG : Hid (W12.cell? ⟨w0.heap.size, 0, none⟩ = some (.int .u64 0) ∧ W12.cell? ⟨w0.heap.size, 1, none⟩ = some (.int .i64 0) ∧ W12.cell? ⟨w0.heap.size, 2, none⟩ = some (.int .u32 0) ∧ W12.frozen? ⟨w0.heap.size, 0, none⟩ = false ∧ W12.frozen? ⟨w0.heap.size, 1, none⟩ = false ∧ W12.frozen? ⟨w0.heap.size, 2, none⟩ = false) := Lib.hid ⟨hx12.cell 0, hx12.cell 1, hx12.cell 2, hx12.frozen 0, hx12.frozen 1, hx12.frozen 2⟩
  obtain ⟨q, hq⟩ : ∃ q, w0.heap.size = q := ⟨_, rfl⟩
  have HQ := Lib.hid hq
  have HW12 := Lib.hid hW12
  have HW13 := Lib.hid hW13
  have HX13 := Lib.hid hx13
  have HB13 := Lib.hid (HB.out.trans (hB13.mono HB.out.size))
  have HXW := Lib.hid ((HX.out.below hB13 HX.out.lt))
  have hqw : Hid (w.heap.size < q) := Lib.hid (by rw [← hq]; exact HX.out.lt)
  clear hx12 hB12 hx13 hB13 hW12 hW13 hw0
  rw [hq] at HW13 HG HX13
  clear hq
  refine wp_region_done_on (fun dn W => W = pick3 w0.drew W12 W13 12 13 dn) (fun dn i v _ => v = ([.slice (some ad) 128 c, .slice (some ⟨ad.block, ad.off + 4, none⟩) 8 (c - 4), .int .u64 (nf : Int), .slice (some ad) 128 c, .slice (some ⟨ad.block, ad.off + 12, none⟩) 4 (c - 12), .int .u64 (nm : Int), .int .i64 (nm : Int), .slice (some ad) 128 c, .slice (some ⟨ad.block, ad.off + 16, none⟩) 4 (c - 16), .int .u64 (ns : Int), .int .u32 (ns : Int), .agg #[.int .u64 (nf : Int), .int .i64 (nm : Int), .int .u32 (ns : Int)], .pointer (some ⟨q, 0, none⟩)] : List Value).getD i undef ∧ (i = 12 → dn 12 = true)) (by kernel_rfl) 39 rfl (by kernel_rfl) (rfl) ?_ ?_
  · intro i hi
    have hi2 : i < 14 := hi
    clear hi
    rcases i with _ | i
    · refine done_value (fun _ _ h => h) (fun dn j u w h => ⟨h.1, fun e => by have := h.2 e; simp [upd, this]⟩) (.slice (some ad) 128 c) rfl ?_
      intro dn a8 w8 hS ho hn
      have o0 : a8.tmps[0]? = some _ := (ho 0 (by kernel_rfl)).trans rfl
      clear ho hn
      refine ⟨wanted_free rfl, ?_, rfl, fun e => absurd e (by decide)⟩
      go_simp
    rcases i with _ | i
    · refine done_value (fun _ _ h => h) (fun dn j u w h => ⟨h.1, fun e => by have := h.2 e; simp [upd, this]⟩) (.slice (some ⟨ad.block, ad.off + 4, none⟩) 8 (c - 4)) rfl ?_
      intro dn a8 w8 hS ho hn
      obtain ⟨_, n11, rfl, fa11⟩ := hn 0 11 (by kernel_rfl) rfl
      clear ho hn
      refine ⟨wanted_free rfl, ?_, rfl, fun e => absurd e (by decide)⟩
      have hcn := HCN.out
      have h12 : (12 : Int) ≤ (c : Int) := (by omega)
      have h16 : (16 : Int) ≤ (c : Int) := (by omega)
      have h20 : (20 : Int) ≤ (c : Int) := (by omega)
      have h4 : ¬ c = 4 := (by omega)
      have h12n : ¬ c = 12 := (by omega)
      have h16n : ¬ c = 16 := (by omega)
      go_simp
    rcases i with _ | i
    · refine done_call 96 #[.slice (some ⟨ad.block, ad.off + 4, none⟩) 8 (c - 4)] rfl ?_
      intro dn a8 w8 hS hd hx ho hn
      obtain ⟨_, n12, rfl, fa12⟩ := hn 1 12 (by kernel_rfl) rfl
      clear ho hn
      refine ⟨wanted_free rfl, by go_simp, ?_⟩
      have hS2 : w8 = pick3 w0.drew W12 W13 12 13 dn := hS
      subst hS2
      refine (HWF.out _ (PK.out dn)).mono ?_
      rintro e w9 ⟨rfl, rfl⟩
      exact ⟨_, rfl, rfl, ⟨rfl, fun e => absurd e (by decide)⟩, fun j u _ _ h => ⟨h.1, fun e => by have := h.2 e; simp [upd, this]⟩⟩
    rcases i with _ | i
    · refine done_value (fun _ _ h => h) (fun dn j u w h => ⟨h.1, fun e => by have := h.2 e; simp [upd, this]⟩) (.slice (some ad) 128 c) rfl ?_
      intro dn a8 w8 hS ho hn
      have o0 : a8.tmps[0]? = some _ := (ho 0 (by kernel_rfl)).trans rfl
      clear ho hn
      refine ⟨wanted_free rfl, ?_, rfl, fun e => absurd e (by decide)⟩
      go_simp
    rcases i with _ | i
    · refine done_value (fun _ _ h => h) (fun dn j u w h => ⟨h.1, fun e => by have := h.2 e; simp [upd, this]⟩) (.slice (some ⟨ad.block, ad.off + 12, none⟩) 4 (c - 12)) rfl ?_
      intro dn a8 w8 hS ho hn
      obtain ⟨_, n14, rfl, fa14⟩ := hn 3 14 (by kernel_rfl) rfl
      clear ho hn
      refine ⟨wanted_free rfl, ?_, rfl, fun e => absurd e (by decide)⟩
      have hcn := HCN.out
      have h12 : (12 : Int) ≤ (c : Int) := (by omega)
      have h16 : (16 : Int) ≤ (c : Int) := (by omega)
      have h20 : (20 : Int) ≤ (c : Int) := (by omega)
      have h4 : ¬ c = 4 := (by omega)
      have h12n : ¬ c = 12 := (by omega)
      have h16n : ¬ c = 16 := (by omega)
      go_simp
    rcases i with _ | i
    · refine done_call 96 #[.slice (some ⟨ad.block, ad.off + 12, none⟩) 4 (c - 12)] rfl ?_
      intro dn a8 w8 hS hd hx ho hn
      obtain ⟨_, n15, rfl, fa15⟩ := hn 4 15 (by kernel_rfl) rfl
      clear ho hn
      refine ⟨wanted_free rfl, by go_simp, ?_⟩
      have hS2 : w8 = pick3 w0.drew W12 W13 12 13 dn := hS
      subst hS2
      refine (HWM.out _ (PK.out dn)).mono ?_
      rintro e w9 ⟨rfl, rfl⟩
      exact ⟨_, rfl, rfl, ⟨rfl, fun e => absurd e (by decide)⟩, fun j u _ _ h => ⟨h.1, fun e => by have := h.2 e; simp [upd, this]⟩⟩
    rcases i with _ | i
    · refine done_value (fun _ _ h => h) (fun dn j u w h => ⟨h.1, fun e => by have := h.2 e; simp [upd, this]⟩) (.int .i64 (nm : Int)) rfl ?_
      intro dn a8 w8 hS ho hn
      obtain ⟨_, n16, rfl, fa16⟩ := hn 5 16 (by kernel_rfl) rfl
      clear ho hn
      refine ⟨wanted_free rfl, ?_, rfl, fun e => absurd e (by decide)⟩
      go_simp
      exact HM9.out
    rcases i with _ | i
    · refine done_value (fun _ _ h => h) (fun dn j u w h => ⟨h.1, fun e => by have := h.2 e; simp [upd, this]⟩) (.slice (some ad) 128 c) rfl ?_
      intro dn a8 w8 hS ho hn
      have o0 : a8.tmps[0]? = some _ := (ho 0 (by kernel_rfl)).trans rfl
      clear ho hn
      refine ⟨wanted_free rfl, ?_, rfl, fun e => absurd e (by decide)⟩
      go_simp
    rcases i with _ | i
    · refine done_value (fun _ _ h => h) (fun dn j u w h => ⟨h.1, fun e => by have := h.2 e; simp [upd, this]⟩) (.slice (some ⟨ad.block, ad.off + 16, none⟩) 4 (c - 16)) rfl ?_
      intro dn a8 w8 hS ho hn
      obtain ⟨_, n18, rfl, fa18⟩ := hn 7 18 (by kernel_rfl) rfl
      clear ho hn
      refine ⟨wanted_free rfl, ?_, rfl, fun e => absurd e (by decide)⟩
      have hcn := HCN.out
      have h12 : (12 : Int) ≤ (c : Int) := (by omega)
      have h16 : (16 : Int) ≤ (c : Int) := (by omega)
      have h20 : (20 : Int) ≤ (c : Int) := (by omega)
      have h4 : ¬ c = 4 := (by omega)
      have h12n : ¬ c = 12 := (by omega)
      have h16n : ¬ c = 16 := (by omega)
      go_simp
    rcases i with _ | i
    · refine done_call 96 #[.slice (some ⟨ad.block, ad.off + 16, none⟩) 4 (c - 16)] rfl ?_
      intro dn a8 w8 hS hd hx ho hn
      obtain ⟨_, n19, rfl, fa19⟩ := hn 8 19 (by kernel_rfl) rfl
      clear ho hn
      refine ⟨wanted_free rfl, by go_simp, ?_⟩
      have hS2 : w8 = pick3 w0.drew W12 W13 12 13 dn := hS
      subst hS2
      refine (HWS.out _ (PK.out dn)).mono ?_
      rintro e w9 ⟨rfl, rfl⟩
      exact ⟨_, rfl, rfl, ⟨rfl, fun e => absurd e (by decide)⟩, fun j u _ _ h => ⟨h.1, fun e => by have := h.2 e; simp [upd, this]⟩⟩
    rcases i with _ | i
    · refine done_value (fun _ _ h => h) (fun dn j u w h => ⟨h.1, fun e => by have := h.2 e; simp [upd, this]⟩) (.int .u32 (ns : Int)) rfl ?_
      intro dn a8 w8 hS ho hn
      obtain ⟨_, n20, rfl, fa20⟩ := hn 9 20 (by kernel_rfl) rfl
      clear ho hn
      refine ⟨wanted_free rfl, ?_, rfl, fun e => absurd e (by decide)⟩
      go_simp
      exact HS9.out
    rcases i with _ | i
    · refine done_value (fun _ _ h => h) (fun dn j u w h => ⟨h.1, fun e => by have := h.2 e; simp [upd, this]⟩) (.agg #[.int .u64 (nf : Int), .int .i64 (nm : Int), .int .u32 (ns : Int)]) rfl ?_
      intro dn a8 w8 hS ho hn
      obtain ⟨_, n13, rfl, fa13⟩ := hn 2 13 (by kernel_rfl) rfl
      obtain ⟨_, n17, rfl, fa17⟩ := hn 6 17 (by kernel_rfl) rfl
      obtain ⟨_, n21, rfl, fa21⟩ := hn 10 21 (by kernel_rfl) rfl
      clear ho hn
      refine ⟨wanted_free rfl, ?_, rfl, fun e => absurd e (by decide)⟩
      go_simp
    rcases i with _ | i
    · refine done_make rfl ?_
      intro dn a8 w8 hS hd hx ho hn
      clear ho hn
      refine ⟨wanted_free rfl, ?_⟩
      have h12 : dn 12 = false := hd
      have h13 : dn 13 = false := hx 13 (by kernel_rfl)
      have hS2 : w8 = w0.drew := by { have h : w8 = pick3 w0.drew W12 W13 12 13 dn := hS; unfold pick3 at h; rw [h13, h12] at h; exact h }
      subst hS2
      refine ⟨.pointer (some ⟨w0.heap.size, 0, none⟩), W12, (by rw [← HW12.out]; clear hS; go_simp), (by show W12 = pick3 w0.drew W12 W13 12 13 (upd dn 12); unfold pick3; rw [show upd dn 12 13 = false from h13, show upd dn 12 12 = true from rfl]; rfl), ⟨by rw [HQ.out]; rfl, fun _ => rfl⟩, fun j u _ _ h => ⟨h.1, fun e => by have := h.2 e; simp [upd, this]⟩⟩
    rcases i with _ | i
    · refine done_store rfl rfl ?_
      intro dn a8 w8 hS hd hx ho hn
      obtain ⟨_, n4, hR4⟩ := hn 12 4 (by kernel_rfl) rfl
      obtain ⟨_, n22, rfl, fa22⟩ := hn 11 22 (by kernel_rfl) rfl
      clear ho hn
      refine ⟨wanted_free rfl, ?_⟩
      obtain ⟨rfl, fa4⟩ := hR4
      have h13 : dn 13 = false := hd
      have h12 : dn 12 = true := fa4 rfl
      have hS2 : w8 = W12 := by { have h : w8 = pick3 w0.drew W12 W13 12 13 dn := hS; unfold pick3 at h; rw [h13, h12] at h; exact h }
      clear hS
      obtain ⟨g0, g1, g2, f0, f1, f2⟩ := HG.out
      rw [← hS2] at g0 g1 g2 f0 f1 f2
      refine ⟨W13, (by rw [← HW13.out, ← hS2]; clear hS2; go_simp), (by show W13 = pick3 w0.drew W12 W13 12 13 (upd dn 13); unfold pick3; rw [show upd dn 13 13 = true from rfl]; rfl), ⟨rfl, fun e => absurd e (by decide)⟩, fun j u _ _ h => ⟨h.1, fun e => by have := h.2 e; simp [upd, this]⟩⟩
    omega
  · intro done f w9 hS hR hall
    obtain rfl : w9 = W13 := by
      have h : w9 = pick3 w0.drew W12 W13 12 13 done := hS
      unfold pick3 at h
      rw [hall 13 (by decide)] at h
      exact h
    have h4 : f 4 = _ := (hR 12 4 rfl).1
    simp only [putAll, List.foldl_cons, List.foldl_nil, Act.put, List.setIfInBounds_toArray, List.set_cons_succ, List.set_cons_zero, h4, List.getD_cons_zero, List.getD_cons_succ]
    clear hR h4 hS hall
    have y := HX13.out
    have y0 := y.cell 0; have y1 := y.cell 1; have y2 := y.cell 2
    clear y
    obtain ⟨okc, hok⟩ : ∃ b, okR ⟨nf, (nm : Int), ns⟩ = b := ⟨_, rfl⟩
    rw [hok] at ENC HDR HDE
    clear hok
    generalize sectR ⟨nf, (nm : Int), ns⟩ = BT at *
    have HFR : ∀ w2 : World, Below w9.heap.size w9 w2 → Blk w2 w.heap.size 35 #[.int .u64 0, .int .i64 0, .int .u32 0] ∧ Blk w2 q 35 #[.int .u64 (nf : Int), .int .i64 (nm : Int), .int .u32 (ns : Int)] ∧ Below w.heap.size w w2 := fun w2 b => ⟨HXW.out.below b HXW.out.lt, HX13.out.below b HX13.out.lt, HB13.out.trans (b.mono HB13.out.size)⟩
    have HFR := Lib.hid HFR
    cases okc
    · simp only [Bool.false_eq_true, if_false, Bool.false_and] at ENC HDR HDE
      unfold rtv at *
      go_wp2_with (go_at_call 129; refine (ENC.out _).mono ?_; rintro e w2 ⟨v, rfl, g⟩; obtain ⟨A2, c2, rfl, o2, b2⟩ := gives_len g rfl
                   obtain ⟨hx2, hy2, hb2⟩ := HFR.out w2 b2
                   have x0 := hx2.cell 0; have x1 := hx2.cell 1; have x2 := hx2.cell 2; have f0 := hx2.frozen 0; have f1 := hx2.frozen 1; have f2 := hx2.frozen 2
                   have HX2 := Lib.hid hx2; have HB2 := Lib.hid hb2
                   clear g o2 b2 hb2 hx2 hy2)
      refine bodyPost_ret (results_root2 rfl rfl rfl (blk_root _ _ _ HX2.out)) rfl ?_
      have hk := keep_root w2 w.heap.size (.int .u64 0) (.int .i64 0) (.int .u32 0)
      exact ⟨by rw [← HDR.out, ← HDE.out]; rfl, HB2.out.trans (hk.below HB2.out.size (fun i hi e => by omega))⟩
    · simp only [if_true, Bool.true_and] at ENC HDR HDE
      cases heq : BT == l
      · rw [heq] at HDR HDE
        simp only [Bool.false_eq_true, if_false] at HDR HDE
        unfold rtv at *
        go_wp2_with (go_at_call 129; refine (ENC.out _).mono ?_; rintro e w2 ⟨v, rfl, g⟩; obtain ⟨A2, c2, rfl, o2, b2⟩ := gives_len g HSL.out
                     obtain ⟨hx2, hy2, hb2⟩ := HFR.out w2 b2
                     have cva := conv_reads c2 (Reads.of_own o2); have cvb := HRL.out w2 hb2
                     have x0 := hx2.cell 0; have x1 := hx2.cell 1; have x2 := hx2.cell 2; have f0 := hx2.frozen 0; have f1 := hx2.frozen 1; have f2 := hx2.frozen 2
                     have HX2 := Lib.hid hx2; have HB2 := Lib.hid hb2
                     clear g o2 b2 hb2 hx2 hy2)
        refine bodyPost_ret (results_root2 rfl rfl rfl (blk_root _ _ _ HX2.out)) rfl ?_
        have hk := keep_root w2 w.heap.size (.int .u64 0) (.int .i64 0) (.int .u32 0)
        exact ⟨by rw [← HDR.out, ← HDE.out]; rfl, HB2.out.trans (hk.below HB2.out.size (fun i hi e => by omega))⟩
      · rw [heq] at HDR HDE
        simp only [if_true] at HDR HDE
        unfold rtv at *
        go_wp2_with (go_at_call 129; refine (ENC.out _).mono ?_; rintro e w2 ⟨v, rfl, g⟩; obtain ⟨A2, c2, rfl, o2, b2⟩ := gives_len g HSL.out
                     obtain ⟨hx2, hy2, hb2⟩ := HFR.out w2 b2
                     have cva := conv_reads c2 (Reads.of_own o2); have cvb := HRL.out w2 hb2
                     have x0 := hx2.cell 0; have x1 := hx2.cell 1; have x2 := hx2.cell 2; have f0 := hx2.frozen 0; have f1 := hx2.frozen 1; have f2 := hx2.frozen 2
                     have z0 := hy2.cell 0; have z1 := hy2.cell 1; have z2 := hy2.cell 2
                     have HX2 := Lib.hid hx2; have HB2 := Lib.hid hb2
                     clear g o2 b2 hb2 hx2 hy2)
        refine bodyPost_ret (results_root2 rfl rfl rfl (blk_root _ _ _ HX2.out)) rfl ?_
        have hk := keep_root w2 w.heap.size (.int .u64 (nf : Int)) (.int .i64 (nm : Int)) (.int .u32 (ns : Int))
        exact ⟨by rw [← HDR.out, ← HDE.out]; rfl, HB2.out.trans (hk.below HB2.out.size (fun i hi e => by omega))⟩

theorem r6decode_any (A : Option Addr) (c n : Nat) (l : List UInt8) (w : World) (hl : l.length = n) (hr : Reads w w.heap.size 1 A n (l.map bv)) (hc : n ≤ c ∧ c ≤ 9223372036854775807) :
    Calls Tryz.prog 141 #[.slice A n c] w fun e w' => e = .returned (.tuple #[rtv (decR l), .int .i64 (decErrR l)]) ∧ Below w.heap.size w w' := by
  subst hl
  by_cases h1 : l.length = 128
  · obtain ⟨ad, rfl, _⟩ := hr.2 (by omega)
    rw [h1] at hr hc ⊢
    exact r6dec_long ad c l w hr h1 hc
  · have hg : goodR l = false := by unfold goodR; rw [decide_eq_false h1, Bool.false_and]
    have hd : decR l = noR := by unfold decR; rw [hg]; rfl
    have he : decErrR l = 60 := by unfold decErrR; rw [hg]; rfl
    rw [hd, he]
    exact r6dec_short A c l.length w h1

end Go.Proofs.YtkebbjodkhjbmaaGreat.root

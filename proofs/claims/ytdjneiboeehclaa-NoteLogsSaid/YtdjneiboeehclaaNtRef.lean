/-
  The document's own Encode and Decode for layer 9.
-/
import Derived.Test.YtdjneiboeehclaaNtDec
import Derived.Test.YtdjneiboeehclaaRtRefD
namespace Go.Proofs.Ytdjneiboeehclaa.note
open Go.RowKit Go.Proofs.Ytdjneiboeehclaa.crc Go.Proofs.Ytdjneiboeehclaa.root

set_option maxRecDepth 100000 in
set_option maxHeartbeats 8000000 in
theorem r9encode_bad (x : NV) (w : World) (hok : okN x = false) : Calls Try.prog 10 #[nv x] w fun e w' => e = .returned (.tuple #[.slice none 0 0, .int .i64 90]) ∧ Below w.heap.size w w' := by
  obtain ⟨k, a, b, n⟩ := x
  have hno : ¬ ((0 ≤ a ∧ a ≤ 1048576) ∧ (0 ≤ b ∧ b ≤ 1048576) ∧ 0 ≤ n ∧ (((k = 1 ∨ k = 4) ∧ b = 0 ∧ n = 0) ∨ (k = 2 ∨ k = 3) ∨ (k = 5 ∧ n = 0))) := fun h => by
    have := (okN_iff (x := ⟨k, a, b, n⟩)).2 h
    rw [hok] at this
    cases this
  have HNO := Lib.hid hno
  unfold nv
  simp only
  have hbl : Below w.heap.size w (w.alloc (.cells #[.int .i64 k, .int .i64 a, .int .i64 b, .int .i64 n] 23)) := (Below.refl _ _).alloc (Nat.le_refl _) _
  have HBL := Lib.hid hbl
  clear hbl hok hno
  by_cases c0 : k < 1
  · have d0 : decide (k < 1) = true := decide_eq_true c0
    clear c0
    go_enter Try.func10, Try.ntmps10
    go_wp2
    go_ret2
    exact ⟨rfl, HBL.out⟩
  have d0 : decide (k < 1) = false := decide_eq_false c0
  by_cases c1 : 5 < k
  · have d1 : decide (5 < k) = true := decide_eq_true c1
    clear c1
    go_enter Try.func10, Try.ntmps10
    go_wp2
    go_ret2
    exact ⟨rfl, HBL.out⟩
  have d1 : decide (5 < k) = false := decide_eq_false c1
  by_cases c2 : a < 0
  · have d2 : decide (a < 0) = true := decide_eq_true c2
    clear c2
    go_enter Try.func10, Try.ntmps10
    go_wp2
    go_ret2
    exact ⟨rfl, HBL.out⟩
  have d2 : decide (a < 0) = false := decide_eq_false c2
  by_cases c3 : 1048576 < a
  · have d3 : decide (1048576 < a) = true := decide_eq_true c3
    clear c3
    go_enter Try.func10, Try.ntmps10
    go_wp2
    go_ret2
    exact ⟨rfl, HBL.out⟩
  have d3 : decide (1048576 < a) = false := decide_eq_false c3
  by_cases c4 : b < 0
  · have d4 : decide (b < 0) = true := decide_eq_true c4
    clear c4
    go_enter Try.func10, Try.ntmps10
    go_wp2
    go_ret2
    exact ⟨rfl, HBL.out⟩
  have d4 : decide (b < 0) = false := decide_eq_false c4
  by_cases c5 : 1048576 < b
  · have d5 : decide (1048576 < b) = true := decide_eq_true c5
    clear c5
    go_enter Try.func10, Try.ntmps10
    go_wp2
    go_ret2
    exact ⟨rfl, HBL.out⟩
  have d5 : decide (1048576 < b) = false := decide_eq_false c5
  by_cases c6 : n < 0
  · have d6 : decide (n < 0) = true := decide_eq_true c6
    clear c6
    go_enter Try.func10, Try.ntmps10
    go_wp2
    go_ret2
    exact ⟨rfl, HBL.out⟩
  have d6 : decide (n < 0) = false := decide_eq_false c6
  have hkk : k = 1 ∨ k = 2 ∨ k = 3 ∨ k = 4 ∨ k = 5 := by omega
  rcases hkk with rfl | rfl | rfl | rfl | rfl
  · by_cases p : 0 < b
    · have q : decide (0 < b) = true := decide_eq_true p
      clear c2 c3 c4 c5 c6 p
      go_enter Try.func10, Try.ntmps10
      go_wp2
      go_ret2
      exact ⟨rfl, HBL.out⟩
    have q : decide (0 < b) = false := decide_eq_false p
    by_cases p2 : 0 < n
    · have q2 : decide (0 < n) = true := decide_eq_true p2
      clear c2 c3 c4 c5 c6 p p2
      go_enter Try.func10, Try.ntmps10
      go_wp2
      go_ret2
      exact ⟨rfl, HBL.out⟩
    · exact absurd ⟨⟨by omega, by omega⟩, ⟨by omega, by omega⟩, by omega, .inl ⟨.inl rfl, by omega, by omega⟩⟩ HNO.out
  · exact absurd ⟨⟨by omega, by omega⟩, ⟨by omega, by omega⟩, by omega, .inr (.inl (.inl rfl))⟩ HNO.out
  · exact absurd ⟨⟨by omega, by omega⟩, ⟨by omega, by omega⟩, by omega, .inr (.inl (.inr rfl))⟩ HNO.out
  · by_cases p : 0 < b
    · have q : decide (0 < b) = true := decide_eq_true p
      clear c2 c3 c4 c5 c6 p
      go_enter Try.func10, Try.ntmps10
      go_wp2
      go_ret2
      exact ⟨rfl, HBL.out⟩
    have q : decide (0 < b) = false := decide_eq_false p
    by_cases p2 : 0 < n
    · have q2 : decide (0 < n) = true := decide_eq_true p2
      clear c2 c3 c4 c5 c6 p p2
      go_enter Try.func10, Try.ntmps10
      go_wp2
      go_ret2
      exact ⟨rfl, HBL.out⟩
    · exact absurd ⟨⟨by omega, by omega⟩, ⟨by omega, by omega⟩, by omega, .inl ⟨.inr rfl, by omega, by omega⟩⟩ HNO.out
  · by_cases p2 : 0 < n
    · have q2 : decide (0 < n) = true := decide_eq_true p2
      clear c2 c3 c4 c5 c6 p2
      go_enter Try.func10, Try.ntmps10
      go_wp2
      go_ret2
      exact ⟨rfl, HBL.out⟩
    · exact absurd ⟨⟨by omega, by omega⟩, ⟨by omega, by omega⟩, by omega, .inr (.inr ⟨rfl, by omega⟩)⟩ HNO.out

set_option maxRecDepth 100000 in
set_option maxHeartbeats 16000000 in
theorem r9encode_ok (x : NV) (w : World) (hf : x.Fine) (hok : okN x = true) : Calls Try.prog 10 #[nv x] w fun e w' => ∃ A' c', e = .returned (.tuple #[.slice A' 17 c', .int .i64 0]) ∧ w'.ownsRow w.heap.size 5 1 (.slice A' 17 c') 17 ((encN x).map bv) ∧ Below w.heap.size w w' := by
  obtain ⟨⟨a1, a2⟩, ⟨b1, b2⟩, n1, hkd⟩ := okN_iff.1 hok
  have hn := hf.n
  obtain ⟨k, a, b, n⟩ := x
  simp only at hkd a1 a2 b1 b2 n1 hn
  obtain ⟨a, rfl⟩ := Int.eq_ofNat_of_zero_le a1
  obtain ⟨b, rfl⟩ := Int.eq_ofNat_of_zero_le b1
  have hn8 := enc8 n1 hn
  obtain ⟨S0, hS0⟩ : ∃ S, encN ⟨k, (a : Int), (b : Int), n⟩ = S := ⟨_, rfl⟩
  obtain ⟨B1, hB1⟩ : ∃ B, be 1 k.toNat = B := ⟨_, rfl⟩
  obtain ⟨B5, hB5⟩ : ∃ B, B1 ++ be 4 a = B := ⟨_, rfl⟩
  obtain ⟨B9, hB9⟩ : ∃ B, B5 ++ be 4 b = B := ⟨_, rfl⟩
  obtain ⟨m8, hm8⟩ : ∃ m, (n % 18446744073709551616).toNat = m := ⟨_, rfl⟩
  have hfull : B9 ++ be 8 m8 = S0 := by
    rw [← hm8, ← hS0, ← hB9, ← hB5, ← hB1, hn8]
    unfold encN
    simp only [Int.toNat_natCast, List.append_assoc]
  rw [hS0]
  obtain ⟨w0, hw0⟩ : ∃ w0, w.alloc (.cells #[.int .i64 k, .int .i64 (a : Int), .int .i64 (b : Int), .int .i64 n] 23) = w0 := ⟨_, rfl⟩
  have hx : Blk w0 w.heap.size 23 #[.int .i64 k, .int .i64 (a : Int), .int .i64 (b : Int), .int .i64 n] := by rw [← hw0]; exact Blk.new w _ _
  have hb0 : Below w.heap.size w w0 := by rw [← hw0]; exact (Below.refl _ _).alloc (Nat.le_refl _) _
  have XC : Hid (∀ W, Below w0.heap.size w0 W → W.cell? ⟨w.heap.size, 0, none⟩ = some (.int .i64 k) ∧ W.cell? ⟨w.heap.size, 1, none⟩ = some (.int .i64 (a : Int)) ∧ W.cell? ⟨w.heap.size, 2, none⟩ = some (.int .i64 (b : Int)) ∧ W.cell? ⟨w.heap.size, 3, none⟩ = some (.int .i64 n)) := Lib.hid (fun W h => by
    have hb := hx.below h hx.lt
    exact ⟨hb.cell 0, hb.cell 1, hb.cell 2, hb.cell 3⟩)
  have num4 : ∀ x : Nat, x ≤ 1048576 → numErr 4 x = 0 ∧ numOut 4 x = be 4 x := fun x hx => by
    have e : numErr 4 x = 0 := by simp [numErr, sized, fitsB]; omega
    exact ⟨e, by simp [numOut, e]⟩
  have H4 : ∀ x : Nat, x ≤ 1048576 → ∀ W, Calls Try.prog 32 #[.int .i64 4, .int .u64 x] W fun e w' => ∃ v, e = .returned (.tuple #[v, .int .i64 0]) ∧ Gives W w' v (be 4 x) := fun x hx W => by
    have h := refnum_any W 4 x (by omega) (by omega) (by omega)
    rwa [(num4 x hx).1, (num4 x hx).2] at h
  have H4a := Lib.hid (H4 a (by omega))
  have H4b := Lib.hid (H4 b (by omega))
  have H8 := Lib.hid (fun W => refint_any W n)
  rw [hm8] at H8
  have u2 : IntKind.u64.wrap (a : Int) = (a : Int) := by rw [wrap_u64]; omega
  have u3 : IntKind.u64.wrap (b : Int) = (b : Int) := by rw [wrap_u64]; omega
  have HB5 := Lib.hid hB5
  have HB9 := Lib.hid hB9
  have HB17 := Lib.hid hfull
  have HB0 := Lib.hid hb0
  obtain ⟨i0, hi, hz0, hz1, hz2⟩ := info_parts infoU8
  have hk8 : 0 ≤ k ∧ k < 256 := by omega
  have HO1 : Hid (∀ (w1 : World), (w1.alloc (.cells #[.int .u8 k] 5)).ownsRow w1.heap.size 5 1 (.slice (some ⟨w1.heap.size, 0, none⟩) 1 1) 1 (B1.map bv)) := Lib.hid (fun w1 => by
    have e : B1.map bv = [.int .u8 k] := by
      rw [← hB1, be_succ]
      show [bv (lowByte k.toNat 0)] = _
      unfold bv
      rw [lowByte_toNat]
      congr 2
      simp
      omega
    rw [e]
    exact own_one w1 w1.heap.size (Nat.le_refl _) _)
  have HK1 : Hid (∀ (w1 : World), Below w1.heap.size w1 (w1.alloc (.cells #[.int .u8 k] 5))) := Lib.hid (fun w1 => (Below.refl _ _).alloc (Nat.le_refl _) _)
  obtain ⟨x0, x1, x2, x3⟩ := XC.out w0 (Below.refl _ _)
  have da0 : decide ((a : Int) < 0) = false := decide_eq_false (by omega)
  have da1 : decide (1048576 < (a : Int)) = false := decide_eq_false (by omega)
  have db0 : decide ((b : Int) < 0) = false := decide_eq_false (by omega)
  have db1 : decide (1048576 < (b : Int)) = false := decide_eq_false (by omega)
  have dn0 : decide (n < 0) = false := decide_eq_false (by omega)
  have hk5 : (k = 1 ∧ (b : Int) = 0 ∧ n = 0) ∨ (k = 4 ∧ (b : Int) = 0 ∧ n = 0) ∨ k = 2 ∨ k = 3 ∨ (k = 5 ∧ n = 0) := by omega
  clear hS0 hB1 hB5 hB9 hfull hm8 hx hb0 num4 H4 hok hf hn8 hkd a1 a2 b1 b2 n1 hn hk8
  unfold nv
  simp only
  rcases hk5 with ⟨rfl, hb, rfl⟩ | ⟨rfl, hb, rfl⟩ | rfl | rfl | ⟨rfl, rfl⟩
  · have dbp : decide (0 < b) = false := decide_eq_false (by omega)
    clear hb
    go_enter Try.func10, Try.ntmps10
    go_wp2_with (first
      | (go_at_call 32; (have l0 := K1.out; clear l0); (with_reducible refine (H4b.out w1).mono ?_); rintro e w2 ⟨v, rfl, g⟩; obtain ⟨A2, c2, rfl, o2, b2⟩ := gives_len g (be_length 4 b); have K2 := Lib.hid (K1.out.trans (b2.mono K1.out.size)); have HA1 := Lib.hid (fun W (h : Below w2.heap.size w2 W) => (((Reads.of_own (own_stay Q1.out b2)).below h).more h.size)); have HA2 := Lib.hid (fun W (h : Below w2.heap.size w2 W) => (((Reads.of_own o2).below h).more h.size)); have P2 := Lib.hid (HO1.out w2); have K3 := Lib.hid (HK1.out w2); obtain ⟨x0, x1, x2, x3⟩ := XC.out w2 K2.out; have XK := Lib.hid (fun W (h : Below w2.heap.size w2 W) => XC.out W (K2.out.trans (h.mono K2.out.size))); obtain ⟨x0, x1, x2, x3⟩ := XK.out _ K3.out; clear g o2 b2)
      | (go_at_call 32; (with_reducible refine (H4a.out w0).mono ?_); rintro e w1 ⟨v, rfl, g⟩; clear hw0; obtain ⟨A1, c1, rfl, o1, b1⟩ := gives_len g (be_length 4 a); have K1 := Lib.hid b1; have Q1 := Lib.hid o1; obtain ⟨x0, x1, x2, x3⟩ := XC.out w1 b1; clear g o1 b1)
      | (go_at_call 33; refine (H8.out _).mono ?_; rintro e w6 ⟨v, rfl, g⟩; obtain ⟨A6, c6, rfl, o6, b6⟩ := gives_len g (be_length 8 _); have K6 := Lib.hid (K5.out.trans (b6.mono K5.out.size)); have P6 := Lib.hid (own_stay P5.out b6); have Q6 := Lib.hid o6; clear g o6 b6)
      | (at_builtin; (have l0 := P6.out; clear l0); refine wpList_append_any _ rfl _ _ 24 rfl w2.heap.size 5 i0 (.int .u8 0) 1 1 Try.underlying24 hi hz0 hz1 hz2 rfl (by decide) _ 9 (B9.map bv) rfl P6.out _ A6 8 c6 ((be 8 m8).map bv) rfl (Reads.of_own Q6.out) (bv_one _) (by unfold maxLen; omega) (by omega) K6.out.size ?_; intro v7 w7 o7 g7 _; obtain ⟨A7, c7, rfl, p7, k7⟩ := app_out (p := 17) K6.out P6.out o7 g7 rfl HB17.out; have K7 := Lib.hid k7; have P7 := Lib.hid p7; clear o7 g7 p7 k7)
      | (at_builtin; (have l0 := P4.out; clear l0); refine wpList_append_any _ rfl _ _ 24 rfl w2.heap.size 5 i0 (.int .u8 0) 1 1 Try.underlying24 hi hz0 hz1 hz2 rfl (by decide) _ 5 (B5.map bv) rfl P4.out _ A2 4 c2 ((be 4 b).map bv) rfl (HA2.out w4 K4.out) (bv_one _) (by unfold maxLen; omega) (by omega) K4.out.size ?_; intro v5 w5 o5 g5 _; obtain ⟨A5, c5, rfl, p5, k5⟩ := app_out (p := 9) K4.out P4.out o5 g5 rfl HB9.out; have K5 := Lib.hid k5; have P5 := Lib.hid p5; obtain ⟨x0, x1, x2, x3⟩ := XK.out w5 k5; clear o5 g5 p5 k5)
      | (at_builtin; (have l0 := P2.out; clear l0); refine wpList_append_any _ rfl _ _ 24 rfl w2.heap.size 5 i0 (.int .u8 0) 1 1 Try.underlying24 hi hz0 hz1 hz2 rfl (by decide) _ 1 (B1.map bv) rfl P2.out _ A1 4 c1 ((be 4 a).map bv) rfl (HA1.out _ K3.out) (bv_one _) (by unfold maxLen; omega) (by omega) K3.out.size ?_; intro v4 w4 o4 g4 _; obtain ⟨A4, c4, rfl, p4, k4⟩ := app_out (p := 5) K3.out P2.out o4 g4 rfl HB5.out; have K4 := Lib.hid k4; have P4 := Lib.hid p4; clear o4 g4 p4 k4))
    go_ret2
    have hk2 := HB0.out.trans (K2.out.mono HB0.out.size)
    exact ⟨A7, c7, rfl, own_mono P7.out hk2.size, hk2.trans (K7.out.mono hk2.size)⟩

  · have dbp : decide (0 < b) = false := decide_eq_false (by omega)
    clear hb
    go_enter Try.func10, Try.ntmps10
    go_wp2_with (first
      | (go_at_call 32; (have l0 := K1.out; clear l0); (with_reducible refine (H4b.out w1).mono ?_); rintro e w2 ⟨v, rfl, g⟩; obtain ⟨A2, c2, rfl, o2, b2⟩ := gives_len g (be_length 4 b); have K2 := Lib.hid (K1.out.trans (b2.mono K1.out.size)); have HA1 := Lib.hid (fun W (h : Below w2.heap.size w2 W) => (((Reads.of_own (own_stay Q1.out b2)).below h).more h.size)); have HA2 := Lib.hid (fun W (h : Below w2.heap.size w2 W) => (((Reads.of_own o2).below h).more h.size)); have P2 := Lib.hid (HO1.out w2); have K3 := Lib.hid (HK1.out w2); obtain ⟨x0, x1, x2, x3⟩ := XC.out w2 K2.out; have XK := Lib.hid (fun W (h : Below w2.heap.size w2 W) => XC.out W (K2.out.trans (h.mono K2.out.size))); obtain ⟨x0, x1, x2, x3⟩ := XK.out _ K3.out; clear g o2 b2)
      | (go_at_call 32; (with_reducible refine (H4a.out w0).mono ?_); rintro e w1 ⟨v, rfl, g⟩; clear hw0; obtain ⟨A1, c1, rfl, o1, b1⟩ := gives_len g (be_length 4 a); have K1 := Lib.hid b1; have Q1 := Lib.hid o1; obtain ⟨x0, x1, x2, x3⟩ := XC.out w1 b1; clear g o1 b1)
      | (go_at_call 33; refine (H8.out _).mono ?_; rintro e w6 ⟨v, rfl, g⟩; obtain ⟨A6, c6, rfl, o6, b6⟩ := gives_len g (be_length 8 _); have K6 := Lib.hid (K5.out.trans (b6.mono K5.out.size)); have P6 := Lib.hid (own_stay P5.out b6); have Q6 := Lib.hid o6; clear g o6 b6)
      | (at_builtin; (have l0 := P6.out; clear l0); refine wpList_append_any _ rfl _ _ 24 rfl w2.heap.size 5 i0 (.int .u8 0) 1 1 Try.underlying24 hi hz0 hz1 hz2 rfl (by decide) _ 9 (B9.map bv) rfl P6.out _ A6 8 c6 ((be 8 m8).map bv) rfl (Reads.of_own Q6.out) (bv_one _) (by unfold maxLen; omega) (by omega) K6.out.size ?_; intro v7 w7 o7 g7 _; obtain ⟨A7, c7, rfl, p7, k7⟩ := app_out (p := 17) K6.out P6.out o7 g7 rfl HB17.out; have K7 := Lib.hid k7; have P7 := Lib.hid p7; clear o7 g7 p7 k7)
      | (at_builtin; (have l0 := P4.out; clear l0); refine wpList_append_any _ rfl _ _ 24 rfl w2.heap.size 5 i0 (.int .u8 0) 1 1 Try.underlying24 hi hz0 hz1 hz2 rfl (by decide) _ 5 (B5.map bv) rfl P4.out _ A2 4 c2 ((be 4 b).map bv) rfl (HA2.out w4 K4.out) (bv_one _) (by unfold maxLen; omega) (by omega) K4.out.size ?_; intro v5 w5 o5 g5 _; obtain ⟨A5, c5, rfl, p5, k5⟩ := app_out (p := 9) K4.out P4.out o5 g5 rfl HB9.out; have K5 := Lib.hid k5; have P5 := Lib.hid p5; obtain ⟨x0, x1, x2, x3⟩ := XK.out w5 k5; clear o5 g5 p5 k5)
      | (at_builtin; (have l0 := P2.out; clear l0); refine wpList_append_any _ rfl _ _ 24 rfl w2.heap.size 5 i0 (.int .u8 0) 1 1 Try.underlying24 hi hz0 hz1 hz2 rfl (by decide) _ 1 (B1.map bv) rfl P2.out _ A1 4 c1 ((be 4 a).map bv) rfl (HA1.out _ K3.out) (bv_one _) (by unfold maxLen; omega) (by omega) K3.out.size ?_; intro v4 w4 o4 g4 _; obtain ⟨A4, c4, rfl, p4, k4⟩ := app_out (p := 5) K3.out P2.out o4 g4 rfl HB5.out; have K4 := Lib.hid k4; have P4 := Lib.hid p4; clear o4 g4 p4 k4))
    go_ret2
    have hk2 := HB0.out.trans (K2.out.mono HB0.out.size)
    exact ⟨A7, c7, rfl, own_mono P7.out hk2.size, hk2.trans (K7.out.mono hk2.size)⟩

  · go_enter Try.func10, Try.ntmps10
    go_wp2_with (first
      | (go_at_call 32; (have l0 := K1.out; clear l0); (with_reducible refine (H4b.out w1).mono ?_); rintro e w2 ⟨v, rfl, g⟩; obtain ⟨A2, c2, rfl, o2, b2⟩ := gives_len g (be_length 4 b); have K2 := Lib.hid (K1.out.trans (b2.mono K1.out.size)); have HA1 := Lib.hid (fun W (h : Below w2.heap.size w2 W) => (((Reads.of_own (own_stay Q1.out b2)).below h).more h.size)); have HA2 := Lib.hid (fun W (h : Below w2.heap.size w2 W) => (((Reads.of_own o2).below h).more h.size)); have P2 := Lib.hid (HO1.out w2); have K3 := Lib.hid (HK1.out w2); obtain ⟨x0, x1, x2, x3⟩ := XC.out w2 K2.out; have XK := Lib.hid (fun W (h : Below w2.heap.size w2 W) => XC.out W (K2.out.trans (h.mono K2.out.size))); obtain ⟨x0, x1, x2, x3⟩ := XK.out _ K3.out; clear g o2 b2)
      | (go_at_call 32; (with_reducible refine (H4a.out w0).mono ?_); rintro e w1 ⟨v, rfl, g⟩; clear hw0; obtain ⟨A1, c1, rfl, o1, b1⟩ := gives_len g (be_length 4 a); have K1 := Lib.hid b1; have Q1 := Lib.hid o1; obtain ⟨x0, x1, x2, x3⟩ := XC.out w1 b1; clear g o1 b1)
      | (go_at_call 33; refine (H8.out _).mono ?_; rintro e w6 ⟨v, rfl, g⟩; obtain ⟨A6, c6, rfl, o6, b6⟩ := gives_len g (be_length 8 _); have K6 := Lib.hid (K5.out.trans (b6.mono K5.out.size)); have P6 := Lib.hid (own_stay P5.out b6); have Q6 := Lib.hid o6; clear g o6 b6)
      | (at_builtin; (have l0 := P6.out; clear l0); refine wpList_append_any _ rfl _ _ 24 rfl w2.heap.size 5 i0 (.int .u8 0) 1 1 Try.underlying24 hi hz0 hz1 hz2 rfl (by decide) _ 9 (B9.map bv) rfl P6.out _ A6 8 c6 ((be 8 m8).map bv) rfl (Reads.of_own Q6.out) (bv_one _) (by unfold maxLen; omega) (by omega) K6.out.size ?_; intro v7 w7 o7 g7 _; obtain ⟨A7, c7, rfl, p7, k7⟩ := app_out (p := 17) K6.out P6.out o7 g7 rfl HB17.out; have K7 := Lib.hid k7; have P7 := Lib.hid p7; clear o7 g7 p7 k7)
      | (at_builtin; (have l0 := P4.out; clear l0); refine wpList_append_any _ rfl _ _ 24 rfl w2.heap.size 5 i0 (.int .u8 0) 1 1 Try.underlying24 hi hz0 hz1 hz2 rfl (by decide) _ 5 (B5.map bv) rfl P4.out _ A2 4 c2 ((be 4 b).map bv) rfl (HA2.out w4 K4.out) (bv_one _) (by unfold maxLen; omega) (by omega) K4.out.size ?_; intro v5 w5 o5 g5 _; obtain ⟨A5, c5, rfl, p5, k5⟩ := app_out (p := 9) K4.out P4.out o5 g5 rfl HB9.out; have K5 := Lib.hid k5; have P5 := Lib.hid p5; obtain ⟨x0, x1, x2, x3⟩ := XK.out w5 k5; clear o5 g5 p5 k5)
      | (at_builtin; (have l0 := P2.out; clear l0); refine wpList_append_any _ rfl _ _ 24 rfl w2.heap.size 5 i0 (.int .u8 0) 1 1 Try.underlying24 hi hz0 hz1 hz2 rfl (by decide) _ 1 (B1.map bv) rfl P2.out _ A1 4 c1 ((be 4 a).map bv) rfl (HA1.out _ K3.out) (bv_one _) (by unfold maxLen; omega) (by omega) K3.out.size ?_; intro v4 w4 o4 g4 _; obtain ⟨A4, c4, rfl, p4, k4⟩ := app_out (p := 5) K3.out P2.out o4 g4 rfl HB5.out; have K4 := Lib.hid k4; have P4 := Lib.hid p4; clear o4 g4 p4 k4))
    go_ret2
    have hk2 := HB0.out.trans (K2.out.mono HB0.out.size)
    exact ⟨A7, c7, rfl, own_mono P7.out hk2.size, hk2.trans (K7.out.mono hk2.size)⟩

  · go_enter Try.func10, Try.ntmps10
    go_wp2_with (first
      | (go_at_call 32; (have l0 := K1.out; clear l0); (with_reducible refine (H4b.out w1).mono ?_); rintro e w2 ⟨v, rfl, g⟩; obtain ⟨A2, c2, rfl, o2, b2⟩ := gives_len g (be_length 4 b); have K2 := Lib.hid (K1.out.trans (b2.mono K1.out.size)); have HA1 := Lib.hid (fun W (h : Below w2.heap.size w2 W) => (((Reads.of_own (own_stay Q1.out b2)).below h).more h.size)); have HA2 := Lib.hid (fun W (h : Below w2.heap.size w2 W) => (((Reads.of_own o2).below h).more h.size)); have P2 := Lib.hid (HO1.out w2); have K3 := Lib.hid (HK1.out w2); obtain ⟨x0, x1, x2, x3⟩ := XC.out w2 K2.out; have XK := Lib.hid (fun W (h : Below w2.heap.size w2 W) => XC.out W (K2.out.trans (h.mono K2.out.size))); obtain ⟨x0, x1, x2, x3⟩ := XK.out _ K3.out; clear g o2 b2)
      | (go_at_call 32; (with_reducible refine (H4a.out w0).mono ?_); rintro e w1 ⟨v, rfl, g⟩; clear hw0; obtain ⟨A1, c1, rfl, o1, b1⟩ := gives_len g (be_length 4 a); have K1 := Lib.hid b1; have Q1 := Lib.hid o1; obtain ⟨x0, x1, x2, x3⟩ := XC.out w1 b1; clear g o1 b1)
      | (go_at_call 33; refine (H8.out _).mono ?_; rintro e w6 ⟨v, rfl, g⟩; obtain ⟨A6, c6, rfl, o6, b6⟩ := gives_len g (be_length 8 _); have K6 := Lib.hid (K5.out.trans (b6.mono K5.out.size)); have P6 := Lib.hid (own_stay P5.out b6); have Q6 := Lib.hid o6; clear g o6 b6)
      | (at_builtin; (have l0 := P6.out; clear l0); refine wpList_append_any _ rfl _ _ 24 rfl w2.heap.size 5 i0 (.int .u8 0) 1 1 Try.underlying24 hi hz0 hz1 hz2 rfl (by decide) _ 9 (B9.map bv) rfl P6.out _ A6 8 c6 ((be 8 m8).map bv) rfl (Reads.of_own Q6.out) (bv_one _) (by unfold maxLen; omega) (by omega) K6.out.size ?_; intro v7 w7 o7 g7 _; obtain ⟨A7, c7, rfl, p7, k7⟩ := app_out (p := 17) K6.out P6.out o7 g7 rfl HB17.out; have K7 := Lib.hid k7; have P7 := Lib.hid p7; clear o7 g7 p7 k7)
      | (at_builtin; (have l0 := P4.out; clear l0); refine wpList_append_any _ rfl _ _ 24 rfl w2.heap.size 5 i0 (.int .u8 0) 1 1 Try.underlying24 hi hz0 hz1 hz2 rfl (by decide) _ 5 (B5.map bv) rfl P4.out _ A2 4 c2 ((be 4 b).map bv) rfl (HA2.out w4 K4.out) (bv_one _) (by unfold maxLen; omega) (by omega) K4.out.size ?_; intro v5 w5 o5 g5 _; obtain ⟨A5, c5, rfl, p5, k5⟩ := app_out (p := 9) K4.out P4.out o5 g5 rfl HB9.out; have K5 := Lib.hid k5; have P5 := Lib.hid p5; obtain ⟨x0, x1, x2, x3⟩ := XK.out w5 k5; clear o5 g5 p5 k5)
      | (at_builtin; (have l0 := P2.out; clear l0); refine wpList_append_any _ rfl _ _ 24 rfl w2.heap.size 5 i0 (.int .u8 0) 1 1 Try.underlying24 hi hz0 hz1 hz2 rfl (by decide) _ 1 (B1.map bv) rfl P2.out _ A1 4 c1 ((be 4 a).map bv) rfl (HA1.out _ K3.out) (bv_one _) (by unfold maxLen; omega) (by omega) K3.out.size ?_; intro v4 w4 o4 g4 _; obtain ⟨A4, c4, rfl, p4, k4⟩ := app_out (p := 5) K3.out P2.out o4 g4 rfl HB5.out; have K4 := Lib.hid k4; have P4 := Lib.hid p4; clear o4 g4 p4 k4))
    go_ret2
    have hk2 := HB0.out.trans (K2.out.mono HB0.out.size)
    exact ⟨A7, c7, rfl, own_mono P7.out hk2.size, hk2.trans (K7.out.mono hk2.size)⟩

  · go_enter Try.func10, Try.ntmps10
    go_wp2_with (first
      | (go_at_call 32; (have l0 := K1.out; clear l0); (with_reducible refine (H4b.out w1).mono ?_); rintro e w2 ⟨v, rfl, g⟩; obtain ⟨A2, c2, rfl, o2, b2⟩ := gives_len g (be_length 4 b); have K2 := Lib.hid (K1.out.trans (b2.mono K1.out.size)); have HA1 := Lib.hid (fun W (h : Below w2.heap.size w2 W) => (((Reads.of_own (own_stay Q1.out b2)).below h).more h.size)); have HA2 := Lib.hid (fun W (h : Below w2.heap.size w2 W) => (((Reads.of_own o2).below h).more h.size)); have P2 := Lib.hid (HO1.out w2); have K3 := Lib.hid (HK1.out w2); obtain ⟨x0, x1, x2, x3⟩ := XC.out w2 K2.out; have XK := Lib.hid (fun W (h : Below w2.heap.size w2 W) => XC.out W (K2.out.trans (h.mono K2.out.size))); obtain ⟨x0, x1, x2, x3⟩ := XK.out _ K3.out; clear g o2 b2)
      | (go_at_call 32; (with_reducible refine (H4a.out w0).mono ?_); rintro e w1 ⟨v, rfl, g⟩; clear hw0; obtain ⟨A1, c1, rfl, o1, b1⟩ := gives_len g (be_length 4 a); have K1 := Lib.hid b1; have Q1 := Lib.hid o1; obtain ⟨x0, x1, x2, x3⟩ := XC.out w1 b1; clear g o1 b1)
      | (go_at_call 33; refine (H8.out _).mono ?_; rintro e w6 ⟨v, rfl, g⟩; obtain ⟨A6, c6, rfl, o6, b6⟩ := gives_len g (be_length 8 _); have K6 := Lib.hid (K5.out.trans (b6.mono K5.out.size)); have P6 := Lib.hid (own_stay P5.out b6); have Q6 := Lib.hid o6; clear g o6 b6)
      | (at_builtin; (have l0 := P6.out; clear l0); refine wpList_append_any _ rfl _ _ 24 rfl w2.heap.size 5 i0 (.int .u8 0) 1 1 Try.underlying24 hi hz0 hz1 hz2 rfl (by decide) _ 9 (B9.map bv) rfl P6.out _ A6 8 c6 ((be 8 m8).map bv) rfl (Reads.of_own Q6.out) (bv_one _) (by unfold maxLen; omega) (by omega) K6.out.size ?_; intro v7 w7 o7 g7 _; obtain ⟨A7, c7, rfl, p7, k7⟩ := app_out (p := 17) K6.out P6.out o7 g7 rfl HB17.out; have K7 := Lib.hid k7; have P7 := Lib.hid p7; clear o7 g7 p7 k7)
      | (at_builtin; (have l0 := P4.out; clear l0); refine wpList_append_any _ rfl _ _ 24 rfl w2.heap.size 5 i0 (.int .u8 0) 1 1 Try.underlying24 hi hz0 hz1 hz2 rfl (by decide) _ 5 (B5.map bv) rfl P4.out _ A2 4 c2 ((be 4 b).map bv) rfl (HA2.out w4 K4.out) (bv_one _) (by unfold maxLen; omega) (by omega) K4.out.size ?_; intro v5 w5 o5 g5 _; obtain ⟨A5, c5, rfl, p5, k5⟩ := app_out (p := 9) K4.out P4.out o5 g5 rfl HB9.out; have K5 := Lib.hid k5; have P5 := Lib.hid p5; obtain ⟨x0, x1, x2, x3⟩ := XK.out w5 k5; clear o5 g5 p5 k5)
      | (at_builtin; (have l0 := P2.out; clear l0); refine wpList_append_any _ rfl _ _ 24 rfl w2.heap.size 5 i0 (.int .u8 0) 1 1 Try.underlying24 hi hz0 hz1 hz2 rfl (by decide) _ 1 (B1.map bv) rfl P2.out _ A1 4 c1 ((be 4 a).map bv) rfl (HA1.out _ K3.out) (bv_one _) (by unfold maxLen; omega) (by omega) K3.out.size ?_; intro v4 w4 o4 g4 _; obtain ⟨A4, c4, rfl, p4, k4⟩ := app_out (p := 5) K3.out P2.out o4 g4 rfl HB5.out; have K4 := Lib.hid k4; have P4 := Lib.hid p4; clear o4 g4 p4 k4))
    go_ret2
    have hk2 := HB0.out.trans (K2.out.mono HB0.out.size)
    exact ⟨A7, c7, rfl, own_mono P7.out hk2.size, hk2.trans (K7.out.mono hk2.size)⟩


theorem r9encode_any (x : NV) (w : World) (hf : x.Fine) : Calls Try.prog 10 #[nv x] w fun e w' => ∃ v, e = .returned (.tuple #[v, .int .i64 (errN x)]) ∧ Gives w w' v (outN x) := by
  unfold errN outN
  cases hok : okN x
  · rw [if_neg (by decide), if_neg (by decide)]
    refine (r9encode_bad x w hok).mono ?_
    rintro e w' ⟨rfl, hb⟩
    exact ⟨_, rfl, none, 0, rfl, World.ownsRow_nil _ _ _ _, hb⟩
  · rw [if_pos rfl, if_pos rfl]
    refine (r9encode_ok x w hf hok).mono ?_
    rintro e w' ⟨A, c, rfl, ho, hb⟩
    have hl := encN_length x
    exact ⟨_, rfl, A, c, by rw [hl], by rw [hl]; exact ho, hb⟩
end Go.Proofs.Ytdjneiboeehclaa.note

/-
  The document's own Encode for layer 5.
-/
import Derived.Test.YtpededkfgjmhcaaTRef2
namespace Go.Proofs.Ytpededkfgjmhcaa.tile
open Go.RowKit Go.Proofs.Ytpededkfgjmhcaa.crc Go.Proofs.Ytpededkfgjmhcaa.crcSeals Go.Proofs.Ytpededkfgjmhcaa.crcJoins

theorem app_out {w0 W W1 : World} {A : Option Addr} {n c m p : Nat} {v : Value} {L M K : List UInt8} (hb : Below w0.heap.size w0 W) (ho : W.ownsRow w0.heap.size 5 1 (.slice A n c) n (L.map bv))
    (hown : W1.ownsRow w0.heap.size 5 1 v (n + m) (L.map bv ++ M.map bv)) (hg : W.grownBy W1 (Value.slice A n c).ownBlock) (hp : n + m = p) (hK : L ++ M = K) :
    ∃ A' c', v = .slice A' p c' ∧ W1.ownsRow w0.heap.size 5 1 (.slice A' p c') p (K.map bv) ∧ Below w0.heap.size w0 W1 := by
  subst hp hK
  have hB := hb.grown hg hb.size (fun k e => (ho.lt k e).1)
  rw [← List.map_append] at hown
  rcases hown.2 with ⟨e, h0⟩ | ⟨g, cap, cur, e, hr⟩
  · subst e
    rw [h0] at hown ⊢
    exact ⟨none, 0, rfl, hown, hB⟩
  · subst e
    exact ⟨_, cap, rfl, hown, hB⟩

theorem own_past {N W W1 : World} {base e n c m : Nat} {A : Option Addr} {v : Value} {xs : List Value} (hP : ∀ g, (Value.slice A n c).ownBlock = some g → g < N.heap.size) (hR : W.ownsRow N.heap.size e base v m xs) (hg : W.grownBy W1 (Value.slice A n c).ownBlock) : W1.ownsRow N.heap.size e base v m xs :=
  ((Keep.refl (fun i => (Value.slice A n c).ownBlock = some i) W).grown hg (fun g e _ => e)).own hR (fun g e e2 => by have := hP g e2; have := (own_is hR g e).1; omega)
theorem gives_len {w w1 : World} {v : Value} {L : List UInt8} {n : Nat} (h : Gives w w1 v L) (hn : L.length = n) : ∃ A c, v = .slice A n c ∧ w1.ownsRow w.heap.size 5 1 (.slice A n c) n (L.map bv) ∧ Below w.heap.size w w1 := by
  subst hn
  obtain ⟨A, c, h1, h2, h3, _⟩ := gives_conv h
  exact ⟨A, c, h1, h2, h3⟩
theorem own_stay {w w1 : World} {base e size n : Nat} {v : Value} {xs : List Value} (h : w.ownsRow base e size v n xs) (hb : Below w.heap.size w w1) : w1.ownsRow base e size v n xs := (Keep.of_below (S := fun _ => False) hb).own h (fun _ _ h => h)

set_option maxRecDepth 100000 in
set_option maxHeartbeats 4000000 in
theorem r5encode_bad (t : TV) (s : Int) (A : Option Addr) (n c : Nat) (w : World) (h : TEl w t A n) (hok : okT t s = false) :
    Calls Try.prog 10 #[tv t A n c, .int .i64 s] w fun e w' => e = .returned (.tuple #[.slice none 0 0, .int .i64 50]) ∧ Below w.heap.size w w' := by
  have he : errT t s = 50 := by unfold errT; rw [hok]; rfl
  have hb0 : Below w.heap.size w (w.alloc (.cells #[.int .i64 t.file, .int .i64 t.no, .int .i64 t.kind, .slice A n c] 24)) := (Below.refl _ _).alloc (Nat.le_refl _) _
  have H := Lib.hid (r5check_any t s A n c _ (h.below hb0))
  rw [he] at H
  have HB := Lib.hid hb0
  clear h hok he hb0
  unfold tv at *
  go_enter Try.func10, Try.ntmps10
  go_wp2_with (go_at_call 27; refine H.out.mono ?_; rintro e w1 ⟨rfl, hb⟩; have HB1 := Lib.hid (HB.out.trans (hb.mono HB.out.size)); clear hb)
  go_ret2
  exact ⟨rfl, HB1.out⟩

set_option maxRecDepth 100000 in
set_option maxHeartbeats 4000000 in
theorem r5encode_ok (t : TV) (s : Int) (A : Option Addr) (n c : Nat) (w : World) (h : TEl w t A n) (hok : okT t s = true) :
    Calls Try.prog 10 #[tv t A n c, .int .i64 s] w fun e w' => ∃ A' c', e = .returned (.tuple #[.slice A' (bytesT t s.toNat).length c', .int .i64 0]) ∧ w'.ownsRow w.heap.size 5 1 (.slice A' (bytesT t s.toNat).length c') (bytesT t s.toNat).length ((bytesT t s.toNat).map bv) ∧ Below w.heap.size w w' := by
  have he : errT t s = 0 := by unfold errT; rw [hok]; rfl
  obtain ⟨hs, o1, o2, o3, o4, o5, _⟩ := okT_of hok
  obtain ⟨w0, hw0⟩ : ∃ w0, w.alloc (.cells #[.int .i64 t.file, .int .i64 t.no, .int .i64 t.kind, .slice A n c] 24) = w0 := ⟨_, rfl⟩
  have hb0 : Below w.heap.size w w0 := by rw [← hw0]; exact (Below.refl _ _).alloc (Nat.le_refl _) _
  have hx0 : Blk w0 w.heap.size 24 #[.int .i64 t.file, .int .i64 t.no, .int .i64 t.kind, .slice A n c] := by rw [← hw0]; exact Blk.new w _ _
  have HC := Lib.hid (r5check_any t s A n c w0 (h.below hb0))
  rw [he] at HC
  have hlen := bytesT_length o4
  obtain ⟨S, rfl⟩ := Int.eq_ofNat_of_zero_le (a := s) (by omega)
  rw [Int.toNat_natCast] at o4 hlen ⊢
  have RT := Lib.hid (fun W (hb : Below w0.heap.size w0 W) => (h.below (hb0.trans (hb.mono hb0.size))).reads)
  obtain ⟨tf, tm, tk, el⟩ := t
  simp only at o1 o2 o3 o4 o5 HC hx0 hlen RT
  obtain ⟨hl, _, hn, hfi⟩ := h
  have hff := hfi.file
  unfold i64ok at hff
  simp only at hl hff
  obtain ⟨f, rfl⟩ := Int.eq_ofNat_of_zero_le (a := tf) (by omega)
  obtain ⟨m, rfl⟩ := Int.eq_ofNat_of_zero_le (a := tm) (by omega)
  obtain ⟨k, rfl⟩ := Int.eq_ofNat_of_zero_le (a := tk) (by omega)
  obtain ⟨BT, hBT⟩ : ∃ BT, bytesT ⟨(f : Int), (m : Int), (k : Int), el⟩ S = BT := ⟨_, rfl⟩
  obtain ⟨B4, hB4⟩ : ∃ B, [81, 84, 1] ++ be 1 k = B := ⟨_, rfl⟩
  obtain ⟨B12, hB12⟩ : ∃ B, B4 ++ be 8 f = B := ⟨_, rfl⟩
  obtain ⟨B16, hB16⟩ : ∃ B, B12 ++ be 4 m = B := ⟨_, rfl⟩
  obtain ⟨B20, hB20⟩ : ∃ B, B16 ++ be 4 n = B := ⟨_, rfl⟩
  obtain ⟨Z, hZ⟩ : ∃ Z, S * 128 - 4 - (20 + 8 * n) = Z := ⟨_, rfl⟩
  obtain ⟨BB, hBB⟩ : ∃ B, B20 ++ elsB el ++ List.replicate Z 0 = B := ⟨_, rfl⟩
  have hbody : bodyT ⟨(f : Int), (m : Int), (k : Int), el⟩ S = BB := by
    unfold bodyT headT
    simp only [Int.toNat_natCast, hl, hZ]
    rw [← hBB, ← hB20, ← hB16, ← hB12, ← hB4]
  have hfull : BB ++ four (sum (bitsB BB)) = BT := by rw [← hBT, ← hbody]; rfl
  have hB4v : B4.map bv = [.int .u8 81, .int .u8 84, .int .u8 1, .int .u8 (k : Int)] := by
    rw [← hB4]
    have : k = 1 ∨ k = 2 := by omega
    rcases this with rfl | rfl <;> rfl
  have hBBl : BB.length = 128 * S - 4 := by rw [← hbody]; exact bodyT_length (by simp only; omega)
  rw [hBT] at hlen ⊢
  have hk8 : IntKind.u8.wrap (k : Int) = (k : Int) := by
    have : k = 1 ∨ k = 2 := by omega
    rcases this with rfl | rfl <;> rfl
  have hm64 : IntKind.u64.wrap (m : Int) = (m : Int) := by rw [wrap_u64]; omega
  have hn64 : IntKind.u64.wrap (n : Int) = (n : Int) := by rw [wrap_u64]; omega
  have HRI := Lib.hid (fun W => refint_any W (f : Int))
  rw [show ((f : Int) % 18446744073709551616).toNat = f by omega] at HRI
  have num4 : ∀ x : Nat, x < 4294967296 → numErr 4 x = 0 ∧ numOut 4 x = be 4 x := fun x hx => by
    have e : numErr 4 x = 0 := by simp [numErr, sized, fitsB]; omega
    exact ⟨e, by simp [numOut, e]⟩
  have HRM : Hid (∀ W, Calls Try.prog 29 #[.int .i64 4, .int .u64 m] W fun e w' => ∃ v, e = .returned (.tuple #[v, .int .i64 0]) ∧ Gives W w' v (be 4 m)) := Lib.hid (fun W => by
    have h := refnum_any W 4 m (by omega) (by omega) (by omega)
    rwa [(num4 m (by omega)).1, (num4 m (by omega)).2] at h)
  have HRN : Hid (∀ W, Calls Try.prog 29 #[.int .i64 4, .int .u64 n] W fun e w' => ∃ v, e = .returned (.tuple #[v, .int .i64 0]) ∧ Gives W w' v (be 4 n)) := Lib.hid (fun W => by
    have h := refnum_any W 4 n (by omega) (by omega) (by omega)
    rwa [(num4 n (by omega)).1, (num4 n (by omega)).2] at h)
  have XC : Hid (∀ W, Below w0.heap.size w0 W → W.cell? ⟨w.heap.size, 0, none⟩ = some (.int .i64 (f : Int)) ∧ W.cell? ⟨w.heap.size, 1, none⟩ = some (.int .i64 (m : Int)) ∧ W.cell? ⟨w.heap.size, 2, none⟩ = some (.int .i64 (k : Int)) ∧ W.cell? ⟨w.heap.size, 3, none⟩ = some (.slice A n c)) := Lib.hid (fun W h => by
    have hb := hx0.below h hx0.lt
    exact ⟨hb.cell 0, hb.cell 1, hb.cell 2, hb.cell 3⟩)
  have HX := Lib.hid hx0
  have HB0 := Lib.hid hb0
  have HW0 := Lib.hid hw0
  have HL := Lib.hid hl
  have HB4 := Lib.hid hB4v
  have HB12 := Lib.hid hB12
  have HB16 := Lib.hid hB16
  have HB20 := Lib.hid hB20
  have HO : Hid (24 + 8 * n ≤ 128 * S ∧ S ≤ 64) := Lib.hid (by omega)
  have HFULL := Lib.hid hfull
  have HBBL := Lib.hid hBBl
  have HBB := Lib.hid hBB
  have HZ := Lib.hid hZ
  have HLEN := Lib.hid hlen
  have HO1 : Hid (∀ w1 : World, w0.heap.size ≤ w1.heap.size → (w1.alloc (.cells #[.int .u8 81, .int .u8 84, .int .u8 1, .int .u8 (k : Int)] 5)).ownsRow w0.heap.size 5 1 (.slice (some ⟨w1.heap.size, 0, none⟩) 4 4) 4 (B4.map bv)) := Lib.hid (fun w1 h => own_mono (own_of_alloc w1 _ _ 4 (by rw [HB4.out]) (by simp [HB4.out]) (by unfold maxLen; omega)) h)
  obtain ⟨i0, hi, hz0, hz1, hz2⟩ := info_parts infoU8
  clear hb0 hx0 hw0 hok he hl hfi hff hB4 hB12 hB16 hB20 hBT hbody hfull hB4v hBBl num4 hBB hZ hlen
  unfold tv at HC ⊢
  go_enter Try.func10, Try.ntmps10
  go_wp2_with (first
    | (go_at_call 27; rw [HW0.out]; (with_reducible refine HC.out.mono ?_); rintro e w1 ⟨rfl, b1⟩; have hx1 := HX.out.below b1 HX.out.lt; have x0 := hx1.cell 0; have x1 := hx1.cell 1; have x2 := hx1.cell 2; have x3 := hx1.cell 3; have hne1 : w.heap.size < w1.heap.size := hx1.lt; have hne2 : w.heap.size ≠ w1.heap.size := (by omega); have y0 := (hx1.alloc (.cells #[.int .u8 81, .int .u8 84, .int .u8 1, .int .u8 (k : Int)] 5)).cell 0
       have K1 := Lib.hid (b1.alloc b1.size (.cells #[.int .u8 81, .int .u8 84, .int .u8 1, .int .u8 (k : Int)] 5)); have O1 := Lib.hid (HO1.out w1 b1.size); clear b1 hx1)
    | (go_at_call 29; (have l0 := K4.out; clear l0); (with_reducible refine (HRN.out w4).mono ?_); rintro e w5 ⟨v, rfl, g⟩; obtain ⟨A5, c5, rfl, o5, b5⟩ := gives_len g (be_length 4 n); have K5 := Lib.hid (K4.out.trans (b5.mono K4.out.size)); have P5 := Lib.hid (own_stay P4.out b5); have Q5 := Lib.hid (own_stay Q4.out b5); have R5 := Lib.hid o5; clear g o5 b5)
    | (go_at_call 29; (with_reducible refine (HRM.out w3).mono ?_); rintro e w4 ⟨v, rfl, g⟩; obtain ⟨A4, c4, rfl, o4, b4⟩ := gives_len g (be_length 4 m); have K4 := Lib.hid (K3.out.trans (b4.mono K3.out.size)); have P4 := Lib.hid (own_stay P3.out b4); have Q4 := Lib.hid o4; obtain ⟨x0, x1, x2, x3⟩ := XC.out w4 (K3.out.trans (b4.mono K3.out.size)); clear g o4 b4)
    | (go_at_call 28; (with_reducible refine (HRI.out _).mono ?_); rintro e w2 ⟨v, rfl, g⟩; obtain ⟨A2, c2, rfl, o2, b2⟩ := gives_len g (be_length 8 f); have K2 := Lib.hid (K1.out.trans (b2.mono K1.out.size)); have P2 := Lib.hid (own_stay O1.out b2); have Q2 := Lib.hid o2; clear g o2 b2)
    | (at_builtin; (have l0 := P6.out; clear l0); refine wpList_append_any _ rfl _ _ 25 rfl w0.heap.size 5 i0 (.int .u8 0) 1 1 Try.underlying25 hi hz0 hz1 hz2 rfl (by decide) _ 16 (B16.map bv) rfl P6.out _ A5 4 c5 ((be 4 n).map bv) rfl (Reads.of_own R6.out) (bv_one _) (by unfold maxLen; omega) (by omega) K6.out.size ?_; intro v7 w7 o7 g7 _; obtain ⟨A7, c7, rfl, p7, k7⟩ := app_out K6.out P6.out o7 g7 rfl HB20.out; have K7 := Lib.hid k7; have P7 := Lib.hid p7; clear o7 g7 p7 k7)
    | (at_builtin; (have l0 := P5.out; clear l0); refine wpList_append_any _ rfl _ _ 25 rfl w0.heap.size 5 i0 (.int .u8 0) 1 1 Try.underlying25 hi hz0 hz1 hz2 rfl (by decide) _ 12 (B12.map bv) rfl P5.out _ A4 4 c4 ((be 4 m).map bv) rfl (Reads.of_own Q5.out) (bv_one _) (by unfold maxLen; omega) (by omega) K5.out.size ?_; intro v6 w6 o6 g6 _; have R6 := Lib.hid (own_past (N := w4) (fun g e => (P4.out.lt g e).2) R5.out g6); obtain ⟨A6, c6, rfl, p6, k6⟩ := app_out K5.out P5.out o6 g6 rfl HB16.out; have K6 := Lib.hid k6; have P6 := Lib.hid p6; clear o6 g6 p6 k6)
    | (at_builtin; (have l0 := P2.out; clear l0); refine wpList_append_any _ rfl _ _ 25 rfl w0.heap.size 5 i0 (.int .u8 0) 1 1 Try.underlying25 hi hz0 hz1 hz2 rfl (by decide) _ 4 (B4.map bv) rfl P2.out _ A2 8 c2 ((be 8 f).map bv) rfl (Reads.of_own Q2.out) (bv_one _) (by unfold maxLen; omega) (by omega) K2.out.size ?_; intro v3 w3 o3 g3 _; obtain ⟨A3, c3, rfl, p3, k3⟩ := app_out K2.out P2.out o3 g3 rfl HB12.out; have K3 := Lib.hid k3; have P3 := Lib.hid p3; obtain ⟨x0, x1, x2, x3⟩ := XC.out w3 k3; clear o3 g3 p3 k3))
  have HST : Hid (w7.ownsRow w0.heap.size 5 1 (.slice A7 (20 + 8 * 0) c7) (20 + 8 * 0) ((B20 ++ elsB (el.take 0)).map bv)) := Lib.hid (by
    have h := P7.out
    simpa [elsB] using h)
  have hOO := HO.out
  clear K1 O1 K2 P2 Q2 K3 P3 K4 P4 Q4 K5 P5 Q5 R5 K6 P6 R6 x0 x1 x2 x3 y0 HC HRM HRN HRI HX hne1 hne2 hk8 hm64 hn64 HO1
  go_loopw [7, 12] (fun b i wr => ∃ (j p : Nat) (A' : Option Addr) (c' : Nat), j ≤ n ∧ 20 + 8 * j = p ∧ i = .int .i64 ((j : Nat) : Int) ∧ b = .slice A' p c' ∧ wr.ownsRow w0.heap.size 5 1 (.slice A' p c') p ((B20 ++ elsB (el.take j)).map bv) ∧ Below w0.heap.size w0 wr) (fun _ i _ => n - (intOf i).toNat)
  case atStart => exact ⟨0, 20, A7, c7, Nat.zero_le _, rfl, rfl, rfl, HST.out, K7.out⟩
  case round =>
    obtain ⟨j, p, A8, c8, hj, hp, rfl, rfl, hown, hB⟩ := hrel
    obtain ⟨x0, x1, x2, x3⟩ := XC.out wr hB
    by_cases hlt : j < n
    · obtain ⟨adA, rfl, _, cA⟩ := (RT.out wr hB).int_at hlt HL.out
      have hjl : j < el.length := by have := HL.out; omega
      have hstep : B20 ++ elsB (el.take j) ++ i8 el[j] = B20 ++ elsB (el.take (j + 1)) := by rw [List.take_succ_eq_append_getElem hjl, elsB_snoc, List.append_assoc]
      have HRX := Lib.hid (fun W => refint_any W el[j])
      have hi8 : be 8 (el[j] % 18446744073709551616).toNat = i8 el[j] := rfl
      rw [hi8] at HRX
      generalize el[j] = x at *
      obtain ⟨M0, hM0⟩ : ∃ M, B20 ++ elsB (el.take j) = M := ⟨_, rfl⟩
      obtain ⟨M1, hM1⟩ : ∃ M, B20 ++ elsB (el.take (j + 1)) = M := ⟨_, rfl⟩
      rw [hM0] at hown
      rw [hM0, hM1] at hstep
      have HM1 := Lib.hid hM1
      have HSTEP := Lib.hid hstep
      have HOWN := Lib.hid hown
      have HB := Lib.hid hB
      have HP := Lib.hid hp
      have hpb : p ≤ 9000 := by omega
      clear hown hB hstep hM0 hM1 hi8 hp
      go_wp2_with (first
        | (go_at_call 28; (with_reducible refine (HRX.out wr).mono ?_); rintro e w8 ⟨v, rfl, g⟩; obtain ⟨A9, c9, rfl, o9, b9⟩ := gives_len g (i8_length x); have K9 := Lib.hid (HB.out.trans (b9.mono HB.out.size)); have P9 := Lib.hid (own_stay HOWN.out b9); have Q9 := Lib.hid o9; clear g o9 b9)
        | (at_builtin; refine wpList_append_any _ rfl _ _ 25 rfl w0.heap.size 5 i0 (.int .u8 0) 1 1 Try.underlying25 hi hz0 hz1 hz2 rfl (by decide) _ p (M0.map bv) rfl P9.out _ A9 8 c9 ((i8 x).map bv) rfl (Reads.of_own Q9.out) (bv_one _) (by unfold maxLen; omega) (by omega) K9.out.size ?_; intro v3 w3 o3 g3 _; obtain ⟨A3, c3, rfl, p3, k3⟩ := app_out (p := p + 8) K9.out P9.out o3 g3 rfl HSTEP.out; have K3 := Lib.hid k3; have P3 := Lib.hid p3; clear o3 g3 p3 k3))
      refine ⟨⟨j + 1, p + 8, A3, c3, by omega, by have := HP.out; omega, by go_num, rfl, ?_, K3.out⟩, by simp [intOf]; omega⟩
      rw [HM1.out]
      exact P3.out
    · obtain rfl : j = n := by omega
      rw [List.take_of_length_le (by have := HL.out; omega)] at hown
      obtain ⟨BE, hBE⟩ : ∃ M, B20 ++ elsB el = M := ⟨_, rfl⟩
      rw [hBE] at hown
      have HBE := Lib.hid hBE
      have hQZ : p + Z = S * 128 - 4 := by have := HZ.out; omega
      have HST2 : Hid (wr.ownsRow w0.heap.size 5 1 (.slice A8 (p + 0) c8) (p + 0) ((BE ++ List.replicate 0 (0 : UInt8)).map bv)) := Lib.hid (by simpa using hown)
      have HB := Lib.hid hB
      have hlt2 : ¬ ((j : Int) < (j : Int)) := by omega
      clear hown hB hBE hlt2
      go_wp2
      go_loopw [7] (fun b ws => ∃ (z q : Nat) (A' : Option Addr) (c' : Nat), z ≤ Z ∧ p + z = q ∧ b = .slice A' q c' ∧ ws.ownsRow w0.heap.size 5 1 (.slice A' q c') q ((BE ++ List.replicate z (0 : UInt8)).map bv) ∧ Below w0.heap.size w0 ws) (fun b _ => S * 128 - (match b with | .slice _ q _ => q | _ => 0))
      case atStart => exact ⟨0, p, A8, c8, Nat.zero_le _, rfl, rfl, HST2.out, HB.out⟩
      case round =>
        obtain ⟨z, q, A9, c9, hz, hq, rfl, hown, hB⟩ := hrel
        by_cases hlt : z < Z
        · have hd : decide ((q : Int) < (S : Int) * 128 - 4) = true := decide_eq_true (by omega)
          have hsn : BE ++ List.replicate z (0 : UInt8) ++ [0] = BE ++ List.replicate (z + 1) 0 := by rw [List.append_assoc, ← List.replicate_succ']
          obtain ⟨M0, hM0⟩ : ∃ M, BE ++ List.replicate z (0 : UInt8) = M := ⟨_, rfl⟩
          obtain ⟨M1, hM1⟩ : ∃ M, BE ++ List.replicate (z + 1) (0 : UInt8) = M := ⟨_, rfl⟩
          rw [hM0] at hown
          rw [hM0, hM1] at hsn
          have P9 := Lib.hid (hown.alloc (.cells #[.int .u8 0] 5))
          have K9 := Lib.hid (hB.alloc hB.size (.cells #[.int .u8 0] 5))
          have HSN := Lib.hid hsn
          have HM1 := Lib.hid hM1
          have HRR := Lib.hid (reads_row wr [bv 0] 5 #[.int .u8 0] 1 rfl rfl)
          have hqb : q ≤ 9000 := by omega
          have HQ := Lib.hid hq
          clear hown hB hM0 hM1 hsn hq
          go_wp2_with (at_builtin; refine wpList_append_any _ rfl _ _ 25 rfl w0.heap.size 5 i0 (.int .u8 0) 1 1 Try.underlying25 hi hz0 hz1 hz2 rfl (by decide) _ q (M0.map bv) rfl P9.out _ _ 1 1 [bv 0] rfl HRR.out (bv_one [0]) (by unfold maxLen; omega) (by omega) K9.out.size ?_; intro v3 w3 o3 g3 _; obtain ⟨A3, c3, rfl, p3, k3⟩ := app_out (p := q + 1) (M := [0]) K9.out P9.out o3 g3 rfl HSN.out; have K3 := Lib.hid k3; have P3 := Lib.hid p3; clear o3 g3 p3 k3)
          refine ⟨⟨z + 1, q + 1, A3, c3, by omega, by have := HQ.out; omega, rfl, ?_, K3.out⟩, ?_⟩
          · rw [HM1.out]
            exact P3.out
          · show S * 128 - (q + 1) < S * 128 - q
            have := HQ.out
            omega
        · obtain rfl : z = Z := by omega
          have hd : decide ((q : Int) < (S : Int) * 128 - 4) = false := decide_eq_false (by omega)
          have hbb : BE ++ List.replicate z (0 : UInt8) = BB := by rw [← HBE.out]; exact HBB.out
          rw [hbb] at hown
          have hql : BB.length = q := by rw [HBBL.out]; omega
          have HOF := Lib.hid (fun W h => r2of_cut A9 c9 BB q W h hql (by omega))
          have HF := Lib.hid (fun W => r2four_any (sum (bitsB BB)) W)
          have hqb : q ≤ 9000 := by omega
          have hq4 : q + 4 = BT.length := by rw [HLEN.out]; omega
          have HQ4 := Lib.hid hq4
          have HOWN := Lib.hid hown
          have HB9 := Lib.hid hB
          have HSUM := HFULL.out
          generalize sum (bitsB BB) = sB at *
          have HSU := Lib.hid HSUM
          clear hown hB hbb hql hq4 HSUM
          go_wp2_with (first
            | (go_at_call 31; (with_reducible refine (HOF.out wr (Reads.of_own HOWN.out)).mono ?_); rintro e _ ⟨rfl, rfl⟩)
            | (go_at_call 30; (with_reducible refine (HF.out wr).mono ?_); rintro e w8 ⟨v, rfl, g⟩; obtain ⟨A5, c5, rfl, o5, b5⟩ := gives_len g (four_length sB); have K5 := Lib.hid (HB9.out.trans (b5.mono HB9.out.size)); have P5 := Lib.hid (own_stay HOWN.out b5); have Q5 := Lib.hid o5; clear g o5 b5)
            | (at_builtin; refine wpList_append_any _ rfl _ _ 25 rfl w0.heap.size 5 i0 (.int .u8 0) 1 1 Try.underlying25 hi hz0 hz1 hz2 rfl (by decide) _ q (BB.map bv) rfl P5.out _ A5 4 c5 ((four sB).map bv) rfl (Reads.of_own Q5.out) (bv_one _) (by unfold maxLen; omega) (by omega) K5.out.size ?_; intro v3 w3 o3 g3 _; obtain ⟨A3, c3, rfl, p3, k3⟩ := app_out K5.out P5.out o3 g3 HQ4.out HSU.out; have K3 := Lib.hid k3; have P3 := Lib.hid p3; clear o3 g3 p3 k3))
          go_ret2
          exact ⟨A3, c3, rfl, own_mono P3.out HB0.out.size, HB0.out.trans (K3.out.mono HB0.out.size)⟩

theorem r5encode_any (t : TV) (s : Int) (A : Option Addr) (n c : Nat) (w : World) (h : TEl w t A n) :
    Calls Try.prog 10 #[tv t A n c, .int .i64 s] w fun e w' => ∃ A' c', e = .returned (.tuple #[.slice A' (outT t s).length c', .int .i64 (errT t s)]) ∧ w'.ownsRow w.heap.size 5 1 (.slice A' (outT t s).length c') (outT t s).length ((outT t s).map bv) ∧ Below w.heap.size w w' := by
  cases hok : okT t s
  · have he : errT t s = 50 := by unfold errT; rw [hok]; rfl
    have ho : outT t s = [] := by unfold outT; rw [hok]; rfl
    rw [he, ho]
    refine (r5encode_bad t s A n c w h hok).mono ?_
    rintro e w' ⟨rfl, hb⟩
    exact ⟨none, 0, rfl, World.ownsRow_nil _ _ _ _, hb⟩
  · have he : errT t s = 0 := by unfold errT; rw [hok]; rfl
    have ho : outT t s = bytesT t s.toNat := by unfold outT; rw [hok]; rfl
    rw [he, ho]
    exact r5encode_ok t s A n c w h hok

end Go.Proofs.Ytpededkfgjmhcaa.tile

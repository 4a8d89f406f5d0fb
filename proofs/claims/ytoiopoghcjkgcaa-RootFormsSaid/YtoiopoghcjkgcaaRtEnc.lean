/-
  The root of layer 6: isValid, head, Encode, slotOf, Area.
-/
import Derived.Test.YtoiopoghcjkgcaaRtForm
import Derived.Test.YtoiopoghcjkgcaaHeads
namespace Go.Proofs.Ytoiopoghcjkgcaa.root
open Go.RowKit Go.Proofs.Ytoiopoghcjkgcaa.crc

theorem rvalid_any (r : RV) (w : World) (hf : r.Fine) : Calls Try.prog 13 #[rtv r] w fun e w' => e = .returned (.bool (okR r)) ∧ Below w.heap.size w w' := by
  obtain ⟨n, len, s⟩ := r
  have hn := hf.n
  simp only at hn
  unfold okR rtv
  simp only
  have hb : Below w.heap.size w (w.alloc (.cells #[.int .u64 n, .int .i64 len, .int .u32 s] 25)) := (Below.refl _ _).alloc (Nat.le_refl _) _
  have HB := Lib.hid hb
  clear hb hf
  by_cases h1 : 1 ≤ n
  · have d1 : decide ((1 : Int) ≤ (n : Int)) = true := decide_eq_true (by omega)
    rw [decide_eq_true h1, Bool.true_and]
    by_cases h2 : 0 ≤ len
    · have d2 : decide (0 ≤ len) = true := decide_eq_true h2
      rw [d2, Bool.true_and]
      by_cases h3 : len ≤ 3072
      · have d3 : decide (len ≤ 3072) = true := decide_eq_true h3
        rw [d3]
        go_enter Try.func13, Try.ntmps13
        go_wp2
        go_ret
        exact ⟨rfl, HB.out⟩
      · have d3 : decide (len ≤ 3072) = false := decide_eq_false h3
        rw [d3]
        go_enter Try.func13, Try.ntmps13
        go_wp2
        go_ret
        exact ⟨rfl, HB.out⟩
    · have d2 : decide (0 ≤ len) = false := decide_eq_false h2
      rw [d2, Bool.false_and]
      go_enter Try.func13, Try.ntmps13
      go_wp2
      go_ret
      exact ⟨rfl, HB.out⟩
  · have h0 : n = 0 := by omega
    subst h0
    rw [decide_eq_false h1, Bool.false_and]
    go_enter Try.func13, Try.ntmps13
    go_wp2
    go_ret
    exact ⟨rfl, HB.out⟩

set_option maxRecDepth 100000 in
set_option maxHeartbeats 4000000 in
theorem rhead_any (r : RV) (w : World) (hf : r.Fine) (hok : okR r = true) : Calls Try.prog 16 #[rtv r] w fun e w' => ∃ v, e = .returned v ∧ Gives w w' v (headR r) := by
  obtain ⟨h1, h2, h3⟩ := okR_iff.1 hok
  obtain ⟨n, len, s⟩ := r
  simp only at h1 h2 h3
  have hn := hf.n
  have hs := hf.sm
  simp only at hn hs
  obtain ⟨k, rfl⟩ := Int.eq_ofNat_of_zero_le h2
  obtain ⟨L0, hL0⟩ : ∃ L, headR ⟨n, (k : Int), s⟩ = L := ⟨_, rfl⟩
  have hL : [81, 82, 1, 0] ++ be 8 n ++ be 4 k ++ be 4 s ++ List.replicate 96 0 = L0 := by rw [← hL0]; rfl
  have hLl : L0.length = 116 := by rw [← hL0]; exact headR_length _
  rw [hL0]
  obtain ⟨w0, hw0⟩ : ∃ w0, w.alloc (.cells #[.int .u64 n, .int .i64 (k : Int), .int .u32 s] 25) = w0 := ⟨_, rfl⟩
  have hx : Blk w0 w.heap.size 25 #[.int .u64 n, .int .i64 (k : Int), .int .u32 s] := by rw [← hw0]; exact Blk.new w _ _
  have hb0 : Below w.heap.size w w0 := by rw [← hw0]; exact (Below.refl _ _).alloc (Nat.le_refl _) _
  have k1 : IntKind.u64.wrap (k : Int) = (k : Int) := by rw [wrap_u64]; omega
  have k2 : IntKind.u64.wrap (s : Int) = (s : Int) := by rw [wrap_u64]; omega
  have f1 : fitsB 8 n = true := by simp [fitsB]; omega
  have f2 : fitsB 4 k = true := by simp [fitsB]; omega
  have f3 : fitsB 4 s = true := by simp [fitsB]; omega
  obtain ⟨B4, hB4⟩ : ∃ B, [] ++ [81, 82, 1, 0] ++ be 8 n = B := ⟨_, rfl⟩
  obtain ⟨C, hC⟩ := zeros_made (m := 96) (by omega) 96 rfl
  have hmk := fun W => (hC W).1
  have HRZ := Lib.hid (fun W => (hC W).2)
  have HZ := Lib.hid (WrN.made w0)
  have cv := conv_lit (w0.alloc (.cells #[.slice none 0 0, .pointer none] 44)) #[.int .u8 81, .int .u8 82, .int .u8 1, .int .u8 0] 4 4
  have hrm := reads_mark (w0.alloc (.cells #[.slice none 0 0, .pointer none] 44)) #[.int .u8 81, .int .u8 82, .int .u8 1, .int .u8 0] (4, 5) [81, 82, 1, 0] 4 rfl rfl
  simp only [World.size_alloc] at cv hrm
  have HRM := Lib.hid hrm
  have HX := Lib.hid hx
  have HB0 := Lib.hid hb0
  have HL := Lib.hid hL
  have HLL := Lib.hid hLl
  have XC : Hid (∀ W, Below w0.heap.size w0 W → W.cell? ⟨w.heap.size, 0, none⟩ = some (.int .u64 n) ∧ W.cell? ⟨w.heap.size, 1, none⟩ = some (.int .i64 (k : Int)) ∧ W.cell? ⟨w.heap.size, 2, none⟩ = some (.int .u32 s)) := Lib.hid (fun W h => by
    have hb := hx.below h hx.lt
    exact ⟨hb.cell 0, hb.cell 1, hb.cell 2⟩)
  clear hL0 hL hLl hx hb0 hC hrm hf hok h2 hB4
  unfold rtv
  simp only
  go_enter Try.func16, Try.ntmps16
  go_wp2_with (first
    | (go_at_call 17; (have l0 := G3.out; clear l0); (with_reducible refine (wrn_num G3.out 4 s 4 rfl (by omega) f3 (by omega) (by simp [be_length] <;> omega)).mono ?_); rintro e w4 ⟨rfl, g5⟩; have G4 := Lib.hid g5; clear g5)
    | (go_at_call 17; (have l0 := G2.out; clear l0); (with_reducible refine (wrn_num G2.out 4 k 4 rfl (by omega) f2 (by omega) (by simp [be_length] <;> omega)).mono ?_); rintro e w8 ⟨rfl, g4⟩; obtain ⟨x0, x1, x2⟩ := XC.out w8 g4.frame; have G3 := Lib.hid g4; clear g4)
    | (go_at_call 17; (have l0 := G1.out; clear l0); (with_reducible refine (wrn_num G1.out 8 n 8 rfl (by omega) f1 hn (by simp)).mono ?_); rintro e w3 ⟨rfl, g3⟩; obtain ⟨x0, x1, x2⟩ := XC.out w3 g3.frame; have G2 := Lib.hid g3; clear g3)
    | (go_at_call 14; (have l0 := HRM.out; clear l0); refine ((HZ.out.below (((Below.refl _ _).alloc (Nat.le_refl _) _))).raw (some ⟨w0.heap.size + 1, 0, none⟩) 4 4 [81, 82, 1, 0] (by simpa only [World.size_alloc] using HRM.out) (fun _ ad e => by injection e with e; subst e; simp) (by simp)).mono ?_; rintro e w2 ⟨rfl, g2⟩; clear HRM cv; obtain ⟨x0, x1, x2⟩ := XC.out w2 g2.frame; have G1 := Lib.hid g2; clear g2))
  have HLE := Lib.hid (wrn_len G4.out)
  have e20 : ([] ++ [81, 82, 1, 0] ++ be 8 n ++ be 4 k ++ be 4 s : List UInt8).length = 20 := by simp [be_length]
  rw [e20] at HLE
  have HN : Hid (w4.heap.size ≠ w0.heap.size) := Lib.hid (by have := wrn_lt G4.out; omega)
  clear e20
  go_wp2_with (first
    | (go_at_call 30; refine HLE.out.mono ?_; rintro e _ ⟨rfl, rfl⟩)
    | (go_at_call 14; refine ((G4.out.below ((Below.refl _ _).alloc (Nat.le_refl _) _)).raw (some ⟨w4.heap.size, 0, none⟩) 96 96 (List.replicate 96 0) (Reads.of_own (HRZ.out w4)) (fun _ ad e => by injection e with e; subst e; exact HN.out) (by simp [be_length])).mono ?_; rintro e w5 ⟨rfl, g5⟩; simp only [List.nil_append] at g5; rw [HL.out] at g5; have G5 := Lib.hid g5; clear g5)
    | (go_at_call 18; refine (G5.out.bytes (by rw [HLL.out]; omega)).mono ?_; rintro e w6 ⟨v, rfl, g6⟩; have G6 := Lib.hid g6; clear g6))
  go_ret
  obtain ⟨A, c, rfl, ho, hb⟩ := G6.out
  exact ⟨_, rfl, A, c, rfl, own_mono ho HB0.out.size, HB0.out.trans (hb.mono HB0.out.size)⟩

set_option maxRecDepth 100000 in
set_option maxHeartbeats 4000000 in
theorem rencode_ok (r : RV) (w : World) (hf : r.Fine) (hok : okR r = true) : Calls Try.prog 6 #[rtv r] w fun e w' => ∃ v, e = .returned (.tuple #[v, .int .i64 0]) ∧ Gives w w' v (sectR r) := by
  have hn := hf.n
  obtain ⟨H0, hH0⟩ : ∃ H, headR r = H := ⟨_, rfl⟩
  obtain ⟨B0, hB0⟩ : ∃ B, H0 ++ four (sum (bitsB H0)) = B := ⟨_, rfl⟩
  have hH : H0.length = 116 := by rw [← hH0]; exact headR_length r
  have hB : B0.length = 120 := by rw [← hB0, List.length_append, hH, four_length]
  have hS : B0 ++ be 8 r.n = sectR r := by rw [← hB0, ← hH0]; rfl
  obtain ⟨S0, hS0⟩ : ∃ S, sectR r = S := ⟨_, rfl⟩
  rw [hS0] at hS ⊢
  have hSl : S0.length = 128 := by rw [← hS0]; exact sectR_length r
  obtain ⟨w0, hw0⟩ : ∃ w0, w.alloc (.cells #[.int .u64 r.n, .int .i64 r.len, .int .u32 r.sm] 25) = w0 := ⟨_, rfl⟩
  have hx : Blk w0 w.heap.size 25 #[.int .u64 r.n, .int .i64 r.len, .int .u32 r.sm] := by rw [← hw0]; exact Blk.new w _ _
  have hb0 : Below w.heap.size w w0 := by rw [← hw0]; exact (Below.refl _ _).alloc (Nat.le_refl _) _
  have HV := Lib.hid (fun W => rvalid_any r W hf)
  have HH := Lib.hid (fun W => rhead_any r W hf hok)
  have HSL := Lib.hid (fun A c W h => cseal_any A c H0 W h (by omega))
  rw [hok] at HV
  rw [hH0] at HH
  rw [hB0, hH] at HSL
  have HZ := Lib.hid (WrN.made)
  have HX := Lib.hid hx
  have HB0 := Lib.hid hb0
  have HHL := Lib.hid hH
  have HBL := Lib.hid hB
  have HS := Lib.hid hS
  have HSS := Lib.hid hSl
  have f8 : fitsB 8 r.n = true := by simp [fitsB]; omega
  have XC : Hid (∀ W, Below w0.heap.size w0 W → W.cell? ⟨w.heap.size, 0, none⟩ = some (.int .u64 r.n) ∧ W.cell? ⟨w.heap.size, 1, none⟩ = some (.int .i64 r.len) ∧ W.cell? ⟨w.heap.size, 2, none⟩ = some (.int .u32 r.sm)) := Lib.hid (fun W h => by
    have hb := hx.below h hx.lt
    exact ⟨hb.cell 0, hb.cell 1, hb.cell 2⟩)
  clear hH0 hB0 hH hB hS hS0 hSl hx hb0 hf hok
  unfold rtv at HV HH ⊢
  obtain ⟨x0, x1, x2⟩ := XC.out w0 (Below.refl _ _)
  go_enter Try.func6, Try.ntmps6
  go_wp2_with (first
    | (go_at_call 13; refine (HV.out w0).mono ?_; rintro e w1 ⟨rfl, b1⟩; clear hw0; have K1 := Lib.hid b1; obtain ⟨x0, x1, x2⟩ := XC.out w1 b1; have z1 := HZ.out w1; have Z1 := Lib.hid z1; have k2 := b1.alloc b1.size (.cells #[.slice none 0 0, .pointer none] 44); have K2 := Lib.hid k2; obtain ⟨y0, y1, y2⟩ := XC.out _ k2; clear b1 z1 k2)
    | (go_at_call 16; refine (HH.out _).mono ?_; rintro e w3 ⟨v, rfl, g⟩; obtain ⟨A3, c3, rfl, o3, b3⟩ := gives_len g HHL.out; have K3 := Lib.hid (K2.out.trans (b3.mono K2.out.size)); have O3 := Lib.hid o3; have Z3 := Lib.hid (Z1.out.below b3); clear g o3 b3)
    | (go_at_call 15; refine (HSL.out A3 c3 w3 (Reads.of_own O3.out)).mono ?_; rintro e w4 ⟨v, rfl, g⟩; obtain ⟨A4, c4, rfl, o4, b4⟩ := gives_len g HBL.out; have K4 := Lib.hid (K3.out.trans (b4.mono K3.out.size)); have O4 := Lib.hid o4; have Z4 := Lib.hid (Z3.out.below b4); have N4 : Hid (w1.heap.size < w3.heap.size) := Lib.hid (wrn_lt Z3.out); clear g o4 b4)
    | (go_at_call 14; refine (Z4.out.raw A4 120 c4 B0 (Reads.of_own O4.out) (fun _ ad e => by subst e; have := N4.out; have := own_at_block O4.out; omega) (by simp)).mono ?_; rintro e w5 ⟨rfl, g5⟩; have K5 := Lib.hid (K1.out.trans (g5.frame.mono K1.out.size)); obtain ⟨x0, x1, x2⟩ := XC.out w5 K5.out; have G5 := Lib.hid g5; clear g5)
    | (go_at_call 17; ((with_reducible refine (wrn_num G5.out 8 r.n 8 rfl (by omega) f8 hn (by rw [List.nil_append, HBL.out]; omega)).mono ?_); rintro e w6 ⟨rfl, g6⟩; rw [List.nil_append, HS.out] at g6; have G6 := Lib.hid g6; clear g6))
    | (go_at_call 18; refine (G6.out.bytes (by rw [HSS.out]; omega)).mono ?_; rintro e w7 ⟨v, rfl, g7⟩; have G7 := Lib.hid g7; clear g7))
  go_ret2
  obtain ⟨A, c, rfl, ho, hb⟩ := G7.out
  have hk1 := HB0.out.trans (K1.out.mono HB0.out.size)
  exact ⟨_, rfl, A, c, rfl, own_mono ho hk1.size, hk1.trans (hb.mono hk1.size)⟩

theorem rencode_bad (r : RV) (w : World) (hf : r.Fine) (hok : okR r = false) : Calls Try.prog 6 #[rtv r] w fun e w' => e = .returned (.tuple #[.slice none 0 0, .int .i64 60]) ∧ Below w.heap.size w w' := by
  obtain ⟨w0, hw0⟩ : ∃ w0, w.alloc (.cells #[.int .u64 r.n, .int .i64 r.len, .int .u32 r.sm] 25) = w0 := ⟨_, rfl⟩
  have hb0 : Below w.heap.size w w0 := by rw [← hw0]; exact (Below.refl _ _).alloc (Nat.le_refl _) _
  have hx : Blk w0 w.heap.size 25 #[.int .u64 r.n, .int .i64 r.len, .int .u32 r.sm] := by rw [← hw0]; exact Blk.new w _ _
  have x0 := hx.cell 0
  have x1 := hx.cell 1
  have x2 := hx.cell 2
  have HV := Lib.hid (fun W => rvalid_any r W hf)
  rw [hok] at HV
  have HB0 := Lib.hid hb0
  clear hb0 hf hok hx
  unfold rtv at HV ⊢
  go_enter Try.func6, Try.ntmps6
  go_wp2_with (go_at_call 13; refine (HV.out w0).mono ?_; rintro e w1 ⟨rfl, b1⟩; clear hw0; have K1 := Lib.hid b1; clear b1)
  go_ret2
  exact ⟨rfl, HB0.out.trans (K1.out.mono HB0.out.size)⟩

theorem rencode_any (r : RV) (w : World) (hf : r.Fine) : Calls Try.prog 6 #[rtv r] w fun e w' => ∃ v, e = .returned (.tuple #[v, .int .i64 (errR r)]) ∧ Gives w w' v (outR r) := by
  unfold errR outR
  cases hok : okR r
  · rw [if_neg (by decide), if_neg (by decide)]
    refine (rencode_bad r w hf hok).mono ?_
    rintro e w' ⟨rfl, hb⟩
    exact ⟨_, rfl, none, 0, rfl, World.ownsRow_nil _ _ _ _, hb⟩
  · rw [if_pos rfl, if_pos rfl]
    exact rencode_ok r w hf hok

theorem rslotof_any (n : Nat) (w : World) (hn : n < 18446744073709551616) : Calls Try.prog 24 #[.int .u64 n] w fun e w' => e = .returned (.int .i64 ((n % 2 : Nat) : Int)) ∧ w = w' := by
  have e : IntKind.i64.wrap ((n : Int) % 2) = ((n % 2 : Nat) : Int) := by rw [show (n : Int) % 2 = ((n % 2 : Nat) : Int) by omega]; exact IntWalk.i64_in _ (by omega)
  go_enter Try.func24, Try.ntmps24
  go_wp2
  go_ret
  exact ⟨by go_num, rfl⟩

def areaR (n : Nat) : Int := if n % 2 = 0 then 2 else 26
theorem rarea_any (n : Nat) (w : World) (hn : n < 18446744073709551616) : Calls Try.prog 10 #[.int .u64 n] w fun e w' => e = .returned (.int .i64 (areaR n)) ∧ w = w' := by
  have H := Lib.hid (rslotof_any n w hn)
  unfold areaR
  rcases Nat.mod_two_eq_zero_or_one n with h | h
  · rw [h] at H ⊢
    clear h
    go_enter Try.func10, Try.ntmps10
    go_wp2_with (go_at_call 24; refine H.out.mono ?_; rintro e _ ⟨rfl, rfl⟩)
    go_ret
    exact ⟨rfl, rfl⟩
  · rw [h] at H ⊢
    clear h
    go_enter Try.func10, Try.ntmps10
    go_wp2_with (go_at_call 24; refine H.out.mono ?_; rintro e _ ⟨rfl, rfl⟩)
    go_ret
    exact ⟨rfl, rfl⟩

end Go.Proofs.Ytoiopoghcjkgcaa.root

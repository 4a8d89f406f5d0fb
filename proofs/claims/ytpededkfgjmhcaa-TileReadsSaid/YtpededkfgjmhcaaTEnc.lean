/-
  The tile of layer 5: writeFields, Encode.
-/
import Derived.Test.YtpededkfgjmhcaaTLook
import Derived.Test.YtpededkfgjmhcaaCrcS
import Derived.Test.YtpededkfgjmhcaaCrcSeals
import Derived.Test.YtpededkfgjmhcaaCrcAlive
namespace Go.Proofs.Ytpededkfgjmhcaa.crc
open Go.RowKit Go.Proofs.Ytpededkfgjmhcaa.tile

theorem wr_off {w : World} {b c q : Nat} {A u : Option Addr} {l : List UInt8} {cs : Array Value} (h : Wr w b A c u l) (hq : Blk w q 24 cs) : ¬ foot b A u q := by
  rintro (rfl | ⟨ad, rfl, rfl⟩ | ⟨p, rfl, rfl⟩)
  · exact h.blk.ne_ hq (by decide) rfl
  · exact own_blk_ne h.own hq (by decide) rfl
  · obtain ⟨g, rfl, hg⟩ := h.used p rfl
    exact hg.ne_ hq (by decide) rfl

theorem WrN.num_keep {N w : World} {b q : Nat} {l : List UInt8} {cs : Array Value} (h : WrN N w b l) (hq : Blk w q 24 cs) (sz : Int) (size n : Nat) (hz : (size : Int) = sz) (hs : size = 1 ∨ size = 2 ∨ size = 4 ∨ size = 8) (hf : fitsB size n = true) (hn : n < 18446744073709551616) (hlen : l.length + size ≤ 140737488355328) :
    Calls Try.prog 22 #[.pointer (some ⟨b, 0, none⟩), .int .i64 sz, .int .u64 n] w fun e w' => e = .returned (.int .i64 0) ∧ WrN N w' b (l ++ be size n) ∧ Blk w' q 24 cs := by
  obtain ⟨A, c, u, h1, h2, h3⟩ := h
  subst hz
  refine (wnum_ok w b A c u l h1 size n hs hf hn hlen).mono ?_
  rintro e w' ⟨rfl, hq2⟩
  have hk := hq2
  obtain ⟨_, _, _, _, _, hk⟩ := hk
  exact ⟨rfl, WrN.wrote h2 h3 hq2, hk.blk hq (wr_off h1 hq)⟩
theorem WrN.int {N w : World} {b : Nat} {l : List UInt8} (h : WrN N w b l) (x : Int) (hlen : l.length + 8 ≤ 140737488355328) :
    Calls Try.prog 23 #[.pointer (some ⟨b, 0, none⟩), .int .i64 x] w fun e w' => e = .returned (.int .i64 0) ∧ WrN N w' b (l ++ i8 x) := by
  obtain ⟨A, c, u, h1, h2, h3⟩ := h
  refine (wint_any w b A c u l h1 x hlen).mono ?_
  rintro e w' ⟨rfl, hq⟩
  exact ⟨rfl, WrN.wrote h2 h3 hq⟩
theorem WrN.len {N w : World} {b : Nat} {l : List UInt8} (h : WrN N w b l) :
    Calls Try.prog 24 #[.pointer (some ⟨b, 0, none⟩)] w fun e w' => e = .returned (.int .i64 l.length) ∧ w = w' := by
  obtain ⟨A, c, u, h1, h2, h3⟩ := h
  exact wlen_any w b A c u l h1
theorem WrN.lt {N w : World} {b : Nat} {l : List UInt8} (h : WrN N w b l) : b < w.heap.size := by
  obtain ⟨A, c, u, h1, h2, h3⟩ := h
  exact h1.blk.lt

end Go.Proofs.Ytpededkfgjmhcaa.crc
namespace Go.Proofs.Ytpededkfgjmhcaa.tile
open Go.RowKit Go.Proofs.Ytpededkfgjmhcaa.crc Go.Proofs.Ytpededkfgjmhcaa.crcSeals Go.Proofs.Ytpededkfgjmhcaa.crcJoins

set_option maxHeartbeats 2000000 in
theorem tfields_any {N w : World} {b : Nat} {l : List UInt8} (h : WrN N w b l) (t : TV) (A : Option Addr) (n c k f m : Nat) (hk : t.kind = k) (hf : t.file = f) (hm : t.no = m) (bk : k < 256) (bf : f < 9223372036854775808) (bm : m < 4294967296) (bn : n < 4294967296)
    (hl : l.length + 17 ≤ 140737488355328) :
    Calls Try.prog 21 #[.func (.func 22) #[.pointer (some ⟨b, 0, none⟩)] #[], tv t A n c] w fun e w' => e = .returned (.tuple #[]) ∧ WrN N w' b (l ++ be 1 k ++ be 8 f ++ be 4 m ++ be 4 n) := by
  unfold tv
  rw [hk, hf, hm]
  obtain ⟨q, hq⟩ : ∃ q, w.heap.size = q := ⟨_, rfl⟩
  have hb0 := Blk.new w 24 #[.int .i64 (f : Int), .int .i64 (m : Int), .int .i64 (k : Int), .slice A n c]
  rw [hq] at hb0
  have h0 : WrN N (w.alloc (.cells #[.int .i64 (f : Int), .int .i64 (m : Int), .int .i64 (k : Int), .slice A n c] 24)) b l := h.below ((Below.refl _ _).alloc (Nat.le_refl _) _)
  have k1 : IntKind.u64.wrap (k : Int) = (k : Int) := by rw [wrap_u64]; omega
  have k2 : IntKind.u64.wrap (f : Int) = (f : Int) := by rw [wrap_u64]; omega
  have k3 : IntKind.u64.wrap (m : Int) = (m : Int) := by rw [wrap_u64]; omega
  have k4 : IntKind.u64.wrap (n : Int) = (n : Int) := by rw [wrap_u64]; omega
  have f1 : fitsB 1 k = true := by simp [fitsB]; omega
  have f2 : fitsB 8 f = true := by simp [fitsB]; omega
  have f3 : fitsB 4 m = true := by simp [fitsB]; omega
  have f4 : fitsB 4 n = true := by simp [fitsB]; omega
  have H1 := Lib.hid (h0.num_keep hb0 1 1 k rfl (by omega) f1 (by omega) (by omega))
  have c2 := hb0.cell 2
  have HQ := Lib.hid hq
  clear h hq hb0 h0 hk hf hm
  rw [← HQ.out] at c2
  go_enter Try.func21, Try.ntmps21
  go_wp2_with (first
    | ((have l0 := G3.out; clear l0); (with_reducible refine (G3.out.num_keep B3.out 4 4 n rfl (by omega) f4 (by omega) (by simp [be_length]; omega)).mono ?_); rintro e w4 ⟨rfl, g4, b4⟩; have G4 := Lib.hid g4; clear g4 b4)
    | ((have l0 := G2.out; clear l0); (with_reducible refine (G2.out.num_keep B2.out 4 4 m rfl (by omega) f3 (by omega) (by simp [be_length]; omega)).mono ?_); rintro e w3 ⟨rfl, g3, b3⟩; have c3 := b3.cell 3; rw [← HQ.out] at c3; have G3 := Lib.hid g3; have B3 := Lib.hid b3; clear g3 b3)
    | ((have l0 := G1.out; clear l0); (with_reducible refine (G1.out.num_keep B1.out 8 8 f rfl (by omega) f2 (by omega) (by simp [be_length]; omega)).mono ?_); rintro e w2 ⟨rfl, g2, b2⟩; have c1 := b2.cell 1; rw [← HQ.out] at c1; have G2 := Lib.hid g2; have B2 := Lib.hid b2; clear g2 b2)
    | ((with_reducible refine H1.out.mono ?_); rintro e w1 ⟨rfl, g1, b1⟩; have c0 := b1.cell 0; rw [← HQ.out] at c0; have G1 := Lib.hid g1; have B1 := Lib.hid b1; clear g1 b1))

  go_end0
  exact ⟨rfl, G4.out⟩

/-! ### Encode -/
theorem make_zeros {m : Nat} (hm : m ≤ 9000) (z : Int) (hz : z = (m : Int)) (w : World) : (Instr.makeSlice 25 (.int .i64 z) (.int .i64 z)).run Try.prog w = .ok (.slice (some ⟨w.heap.size, 0, none⟩) m m) (w.alloc (.cells (madeCells (Value.int .u8 0).cells (m * 1)) 5)) := by
  obtain ⟨i0, hi, hz0, hz1, hz2⟩ := info_parts infoU8
  subst hz
  have := run_make (P := Try.prog) w 25 5 i0 _ Try.underlying25 hi hz0 .i64 .i64 (m : Int) (m : Int) (by omega) (by omega) (by rw [hz2]; omega) (by omega)
  rw [hz1, Int.toNat_natCast] at this
  exact this
theorem reads_zeros (m : Nat) (w : World) (h : m ≤ 9000) : Reads (w.alloc (.cells (madeCells (Value.int .u8 0).cells (m * 1)) 5)) (w.alloc (.cells (madeCells (Value.int .u8 0).cells (m * 1)) 5)).heap.size 1 (some ⟨w.heap.size, 0, none⟩) m ((List.replicate m (0 : UInt8)).map bv) := by
  have hl : (madeCells (Value.int .u8 0).cells (m * 1)).toList = List.replicate m (.int .u8 0) := by rw [Nat.mul_one]; exact toList_madeCells_one _ _
  have e : (List.replicate m (0 : UInt8)).map bv = List.replicate m (.int .u8 0) := by rw [List.map_replicate]; rfl
  rw [e]
  exact Reads.of_own (own_of_alloc w _ _ m (by rw [← hl]) (by simp) (by unfold maxLen; omega))
theorem zeros_made {m : Nat} (hm : m ≤ 9000) (z : Int) (hz : z = (m : Int)) : ∃ C : Array Value, ∀ w : World,
    (Instr.makeSlice 25 (.int .i64 z) (.int .i64 z)).run Try.prog w = .ok (.slice (some ⟨w.heap.size, 0, none⟩) m m) (w.alloc (.cells C 5)) ∧
    Reads (w.alloc (.cells C 5)) (w.alloc (.cells C 5)).heap.size 1 (some ⟨w.heap.size, 0, none⟩) m ((List.replicate m (0 : UInt8)).map bv) :=
  ⟨_, fun w => ⟨make_zeros hm z hz w, reads_zeros m w hm⟩⟩

set_option maxHeartbeats 4000000 in
theorem tencode_bad (t : TV) (s : Int) (A : Option Addr) (n c : Nat) (w : World) (h : TEl w t A n) (hok : okT t s = false) :
    Calls Try.prog 9 #[tv t A n c, .int .i64 s] w fun e w' => ∃ v, e = .returned (.tuple #[v, .int .i64 (errT t s)]) ∧ Gives w w' v (outT t s) := by
  have he : errT t s = 50 := by unfold errT; rw [hok]; rfl
  have ho : outT t s = [] := by unfold outT; rw [hok]; rfl
  have hb0 : Below w.heap.size w (w.alloc (.cells #[.int .i64 t.file, .int .i64 t.no, .int .i64 t.kind, .slice A n c] 24)) := (Below.refl _ _).alloc (Nat.le_refl _) _
  have H := Lib.hid (tcheck_any t s A n c _ (h.below hb0))
  rw [he] at H ⊢
  rw [ho]
  have HB := Lib.hid hb0
  clear h hok he ho hb0
  unfold tv at *
  go_enter Try.func9, Try.ntmps9
  go_wp2_with (go_at_call 11; refine H.out.mono ?_; rintro e w1 ⟨rfl, hb⟩; have HB1 := Lib.hid (HB.out.trans (hb.mono HB.out.size)); clear hb)
  go_ret2
  exact ⟨_, rfl, none, 0, rfl, World.ownsRow_nil _ _ _ _, HB1.out⟩

set_option maxRecDepth 100000 in
set_option maxHeartbeats 4000000 in
theorem tencode_ok (t : TV) (s : Int) (A : Option Addr) (n c : Nat) (w : World) (h : TEl w t A n) (hok : okT t s = true) :
    Calls Try.prog 9 #[tv t A n c, .int .i64 s] w fun e w' => ∃ v, e = .returned (.tuple #[v, .int .i64 (errT t s)]) ∧ Gives w w' v (outT t s) := by
  have he : errT t s = 0 := by unfold errT; rw [hok]; rfl
  have ho : outT t s = bytesT t s.toNat := by unfold outT; rw [hok]; rfl
  obtain ⟨hs, o1, o2, o3, o4, o5, _⟩ := okT_of hok
  have hb0 : Below w.heap.size w (w.alloc (.cells #[.int .i64 t.file, .int .i64 t.no, .int .i64 t.kind, .slice A n c] 24)) := (Below.refl _ _).alloc (Nat.le_refl _) _
  have HC := Lib.hid (tcheck_any t s A n c _ (h.below hb0))
  rw [he] at HC ⊢
  rw [ho]
  obtain ⟨S, rfl⟩ := Int.eq_ofNat_of_zero_le (a := s) (by omega)
  obtain ⟨tf, tm, tk, el⟩ := t
  simp only at o1 o2 o3 o4 o5 HC hb0
  obtain ⟨hl, hr, hn, hfi⟩ := h
  have hff := hfi.file
  unfold i64ok at hff
  simp only at hl hr hff
  clear hfi
  obtain ⟨f, rfl⟩ := Int.eq_ofNat_of_zero_le (a := tf) (by omega)
  obtain ⟨m, rfl⟩ := Int.eq_ofNat_of_zero_le (a := tm) (by omega)
  obtain ⟨k, rfl⟩ := Int.eq_ofNat_of_zero_le (a := tk) (by omega)
  rw [Int.toNat_natCast] at o4 ⊢
  have HR := Lib.hid hr
  have HL := Lib.hid hl
  have HO : Hid (24 + 8 * n ≤ 128 * S ∧ S ≤ 64) := Lib.hid (by omega)
  have hx0 := Blk.new w 24 #[.int .i64 (f : Int), .int .i64 (m : Int), .int .i64 (k : Int), .slice A n c]
  have HX0 := Lib.hid hx0
  have HB0 := Lib.hid hb0
  have hel : ∀ (W : World), Below w.heap.size w W → Reads W W.heap.size 1 A n (el.map iv) := fun W hb => (hr.below hb).more hb.size
  have HEL := Lib.hid hel
  clear hr hl hok he ho hb0 hx0 hel
  unfold tv at HC ⊢
  go_enter Try.func9, Try.ntmps9
  go_wp2_with (first
    | (go_at_call 11; refine HC.out.mono ?_; rintro e w1 ⟨rfl, hb⟩; have hx1 := HX0.out.below hb HX0.out.lt; have HX1 := Lib.hid hx1; have HB1 := Lib.hid (HB0.out.trans (hb.mono HB0.out.size)); have hz := WrN.made w1; have HZ := Lib.hid hz
       have cv := conv_lit (w1.alloc (.cells #[.slice none 0 0, .pointer none] 49)) #[.int .u8 81, .int .u8 84, .int .u8 1] 3 3; have hrm := reads_mark (w1.alloc (.cells #[.slice none 0 0, .pointer none] 49)) #[.int .u8 81, .int .u8 84, .int .u8 1] (3, 4) [81, 84, 1] 3 rfl rfl; simp only [World.size_alloc] at cv hrm; have HRM := Lib.hid hrm; clear hb hx1 hz hrm)
    | (go_at_call 20; refine ((HZ.out.below (((Below.refl _ _).alloc (Nat.le_refl _) _))).raw (some ⟨w1.heap.size + 1, 0, none⟩) 3 3 [81, 84, 1] (by simpa only [World.size_alloc] using HRM.out) (fun _ ad e => by injection e with e; subst e; simp) (by simp)).mono ?_; rintro e w2 ⟨rfl, g2⟩; have hx2 := HX1.out.below g2.frame HX1.out.lt; have y0 := hx2.cell 0; have y1 := hx2.cell 1; have y2 := hx2.cell 2; have y3 := hx2.cell 3; have G2 := Lib.hid g2; clear g2 hx2)
    | (go_at_call 21; refine (tfields_any G2.out ⟨(f : Int), (m : Int), (k : Int), el⟩ A n c k f m rfl rfl rfl (by omega) (by omega) (by omega) (by have := HO.out; omega) (by simp)).mono ?_; rintro e w3 ⟨rfl, g3⟩; have hx3 := HX1.out.below g3.frame HX1.out.lt; have z3 := hx3.cell 3; have G3 := Lib.hid g3; clear g3 hx3))
  obtain ⟨HD, hHD⟩ : ∃ HD, [] ++ [81, 84, 1] ++ be 1 k ++ be 8 f ++ be 4 m ++ be 4 n = HD := ⟨_, rfl⟩
  have hHl : HD.length = 20 := by rw [← hHD]; simp [be_length]
  obtain ⟨Z, hZ⟩ : ∃ Z, S * 128 - 4 - (20 + 8 * n) = Z := ⟨_, rfl⟩
  have eZ : (S : Int) * 128 - 4 - (20 + 8 * (n : Int)) = (Z : Int) := by have := HO.out; omega
  have EZ := Lib.hid eZ
  have HZ9 : Hid (Z ≤ 9000) := Lib.hid (by have := HO.out; omega)
  obtain ⟨BT, hBT⟩ : ∃ BT, HD ++ elsB el ++ List.replicate Z 0 = BT := ⟨_, rfl⟩
  have hBl : BT.length ≤ 9000 := by have := HO.out; have := HL.out; rw [← hBT, List.length_append, List.length_append, hHl, elsB_length, List.length_replicate]; omega
  have hbody : bodyT ⟨(f : Int), (m : Int), (k : Int), el⟩ S = BT := by
    have hl2 := HL.out
    unfold bodyT headT
    simp only [Int.toNat_natCast, hl2, hZ]
    rw [← hBT, ← hHD]
    rfl
  have HBODY := Lib.hid hbody
  have HHD := Lib.hid hHD
  have HHL := Lib.hid hHl
  have HBT := Lib.hid hBT
  have HBL := Lib.hid hBl
  have HB3 := Lib.hid (HB1.out.trans (G3.out.frame.mono HB1.out.size))
  have G0 : Hid (WrN w1 w3 w1.heap.size (HD ++ elsB (el.take 0))) := Lib.hid (by
    have h := G3.out
    rw [HHD.out] at h
    simpa [elsB] using h)
  obtain ⟨bw, hbw⟩ : ∃ bw, bw = w1.heap.size := ⟨_, rfl⟩
  clear eZ hZ hHD hHl hBT hBl hbody G3 z3 y0 y1 y2 y3 cv HRM G2 HZ HX1 HC HX0
  go_loopw [25] (fun i wr => ∃ j, j ≤ n ∧ i = .int .i64 ((j : Nat) : Int) ∧ WrN w1 wr w1.heap.size (HD ++ elsB (el.take j))) (fun i _ => n - (intOf i).toNat)
  case atStart => exact ⟨0, Nat.zero_le _, rfl, G0.out⟩
  case round =>
    obtain ⟨j, hj, rfl, hg⟩ := hrel
    have hbr := HB1.out.trans (hg.frame.mono HB1.out.size)
    by_cases hlt : j < n
    · obtain ⟨adA, rfl, _, cA⟩ := (HEL.out wr hbr).int_at hlt HL.out
      have hjl : j < el.length := by have := HL.out; omega
      have hstep : HD ++ elsB (el.take j) ++ i8 el[j] = HD ++ elsB (el.take (j + 1)) := by rw [List.take_succ_eq_append_getElem hjl, elsB_snoc, List.append_assoc]
      have hlen8 : (HD ++ elsB (el.take j)).length + 8 ≤ 140737488355328 := by have := HO.out; rw [List.length_append, HHL.out, elsB_length, List.length_take]; omega
      have HI := Lib.hid (hg.int el[j] hlen8)
      rw [hstep] at HI
      generalize el[j] = x at *
      have HG := Lib.hid hg
      clear hg hbr hstep hlen8
      go_wp2_with (go_at_call 23; refine HI.out.mono ?_; rintro e w4 ⟨rfl, g4⟩; have G4 := Lib.hid g4; clear g4)
      exact ⟨⟨j + 1, by omega, by go_num, G4.out⟩, by simp [intOf]; omega⟩
    · obtain rfl : j = n := by omega
      rw [List.take_of_length_le (by have := HL.out; omega)] at hg
      have hle := hg.len
      rw [List.length_append, HHL.out, elsB_length, HL.out] at hle
      have HLE := Lib.hid hle
      have HG := Lib.hid hg
      obtain ⟨C, hC⟩ := zeros_made HZ9.out _ EZ.out
      have hmk := fun W => (hC W).1
      have HRZ := Lib.hid (hC wr).2
      clear hC
      have hb9 : w1.heap.size ≠ wr.heap.size := by have := hg.lt; omega
      have hlz : (HD ++ elsB el).length + Z ≤ 140737488355328 := by have := HO.out; have := HZ9.out; rw [List.length_append, HHL.out, elsB_length, HL.out]; omega
      clear hg hle hbr
      obtain ⟨q1, q2⟩ := HO.out
      obtain ⟨SL, hSL⟩ : ∃ SL, BT ++ four (sum (bitsB BT)) = SL := ⟨_, rfl⟩
      have hsl := fun A c W h => cseal_any A c BT W h (by have := HBL.out; omega)
      rw [hSL] at hsl
      have HSL := Lib.hid hsl
      have HSB : Hid (bytesT ⟨(f : Int), (m : Int), (k : Int), el⟩ S = SL) := Lib.hid (by unfold bytesT; rw [HBODY.out, hSL])
      clear hsl hSL
      go_wp2_with (first
        | (go_at_call 24; refine HLE.out.mono ?_; rintro e _ ⟨rfl, rfl⟩)
        | (go_at_call 20; refine ((HG.out.below ((Below.refl _ _).alloc (Nat.le_refl _) _)).raw (some ⟨wr.heap.size, 0, none⟩) Z Z (List.replicate Z 0) HRZ.out (fun _ ad e => by injection e with e; subst e; exact fun h => hb9 h.symm) hlz).mono ?_; rintro e w5 ⟨rfl, g5⟩; rw [HBT.out] at g5; have G5 := Lib.hid g5; clear g5)
        | (go_at_call 26; refine (G5.out.bytes (by have := HBL.out; omega)).mono ?_; rintro e w6 ⟨v, rfl, g6⟩; obtain ⟨A6, c6, rfl, o6, b6, _⟩ := gives_conv g6; have O6 := Lib.hid o6; have B6 := Lib.hid (HB1.out.trans (b6.mono HB1.out.size)); clear g6 o6 b6)
        | (go_at_call 25; refine (HSL.out A6 c6 w6 (Reads.of_own O6.out)).mono ?_; rintro e w7 ⟨v, rfl, g7⟩; obtain ⟨A7, c7, rfl, o7, b7, _⟩ := gives_conv g7; have O7 := Lib.hid o7; have B7 := Lib.hid (B6.out.trans (b7.mono B6.out.size)); clear g7 o7 b7))
      go_ret2
      refine ⟨_, rfl, A7, c7, ?_, ?_, B7.out⟩
      · rw [HSB.out]
        rfl
      · rw [HSB.out]
        exact own_mono O7.out B6.out.size

theorem tencode_any (t : TV) (s : Int) (A : Option Addr) (n c : Nat) (w : World) (h : TEl w t A n) :
    Calls Try.prog 9 #[tv t A n c, .int .i64 s] w fun e w' => ∃ v, e = .returned (.tuple #[v, .int .i64 (errT t s)]) ∧ Gives w w' v (outT t s) := by
  cases hok : okT t s
  · exact tencode_bad t s A n c w h hok
  · exact tencode_ok t s A n c w h hok

end Go.Proofs.Ytpededkfgjmhcaa.tile

/-
  The walk of the statement RootForms: the sector of any root, the root of any bytes, or the error, and the area of any number, are the document's; bytes stay.
-/
import Derived.Test.YtoiopoghcjkgcaaRtRefD
import Derived.Test.YtoiopoghcjkgcaaInts
namespace Go.Proofs.Ytoiopoghcjkgcaa.rootForms
open Go.RowKit Go.Proofs.Ytoiopoghcjkgcaa.crc Go.Proofs.Ytoiopoghcjkgcaa.root

section
variable (r : RV) (A : Option Addr) (n c : Nat) (l : List UInt8) (m : Nat) (w : World)

theorem walk_big (h : 500 < n) :
    Calls Try.prog 3 #[rtv r, .slice A n c, .int .u64 m] w fun e w' => e = .returned (.bool true) ∧ Below w.heap.size w w' := by
  have hd : decide ((500 : Int) < (n : Int)) = true := decide_eq_true (by omega)
  unfold rtv
  go_enter Try.func3, Try.ntmps3
  go_wp2
  go_ret
  exact ⟨rfl, (Below.refl _ _).alloc (Nat.le_refl _) _⟩

set_option maxRecDepth 100000 in
set_option maxHeartbeats 4000000 in
theorem walk_small (hf : r.Fine) (hl : l.length = n) (hr : Reads w w.heap.size 1 A n (l.map bv)) (hc : n ≤ c ∧ c ≤ 9223372036854775807) (hm : m < 18446744073709551616) (h : n ≤ 500) :
    Calls Try.prog 3 #[rtv r, .slice A n c, .int .u64 m] w fun e w' => e = .returned (.bool true) ∧ Below w.heap.size w w' := by
  have hd : decide ((500 : Int) < (n : Int)) = false := decide_eq_false (by omega)
  obtain ⟨w0, hw0⟩ : ∃ w0, w.alloc (.cells #[.int .u64 r.n, .int .i64 r.len, .int .u32 r.sm] 25) = w0 := ⟨_, rfl⟩
  have hx : Blk w0 w.heap.size 25 #[.int .u64 r.n, .int .i64 r.len, .int .u32 r.sm] := by rw [← hw0]; exact Blk.new w _ _
  have hb0 : Below w.heap.size w w0 := by rw [← hw0]; exact (Below.refl _ _).alloc (Nat.le_refl _) _
  have XC : Hid (∀ W, Below w0.heap.size w0 W → W.cell? ⟨w.heap.size, 0, none⟩ = some (.int .u64 r.n) ∧ W.cell? ⟨w.heap.size, 1, none⟩ = some (.int .i64 r.len) ∧ W.cell? ⟨w.heap.size, 2, none⟩ = some (.int .u32 r.sm)) := Lib.hid (fun W h => by
    have hb := hx.below h hx.lt
    exact ⟨hb.cell 0, hb.cell 1, hb.cell 2⟩)
  have RB := Lib.hid (fun W (h : Below w0.heap.size w0 W) => ((hr.below (hb0.trans (h.mono hb0.size))).more (hb0.trans (h.mono hb0.size)).size))
  have HT := Lib.hid (fun W h => twin_any A c n l W h (by omega))
  obtain ⟨er, her⟩ : ∃ x, errR r = x := ⟨_, rfl⟩
  obtain ⟨O, hO⟩ : ∃ x, outR r = x := ⟨_, rfl⟩
  obtain ⟨k, hk⟩ : ∃ x, O.length = x := ⟨_, rfl⟩
  have EN := Lib.hid (fun W => rencode_any r W hf)
  have RE := Lib.hid (fun W => r6encode_any r W hf)
  rw [her, hO] at EN RE
  have DE := Lib.hid (fun A c W h => rdecode_any A c n l W hl h)
  have RD := Lib.hid (fun W h => r6decode_any A c n l W hl h hc)
  generalize decErrR l = de at *
  obtain ⟨⟨dn, dl, ds⟩, hdr⟩ : ∃ x, decR l = x := ⟨_, rfl⟩
  rw [hdr] at DE RD
  have AR := Lib.hid (fun W => rarea_any m W hm)
  have RA := Lib.hid (fun W => r6area_any m W hm)
  generalize areaR m = ar at *
  have HK := Lib.hid hk
  have HB0 := Lib.hid hb0
  obtain ⟨x0, x1, x2⟩ := XC.out w0 (Below.refl _ _)
  clear hx hb0 hr her hO hk hdr hl hc hm hf
  unfold rtv at *
  have ll : (l == l) = true := by simp
  have oo : (O == O) = true := by simp
  go_enter Try.func3, Try.ntmps3
  go_wp2_with (first
    | (go_at_call 5; refine (HT.out w0 (RB.out w0 (Below.refl _ _))).mono ?_; rintro e w1 ⟨A1, c1, rfl, o1, b1⟩; clear hw0; have K1 := Lib.hid b1; have O1 := Lib.hid o1; obtain ⟨x0, x1, x2⟩ := XC.out w1 b1; clear o1 b1)
    | (go_at_call 6; refine (EN.out w1).mono ?_; rintro e w2 ⟨v, rfl, g⟩; obtain ⟨A2, c2, rfl, o2, b2⟩ := gives_len g HK.out; have K2 := Lib.hid (K1.out.trans (b2.mono K1.out.size)); have O2 := Lib.hid o2; have P2 := Lib.hid (own_stay O1.out b2); obtain ⟨x0, x1, x2⟩ := XC.out w2 K2.out; clear g o2 b2)
    | (go_at_call 7; refine (RE.out w2).mono ?_; rintro e w3 ⟨v, rfl, g⟩; obtain ⟨A3, c3, rfl, o3, b3⟩ := gives_len g HK.out; have K3 := Lib.hid (K2.out.trans (b3.mono K2.out.size)); have O3 := Lib.hid o3; have P3 := Lib.hid (own_stay P2.out b3); have Q3 := Lib.hid (own_stay O2.out b3); clear g o3 b3)
    | (go_at_call 8; refine (DE.out A1 c1 w3 (Reads.of_own P3.out)).mono ?_; rintro e w4 ⟨rfl, b4⟩; have K4 := Lib.hid (K3.out.trans (b4.mono K3.out.size)); have B4 := Lib.hid b4; clear b4)
    | (go_at_call 9; refine (RD.out _ (RB.out _ (K4.out.alloc K4.out.size _))).mono ?_; rintro e w5 ⟨rfl, b5⟩
       have hy := ((Blk.new w4 25 #[.int .u64 dn, .int .i64 dl, .int .u32 ds]).below b5 (by simp)).alloc (.cells #[.int .u64 dn, .int .i64 dl, .int .u32 ds] 25)
       have y0 := hy.cell 0; have y1 := hy.cell 1; have y2 := hy.cell 2
       have b35 : Below w3.heap.size w3 w5 := (B4.out.alloc B4.out.size _).trans (b5.mono (by have := B4.out.size; simp; omega))
       have K5 := Lib.hid (K3.out.trans (b35.mono K3.out.size))
       have cva := fun W (h : Below w5.heap.size w5 W) => conv_reads c2 ((Reads.of_own (own_stay Q3.out b35)).below h)
       have cvb := fun W (h : Below w5.heap.size w5 W) => conv_reads c3 ((Reads.of_own (own_stay O3.out b35)).below h)
       have cvc := fun W (h : Below w5.heap.size w5 W) => conv_reads c1 ((Reads.of_own (own_stay P3.out b35)).below h)
       have cvd := fun W (h : Below w5.heap.size w5 W) => conv_reads c ((RB.out _ (K5.out)).below h)
       have hb9 : Below w5.heap.size w5 (w5.alloc (.cells #[.int .u64 dn, .int .i64 dl, .int .u32 ds] 25)) := (Below.refl _ _).alloc (Nat.le_refl _) _
       have va := cva _ hb9; have vb := cvb _ hb9; have vc := cvc _ hb9; have vd := cvd _ hb9
       clear b5 hy b35 cva cvb cvc cvd hb9)
    | (go_at_call 10; refine (AR.out _).mono ?_; rintro e _ ⟨rfl, rfl⟩)
    | (go_at_call 11; refine (RA.out _).mono ?_; rintro e _ ⟨rfl, rfl⟩))
  go_ret
  exact ⟨rfl, HB0.out.trans ((K5.out.alloc K5.out.size _).mono HB0.out.size)⟩
/-- As the end calls it. -/
theorem call {W : World} (r : RV) (hf : r.Fine) (A : Option Addr) (c : Nat) (l : List UInt8) (a : Arg W A c l) (m : Nat) (hm : m < 18446744073709551616) (w : World) (hw : W = w := by rfl) :
    Calls Try.prog 3 #[rtv r, .slice A l.length c, .int .u64 m] w fun e w' => e = .returned (.bool true) ∧ Below w.heap.size w w' := by
  subst hw
  by_cases h : 500 < l.length
  · exact walk_big r A _ c m W h
  · exact walk_small r A _ c l m W hf rfl a.reads ⟨a.cap, by have := a.big; omega⟩ hm (by omega)
end
end Go.Proofs.Ytoiopoghcjkgcaa.rootForms

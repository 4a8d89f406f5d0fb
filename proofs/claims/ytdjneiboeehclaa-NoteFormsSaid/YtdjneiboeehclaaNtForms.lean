/-
  The walk of the statement NoteForms: the bytes of any note, and the note of any bytes, or the error, are the document's; bytes stay.
-/
import Derived.Test.YtdjneiboeehclaaNtRefD
import Derived.Test.YtdjneiboeehclaaCrcAlive
namespace Go.Proofs.Ytdjneiboeehclaa.noteForms
open Go.RowKit Go.Proofs.Ytdjneiboeehclaa.crc Go.Proofs.Ytdjneiboeehclaa.root Go.Proofs.Ytdjneiboeehclaa.note

section
variable (x : NV) (A : Option Addr) (n c : Nat) (l : List UInt8) (w : World)

theorem walk_big (h : 100 < n) :
    Calls Try.prog 3 #[nv x, .slice A n c] w fun e w' => e = .returned (.bool true) ∧ Below w.heap.size w w' := by
  have hd : decide ((100 : Int) < (n : Int)) = true := decide_eq_true (by omega)
  unfold nv
  go_enter Try.func3, Try.ntmps3
  go_wp2
  go_ret
  exact ⟨rfl, (Below.refl _ _).alloc (Nat.le_refl _) _⟩

theorem own_empty (w : World) : (w.alloc (.cells #[] 5)).ownsRow w.heap.size 5 1 (.slice (some ⟨w.heap.size, 0, none⟩) 0 0) 0 (([] : List UInt8).map bv) := World.ownsRow_made w #[] 0 (Nat.le_refl _) (Nat.zero_le _) rfl

set_option maxRecDepth 100000 in
set_option maxHeartbeats 8000000 in
theorem walk_small (hf : x.Fine) (hl : l.length = n) (hr : Reads w w.heap.size 1 A n (l.map bv)) (hc : n ≤ c ∧ c ≤ 9223372036854775807) (h : n ≤ 100) :
    Calls Try.prog 3 #[nv x, .slice A n c] w fun e w' => e = .returned (.bool true) ∧ Below w.heap.size w w' := by
  have hd : decide ((100 : Int) < (n : Int)) = false := decide_eq_false (by omega)
  obtain ⟨i0, hi, hz0, hz1, hz2⟩ := info_parts infoU8
  obtain ⟨er, her⟩ : ∃ y, errN x = y := ⟨_, rfl⟩
  obtain ⟨O, hO⟩ : ∃ y, outN x = y := ⟨_, rfl⟩
  obtain ⟨k, hk⟩ : ∃ y, O.length = y := ⟨_, rfl⟩
  have EN := Lib.hid (fun W => nencode_any x W hf)
  have RE := Lib.hid (fun W => r9encode_any x W hf)
  rw [her, hO] at EN RE
  have DE := Lib.hid (fun A c W h => ndecode_any A c n l W hl h)
  have RD := Lib.hid (fun W h => r9decode_any A c n l W hl h hc)
  generalize decErrN l = de at *
  obtain ⟨⟨dk, da, db, dn⟩, hdr⟩ : ∃ y, decN l = y := ⟨_, rfl⟩
  rw [hdr] at DE RD
  obtain ⟨xk, xa, xb, xn⟩ := x
  obtain ⟨w0, hw0⟩ : ∃ w0, w.alloc (.cells #[.int .i64 xk, .int .i64 xa, .int .i64 xb, .int .i64 xn] 23) = w0 := ⟨_, rfl⟩
  have hx : Blk w0 w.heap.size 23 #[.int .i64 xk, .int .i64 xa, .int .i64 xb, .int .i64 xn] := by rw [← hw0]; exact Blk.new w _ _
  have hb0 : Below w.heap.size w w0 := by rw [← hw0]; exact (Below.refl _ _).alloc (Nat.le_refl _) _
  have XC : Hid (∀ W, Below w0.heap.size w0 W → W.cell? ⟨w.heap.size, 0, none⟩ = some (.int .i64 xk) ∧ W.cell? ⟨w.heap.size, 1, none⟩ = some (.int .i64 xa) ∧ W.cell? ⟨w.heap.size, 2, none⟩ = some (.int .i64 xb) ∧ W.cell? ⟨w.heap.size, 3, none⟩ = some (.int .i64 xn)) := Lib.hid (fun W h => by
    have hb := hx.below h hx.lt
    exact ⟨hb.cell 0, hb.cell 1, hb.cell 2, hb.cell 3⟩)
  have RB := Lib.hid (fun W (h : Below w0.heap.size w0 W) => ((hr.below (hb0.trans (h.mono hb0.size))).more (hb0.trans (h.mono hb0.size)).size))
  have HK := Lib.hid hk
  have HB0 := Lib.hid hb0
  have KA : Hid (Below w0.heap.size w0 (w0.alloc (.cells #[] 5))) := Lib.hid ((Below.refl _ _).alloc (Nat.le_refl _) _)
  have hcat : ((⟨l.toArray⟩ : ByteArray) ++ (⟨#[7]⟩ : ByteArray)) = ⟨(l ++ [7]).toArray⟩ := by
    apply ByteArray.ext
    simp
  have HCAT := Lib.hid hcat
  have HL := Lib.hid hl
  have hll : l.length ≤ 100 := by omega
  clear hx hb0 hr her hO hk hdr hl hc hf hcat
  unfold nv at *
  simp only at EN RE DE RD ⊢
  have oo : (O == O) = true := by simp
  go_enter Try.func3, Try.ntmps3
  go_wp2_with (first
    | (at_builtin; (have l0 := P1.out; clear l0); refine wpList_append_any _ rfl _ _ 24 rfl w0.heap.size 5 i0 (.int .u8 0) 1 1 Try.underlying24 hi hz0 hz1 hz2 rfl (by decide) _ n (l.map bv) rfl (P1.out.alloc _) _ _ 1 1 (([7] : List UInt8).map bv) rfl (reads_mark w1 #[.int .u8 7] _ [7] 1 rfl rfl) (bv_one [7]) (by unfold maxLen; omega) (by omega) (by have := K1.out.size; simp; omega) ?_
       intro v2 w2 o2 g2 _; obtain ⟨A2, c2, rfl, p2, k2⟩ := app_out (p := n + 1) (K1.out.alloc K1.out.size _) (P1.out.alloc _) o2 g2 rfl rfl; have hcap := own_cap p2; have hcap2 : n ≤ c2 := (by omega); have K2 := Lib.hid k2; have P2 := Lib.hid p2; obtain ⟨x0, x1, x2, x3⟩ := XC.out w2 k2; clear o2 g2 p2 k2 hcap)
    | (at_builtin; refine wpList_append_any _ rfl _ _ 24 rfl w0.heap.size 5 i0 (.int .u8 0) 1 1 Try.underlying24 hi hz0 hz1 hz2 rfl (by decide) _ 0 (([] : List UInt8).map bv) rfl (own_empty w0) _ A n c (l.map bv) rfl (RB.out _ KA.out) (bv_one _) (by unfold maxLen; omega) (by omega) (by simp) ?_
       intro v1 w1 o1 g1 _; clear hw0; obtain ⟨A1, c1, rfl, p1, k1⟩ := app_out (p := n) KA.out (own_empty w0) o1 g1 (by omega) (List.nil_append _); have K1 := Lib.hid k1; have P1 := Lib.hid p1; clear o1 g1 p1 k1)
    | (go_at_call 9; refine (EN.out w2).mono ?_; rintro e w3 ⟨v, rfl, g⟩; obtain ⟨A3, c3, rfl, o3, b3⟩ := gives_len g HK.out; have K3 := Lib.hid (K2.out.trans (b3.mono K2.out.size)); have O3 := Lib.hid o3; have B3 := Lib.hid b3; obtain ⟨x0, x1, x2, x3⟩ := XC.out w3 K3.out; clear g o3 b3)
    | (go_at_call 10; refine (RE.out w3).mono ?_; rintro e w4 ⟨v, rfl, g⟩; obtain ⟨A4, c4, rfl, o4, b4⟩ := gives_len g HK.out; have K4 := Lib.hid (K3.out.trans (b4.mono K3.out.size)); have O4 := Lib.hid o4; have P3 := Lib.hid (own_stay O3.out b4); have B24 := Lib.hid (B3.out.trans (b4.mono B3.out.size))
       have R4 : Hid (Reads w4 w4.heap.size 1 A2 n (l.map bv)) := Lib.hid (by
         have h := (Reads.of_own (own_stay P2.out B24.out)).front (k := n) (by omega)
         rw [List.take_left' HL.out] at h
         exact h)
       clear g o4 b4)
    | (go_at_call 11; refine (DE.out A2 c2 w4 R4.out).mono ?_; rintro e w5 ⟨rfl, b5⟩; have K5 := Lib.hid (K4.out.trans (b5.mono K4.out.size)); have B5 := Lib.hid b5; clear b5)
    | (go_at_call 12; refine (RD.out _ (RB.out _ (K5.out.alloc K5.out.size _))).mono ?_; rintro e w6 ⟨rfl, b6⟩
       have hy := ((Blk.new w5 23 #[.int .i64 dk, .int .i64 da, .int .i64 db, .int .i64 dn]).below b6 (by simp)).alloc (.cells #[.int .i64 dk, .int .i64 da, .int .i64 db, .int .i64 dn] 23)
       have y0 := hy.cell 0; have y1 := hy.cell 1; have y2 := hy.cell 2; have y3 := hy.cell 3
       have b46 : Below w4.heap.size w4 w6 := (B5.out.alloc B5.out.size _).trans (b6.mono (by have := B5.out.size; simp; omega))
       have K6 := Lib.hid (K4.out.trans (b46.mono K4.out.size))
       have hb9 : Below w6.heap.size w6 (w6.alloc (.cells #[.int .i64 dk, .int .i64 da, .int .i64 db, .int .i64 dn] 23)) := (Below.refl _ _).alloc (Nat.le_refl _) _
       have va := conv_reads c3 ((Reads.of_own (own_stay P3.out b46)).below hb9)
       have vb := conv_reads c4 ((Reads.of_own (own_stay O4.out b46)).below hb9)
       have vc := conv_reads c2 ((Reads.of_own (own_stay P2.out (B24.out.trans (b46.mono B24.out.size)))).below hb9)
       have vd := conv_reads c ((RB.out _ (K6.out)).below hb9)
       have hcat := HCAT.out
       clear b6 hy b46 hb9))
  go_ret
  exact ⟨by simp, HB0.out.trans ((K6.out.alloc K6.out.size _).mono HB0.out.size)⟩
/-- As the end calls it. -/
theorem call {W : World} (x : NV) (hf : x.Fine) (A : Option Addr) (c : Nat) (l : List UInt8) (a : Arg W A c l) (w : World) (hw : W = w := by rfl) :
    Calls Try.prog 3 #[nv x, .slice A l.length c] w fun e w' => e = .returned (.bool true) ∧ Below w.heap.size w w' := by
  subst hw
  by_cases h : 100 < l.length
  · exact walk_big x A _ c W h
  · exact walk_small x A _ c l W hf rfl a.reads ⟨a.cap, by have := a.big; omega⟩ (by omega)
end
end Go.Proofs.Ytdjneiboeehclaa.noteForms

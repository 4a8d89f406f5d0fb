/-
  The walk of the statement TurnCats.
-/
import Derived.Test.YtlmdijijlbmddaaTuAll3
import Derived.Test.YtlmdijijlbmddaaArOpen
namespace Go.Proofs.Ytlmdijijlbmddaa.turnCats
open Go.RowKit Go.Proofs.Ytlmdijijlbmddaa.arr Go.Proofs.Ytlmdijijlbmddaa.mo Go.Proofs.Ytlmdijijlbmddaa.tu

theorem rev_give (l : List Int) (hl : l.length ≤ 4096) (hf : ∀ z ∈ l, -9223372036854775808 ≤ z ∧ z ≤ 9223372036854775807) (p : AP) (W : World) (h : AEl W (vecA l) p) : Calls Try.prog 42 #[.agg (arC (vecA l) p)] W (GiveT (vecA l.reverse) 0 W) := by
  have h1 := tureverse_any (vecA l) p W h
  rw [(rev_vec l hl).1, (rev_vec l hl).2] at h1
  exact h1.mono (fun e w' g => vec_giveT g (by rw [List.length_reverse]; omega) (fun z hz => hf z (List.mem_reverse.1 hz)))
theorem cat_give (l m : List Int) (hl : l.length ≤ 2000) (hm : m.length ≤ 2000) (hf : ∀ z ∈ l, -9223372036854775808 ≤ z ∧ z ≤ 9223372036854775807) (hg : ∀ z ∈ m, -9223372036854775808 ≤ z ∧ z ≤ 9223372036854775807) (p q : AP) (W : World) (h : AEl W (vecA l) p) (k : AEl W (vecA m) q) (c : Cap (vecA l) p) (d : Cap (vecA m) q) : Calls Try.prog 37 #[.agg (arC (vecA l) p), .agg (arC (vecA m) q)] W (GiveT (vecA (l ++ m)) 0 W) := by
  have h1 := mocat_any (vecA l) (vecA m) p q W h k c d
  rw [(cat_vecA l m hl hm).1, (cat_vecA l m hl hm).2] at h1
  exact h1.mono (fun e w' g => vec_giveT g (by rw [List.length_append]; omega) (fun z hz => (List.mem_append.1 hz).elim (hf z) (hg z)))
theorem rot_give (l m : List Int) (hl : l.length + m.length ≤ 4096) (p q : AP) (W : World) (h : AEl W ⟨1, [], [(l.length : Int)]⟩ p) (k : AEl W (vecA (l ++ m)) q) (c : Cap (vecA (l ++ m)) q) : Calls Try.prog 45 #[.agg (arC ⟨1, [], [(l.length : Int)]⟩ p), .agg (arC (vecA (l ++ m)) q)] W (GiveE (vecA (m ++ l)) 0 W) := by
  have h1 := turotate_any ⟨1, [], [(l.length : Int)]⟩ (vecA (l ++ m)) p q W h k c.le
  have e1 := (rot_vec l m hl).1
  have e2 := (rot_vec l m hl).2
  exact (e1 ▸ e2 ▸ h1 : _)
set_option maxRecDepth 100000 in
set_option maxHeartbeats 8000000 in
theorem walk (A B : Option Addr) (c d : Nat) (l m : List Int) (w : World) (hl : IArg w A c l) (hm : IArg w B d m) :
    Calls Try.prog 11 #[.slice A l.length c, .slice B m.length d] w fun e w' => e = .returned (.bool true) ∧ Below w.heap.size w w' := by
  have hbig := hl.cap
  have hbig1 := hl.big
  have hbig2 := hm.cap
  have hbig3 := hm.big
  by_cases h1 : 2000 < l.length
  · have d1 : (2000 : Int) < (l.length : Int) := by omega
    generalize l.length = P at *
    generalize m.length = Q at *
    clear hl hm h1
    go_enter Try.func11, Try.ntmps11
    go_wp2_with (go_at_call 41; refine (l14alive _).mono ?_; rintro e w0 ⟨rfl, b0⟩; have BW0 := Lib.hid b0; clear b0)
    go_ret
    exact ⟨rfl, BW0.out⟩
  by_cases h2 : 2000 < m.length
  · have d1 : ¬ (2000 : Int) < (l.length : Int) := by omega
    have d2 : (2000 : Int) < (m.length : Int) := by omega
    generalize l.length = P at *
    generalize m.length = Q at *
    clear hl hm h1 h2
    go_enter Try.func11, Try.ntmps11
    go_wp2_with (go_at_call 41; refine (l14alive _).mono ?_; rintro e w0 ⟨rfl, b0⟩; have BW0 := Lib.hid b0; clear b0)
    go_ret
    exact ⟨rfl, BW0.out⟩
  have hP : l.length ≤ 2000 := by omega
  have hQ : m.length ≤ 2000 := by omega
  have hlf := hl.fine
  have hmf := hm.fine
  have hrf : ∀ z ∈ l.reverse, -9223372036854775808 ≤ z ∧ z ≤ 9223372036854775807 := fun z hz => hlf z (List.mem_reverse.1 hz)
  have hsf : ∀ z ∈ m.reverse, -9223372036854775808 ≤ z ∧ z ≤ 9223372036854775807 := fun z hz => hmf z (List.mem_reverse.1 hz)
  have hcf : ∀ z ∈ l ++ m, -9223372036854775808 ≤ z ∧ z ≤ 9223372036854775807 := fun z hz => (List.mem_append.1 hz).elim (hlf z) (hmf z)
  have hlr := fun W (hb : Below w.heap.size w W) => (hl.reads.below hb).more hb.size
  have hmr := fun W (hb : Below w.heap.size w W) => (hm.reads.below hb).more hb.size
  have hv1 := fun W (hb : Below w.heap.size w W) => l13vector l (by omega) hlf A l.length c W rfl (hlr W hb)
  have hv2 := fun W (hb : Below w.heap.size w W) => l13vector m (by omega) hmf B m.length d W rfl (hmr W hb)
  have hcat := cat_give l m hP hQ hlf hmf
  have hcba := cat_give m l hQ hP hmf hlf
  have hrc := rev_give (l ++ m) (by rw [List.length_append]; omega) hcf
  have hra := rev_give l (by omega) hlf
  have hrb := rev_give m (by omega) hmf
  have hcyx := cat_give m.reverse l.reverse (by rw [List.length_reverse]; omega) (by rw [List.length_reverse]; omega) hsf hrf
  have hrot := rot_give l m (by omega)
  rw [List.reverse_append] at hrc
  obtain ⟨XA, hXA⟩ : ∃ X : AV, vecA l = X := ⟨_, rfl⟩
  obtain ⟨XB, hXB⟩ : ∃ X : AV, vecA m = X := ⟨_, rfl⟩
  obtain ⟨XC, hXC⟩ : ∃ X : AV, vecA (l ++ m) = X := ⟨_, rfl⟩
  obtain ⟨XD, hXD⟩ : ∃ X : AV, vecA (m ++ l) = X := ⟨_, rfl⟩
  obtain ⟨XR, hXR⟩ : ∃ X : AV, vecA (m.reverse ++ l.reverse) = X := ⟨_, rfl⟩
  obtain ⟨XX, hXX⟩ : ∃ X : AV, vecA l.reverse = X := ⟨_, rfl⟩
  obtain ⟨XY, hXY⟩ : ∃ X : AV, vecA m.reverse = X := ⟨_, rfl⟩
  have hDs : XD.sh.length ≤ 9223372036854775807 ∧ XD.el.length ≤ 9223372036854775807 ∧ ∀ z ∈ XD.el, -9223372036854775808 ≤ z ∧ z ≤ 9223372036854775807 := by
    rw [← hXD]
    exact ⟨show (1 : Nat) ≤ _ by omega, show (m ++ l).length ≤ _ by rw [List.length_append]; omega, fun z hz => (List.mem_append.1 (show z ∈ m ++ l from hz)).elim (hmf z) (hlf z)⟩
  rw [show (⟨1, [(l.length : Int)], l⟩ : AV) = XA from hXA] at hv1
  rw [show (⟨1, [(m.length : Int)], m⟩ : AV) = XB from hXB] at hv2
  rw [hXA, hXB, hXC] at hcat
  rw [hXA, hXB, hXD] at hcba
  rw [hXC, hXR] at hrc
  rw [hXA, hXX] at hra
  rw [hXB, hXY] at hrb
  rw [hXX, hXY, hXR] at hcyx
  rw [hXC, hXD] at hrot
  have HV1 := Lib.hid hv1
  have HV2 := Lib.hid hv2
  have HCAT := Lib.hid hcat
  have HCBA := Lib.hid hcba
  have HRC := Lib.hid hrc
  have HRA := Lib.hid hra
  have HRB := Lib.hid hrb
  have HCYX := Lib.hid hcyx
  have HROT := Lib.hid hrot
  have HDS := Lib.hid hDs
  have HPD : Hid (∀ p, arC XD p = #[.int .i64 XD.kind, .slice p.A0 XD.sh.length p.c0, .slice p.A1 XD.el.length p.c1]) := Lib.hid (fun p => rfl)
  have d1 : ¬ (2000 : Int) < (l.length : Int) := by omega
  have d2 : ¬ (2000 : Int) < (m.length : Int) := by omega
  clear hXA hXB hXC hXD hXR hXX hXY hv1 hv2 hcat hcba hrc hra hrb hcyx hrot hDs hlr hmr hrf hsf hcf hlf hmf hl hm
  generalize l.length = P at *
  generalize m.length = Q at *
  clear h1 h2 hbig hbig1 hbig2 hbig3
  go_enter Try.func11, Try.ntmps11
  go_upto_region 5 with (first
    | ((have l0 := E1.out; clear l0); go_at_call 36; refine (HV2.out _ BW1.out).mono ?_; rintro e w2 ⟨p2, he, h2, c2, b2⟩; obtain rfl : e = .returned (.agg #[.int .i64 XB.kind, .slice p2.A0 XB.sh.length p2.c0, .slice p2.A1 XB.el.length p2.c1]) := he; have F1 := Lib.hid (E1.out.below b2); have E2 := Lib.hid h2; have C2 := Lib.hid c2; have BW2 := Lib.hid (bon BW1.out b2); clear h2 c2 b2)
    | (go_at_call 36; refine (HV1.out _ BW0.out).mono ?_; rintro e w1 ⟨p1, he, h1, c1, b1⟩; obtain rfl : e = .returned (.agg #[.int .i64 XA.kind, .slice p1.A0 XA.sh.length p1.c0, .slice p1.A1 XA.el.length p1.c1]) := he; have E1 := Lib.hid h1; have C1 := Lib.hid c1; have BW1 := Lib.hid (bon BW0.out b1); clear h1 c1 b1)
    | (go_at_call 41; refine (l14alive _).mono ?_; rintro e w0 ⟨rfl, b0⟩; have BW0 := Lib.hid b0; clear b0))
  obtain ⟨w3, hw3⟩ : ∃ w3, (w2.alloc (.cells #[.int .i64 XA.kind, .slice p1.A0 XA.sh.length p1.c0, .slice p1.A1 XA.el.length p1.c1] 63)).alloc (.cells #[.int .i64 XB.kind, .slice p2.A0 XB.sh.length p2.c0, .slice p2.A1 XB.el.length p2.c1] 63) = w3 := ⟨_, rfl⟩
  obtain ⟨g6, hg6⟩ : ∃ g, w2.heap.size = g := ⟨_, rfl⟩
  have A_3 : Hid (BoxA w3 g6 XA p1) := Lib.hid (by
    rw [← hw3, ← hg6]
    exact (BoxA.new F1.out C1.out).up (albel _ _))
  have B_3 : Hid (BoxA w3 (g6 + 1) XB p2) := Lib.hid (by
    have h := BoxA.new (E2.out.below (albel w2 (.cells (arC XA p1) 63))) C2.out
    rw [World.size_alloc, hg6] at h
    rw [← hw3]
    exact h)
  have BW_3 : Hid (Below w.heap.size w w3) := Lib.hid (by rw [← hw3]; exact bon (bon BW2.out (albel _ _)) (albel _ _))
  rw [hw3, hg6]
  clear hw3 hg6 F1 E1 E2 C1 C2 BW2 BW1 BW0
  obtain ⟨x0, x1, x2⟩ := A_3.out.cells
  obtain ⟨y0, y1, y2⟩ := B_3.out.cells
  go_upto_region 6 with (go_at_call 37; refine (HCAT.out p1 p2 _ A_3.out.e B_3.out.e A_3.out.c B_3.out.c).mono ?_; rintro e v4 ⟨p4, he, hk, ck, bk⟩; obtain rfl : e = .returned (.tuple #[.agg #[.int .i64 XC.kind, .slice p4.A0 XC.sh.length p4.c0, .slice p4.A1 XC.el.length p4.c1], .int .i64 0]) := he; have HK4 := Lib.hid hk; have CK4 := Lib.hid ck; have BK4 := Lib.hid bk; clear hk ck bk)
  obtain ⟨w4, hw4⟩ : ∃ W, v4.alloc (.cells #[.int .i64 XC.kind, .slice p4.A0 XC.sh.length p4.c0, .slice p4.A1 XC.el.length p4.c1] 63) = W := ⟨_, rfl⟩
  obtain ⟨g4, hg4⟩ : ∃ g, v4.heap.size = g := ⟨_, rfl⟩
  have bb4 : Below w3.heap.size w3 w4 := by rw [← hw4]; exact bon BK4.out (albel _ _)
  have N4 : Hid (BoxA w4 g4 XC p4) := Lib.hid (by rw [← hw4, ← hg4]; exact BoxA.new HK4.out CK4.out)
  have A_4 := Lib.hid (A_3.out.up bb4)
  have B_4 := Lib.hid (B_3.out.up bb4)
  have BW_4 : Hid (Below w.heap.size w w4) := Lib.hid (bon BW_3.out bb4)
  rw [hw4, hg4]
  clear x0 x1 x2 y0 y1 y2 HK4 CK4 BK4 bb4 hw4 hg4 A_3 B_3 BW_3
  obtain ⟨x0, x1, x2⟩ := B_4.out.cells
  obtain ⟨y0, y1, y2⟩ := A_4.out.cells
  go_upto_region 7 with (go_at_call 37; refine (HCBA.out p2 p1 _ B_4.out.e A_4.out.e B_4.out.c A_4.out.c).mono ?_; rintro e v5 ⟨p5, he, hk, ck, bk⟩; obtain rfl : e = .returned (.tuple #[.agg #[.int .i64 XD.kind, .slice p5.A0 XD.sh.length p5.c0, .slice p5.A1 XD.el.length p5.c1], .int .i64 0]) := he; have HK5 := Lib.hid hk; have CK5 := Lib.hid ck; have BK5 := Lib.hid bk; clear hk ck bk)
  obtain ⟨w5, hw5⟩ : ∃ W, v5.alloc (.cells #[.int .i64 XD.kind, .slice p5.A0 XD.sh.length p5.c0, .slice p5.A1 XD.el.length p5.c1] 63) = W := ⟨_, rfl⟩
  obtain ⟨g5, hg5⟩ : ∃ g, v5.heap.size = g := ⟨_, rfl⟩
  have bb5 : Below w4.heap.size w4 w5 := by rw [← hw5]; exact bon BK5.out (albel _ _)
  have N5 : Hid (BoxA w5 g5 XD p5) := Lib.hid (by rw [← hw5, ← hg5]; exact BoxA.new HK5.out CK5.out)
  have A_5 := Lib.hid (A_4.out.up bb5)
  have B_5 := Lib.hid (B_4.out.up bb5)
  have N4_5 := Lib.hid (N4.out.up bb5)
  have BW_5 : Hid (Below w.heap.size w w5) := Lib.hid (bon BW_4.out bb5)
  rw [hw5, hg5]
  clear x0 x1 x2 y0 y1 y2 HK5 CK5 BK5 bb5 hw5 hg5 A_4 B_4 N4 BW_4
  obtain ⟨x0, x1, x2⟩ := N4_5.out.cells
  go_upto_region 8 with (go_at_call 42; refine (HRC.out p4 _ N4_5.out.e).mono ?_; rintro e v6 ⟨p6, he, hk, ck, bk⟩; obtain rfl : e = .returned (.tuple #[.agg #[.int .i64 XR.kind, .slice p6.A0 XR.sh.length p6.c0, .slice p6.A1 XR.el.length p6.c1], .int .i64 0]) := he; have HK6 := Lib.hid hk; have CK6 := Lib.hid ck; have BK6 := Lib.hid bk; clear hk ck bk)
  obtain ⟨w6, hw6⟩ : ∃ W, v6.alloc (.cells #[.int .i64 XR.kind, .slice p6.A0 XR.sh.length p6.c0, .slice p6.A1 XR.el.length p6.c1] 63) = W := ⟨_, rfl⟩
  obtain ⟨g6, hg6⟩ : ∃ g, v6.heap.size = g := ⟨_, rfl⟩
  have bb6 : Below w5.heap.size w5 w6 := by rw [← hw6]; exact bon BK6.out (albel _ _)
  have N6 : Hid (BoxA w6 g6 XR p6) := Lib.hid (by rw [← hw6, ← hg6]; exact BoxA.new HK6.out CK6.out)
  have A_6 := Lib.hid (A_5.out.up bb6)
  have B_6 := Lib.hid (B_5.out.up bb6)
  have N4_6 := Lib.hid (N4_5.out.up bb6)
  have N5_6 := Lib.hid (N5.out.up bb6)
  have BW_6 : Hid (Below w.heap.size w w6) := Lib.hid (bon BW_5.out bb6)
  rw [hw6, hg6]
  clear x0 x1 x2 HK6 CK6 BK6 bb6 hw6 hg6 A_5 B_5 N4_5 N5 BW_5
  obtain ⟨x0, x1, x2⟩ := A_6.out.cells
  go_upto_region 9 with (go_at_call 42; refine (HRA.out p1 _ A_6.out.e).mono ?_; rintro e v7 ⟨p7, he, hk, ck, bk⟩; obtain rfl : e = .returned (.tuple #[.agg #[.int .i64 XX.kind, .slice p7.A0 XX.sh.length p7.c0, .slice p7.A1 XX.el.length p7.c1], .int .i64 0]) := he; have HK7 := Lib.hid hk; have CK7 := Lib.hid ck; have BK7 := Lib.hid bk; clear hk ck bk)
  obtain ⟨w7, hw7⟩ : ∃ W, v7.alloc (.cells #[.int .i64 XX.kind, .slice p7.A0 XX.sh.length p7.c0, .slice p7.A1 XX.el.length p7.c1] 63) = W := ⟨_, rfl⟩
  obtain ⟨g7, hg7⟩ : ∃ g, v7.heap.size = g := ⟨_, rfl⟩
  have bb7 : Below w6.heap.size w6 w7 := by rw [← hw7]; exact bon BK7.out (albel _ _)
  have N7 : Hid (BoxA w7 g7 XX p7) := Lib.hid (by rw [← hw7, ← hg7]; exact BoxA.new HK7.out CK7.out)
  have A_7 := Lib.hid (A_6.out.up bb7)
  have B_7 := Lib.hid (B_6.out.up bb7)
  have N4_7 := Lib.hid (N4_6.out.up bb7)
  have N5_7 := Lib.hid (N5_6.out.up bb7)
  have N6_7 := Lib.hid (N6.out.up bb7)
  have BW_7 : Hid (Below w.heap.size w w7) := Lib.hid (bon BW_6.out bb7)
  rw [hw7, hg7]
  clear x0 x1 x2 HK7 CK7 BK7 bb7 hw7 hg7 A_6 B_6 N4_6 N5_6 N6 BW_6
  obtain ⟨x0, x1, x2⟩ := B_7.out.cells
  go_upto_region 10 with (go_at_call 42; refine (HRB.out p2 _ B_7.out.e).mono ?_; rintro e v8 ⟨p8, he, hk, ck, bk⟩; obtain rfl : e = .returned (.tuple #[.agg #[.int .i64 XY.kind, .slice p8.A0 XY.sh.length p8.c0, .slice p8.A1 XY.el.length p8.c1], .int .i64 0]) := he; have HK8 := Lib.hid hk; have CK8 := Lib.hid ck; have BK8 := Lib.hid bk; clear hk ck bk)
  obtain ⟨w8, hw8⟩ : ∃ W, v8.alloc (.cells #[.int .i64 XY.kind, .slice p8.A0 XY.sh.length p8.c0, .slice p8.A1 XY.el.length p8.c1] 63) = W := ⟨_, rfl⟩
  obtain ⟨g8, hg8⟩ : ∃ g, v8.heap.size = g := ⟨_, rfl⟩
  have bb8 : Below w7.heap.size w7 w8 := by rw [← hw8]; exact bon BK8.out (albel _ _)
  have N8 : Hid (BoxA w8 g8 XY p8) := Lib.hid (by rw [← hw8, ← hg8]; exact BoxA.new HK8.out CK8.out)
  have A_8 := Lib.hid (A_7.out.up bb8)
  have B_8 := Lib.hid (B_7.out.up bb8)
  have N4_8 := Lib.hid (N4_7.out.up bb8)
  have N5_8 := Lib.hid (N5_7.out.up bb8)
  have N6_8 := Lib.hid (N6_7.out.up bb8)
  have N7_8 := Lib.hid (N7.out.up bb8)
  have BW_8 : Hid (Below w.heap.size w w8) := Lib.hid (bon BW_7.out bb8)
  rw [hw8, hg8]
  clear x0 x1 x2 HK8 CK8 BK8 bb8 hw8 hg8 A_7 B_7 N4_7 N5_7 N6_7 N7 BW_7
  obtain ⟨x0, x1, x2⟩ := N8.out.cells
  obtain ⟨y0, y1, y2⟩ := N7_8.out.cells
  go_upto_region 11 with (go_at_call 37; refine (HCYX.out p8 p7 _ N8.out.e N7_8.out.e N8.out.c N7_8.out.c).mono ?_; rintro e v9 ⟨p9, he, hk, ck, bk⟩; obtain rfl : e = .returned (.tuple #[.agg #[.int .i64 XR.kind, .slice p9.A0 XR.sh.length p9.c0, .slice p9.A1 XR.el.length p9.c1], .int .i64 0]) := he; have HK9 := Lib.hid hk; have CK9 := Lib.hid ck; have BK9 := Lib.hid bk; clear hk ck bk)
  obtain ⟨w9, hw9⟩ : ∃ W, v9.alloc (.cells #[.int .i64 XR.kind, .slice p9.A0 XR.sh.length p9.c0, .slice p9.A1 XR.el.length p9.c1] 63) = W := ⟨_, rfl⟩
  obtain ⟨g9, hg9⟩ : ∃ g, v9.heap.size = g := ⟨_, rfl⟩
  have bb9 : Below w8.heap.size w8 w9 := by rw [← hw9]; exact bon BK9.out (albel _ _)
  have N9 : Hid (BoxA w9 g9 XR p9) := Lib.hid (by rw [← hw9, ← hg9]; exact BoxA.new HK9.out CK9.out)
  have A_9 := Lib.hid (A_8.out.up bb9)
  have B_9 := Lib.hid (B_8.out.up bb9)
  have N4_9 := Lib.hid (N4_8.out.up bb9)
  have N5_9 := Lib.hid (N5_8.out.up bb9)
  have N6_9 := Lib.hid (N6_8.out.up bb9)
  have N7_9 := Lib.hid (N7_8.out.up bb9)
  have N8_9 := Lib.hid (N8.out.up bb9)
  have BW_9 : Hid (Below w.heap.size w w9) := Lib.hid (bon BW_8.out bb9)
  rw [hw9, hg9]
  clear x0 x1 x2 y0 y1 y2 HK9 CK9 BK9 bb9 hw9 hg9 A_8 B_8 N4_8 N5_8 N6_8 N7_8 N8 BW_8
  have HUX : BxU w9 (lookU [(2, xo w9 ⟨1, [], [(P : Int)]⟩), (4, xto w9 XD 0), (5, xto w9 XD 0), (6, xo w9 XD)]) := lookU_two (by
    intro x hx
    simp only [List.mem_cons, List.not_mem_nil, or_false] at hx
    rcases hx with rfl | rfl | rfl | rfl <;> first | exact xo_stk _ _ | exact xto_stk _ _ _)
  refine wp_region_doneT_on (BxS w9 8 9 20 XD) (bxR 8 [2, 4, 5, 6] (lookU [(2, xo w9 ⟨1, [], [(P : Int)]⟩), (4, xto w9 XD 0), (5, xto w9 XD 0), (6, xo w9 XD)]) [.slice A P c, .int .i64 (P : Int), undef, .agg #[.int .i64 XC.kind, .slice p4.A0 XC.sh.length p4.c0, .slice p4.A1 XC.el.length p4.c1], undef, undef, undef, .int .i64 0, undef, undef, .int .i64 0]) (by kernel_rfl) 114 rfl (by kernel_rfl) ⟨(Below.refl _ _).drew, fun e => (by cases e), fun e => (by cases e)⟩ ?_ ?_
  · intro i hi
    have hi2 : i < 11 := hi
    clear hi
    rcases i with _ | i
    · refine bx_value HUX rfl (by decide) (by decide) (by decide) 74 rfl (by decide) (.slice A P c) rfl ?_
      intro a8 w8 hb8 ho hn
      have o0 : a8.tmps[0]? = some _ := (ho 0 (by kernel_rfl)).trans rfl
      clear ho hn
      refine ⟨wanted_free rfl, ?_⟩
      go_simp
    rcases i with _ | i
    · refine bx_value HUX rfl (by decide) (by decide) (by decide) 75 rfl (by decide) (.int .i64 (P : Int)) rfl ?_
      intro a8 w8 hb8 ho hn
      obtain ⟨v74, n74, hq74⟩ := hn 0 74 (by kernel_rfl) rfl
      obtain rfl := hq74.1 (by decide) (by decide)
      clear ho hn
      refine ⟨wanted_free rfl, ?_⟩
      go_simp
    rcases i with _ | i
    · refine bx_call HUX 35 rfl (by decide) (by decide) (by decide) 76 rfl (by decide) ?_
      intro a8 w8 hb8 ho hn
      obtain ⟨v75, n75, hq75⟩ := hn 1 75 (by kernel_rfl) rfl
      obtain rfl := hq75.1 (by decide) (by decide)
      clear ho hn
      refine ⟨wanted_free rfl, ?_⟩
      refine ⟨#[.int .i64 (P : Int)], (by go_simp), (arscalar_any (P : Int) w8).mono ?_⟩
      rintro e wz ⟨v, rfl, p, rfl, o, b⟩
      exact ⟨_, rfl, b, p, rfl, o.mono hb8.size⟩
    rcases i with _ | i
    · refine bx_value HUX rfl (by decide) (by decide) (by decide) 77 rfl (by decide) (.agg #[.int .i64 XC.kind, .slice p4.A0 XC.sh.length p4.c0, .slice p4.A1 XC.el.length p4.c1]) rfl ?_
      intro a8 w8 hb8 ho hn
      have o8 : a8.tmps[8]? = some _ := (ho 8 (by kernel_rfl)).trans rfl
      clear ho hn
      refine ⟨wanted_free rfl, ?_⟩
      obtain ⟨x0, x1, x2⟩ := (N4_9.out.up hb8).cells
      go_simp
    rcases i with _ | i
    · refine bx_call HUX 45 rfl (by decide) (by decide) (by decide) 78 rfl (by decide) ?_
      intro a8 w8 hb8 ho hn
      obtain ⟨v76, n76, hq76⟩ := hn 2 76 (by kernel_rfl) rfl
      have hv76 : xo w9 ⟨1, [], [(P : Int)]⟩ v76 w8 := hq76.2 (by decide)
      obtain ⟨v77, n77, hq77⟩ := hn 3 77 (by kernel_rfl) rfl
      obtain rfl := hq77.1 (by decide) (by decide)
      clear ho hn
      refine ⟨wanted_free rfl, ?_⟩
      obtain ⟨p, rfl, o⟩ := hv76
      refine ⟨#[.agg (arC ⟨1, [], [(P : Int)]⟩ p), .agg #[.int .i64 XC.kind, .slice p4.A0 XC.sh.length p4.c0, .slice p4.A1 XC.el.length p4.c1]], (by go_simp), (HROT.out p p4 w8 (o.el (by simp) (by simp) (fun z hz => by rw [List.mem_singleton] at hz; omega)) (N4_9.out.up hb8).e N4_9.out.c).mono ?_⟩
      rintro e wz ⟨r, rfl, o9, b9⟩
      exact ⟨_, rfl, b9, r, rfl, o9.mono hb8.size⟩
    rcases i with _ | i
    · refine bx_make HUX rfl (by decide) (by decide) (by decide) 73 rfl (by decide) ?_
      intro a8 w8 hb8 ho hn
      obtain ⟨v78, n78, hq78⟩ := hn 4 78 (by kernel_rfl) rfl
      have hv78 : xto w9 XD 0 v78 w8 := hq78.2 (by decide)
      clear ho hn
      refine ⟨wanted_free rfl, ?_⟩
      exact ⟨v78, w8, (by go_simp), Below.refl _ _, hv78⟩
    rcases i with _ | i
    · refine bx_make HUX rfl (by decide) (by decide) (by decide) 79 rfl (by decide) ?_
      intro a8 w8 hb8 ho hn
      obtain ⟨v73, n73, hq73⟩ := hn 5 73 (by kernel_rfl) rfl
      have hv73 : xto w9 XD 0 v73 w8 := hq73.2 (by decide)
      clear ho hn
      refine ⟨wanted_free rfl, ?_⟩
      obtain ⟨p, rfl, o⟩ := hv73
      exact ⟨.agg (arC XD p), w8, (by go_simp), Below.refl _ _, p, rfl, o⟩
    rcases i with _ | i
    · refine bx_value HUX rfl (by decide) (by decide) (by decide) 80 rfl (by decide) (.int .i64 0) rfl ?_
      intro a8 w8 hb8 ho hn
      obtain ⟨v73, n73, hq73⟩ := hn 5 73 (by kernel_rfl) rfl
      have hv73 : xto w9 XD 0 v73 w8 := hq73.2 (by decide)
      clear ho hn
      refine ⟨wanted_free rfl, ?_⟩
      obtain ⟨p, rfl, o⟩ := hv73
      go_simp
    rcases i with _ | i
    · refine bx_alloc HUX rfl (by decide) (by decide) rfl (.int .i64 0) (.slice none 0 0) (.slice none 0 0) ?_
      intro a8 w8 ho
      have o113 : a8.tmps[113]? = some _ := (ho 113 (by kernel_rfl)).trans rfl
      have hsz : 113 < a8.tmps.size := (Array.getElem?_eq_some_iff.1 o113).1
      refine ⟨by omega, wanted_free rfl, ?_⟩
      go_simp
    rcases i with _ | i
    · refine bx_store HUX rfl rfl (by decide) (by decide) rfl (by kernel_rfl) rfl ?_
      intro a8 w8 g u0 u1 u2 hg n20 hn
      obtain ⟨v79, n79, hq79⟩ := hn 6 79 (by kernel_rfl) rfl
      have hv79 : xo w9 XD v79 w8 := hq79.2 (by decide)
      clear hn
      refine ⟨wanted_free rfl, ?_⟩
      obtain ⟨r, rfl, o⟩ := hv79
      have x0 := hg.cell 0
      have x1 := hg.cell 1
      have x2 := hg.cell 2
      have f0 := hg.frozen 0
      have f1 := hg.frozen 1
      have f2 := hg.frozen 2
      refine ⟨r, o, ?_⟩
      rw [HPD.out r] at n79
      clear hg o
      go_simp
    rcases i with _ | i
    · refine bx_value HUX rfl (by decide) (by decide) (by decide) 21 rfl (by decide) (.int .i64 0) rfl ?_
      intro a8 w8 hb8 ho hn
      obtain ⟨v80, n80, hq80⟩ := hn 7 80 (by kernel_rfl) rfl
      obtain rfl := hq80.1 (by decide) (by decide)
      clear ho hn
      refine ⟨wanted_free rfl, ?_⟩
      go_simp
    omega
  · intro dn fv w5 hS5 hR5 hall
    obtain ⟨g8, e8, hg8, _, hfin⟩ := hS5.h (hall 8 (by decide))
    obtain ⟨r, hb8, ho8⟩ := hfin (hall 9 (by decide))
    have hbw := hS5.b
    have h48 : fv 21 = .int .i64 0 := (hR5 10 21 rfl).1 (by decide) (by decide)
    clear hS5 hR5 hall hfin
    simp only [putAll, List.foldl_cons, List.foldl_nil, Act.put, List.setIfInBounds_toArray, List.set_cons_succ, List.set_cons_zero, List.getElem?_toArray, List.getElem?_cons_succ, List.getElem?_cons_zero, Option.some.injEq] at e8 ⊢
    rw [e8, h48]
    have O_0 : Hid (BoxA w5 g8 XD r) := Lib.hid ⟨hb8, ho8.el HDS.out.1 HDS.out.2.1 HDS.out.2.2, Cap.of ho8⟩
    have R_0 := Lib.hid (N6_9.out.up hbw)
    have Z_0 := Lib.hid (N9.out.up hbw)
    have D_0 := Lib.hid (N5_9.out.up hbw)
    have BW_0 := Lib.hid (bon BW_9.out hbw)
    generalize fv 74 = u74
    generalize fv 75 = u75
    generalize fv 76 = u76
    generalize fv 77 = u77
    generalize fv 78 = u78
    generalize fv 73 = u73
    generalize fv 79 = u79
    generalize fv 80 = u80
    clear hb8 ho8 hbw e8 h48 hg8 N6_9 N9 N5_9 A_9 B_9 N4_9 N7_9 N8_9 BW_9 HUX HROT HDS HPD HV1 HV2 HCAT HCBA HRC HRA HRB HCYX
    obtain ⟨x0, x1, x2⟩ := R_0.out.cells
    obtain ⟨y0, y1, y2⟩ := Z_0.out.cells
    go_wp2_with (first
      | ((have l0 := O_1.out; clear l0); go_at_call 44; refine (l14is_yes XD r p5 _ O_1.out.e D_1.out.e).mono ?_; rintro e w7 ⟨rfl, b7⟩; have BW_2 := Lib.hid (bon BW_1.out b7); clear b7)
      | (go_at_call 44; refine (l14is_yes XR p6 p9 _ R_0.out.e Z_0.out.e).mono ?_; rintro e w6 ⟨rfl, b6⟩; have O_1 := Lib.hid (O_0.out.up b6); have D_1 := Lib.hid (D_0.out.up b6); have BW_1 := Lib.hid (bon BW_0.out b6); obtain ⟨a0, a1, a2⟩ := O_1.out.cells; obtain ⟨c0, c1, c2⟩ := D_1.out.cells; clear b6))
    go_ret
    exact ⟨rfl, BW_2.out⟩
theorem call (A : Option Addr) (c : Nat) (l : List Int) {w : World} (hl : IArg w A c l) (B : Option Addr) (d : Nat) (m : List Int) (hm : IArg w B d m) :
    Calls Try.prog 11 #[.slice A l.length c, .slice B m.length d] w fun e w' => e = .returned (.bool true) ∧ Below w.heap.size w w' := walk A B c d l m w hl hm
end Go.Proofs.Ytlmdijijlbmddaa.turnCats

/-
  The walk of the statement MoldCounts.
-/
import Derived.Test.YtlmdijijlbmddaaMoBox
import Derived.Test.YtlmdijijlbmddaaMoTells
import Derived.Test.YtlmdijijlbmddaaArOpen
namespace Go.Proofs.Ytlmdijijlbmddaa.moldCounts
open Go.RowKit Go.Proofs.Ytlmdijijlbmddaa.arr Go.Proofs.Ytlmdijijlbmddaa.mo

theorem aown_mono {B C : Nat} {W : World} {a : AV} {p : AP} (h : AOwn B W a p) (hC : C ≤ B) : AOwn C W a p := ⟨arown_mono h.o0 hC, arown_mono h.o1 hC⟩
set_option maxRecDepth 100000 in
set_option maxHeartbeats 8000000 in
theorem walk (A B : Option Addr) (c d : Nat) (l m : List Int) (n : Int) (w : World) (hl : IArg w A c l) (hm : IArg w B d m) (hn0 : -9223372036854775808 ≤ n) (hn1 : n ≤ 9223372036854775807) :
    Calls Try.prog 7 #[.slice A l.length c, .slice B m.length d, .int .i64 n] w fun e w' => e = .returned (.bool true) ∧ Below w.heap.size w w' := by
  have hbig := hl.cap
  have hbig1 := hl.big
  have hbig2 := hm.cap
  have hbig3 := hm.big
  by_cases h1 : 2000 < l.length
  · have d1 : (2000 : Int) < (l.length : Int) := by omega
    generalize l.length = P at *
    generalize m.length = Q at *
    clear hl hm h1
    go_enter Try.func7, Try.ntmps7
    go_wp2_with (go_at_call 27; refine (l13alive _).mono ?_; rintro e w0 ⟨rfl, b0⟩; have BW0 := Lib.hid b0; clear b0)
    go_ret
    exact ⟨rfl, BW0.out⟩
  by_cases h2 : 2000 < m.length
  · have d1 : ¬ (2000 : Int) < (l.length : Int) := by omega
    have d2 : (2000 : Int) < (m.length : Int) := by omega
    generalize l.length = P at *
    generalize m.length = Q at *
    clear hl hm h1 h2
    go_enter Try.func7, Try.ntmps7
    go_wp2_with (go_at_call 27; refine (l13alive _).mono ?_; rintro e w0 ⟨rfl, b0⟩; have BW0 := Lib.hid b0; clear b0)
    go_ret
    exact ⟨rfl, BW0.out⟩
  have hP : l.length ≤ 2000 := by omega
  have hQ : m.length ≤ 2000 := by omega
  obtain ⟨hcE, fc, hcA⟩ := cat_vec l m hP hQ
  have HLF := Lib.hid hl.fine
  have HMF := Lib.hid hm.fine
  have HLR := Lib.hid (fun W (hb : Below w.heap.size w W) => (hl.reads.below hb).more hb.size)
  have HMR := Lib.hid (fun W (hb : Below w.heap.size w W) => (hm.reads.below hb).more hb.size)
  have hva := vec_ok l (by omega)
  obtain ⟨tk1, tk2⟩ := take_vec n ⟨1, [(l.length : Int)], l⟩ l.length (by omega) rfl hva rfl
  obtain ⟨hdE, fd, hdA⟩ := drop_vec n ⟨1, [(l.length : Int)], l⟩ l.length (by omega) rfl hva rfl
  obtain ⟨XA, hXA⟩ : ∃ X : AV, (⟨1, [(l.length : Int)], l⟩ : AV) = X := ⟨_, rfl⟩
  obtain ⟨XB, hXB⟩ : ∃ X : AV, (⟨1, [(m.length : Int)], m⟩ : AV) = X := ⟨_, rfl⟩
  have HV1 : Hid (∀ (W : World), Below w.heap.size w W → Calls Try.prog 36 #[.slice A l.length c] W fun e w' => ∃ p, e = .returned (.agg #[.int .i64 1, .slice p.A0 1 p.c0, .slice p.A1 l.length p.c1]) ∧ AEl w' XA p ∧ Cap XA p ∧ Below W.heap.size W w') := Lib.hid (fun W hb => by
    rw [← hXA]
    exact l13vector l (by omega) HLF.out A l.length c W rfl (HLR.out W hb))
  have HV2 : Hid (∀ (W : World), Below w.heap.size w W → Calls Try.prog 36 #[.slice B m.length d] W fun e w' => ∃ p, e = .returned (.agg #[.int .i64 1, .slice p.A0 1 p.c0, .slice p.A1 m.length p.c1]) ∧ AEl w' XB p ∧ Cap XB p ∧ Below W.heap.size W w') := Lib.hid (fun W hb => by
    rw [← hXB]
    exact l13vector m (by omega) HMF.out B m.length d W rfl (HMR.out W hb))
  have HAP : ∀ p, arC XA p = #[.int .i64 1, .slice p.A0 1 p.c0, .slice p.A1 l.length p.c1] := fun p => by rw [← hXA]; rfl
  have HBP : ∀ p, arC XB p = #[.int .i64 1, .slice p.A0 1 p.c0, .slice p.A1 m.length p.c1] := fun p => by rw [← hXB]; rfl
  have hAf : ∀ z ∈ XA.el, -9223372036854775808 ≤ z ∧ z ≤ 9223372036854775807 := by rw [← hXA]; exact HLF.out
  have hBf : ∀ z ∈ XB.el, -9223372036854775808 ≤ z ∧ z ≤ 9223372036854775807 := by rw [← hXB]; exact HMF.out
  rw [hXA, hXB] at hcE hcA
  rw [hXA] at tk1 tk2 hdE hdA
  obtain ⟨XC, hXC⟩ : ∃ X : AV, makeA 1 [((l.length + m.length : Nat) : Int)] (goV 1 [XA, XB] fc) = X := ⟨_, rfl⟩
  have hCl : XC.el.length = l.length + m.length := by rw [← hXC]; exact mk_len _ _
  have hCP : ∀ p, arC XC p = #[.int .i64 1, .slice p.A0 1 p.c0, .slice p.A1 (l.length + m.length) p.c1] := fun p => by
    unfold arC
    rw [hCl, ← hXC]
    rfl
  have hCf : ∀ z ∈ XC.el, -9223372036854775808 ≤ z ∧ z ≤ 9223372036854775807 := by
    rw [← hXC]
    exact mk_fine (fun z => elV_bounds (by
      intro a ha
      simp only [List.mem_cons, List.not_mem_nil, or_false] at ha
      rcases ha with rfl | rfl
      · exact hAf
      · exact hBf) _)
  have hCs : XC.sh.length ≤ 9223372036854775807 := by rw [← hXC]; simp [makeA]
  have hT : tyE XC = 0 ∧ tyA XC = ⟨1, [], [(l.length : Int) + (m.length : Int)]⟩ := by
    have ho : okA XC = true := by rw [← hXC]; exact okA_mk _ (by omega)
    unfold tyE tyA
    rw [ho, if_pos rfl, if_pos rfl]
    refine ⟨rfl, ?_⟩
    unfold tyN
    rw [← hXC]
    show (⟨1, [], [((l.length + m.length : Nat) : Int)]⟩ : AV) = _
    rw [Int.natCast_add]
  rw [hXC] at hcA
  have HCAT : Hid (∀ (p q : AP) (W : World), AEl W XA p → AEl W XB q → Cap XA p → Cap XB q → Calls Try.prog 37 #[.agg #[.int .i64 1, .slice p.A0 1 p.c0, .slice p.A1 l.length p.c1], .agg #[.int .i64 1, .slice q.A0 1 q.c0, .slice q.A1 m.length q.c1]] W fun e w' => ∃ r, e = .returned (.tuple #[.agg #[.int .i64 1, .slice r.A0 1 r.c0, .slice r.A1 (l.length + m.length) r.c1], .int .i64 0]) ∧ AEl w' XC r ∧ Below W.heap.size W w') := Lib.hid (fun p q W h1 h2 c1 c2 => by
    have := mocat_any XA XB p q W h1 h2 c1 c2
    rw [hcE, hcA, HAP, HBP] at this
    refine this.mono ?_
    rintro e w' ⟨r, rfl, o, b⟩
    exact ⟨r, by rw [hCP], o.el hCs (by omega) hCf, b⟩)
  have HTAL : Hid (∀ (p : AP) (W : World), AEl W XC p → Calls Try.prog 33 #[.agg #[.int .i64 1, .slice p.A0 1 p.c0, .slice p.A1 (l.length + m.length) p.c1]] W fun e w' => ∃ r : AP, e = .returned (.tuple #[.agg #[.int .i64 1, .slice r.A0 0 r.c0, .slice r.A1 1 r.c1], .int .i64 0]) ∧ AEl w' ⟨1, [], [(l.length : Int) + (m.length : Int)]⟩ r ∧ Below W.heap.size W w') := Lib.hid (fun p W h => by
    have := motally_any XC p W h
    rw [hT.1, hT.2, hCP] at this
    refine this.mono ?_
    rintro e w' ⟨r, rfl, o, b⟩
    exact ⟨r, rfl, o.el (by simp) (by simp) (fun z hz => by rw [List.mem_singleton] at hz; omega), b⟩)
  obtain ⟨XT, hXT⟩ : ∃ X, tkA ⟨1, [], [n]⟩ XA = X := ⟨_, rfl⟩
  obtain ⟨ET, hET⟩ : ∃ X, tkE ⟨1, [], [n]⟩ XA = X := ⟨_, rfl⟩
  have HTK : Hid (∀ (p q : AP) (W : World), AEl W ⟨1, [], [n]⟩ p → AEl W XA q → Calls Try.prog 38 #[.agg (arC ⟨1, [], [n]⟩ p), .agg #[.int .i64 1, .slice q.A0 1 q.c0, .slice q.A1 l.length q.c1]] W (GiveE XT ET W)) := Lib.hid (fun p q W h1 h2 => by
    have := motake_any ⟨1, [], [n]⟩ XA p q W h1 h2
    rw [hXT, hET, HAP] at this
    exact this)
  have HTF : Hid ((-4096 ≤ n → n ≤ 4096 → ET = 0 ∧ XT.el.length = n.natAbs) ∧ (n < -4096 ∨ 4096 < n → ET = 9)) := Lib.hid (by
    rw [hXT, hET] at tk1 tk2
    refine ⟨fun h1 h2 => ?_, fun h => (tk2 h).1⟩
    obtain ⟨e1, f, e2⟩ := tk1 h1 h2
    exact ⟨e1, by rw [e2]; exact mk_len _ _⟩)
  obtain ⟨XD, hXD⟩ : ∃ X : AV, makeA 1 [((l.length - n.natAbs : Nat) : Int)] (goV 1 [XA] fd) = X := ⟨_, rfl⟩
  have HDL : Hid (XD.el.length = l.length - n.natAbs) := Lib.hid (by rw [← hXD]; exact mk_len _ _)
  rw [hXD] at hdA
  have HDR : Hid (∀ (p q : AP) (W : World), AEl W ⟨1, [], [n]⟩ p → AEl W XA q → Calls Try.prog 39 #[.agg (arC ⟨1, [], [n]⟩ p), .agg #[.int .i64 1, .slice q.A0 1 q.c0, .slice q.A1 l.length q.c1]] W (GiveE XD 0 W)) := Lib.hid (fun p q W h1 h2 => by
    have := modrop_any ⟨1, [], [n]⟩ XA p q W h1 h2
    rw [hdE, hdA, HAP] at this
    exact this)
  clear tk1 tk2 hdE hdA hXD hXT hET hT hcE hcA hXC hCl hCP hCf hCs hAf hBf HAP HBP hXA hXB hva HLR HMR HLF HMF hl hm
  have d1 : ¬ (2000 : Int) < (l.length : Int) := by omega
  have d2 : ¬ (2000 : Int) < (m.length : Int) := by omega
  generalize l.length = P at *
  generalize m.length = Q at *
  clear h1 h2 hbig hbig1 hbig2 hbig3
  go_enter Try.func7, Try.ntmps7
  go_upto_region 5 with (first
    | ((have l0 := E1.out; clear l0); go_at_call 36; refine (HV2.out _ BW1.out).mono ?_; rintro e w2 ⟨p2, rfl, h2, c2, b2⟩; have E1 := Lib.hid (E1.out.below b2); have E2 := Lib.hid h2; have C2 := Lib.hid c2; have BW2 := Lib.hid (bon BW1.out b2); clear h2 c2 b2)
    | (go_at_call 36; refine (HV1.out _ BW0.out).mono ?_; rintro e w1 ⟨p1, rfl, h1, c1, b1⟩; have E1 := Lib.hid h1; have C1 := Lib.hid c1; have BW1 := Lib.hid (bon BW0.out b1); clear h1 c1 b1)
    | (go_at_call 27; refine (l13alive _).mono ?_; rintro e w0 ⟨rfl, b0⟩; have BW0 := Lib.hid b0; clear b0))
  obtain ⟨w3, hw3⟩ : ∃ w3, (w2.alloc (.cells #[.int .i64 1, .slice p1.A0 1 p1.c0, .slice p1.A1 P p1.c1] 63)).alloc (.cells #[.int .i64 1, .slice p2.A0 1 p2.c0, .slice p2.A1 Q p2.c1] 63) = w3 := ⟨_, rfl⟩
  have K8 : Blk w3 w2.heap.size 63 #[.int .i64 1, .slice p1.A0 1 p1.c0, .slice p1.A1 P p1.c1] := by rw [← hw3]; exact (Blk.new _ _ _).alloc _
  have K9 : Blk w3 (w2.heap.size + 1) 63 #[.int .i64 1, .slice p2.A0 1 p2.c0, .slice p2.A1 Q p2.c1] := by
    have h := Blk.new (w2.alloc (.cells #[.int .i64 1, .slice p1.A0 1 p1.c0, .slice p1.A1 P p1.c1] 63)) 63 #[.int .i64 1, .slice p2.A0 1 p2.c0, .slice p2.A1 Q p2.c1]
    rw [hw3] at h
    simpa only [World.size_alloc] using h
  have F1 : Hid (AEl w3 XA p1) := Lib.hid (by rw [← hw3]; exact (E1.out.below (albel _ _)).below (albel _ _))
  have F2 : Hid (AEl w3 XB p2) := Lib.hid (by rw [← hw3]; exact (E2.out.below (albel _ _)).below (albel _ _))
  have BW3 : Hid (Below w.heap.size w w3) := Lib.hid (by rw [← hw3]; exact bon (bon BW2.out (albel _ _)) (albel _ _))
  rw [hw3]
  obtain ⟨g8, hg8⟩ : ∃ g, w2.heap.size = g := ⟨_, rfl⟩
  rw [hg8] at K8 K9 ⊢
  have x0 := K8.cell 0
  have x1 := K8.cell 1
  have x2 := K8.cell 2
  have y0 := K9.cell 0
  have y1 := K9.cell 1
  have y2 := K9.cell 2
  have L8 := Lib.hid K8
  clear hw3 hg8 K8 K9 E1 E2 BW2 BW1 BW0 HV1 HV2
  go_upto_region 7 with (first
    | (go_at_call 37; refine (HCAT.out p1 p2 _ F1.out F2.out C1.out C2.out).mono ?_; rintro e w4 ⟨p4, rfl, h4, b4⟩; have F1 := Lib.hid (F1.out.below b4); have L8 := Lib.hid (blk_up L8.out b4); have F4 := Lib.hid h4; have BW4 := Lib.hid (bon BW3.out b4); clear h4 b4)
    | (go_at_call 33; refine (HTAL.out p4 _ (F4.out.below (albel _ _))).mono ?_; rintro e w5 ⟨p5, rfl, h5, b5⟩; have F1 := Lib.hid ((F1.out.below (albel _ _)).below b5); have L8 := Lib.hid (blk_up (L8.out.alloc _) b5); have F5 := Lib.hid h5; have BW5 := Lib.hid (bon (bon BW4.out (albel _ _)) b5); clear h5 b5))
  obtain ⟨w6, hw6⟩ : ∃ w6, w5.alloc (.cells #[.int .i64 1, .slice p5.A0 0 p5.c0, .slice p5.A1 1 p5.c1] 63) = w6 := ⟨_, rfl⟩
  obtain ⟨g12, hg12⟩ : ∃ g, w5.heap.size = g := ⟨_, rfl⟩
  have K12 : Blk w6 g12 63 #[.int .i64 1, .slice p5.A0 0 p5.c0, .slice p5.A1 1 p5.c1] := by rw [← hw6, ← hg12]; exact Blk.new _ _ _
  have K8 : Blk w6 g8 63 #[.int .i64 1, .slice p1.A0 1 p1.c0, .slice p1.A1 P p1.c1] := by rw [← hw6]; exact L8.out.alloc _
  have HX8 : Hid (∀ W, Below w6.heap.size w6 W → W.cell? ⟨g8, 0, none⟩ = some (.int .i64 1) ∧ W.cell? ⟨g8, 1, none⟩ = some (.slice p1.A0 1 p1.c0) ∧ W.cell? ⟨g8, 2, none⟩ = some (.slice p1.A1 P p1.c1)) := Lib.hid (fun W hb => ⟨(blk_up K8 hb).cell 0, (blk_up K8 hb).cell 1, (blk_up K8 hb).cell 2⟩)
  have HX12 : Hid (∀ W, Below w6.heap.size w6 W → W.cell? ⟨g12, 0, none⟩ = some (.int .i64 1) ∧ W.cell? ⟨g12, 1, none⟩ = some (.slice p5.A0 0 p5.c0) ∧ W.cell? ⟨g12, 2, none⟩ = some (.slice p5.A1 1 p5.c1)) := Lib.hid (fun W hb => ⟨(blk_up K12 hb).cell 0, (blk_up K12 hb).cell 1, (blk_up K12 hb).cell 2⟩)
  have HE1 : Hid (∀ W, Below w6.heap.size w6 W → AEl W XA p1) := Lib.hid (fun W hb => AEl.below (by rw [← hw6]; exact F1.out.below (albel _ _)) hb)
  have HE5 : Hid (∀ W, Below w6.heap.size w6 W → AEl W ⟨1, [], [(P : Int) + (Q : Int)]⟩ p5) := Lib.hid (fun W hb => AEl.below (by rw [← hw6]; exact F5.out.below (albel _ _)) hb)
  have BW6 : Hid (Below w.heap.size w w6) := Lib.hid (by rw [← hw6]; exact bon BW5.out (albel _ _))
  have HPT : Hid (∀ p, arC XT p = #[.int .i64 XT.kind, .slice p.A0 XT.sh.length p.c0, .slice p.A1 XT.el.length p.c1]) := Lib.hid (fun p => rfl)
  have HPD : Hid (∀ p, arC XD p = #[.int .i64 XD.kind, .slice p.A0 XD.sh.length p.c0, .slice p.A1 XD.el.length p.c1]) := Lib.hid (fun p => rfl)
  rw [hw6, hg12]
  clear hw6 hg12 K12 K8 F1 F2 F4 F5 BW5 BW4 BW3 HCAT HTAL L8
  have HUX : BxU w6 (lookU [(1, xo w6 ⟨1, [], [n]⟩), (3, xto w6 XT ET), (4, xto w6 XT ET), (5, xo w6 XT)]) := lookU_two (by
    intro x hx
    simp only [List.mem_cons, List.not_mem_nil, or_false] at hx
    rcases hx with rfl | rfl | rfl | rfl <;> first | exact xo_stk _ _ | exact xto_stk _ _ _)
  refine wp_region_doneT_on (BxS w6 7 8 14 XT) (bxR 7 [1, 3, 4, 5] (lookU [(1, xo w6 ⟨1, [], [n]⟩), (3, xto w6 XT ET), (4, xto w6 XT ET), (5, xo w6 XT)]) [.int .i64 n, undef, .agg #[.int .i64 1, .slice p1.A0 1 p1.c0, .slice p1.A1 P p1.c1], undef, undef, undef, .int .i64 ET, undef, undef, .int .i64 ET]) (by kernel_rfl) 125 rfl (by kernel_rfl) ⟨(Below.refl _ _).drew, fun e => (by cases e), fun e => (by cases e)⟩ ?_ ?_
  · intro i hi
    have hi2 : i < 10 := hi
    clear hi
    rcases i with _ | i
    · refine bx_value HUX rfl (by decide) (by decide) (by decide) 49 rfl (by decide) (.int .i64 n) rfl ?_
      intro a8 w8 hb8 ho hn
      have o2 : a8.tmps[2]? = some _ := (ho 2 (by kernel_rfl)).trans rfl
      clear ho hn
      refine ⟨wanted_free rfl, ?_⟩
      go_simp
    rcases i with _ | i
    · refine bx_call HUX 35 rfl (by decide) (by decide) (by decide) 50 rfl (by decide) ?_
      intro a8 w8 hb8 ho hn
      obtain ⟨v49, n49, hq49⟩ := hn 0 49 (by kernel_rfl) rfl
      obtain rfl := hq49.1 (by decide) (by decide)
      clear ho hn
      refine ⟨wanted_free rfl, ?_⟩
      refine ⟨#[.int .i64 n], (by go_simp), (arscalar_any n w8).mono ?_⟩
      rintro e w9 ⟨v, rfl, p, rfl, o, b⟩
      exact ⟨_, rfl, b, p, rfl, aown_mono o hb8.size⟩
    rcases i with _ | i
    · refine bx_value HUX rfl (by decide) (by decide) (by decide) 51 rfl (by decide) (.agg #[.int .i64 1, .slice p1.A0 1 p1.c0, .slice p1.A1 P p1.c1]) rfl ?_
      intro a8 w8 hb8 ho hn
      have o8 : a8.tmps[8]? = some _ := (ho 8 (by kernel_rfl)).trans rfl
      clear ho hn
      refine ⟨wanted_free rfl, ?_⟩
      obtain ⟨x0, x1, x2⟩ := HX8.out w8 hb8
      go_simp
    rcases i with _ | i
    · refine bx_call HUX 38 rfl (by decide) (by decide) (by decide) 52 rfl (by decide) ?_
      intro a8 w8 hb8 ho hn
      obtain ⟨v50, n50, hq50⟩ := hn 1 50 (by kernel_rfl) rfl
      have hv50 : xo w6 ⟨1, [], [n]⟩ v50 w8 := hq50.2 (by decide)
      obtain ⟨v51, n51, hq51⟩ := hn 2 51 (by kernel_rfl) rfl
      obtain rfl := hq51.1 (by decide) (by decide)
      clear ho hn
      refine ⟨wanted_free rfl, ?_⟩
      obtain ⟨p, rfl, o⟩ := hv50
      refine ⟨#[.agg (arC ⟨1, [], [n]⟩ p), .agg #[.int .i64 1, .slice p1.A0 1 p1.c0, .slice p1.A1 P p1.c1]], (by go_simp), (HTK.out p p1 w8 (o.el (by simp) (by simp) (fun z hz => by rw [List.mem_singleton] at hz; omega)) (HE1.out w8 hb8)).mono ?_⟩
      rintro e w9 ⟨r, rfl, o9, b9⟩
      exact ⟨_, rfl, b9, r, rfl, aown_mono o9 hb8.size⟩
    rcases i with _ | i
    · refine bx_make HUX rfl (by decide) (by decide) (by decide) 48 rfl (by decide) ?_
      intro a8 w8 hb8 ho hn
      obtain ⟨v52, n52, hq52⟩ := hn 3 52 (by kernel_rfl) rfl
      have hv52 : xto w6 XT ET v52 w8 := hq52.2 (by decide)
      clear ho hn
      refine ⟨wanted_free rfl, ?_⟩
      exact ⟨v52, w8, (by go_simp), Below.refl _ _, hv52⟩
    rcases i with _ | i
    · refine bx_make HUX rfl (by decide) (by decide) (by decide) 53 rfl (by decide) ?_
      intro a8 w8 hb8 ho hn
      obtain ⟨v48, n48, hq48⟩ := hn 4 48 (by kernel_rfl) rfl
      have hv48 : xto w6 XT ET v48 w8 := hq48.2 (by decide)
      clear ho hn
      refine ⟨wanted_free rfl, ?_⟩
      obtain ⟨p, rfl, o⟩ := hv48
      exact ⟨.agg (arC XT p), w8, (by go_simp), Below.refl _ _, p, rfl, o⟩
    rcases i with _ | i
    · refine bx_value HUX rfl (by decide) (by decide) (by decide) 54 rfl (by decide) (.int .i64 ET) rfl ?_
      intro a8 w8 hb8 ho hn
      obtain ⟨v48, n48, hq48⟩ := hn 4 48 (by kernel_rfl) rfl
      have hv48 : xto w6 XT ET v48 w8 := hq48.2 (by decide)
      clear ho hn
      refine ⟨wanted_free rfl, ?_⟩
      obtain ⟨p, rfl, o⟩ := hv48
      go_simp
    rcases i with _ | i
    · refine bx_alloc HUX rfl (by decide) (by decide) rfl (.int .i64 0) (.slice none 0 0) (.slice none 0 0) ?_
      intro a8 w8 ho
      have o124 : a8.tmps[124]? = some _ := (ho 124 (by kernel_rfl)).trans rfl
      have hsz : 124 < a8.tmps.size := (Array.getElem?_eq_some_iff.1 o124).1
      refine ⟨by omega, wanted_free rfl, ?_⟩
      go_simp
    rcases i with _ | i
    · refine bx_store HUX rfl rfl (by decide) (by decide) rfl (by kernel_rfl) rfl ?_
      intro a8 w8 g u0 u1 u2 hg n14 hn
      obtain ⟨v53, n53, hq53⟩ := hn 5 53 (by kernel_rfl) rfl
      have hv53 : xo w6 XT v53 w8 := hq53.2 (by decide)
      clear hn
      refine ⟨wanted_free rfl, ?_⟩
      obtain ⟨r, rfl, o⟩ := hv53
      have x0 := hg.cell 0
      have x1 := hg.cell 1
      have x2 := hg.cell 2
      have f0 := hg.frozen 0
      have f1 := hg.frozen 1
      have f2 := hg.frozen 2
      refine ⟨r, o, ?_⟩
      rw [HPT.out r] at n53
      clear hg o
      go_simp
    rcases i with _ | i
    · refine bx_value HUX rfl (by decide) (by decide) (by decide) 15 rfl (by decide) (.int .i64 ET) rfl ?_
      intro a8 w8 hb8 ho hn
      obtain ⟨v54, n54, hq54⟩ := hn 6 54 (by kernel_rfl) rfl
      obtain rfl := hq54.1 (by decide) (by decide)
      clear ho hn
      refine ⟨wanted_free rfl, ?_⟩
      go_simp
    omega
  · intro dn fv w7 hS7 hR7 hall
    obtain ⟨g14, e14, _, _, hfin⟩ := hS7.h (hall 7 (by decide))
    obtain ⟨r14, hb14, _⟩ := hfin (hall 8 (by decide))
    have hbw := hS7.b
    have h15 : fv 15 = .int .i64 ET := (hR7 9 15 rfl).1 (by decide) (by decide)
    clear hS7 hR7 hall hfin
    simp only [putAll, List.foldl_cons, List.foldl_nil, Act.put, List.setIfInBounds_toArray, List.set_cons_succ, List.set_cons_zero, List.getElem?_toArray, List.getElem?_cons_succ, List.getElem?_cons_zero, Option.some.injEq] at e14 ⊢
    rw [e14, h15]
    have HY8 := Lib.hid (fun W (hb : Below w7.heap.size w7 W) => HX8.out W (bon hbw hb))
    have HF1 := Lib.hid (fun W (hb : Below w7.heap.size w7 W) => HE1.out W (bon hbw hb))
    have HY12 := Lib.hid (fun W (hb : Below w7.heap.size w7 W) => HX12.out W (bon hbw hb))
    have HF5 := Lib.hid (fun W (hb : Below w7.heap.size w7 W) => HE5.out W (bon hbw hb))
    have BW7 := Lib.hid (bon BW6.out hbw)
    rw [HPT.out r14] at hb14
    have H14 := Lib.hid hb14
    generalize fv 49 = u49
    generalize fv 50 = u50
    generalize fv 51 = u51
    generalize fv 52 = u52
    generalize fv 48 = u48
    generalize fv 53 = u53
    generalize fv 54 = u54
    clear hb14 hbw e14 h15 HX8 HE1 HX12 HE5 HUX HTK
    go_upto_region 8 with (fail)
    have HUY : BxU w7 (lookU [(1, xo w7 ⟨1, [], [n]⟩), (3, xto w7 XD 0), (4, xto w7 XD 0), (5, xo w7 XD)]) := lookU_two (by
      intro x hx
      simp only [List.mem_cons, List.not_mem_nil, or_false] at hx
      rcases hx with rfl | rfl | rfl | rfl <;> first | exact xo_stk _ _ | exact xto_stk _ _ _)
    refine wp_region_doneT_on (BxS w7 7 8 16 XD) (bxR 7 [1, 3, 4, 5] (lookU [(1, xo w7 ⟨1, [], [n]⟩), (3, xto w7 XD 0), (4, xto w7 XD 0), (5, xo w7 XD)]) [.int .i64 n, undef, .agg #[.int .i64 1, .slice p1.A0 1 p1.c0, .slice p1.A1 P p1.c1], undef, undef, undef, .int .i64 0, undef, undef, .int .i64 0]) (by kernel_rfl) 125 rfl (by kernel_rfl) ⟨(Below.refl _ _).drew, fun e => (by cases e), fun e => (by cases e)⟩ ?_ ?_
    · intro i hi
      have hi2 : i < 10 := hi
      clear hi
      rcases i with _ | i
      · refine bx_value HUY rfl (by decide) (by decide) (by decide) 56 rfl (by decide) (.int .i64 n) rfl ?_
        intro a8 w8 hb8 ho hn
        have o2 : a8.tmps[2]? = some _ := (ho 2 (by kernel_rfl)).trans rfl
        clear ho hn
        refine ⟨wanted_free rfl, ?_⟩
        go_simp
      rcases i with _ | i
      · refine bx_call HUY 35 rfl (by decide) (by decide) (by decide) 57 rfl (by decide) ?_
        intro a8 w8 hb8 ho hn
        obtain ⟨v56, n56, hq56⟩ := hn 0 56 (by kernel_rfl) rfl
        obtain rfl := hq56.1 (by decide) (by decide)
        clear ho hn
        refine ⟨wanted_free rfl, ?_⟩
        refine ⟨#[.int .i64 n], (by go_simp), (arscalar_any n w8).mono ?_⟩
        rintro e w9 ⟨v, rfl, p, rfl, o, b⟩
        exact ⟨_, rfl, b, p, rfl, aown_mono o hb8.size⟩
      rcases i with _ | i
      · refine bx_value HUY rfl (by decide) (by decide) (by decide) 58 rfl (by decide) (.agg #[.int .i64 1, .slice p1.A0 1 p1.c0, .slice p1.A1 P p1.c1]) rfl ?_
        intro a8 w8 hb8 ho hn
        have o8 : a8.tmps[8]? = some _ := (ho 8 (by kernel_rfl)).trans rfl
        clear ho hn
        refine ⟨wanted_free rfl, ?_⟩
        obtain ⟨x0, x1, x2⟩ := HY8.out w8 hb8
        go_simp
      rcases i with _ | i
      · refine bx_call HUY 39 rfl (by decide) (by decide) (by decide) 59 rfl (by decide) ?_
        intro a8 w8 hb8 ho hn
        obtain ⟨v57, n57, hq57⟩ := hn 1 57 (by kernel_rfl) rfl
        have hv57 : xo w7 ⟨1, [], [n]⟩ v57 w8 := hq57.2 (by decide)
        obtain ⟨v58, n58, hq58⟩ := hn 2 58 (by kernel_rfl) rfl
        obtain rfl := hq58.1 (by decide) (by decide)
        clear ho hn
        refine ⟨wanted_free rfl, ?_⟩
        obtain ⟨p, rfl, o⟩ := hv57
        refine ⟨#[.agg (arC ⟨1, [], [n]⟩ p), .agg #[.int .i64 1, .slice p1.A0 1 p1.c0, .slice p1.A1 P p1.c1]], (by go_simp), (HDR.out p p1 w8 (o.el (by simp) (by simp) (fun z hz => by rw [List.mem_singleton] at hz; omega)) (HF1.out w8 hb8)).mono ?_⟩
        rintro e w9 ⟨r, rfl, o9, b9⟩
        exact ⟨_, rfl, b9, r, rfl, aown_mono o9 hb8.size⟩
      rcases i with _ | i
      · refine bx_make HUY rfl (by decide) (by decide) (by decide) 55 rfl (by decide) ?_
        intro a8 w8 hb8 ho hn
        obtain ⟨v59, n59, hq59⟩ := hn 3 59 (by kernel_rfl) rfl
        have hv59 : xto w7 XD 0 v59 w8 := hq59.2 (by decide)
        clear ho hn
        refine ⟨wanted_free rfl, ?_⟩
        exact ⟨v59, w8, (by go_simp), Below.refl _ _, hv59⟩
      rcases i with _ | i
      · refine bx_make HUY rfl (by decide) (by decide) (by decide) 60 rfl (by decide) ?_
        intro a8 w8 hb8 ho hn
        obtain ⟨v55, n55, hq55⟩ := hn 4 55 (by kernel_rfl) rfl
        have hv55 : xto w7 XD 0 v55 w8 := hq55.2 (by decide)
        clear ho hn
        refine ⟨wanted_free rfl, ?_⟩
        obtain ⟨p, rfl, o⟩ := hv55
        exact ⟨.agg (arC XD p), w8, (by go_simp), Below.refl _ _, p, rfl, o⟩
      rcases i with _ | i
      · refine bx_value HUY rfl (by decide) (by decide) (by decide) 61 rfl (by decide) (.int .i64 0) rfl ?_
        intro a8 w8 hb8 ho hn
        obtain ⟨v55, n55, hq55⟩ := hn 4 55 (by kernel_rfl) rfl
        have hv55 : xto w7 XD 0 v55 w8 := hq55.2 (by decide)
        clear ho hn
        refine ⟨wanted_free rfl, ?_⟩
        obtain ⟨p, rfl, o⟩ := hv55
        go_simp
      rcases i with _ | i
      · refine bx_alloc HUY rfl (by decide) (by decide) rfl (.int .i64 0) (.slice none 0 0) (.slice none 0 0) ?_
        intro a8 w8 ho
        have o124 : a8.tmps[124]? = some _ := (ho 124 (by kernel_rfl)).trans rfl
        have hsz : 124 < a8.tmps.size := (Array.getElem?_eq_some_iff.1 o124).1
        refine ⟨by omega, wanted_free rfl, ?_⟩
        go_simp
      rcases i with _ | i
      · refine bx_store HUY rfl rfl (by decide) (by decide) rfl (by kernel_rfl) rfl ?_
        intro a8 w8 g u0 u1 u2 hg n16 hn
        obtain ⟨v60, n60, hq60⟩ := hn 5 60 (by kernel_rfl) rfl
        have hv60 : xo w7 XD v60 w8 := hq60.2 (by decide)
        clear hn
        refine ⟨wanted_free rfl, ?_⟩
        obtain ⟨r, rfl, o⟩ := hv60
        have x0 := hg.cell 0
        have x1 := hg.cell 1
        have x2 := hg.cell 2
        have f0 := hg.frozen 0
        have f1 := hg.frozen 1
        have f2 := hg.frozen 2
        refine ⟨r, o, ?_⟩
        rw [HPD.out r] at n60
        clear hg o
        go_simp
      rcases i with _ | i
      · refine bx_value HUY rfl (by decide) (by decide) (by decide) 17 rfl (by decide) (.int .i64 0) rfl ?_
        intro a8 w8 hb8 ho hn
        obtain ⟨v61, n61, hq61⟩ := hn 6 61 (by kernel_rfl) rfl
        obtain rfl := hq61.1 (by decide) (by decide)
        clear ho hn
        refine ⟨wanted_free rfl, ?_⟩
        go_simp
      omega
    · intro dn fv w9 hS7 hR7 hall
      obtain ⟨g16, e16, _, _, hfin⟩ := hS7.h (hall 7 (by decide))
      obtain ⟨r16, hb16, _⟩ := hfin (hall 8 (by decide))
      have hbw := hS7.b
      have h17 : fv 17 = .int .i64 0 := (hR7 9 17 rfl).1 (by decide) (by decide)
      clear hS7 hR7 hall hfin
      simp only [putAll, List.foldl_cons, List.foldl_nil, Act.put, List.setIfInBounds_toArray, List.set_cons_succ, List.set_cons_zero, List.getElem?_toArray, List.getElem?_cons_succ, List.getElem?_cons_zero, Option.some.injEq] at e16 ⊢
      rw [e16, h17]
      have HZ12 := Lib.hid (fun W (hb : Below w9.heap.size w9 W) => HY12.out W (bon hbw hb))
      have HZ5 := Lib.hid (fun W (hb : Below w9.heap.size w9 W) => HF5.out W (bon hbw hb))
      have BW9 := Lib.hid (bon BW7.out hbw)
      have H14 := Lib.hid (blk_up H14.out hbw)
      rw [HPD.out r16] at hb16
      have H16 := Lib.hid hb16
      have HU9 : GU (lookU [(7, xa ⟨1, [], [(P : Int) + (Q : Int)]⟩), (8, xv (.bool true))]) := lookU_stay (by
        intro x hx
        simp only [List.mem_cons, List.not_mem_nil, or_false] at hx
        rcases hx with rfl | rfl <;> first | exact xa_stk _ | exact xv_stk _)
      generalize fv 56 = u56
      generalize fv 57 = u57
      generalize fv 58 = u58
      generalize fv 59 = u59
      generalize fv 55 = u55
      generalize fv 60 = u60
      generalize fv 61 = u61
      clear hb16 hbw e16 h17 HY8 HF1 HY12 HF5 HUY HDR
      go_upto_region 9 with (fail)
      refine wp_region_done_on (GS _) (GR [7, 8] (lookU [(7, xa ⟨1, [], [(P : Int) + (Q : Int)]⟩), (8, xv (.bool true))]) [.agg #[.int .i64 1, .slice p5.A0 0 p5.c0, .slice p5.A1 1 p5.c1], .int .i64 0, .slice A P c, .int .i64 (P : Int), .slice B Q d, .int .i64 (Q : Int), .int .i64 ((P : Int) + (Q : Int)), undef, undef, .bool false, .bool false, .int .i64 0, .bool false, .bool false, .bool false, .int .i64 0, .bool false, .bool false]) (by kernel_rfl) 125 rfl (by kernel_rfl) ((Below.refl _ _).drew) ?_ ?_
      · intro i hi
        have hi2 : i < 18 := hi
        clear hi
        rcases i with _ | i
        · refine gr_value rfl (by decide) (.agg #[.int .i64 1, .slice p5.A0 0 p5.c0, .slice p5.A1 1 p5.c1]) rfl ?_
          intro a8 w8 hb8 ho hn
          have o12 : a8.tmps[12]? = some _ := (ho 12 (by kernel_rfl)).trans rfl
          clear ho hn
          refine ⟨wanted_free rfl, ?_⟩
          obtain ⟨x0, x1, x2⟩ := HZ12.out w8 hb8
          go_simp
        rcases i with _ | i
        · refine gr_value rfl (by decide) (.int .i64 0) rfl ?_
          intro a8 w8 hb8 ho hn
          have o13 : a8.tmps[13]? = some _ := (ho 13 (by kernel_rfl)).trans rfl
          clear ho hn
          refine ⟨wanted_free rfl, ?_⟩
          go_simp
        rcases i with _ | i
        · refine gr_value rfl (by decide) (.slice A P c) rfl ?_
          intro a8 w8 hb8 ho hn
          have o0 : a8.tmps[0]? = some _ := (ho 0 (by kernel_rfl)).trans rfl
          clear ho hn
          refine ⟨wanted_free rfl, ?_⟩
          go_simp
        rcases i with _ | i
        · refine gr_value rfl (by decide) (.int .i64 (P : Int)) rfl ?_
          intro a8 w8 hb8 ho hn
          obtain ⟨v64, n64, hq64⟩ := hn 2 64 (by kernel_rfl) rfl
          obtain rfl := hq64.1 (by decide)
          clear ho hn
          refine ⟨wanted_free rfl, ?_⟩
          go_simp
        rcases i with _ | i
        · refine gr_value rfl (by decide) (.slice B Q d) rfl ?_
          intro a8 w8 hb8 ho hn
          have o1 : a8.tmps[1]? = some _ := (ho 1 (by kernel_rfl)).trans rfl
          clear ho hn
          refine ⟨wanted_free rfl, ?_⟩
          go_simp
        rcases i with _ | i
        · refine gr_value rfl (by decide) (.int .i64 (Q : Int)) rfl ?_
          intro a8 w8 hb8 ho hn
          obtain ⟨v66, n66, hq66⟩ := hn 4 66 (by kernel_rfl) rfl
          obtain rfl := hq66.1 (by decide)
          clear ho hn
          refine ⟨wanted_free rfl, ?_⟩
          go_simp
        rcases i with _ | i
        · refine gr_value rfl (by decide) (.int .i64 ((P : Int) + (Q : Int))) rfl ?_
          intro a8 w8 hb8 ho hn
          obtain ⟨v65, n65, hq65⟩ := hn 3 65 (by kernel_rfl) rfl
          obtain rfl := hq65.1 (by decide)
          obtain ⟨v67, n67, hq67⟩ := hn 5 67 (by kernel_rfl) rfl
          obtain rfl := hq67.1 (by decide)
          clear ho hn
          refine ⟨wanted_free rfl, ?_⟩
          go_simp
          rw [IntKind.wrap_i64]
          omega
        rcases i with _ | i
        · refine gr_call HU9 35 rfl (by decide) ?_
          intro a8 w8 hb8 ho hn
          obtain ⟨v68, n68, hq68⟩ := hn 6 68 (by kernel_rfl) rfl
          obtain rfl := hq68.1 (by decide)
          clear ho hn
          refine ⟨wanted_free rfl, ?_⟩
          refine ⟨#[.int .i64 ((P : Int) + (Q : Int))], (by go_simp), (l13scalar ((P : Int) + (Q : Int)) (by omega) (by omega) w8).mono ?_⟩
          rintro e w9 ⟨p, rfl, h9, c9, b9⟩
          exact ⟨_, rfl, b9, p, rfl, h9, c9⟩
        rcases i with _ | i
        · refine gr_call HU9 34 rfl (by decide) ?_
          intro a8 w8 hb8 ho hn
          obtain ⟨v62, n62, hq62⟩ := hn 0 62 (by kernel_rfl) rfl
          obtain rfl := hq62.1 (by decide)
          obtain ⟨v63, n63, hq63⟩ := hn 1 63 (by kernel_rfl) rfl
          obtain rfl := hq63.1 (by decide)
          obtain ⟨v69, n69, hq69⟩ := hn 7 69 (by kernel_rfl) rfl
          have hv69 : xa ⟨1, [], [(P : Int) + (Q : Int)]⟩ v69 w8 := hq69.2 (by decide)
          clear ho hn
          refine ⟨wanted_free rfl, ?_⟩
          obtain ⟨p, rfl, h9, c9⟩ := hv69
          refine ⟨#[.agg #[.int .i64 1, .slice p5.A0 0 p5.c0, .slice p5.A1 1 p5.c1], .int .i64 0, .agg (arC ⟨1, [], [(P : Int) + (Q : Int)]⟩ p)], (by go_simp), (l13is_yes ⟨1, [], [(P : Int) + (Q : Int)]⟩ p5 p w8 (HZ5.out w8 hb8) h9).mono ?_⟩
          rintro e w9 ⟨rfl, b9⟩
          exact ⟨_, rfl, b9, rfl⟩
        rcases i with _ | i
        · refine gr_value rfl (by decide) (.bool false) rfl ?_
          intro a8 w8 hb8 ho hn
          obtain ⟨v70, n70, hq70⟩ := hn 8 70 (by kernel_rfl) rfl
          have hv70 := hq70.2 (by decide)
          clear ho hn
          refine ⟨wanted_free rfl, ?_⟩
          obtain rfl : v70 = .bool true := hv70
          go_simp
        rcases i with _ | i
        · refine gr_value rfl (by decide) (.bool false) rfl ?_
          intro a8 w8 hb8 ho hn
          obtain ⟨v71, n71, hq71⟩ := hn 9 71 (by kernel_rfl) rfl
          obtain rfl := hq71.1 (by decide)
          clear ho hn
          refine ⟨wanted_free rfl, ?_⟩
          go_simp
        rcases i with _ | i
        · refine gr_value rfl (by decide) (.int .i64 0) rfl ?_
          intro a8 w8 hb8 ho hn
          have o11 : a8.tmps[11]? = some _ := (ho 11 (by kernel_rfl)).trans rfl
          obtain ⟨v72, n72, hq72⟩ := hn 10 72 (by kernel_rfl) rfl
          obtain rfl := hq72.1 (by decide)
          clear ho hn
          refine ⟨wanted_of 10 72 rfl rfl n72, ?_⟩
          go_simp
        rcases i with _ | i
        · refine gr_value rfl (by decide) (.bool false) rfl ?_
          intro a8 w8 hb8 ho hn
          obtain ⟨v73, n73, hq73⟩ := hn 11 73 (by kernel_rfl) rfl
          obtain rfl := hq73.1 (by decide)
          obtain ⟨v72, n72, hq72⟩ := hn 10 72 (by kernel_rfl) rfl
          obtain rfl := hq72.1 (by decide)
          clear ho hn
          refine ⟨wanted_of 10 72 rfl rfl n72, ?_⟩
          go_simp
        rcases i with _ | i
        · refine gr_value rfl (by decide) (.bool false) rfl ?_
          intro a8 w8 hb8 ho hn
          obtain ⟨v72, n72, hq72⟩ := hn 10 72 (by kernel_rfl) rfl
          obtain rfl := hq72.1 (by decide)
          obtain ⟨v74, n74, hq74⟩ := hn 12 74 (by kernel_rfl) rfl
          obtain rfl := hq74.1 (by decide)
          clear ho hn
          refine ⟨wanted_free rfl, ?_⟩
          go_simp
        rcases i with _ | i
        · refine gr_value rfl (by decide) (.bool false) rfl ?_
          intro a8 w8 hb8 ho hn
          obtain ⟨v75, n75, hq75⟩ := hn 13 75 (by kernel_rfl) rfl
          obtain rfl := hq75.1 (by decide)
          clear ho hn
          refine ⟨wanted_free rfl, ?_⟩
          go_simp
        rcases i with _ | i
        · refine gr_value rfl (by decide) (.int .i64 0) rfl ?_
          intro a8 w8 hb8 ho hn
          have o17 : a8.tmps[17]? = some _ := (ho 17 (by kernel_rfl)).trans rfl
          obtain ⟨v76, n76, hq76⟩ := hn 14 76 (by kernel_rfl) rfl
          obtain rfl := hq76.1 (by decide)
          clear ho hn
          refine ⟨wanted_of 14 76 rfl rfl n76, ?_⟩
          go_simp
        rcases i with _ | i
        · refine gr_value rfl (by decide) (.bool false) rfl ?_
          intro a8 w8 hb8 ho hn
          obtain ⟨v77, n77, hq77⟩ := hn 15 77 (by kernel_rfl) rfl
          obtain rfl := hq77.1 (by decide)
          obtain ⟨v76, n76, hq76⟩ := hn 14 76 (by kernel_rfl) rfl
          obtain rfl := hq76.1 (by decide)
          clear ho hn
          refine ⟨wanted_of 14 76 rfl rfl n76, ?_⟩
          go_simp
        rcases i with _ | i
        · refine gr_value rfl (by decide) (.bool false) rfl ?_
          intro a8 w8 hb8 ho hn
          obtain ⟨v76, n76, hq76⟩ := hn 14 76 (by kernel_rfl) rfl
          obtain rfl := hq76.1 (by decide)
          obtain ⟨v78, n78, hq78⟩ := hn 16 78 (by kernel_rfl) rfl
          obtain rfl := hq78.1 (by decide)
          clear ho hn
          refine ⟨wanted_free rfl, ?_⟩
          go_simp
        omega
      · intro dn fv w5 hb5 hR5 hall
        have h79 : fv 79 = _ := (hR5 17 79 rfl).1 (by decide)
        simp only [putAll, List.foldl_cons, List.foldl_nil, Act.put, List.setIfInBounds_toArray, List.set_cons_succ, List.set_cons_zero, h79, List.getD_cons_zero, List.getD_cons_succ]
        clear hR5 hall
        have hf79 : fv 79 = .bool false := h79
        try rw [hf79]
        have BWE := Lib.hid (bon BW9.out hb5)
        have c14 := (blk_up H14.out hb5).cell 2
        have c16 := (blk_up H16.out hb5).cell 2
        obtain ⟨tf1, tf2⟩ := HTF.out
        have hdl := HDL.out
        generalize fv 62 = v62
        generalize fv 63 = v63
        generalize fv 64 = v64
        generalize fv 65 = v65
        generalize fv 66 = v66
        generalize fv 67 = v67
        generalize fv 68 = v68
        generalize fv 69 = v69
        generalize fv 70 = v70
        generalize fv 71 = v71
        generalize fv 72 = v72
        generalize fv 73 = v73
        generalize fv 74 = v74
        generalize fv 75 = v75
        generalize fv 76 = v76
        generalize fv 77 = v77
        generalize fv 78 = v78
        clear h79 hf79 hb5 HTF HDL HZ12 HZ5 H14 H16 BW9 BW7 BW6 HPT HPD C1 C2 HU9
        generalize XT.el.length = xl at *
        generalize XD.el.length = yl at *
        have l9 : (ET == 9) = true ∨ ET = 0 := by
          by_cases hA : -4096 ≤ n ∧ n ≤ 4096
          · exact .inr (tf1 hA.1 hA.2).1
          · exact .inl (by rw [tf2 (by omega)]; rfl)
        clear l9
        by_cases hA : 0 ≤ n
        · have q1 : ¬ n < 0 := by omega
          by_cases hB : n ≤ 4096
          · obtain ⟨hE0, hx⟩ := tf1 (by omega) hB
            subst hE0
            have q2 : ¬ 4096 < n := by omega
            have e1 : ((xl : Int) == n) = true := beq_iff_eq.2 (by omega)
            have e2 : max 0 ((P : Int) - n) = (yl : Int) := by omega
            clear tf1 tf2 hdl hx
            go_wp2
            go_ret
            exact ⟨rfl, BWE.out⟩
          · obtain rfl := tf2 (.inr (by omega))
            have q2 : 4096 < n := by omega
            obtain rfl : yl = 0 := by omega
            clear tf1 tf2 hdl
            go_wp2
            go_ret
            exact ⟨rfl, BWE.out⟩
        · have q1 : n < 0 := by omega
          by_cases hB : -4096 ≤ n
          · obtain ⟨hE0, hx⟩ := tf1 hB (by omega)
            subst hE0
            have q2 : ¬ 4096 < -n := by omega
            have q3 : ¬ -n < 0 := by omega
            have e1 : ((xl : Int) == -n) = true := beq_iff_eq.2 (by omega)
            have e2 : max 0 ((P : Int) - -n) = (yl : Int) := by omega
            have e3 : max 0 ((P : Int) + n) = (yl : Int) := by omega
            clear tf1 tf2 hdl hx
            go_wp2
            go_ret
            exact ⟨rfl, BWE.out⟩
          · obtain rfl := tf2 (.inl (by omega))
            obtain rfl : yl = 0 := by omega
            clear tf1 tf2 hdl
            by_cases hM : n = -9223372036854775808
            · subst hM
              have hwm : wrap64 9223372036854775808 = -9223372036854775808 := by unfold wrap64; omega
              go_wp2
              go_ret
              exact ⟨rfl, BWE.out⟩
            · have q2 : 4096 < -n := by omega
              have q3 : ¬ -n < 0 := by omega
              have hMb : -9223372036854775807 ≤ n := by omega
              clear hM
              go_wp2
              go_ret
              exact ⟨rfl, BWE.out⟩
theorem call (A : Option Addr) (c : Nat) (l : List Int) {w : World} (hl : IArg w A c l) (B : Option Addr) (d : Nat) (m : List Int) (hm : IArg w B d m) (n : Int) (hn0 : -9223372036854775808 ≤ n) (hn1 : n ≤ 9223372036854775807) :
    Calls Try.prog 7 #[.slice A l.length c, .slice B m.length d, .int .i64 n] w fun e w' => e = .returned (.bool true) ∧ Below w.heap.size w w' := walk A B c d l m n w hl hm hn0 hn1
end Go.Proofs.Ytlmdijijlbmddaa.moldCounts

/-
  The walk of the statement TurnTwice.
-/
import Derived.Test.YtlmdijijlbmddaaTuAll3
import Derived.Test.YtlmdijijlbmddaaArOpenA
namespace Go.Proofs.Ytlmdijijlbmddaa.turnTwice
open Go.RowKit Go.Proofs.Ytlmdijijlbmddaa.arr Go.Proofs.Ytlmdijijlbmddaa.mo Go.Proofs.Ytlmdijijlbmddaa.tu

set_option maxRecDepth 100000 in
set_option maxHeartbeats 16000000 in
theorem walk (a : AV) (p : AP) (n m : Int) (w : World) (ha : AEl w a p) (hcap : a.sh.length ≤ p.c0) (hn0 : -9223372036854775808 ≤ n) (hn1 : n ≤ 9223372036854775807) (hm0 : -9223372036854775808 ≤ m) (hm1 : m ≤ 9223372036854775807) :
    Calls Try.prog 9 #[.agg (arC a p), .int .i64 n, .int .i64 m] w fun e w' => e = .returned (.bool true) ∧ Below w.heap.size w w' := by
  have hb1 := albel w (.cells (arC a p) 63)
  have hx1 := Blk.new w 63 (arC a p)
  have hLC : ∀ p, arC a p = #[.int .i64 a.kind, .slice p.A0 a.sh.length p.c0, .slice p.A1 a.el.length p.c1] := fun p => rfl
  obtain ⟨w0, hw0⟩ : ∃ w0, w.alloc (.cells (arC a p) 63) = w0 := ⟨_, rfl⟩
  rw [hw0] at hb1 hx1
  have A_0 : Hid (BoxL w0 w.heap.size a p) := Lib.hid ⟨hx1, ha.below hb1, hcap⟩
  have HG : Hid (∀ W, Calls Try.prog 28 #[.agg #[.int .i64 a.kind, .slice p.A0 a.sh.length p.c0, .slice p.A1 a.el.length p.c1]] W fun e w' => e = .returned (.int .i64 (greatA a)) ∧ Below W.heap.size W w') := Lib.hid (fun W => argreat_any a p W)
  have HCK : Hid (∀ W, AEl W a p → Calls Try.prog 29 #[.agg #[.int .i64 a.kind, .slice p.A0 a.sh.length p.c0, .slice p.A1 a.el.length p.c1]] W fun e w' => e = .returned (.int .i64 (checkE a)) ∧ Below W.heap.size W w') := Lib.hid (fun W h => archeck_any a p W h)
  have BW_0 := Lib.hid hb1
  have hgr : greatA a = 0 ∨ greatA a = 1 := by unfold greatA; split <;> simp
  rw [hLC p] at hw0
  rw [hLC p]
  clear hx1 hb1 hLC
  obtain ⟨x0, x1, x2⟩ := A_0.out.cells
  by_cases hg : greatA a = 1
  · rw [hg] at HG
    clear hgr hg ha HCK
    go_enter Try.func9, Try.ntmps9
    go_wp2_with (first
      | (go_at_call 41; (try rw [hw0]); refine (l14alive _).mono ?_; rintro e w1 ⟨rfl, b1⟩; have A_1 := Lib.hid (A_0.out.up b1); obtain ⟨x0, x1, x2⟩ := A_1.out.cells; have BW_1 := Lib.hid (bon BW_0.out b1); clear b1)
      | (go_at_call 28; refine (HG.out _).mono ?_; rintro e w2 ⟨rfl, b2⟩; have BW_2 := Lib.hid (bon BW_1.out b2); clear b2))
    go_ret
    exact ⟨rfl, BW_2.out⟩
  have hg0 : greatA a = 0 := hgr.resolve_right hg
  rw [hg0] at HG
  clear hgr hg hg0
  cases ho : okA a
  · have hc : checkE a = 110 := by unfold checkE; rw [ho, if_neg (by decide)]
    rw [hc] at HCK
    clear ha hc ho
    go_enter Try.func9, Try.ntmps9
    go_wp2_with (first
      | (go_at_call 41; (try rw [hw0]); refine (l14alive _).mono ?_; rintro e w1 ⟨rfl, b1⟩; have A_1 := Lib.hid (A_0.out.up b1); obtain ⟨x0, x1, x2⟩ := A_1.out.cells; have BW_1 := Lib.hid (bon BW_0.out b1); clear b1)
      | (go_at_call 28; refine (HG.out _).mono ?_; rintro e w2 ⟨rfl, b2⟩; have A_2 := Lib.hid (A_1.out.up b2); obtain ⟨x0, x1, x2⟩ := A_2.out.cells; have BW_2 := Lib.hid (bon BW_1.out b2); clear b2)
      | (go_at_call 29; refine (HCK.out _ A_2.out.e).mono ?_; rintro e w3 ⟨rfl, b3⟩; have BW_3 := Lib.hid (bon BW_2.out b3); clear b3))
    go_ret
    exact ⟨rfl, BW_3.out⟩
  have hc : checkE a = 0 := by unfold checkE; rw [ho, if_pos rfl]
  rw [hc] at HCK
  have hf : Fine a := ha.f1
  have hy := rotB_ok n ho
  have hfy := rotB_fine n hf
  have hrr := rev_rev ho
  have htt := tra_traB ho
  have hrv := fun q W h => revB_give ho hf q W h
  have hrrg := fun q W h => revB_give (revB_ok ho) (revB_fine hf) q W h
  have htr := fun q W h => traB_give ho hf q W h
  have httg := fun q W h => traB_give (traB_ok ho) (traB_fine hf) q W h
  have hrol := fun r q W h h2 c => rotB_give ((rowS a.sh : Nat) : Int) ho r q W h h2 c
  have hroy := fun r q W h h2 c => rotB_give n ho r q W h h2 c
  have hroz := fun r q W h h2 c => rotB_give m hy r q W h h2 c
  have hros := fun r q W h h2 c => rotB_give (n + m) ho r q W h h2 c
  have hzz := rot_rot n m ho
  have hoz := rotB_ok m hy
  have hfz := rotB_fine m hfy
  rw [rot_long ho] at hrol
  rw [hrr] at hrrg
  rw [htt] at httg
  obtain ⟨hr0, hr1⟩ := row_last ho
  have hRle : rowS a.sh ≤ 4096 := by
    obtain ⟨L, _, h2, h3, _⟩ := shape_nat (okA_iff.1 ho).1
    unfold rowS
    rw [h2]
    exact rowN_le h3
  have hA4 := okA_len ho
  have hY4 := okA_len hy
  have hZ4 := okA_len hoz
  obtain ⟨XR, hXR⟩ : ∃ X, revB a = X := ⟨_, rfl⟩
  obtain ⟨XT, hXT⟩ : ∃ X, traB a = X := ⟨_, rfl⟩
  obtain ⟨XZ, hXZ⟩ : ∃ X, rotB m (rotB n a) = X := ⟨_, rfl⟩
  rw [hXZ] at hzz hroz hZ4 hfz
  rw [← hzz] at hros
  obtain ⟨XY, hXY⟩ : ∃ X, rotB n a = X := ⟨_, rfl⟩
  rw [hXY] at hroy hroz hY4 hfy
  rw [hXR] at hrv hrrg
  rw [hXT] at htr httg
  have HFA : Hid (a.sh.length ≤ 9223372036854775807 ∧ a.el.length ≤ 9223372036854775807 ∧ Fine a) := Lib.hid ⟨by omega, by omega, hf⟩
  have HFY : Hid (XY.sh.length ≤ 9223372036854775807 ∧ XY.el.length ≤ 9223372036854775807 ∧ Fine XY) := Lib.hid ⟨by omega, by omega, hfy⟩
  have HFZ : Hid (XZ.sh.length ≤ 9223372036854775807 ∧ XZ.el.length ≤ 9223372036854775807 ∧ Fine XZ) := Lib.hid ⟨by omega, by omega, hfz⟩
  have HRV := Lib.hid hrv
  have HRR := Lib.hid hrrg
  have HTR := Lib.hid htr
  have HTT := Lib.hid httg
  have HROY := Lib.hid hroy
  have HROZ := Lib.hid hroz
  have HROS0 := Lib.hid hros
  obtain ⟨rn, hrn⟩ : ∃ x, n.tmod 4096 = x := ⟨_, rfl⟩
  obtain ⟨rm, hrm⟩ : ∃ x, m.tmod 4096 = x := ⟨_, rfl⟩
  have hrn0 : -4096 < rn ∧ rn < 4096 := by
    have h1 : (n.tmod 4096).natAbs = n.natAbs % 4096 := Int.natAbs_tmod n 4096
    have h2 := Nat.mod_lt n.natAbs (show 0 < 4096 by decide)
    rw [hrn] at h1
    omega
  have hrm0 : -4096 < rm ∧ rm < 4096 := by
    have h1 : (m.tmod 4096).natAbs = m.natAbs % 4096 := Int.natAbs_tmod m 4096
    have h2 := Nat.mod_lt m.natAbs (show 0 < 4096 by decide)
    rw [hrm] at h1
    omega
  obtain ⟨hrn1, hrn2⟩ := hrn0
  obtain ⟨hrm1, hrm2⟩ := hrm0
  have HROS : Hid (rn + rm = n + m → ∀ (r q : AP) (W : World), AEl W ⟨1, [], [rn + rm]⟩ r → AEl W a q → a.sh.length ≤ q.c0 → Calls Try.prog 45 #[.agg (arC ⟨1, [], [rn + rm]⟩ r), .agg (arC a q)] W (GiveE XZ 0 W)) := Lib.hid (fun e => by rw [e]; exact hros)
  clear hrr htt hrv hrrg htr httg hroy hroz hros hzz hoz hfz hy hfy hf hXR hXT hXZ hXY hA4 hY4 hZ4 ha hc HROS0
  go_enter Try.func9, Try.ntmps9
  go_upto_region 4 with (first
    | (go_at_call 41; (try rw [hw0]); refine (l14alive _).mono ?_; rintro e w1 ⟨rfl, b1⟩; have A_1 := Lib.hid (A_0.out.up b1); obtain ⟨x0, x1, x2⟩ := A_1.out.cells; have BW_1 := Lib.hid (bon BW_0.out b1); clear b1)
    | (go_at_call 28; refine (HG.out _).mono ?_; rintro e w2 ⟨rfl, b2⟩; have A_2 := Lib.hid (A_1.out.up b2); obtain ⟨x0, x1, x2⟩ := A_2.out.cells; have BW_2 := Lib.hid (bon BW_1.out b2); clear b2)
    | (go_at_call 29; refine (HCK.out _ A_2.out.e).mono ?_; rintro e w3 ⟨rfl, b3⟩; have A_3 := Lib.hid (A_2.out.up b3); have BW_3 := Lib.hid (bon BW_2.out b3); clear b3))
  clear x0 x1 x2
  obtain ⟨g1, hg1⟩ : ∃ g, w.heap.size = g := ⟨_, rfl⟩
  rw [hg1] at A_3
  rw [hg1]
  clear HG HCK A_0 A_1 A_2 BW_0 BW_1 BW_2
  obtain ⟨x0, x1, x2⟩ := A_3.out.cells
  go_upto_region 5 with (go_at_call 42; refine (HRV.out p _ A_3.out.e).mono ?_; rintro e v4 ⟨p4, he, hk, ck, bk⟩; obtain rfl : e = .returned (.tuple #[.agg #[.int .i64 XR.kind, .slice p4.A0 XR.sh.length p4.c0, .slice p4.A1 XR.el.length p4.c1], .int .i64 0]) := he; have HK4 := Lib.hid hk; have CK4 := Lib.hid ck; have BK4 := Lib.hid bk; clear hk ck bk)
  obtain ⟨w4, hw4⟩ : ∃ W, v4.alloc (.cells #[.int .i64 XR.kind, .slice p4.A0 XR.sh.length p4.c0, .slice p4.A1 XR.el.length p4.c1] 63) = W := ⟨_, rfl⟩
  obtain ⟨g4, hg4⟩ : ∃ g, v4.heap.size = g := ⟨_, rfl⟩
  have bb4 : Below w3.heap.size w3 w4 := by rw [← hw4]; exact bon BK4.out (albel _ _)
  have N4 : Hid (BoxL w4 g4 XR p4) := Lib.hid (by rw [← hw4, ← hg4]; exact BoxL.new HK4.out CK4.out)
  have A_4 := Lib.hid (A_3.out.up bb4)
  have BW_4 : Hid (Below w.heap.size w w4) := Lib.hid (bon BW_3.out bb4)
  rw [hw4, hg4]
  clear x0 x1 x2 HK4 CK4 BK4 bb4 hw4 hg4 A_3 BW_3
  obtain ⟨x0, x1, x2⟩ := N4.out.cells
  go_upto_region 6 with (go_at_call 42; refine (HRR.out p4 _ N4.out.e).mono ?_; rintro e v5 ⟨p5, he, hk, ck, bk⟩; obtain rfl : e = .returned (.tuple #[.agg #[.int .i64 a.kind, .slice p5.A0 a.sh.length p5.c0, .slice p5.A1 a.el.length p5.c1], .int .i64 0]) := he; have HK5 := Lib.hid hk; have CK5 := Lib.hid ck; have BK5 := Lib.hid bk; clear hk ck bk)
  obtain ⟨w5, hw5⟩ : ∃ W, v5.alloc (.cells #[.int .i64 a.kind, .slice p5.A0 a.sh.length p5.c0, .slice p5.A1 a.el.length p5.c1] 63) = W := ⟨_, rfl⟩
  obtain ⟨g5, hg5⟩ : ∃ g, v5.heap.size = g := ⟨_, rfl⟩
  have bb5 : Below w4.heap.size w4 w5 := by rw [← hw5]; exact bon BK5.out (albel _ _)
  have N5 : Hid (BoxL w5 g5 a p5) := Lib.hid (by rw [← hw5, ← hg5]; exact BoxL.new HK5.out CK5.out)
  have A_5 := Lib.hid (A_4.out.up bb5)
  have N4_5 := Lib.hid (N4.out.up bb5)
  have BW_5 : Hid (Below w.heap.size w w5) := Lib.hid (bon BW_4.out bb5)
  rw [hw5, hg5]
  clear x0 x1 x2 HK5 CK5 BK5 bb5 hw5 hg5 A_4 N4 BW_4
  obtain ⟨x0, x1, x2⟩ := A_5.out.cells
  go_upto_region 7 with (go_at_call 43; refine (HTR.out p _ A_5.out.e).mono ?_; rintro e v6 ⟨p6, he, hk, ck, bk⟩; obtain rfl : e = .returned (.tuple #[.agg #[.int .i64 XT.kind, .slice p6.A0 XT.sh.length p6.c0, .slice p6.A1 XT.el.length p6.c1], .int .i64 0]) := he; have HK6 := Lib.hid hk; have CK6 := Lib.hid ck; have BK6 := Lib.hid bk; clear hk ck bk)
  obtain ⟨w6, hw6⟩ : ∃ W, v6.alloc (.cells #[.int .i64 XT.kind, .slice p6.A0 XT.sh.length p6.c0, .slice p6.A1 XT.el.length p6.c1] 63) = W := ⟨_, rfl⟩
  obtain ⟨g6, hg6⟩ : ∃ g, v6.heap.size = g := ⟨_, rfl⟩
  have bb6 : Below w5.heap.size w5 w6 := by rw [← hw6]; exact bon BK6.out (albel _ _)
  have N6 : Hid (BoxL w6 g6 XT p6) := Lib.hid (by rw [← hw6, ← hg6]; exact BoxL.new HK6.out CK6.out)
  have A_6 := Lib.hid (A_5.out.up bb6)
  have N4_6 := Lib.hid (N4_5.out.up bb6)
  have N5_6 := Lib.hid (N5.out.up bb6)
  have BW_6 : Hid (Below w.heap.size w w6) := Lib.hid (bon BW_5.out bb6)
  rw [hw6, hg6]
  clear x0 x1 x2 HK6 CK6 BK6 bb6 hw6 hg6 A_5 N4_5 N5 BW_5
  obtain ⟨x0, x1, x2⟩ := N6.out.cells
  go_upto_region 8 with (go_at_call 43; refine (HTT.out p6 _ N6.out.e).mono ?_; rintro e v7 ⟨p7, he, hk, ck, bk⟩; obtain rfl : e = .returned (.tuple #[.agg #[.int .i64 a.kind, .slice p7.A0 a.sh.length p7.c0, .slice p7.A1 a.el.length p7.c1], .int .i64 0]) := he; have HK7 := Lib.hid hk; have CK7 := Lib.hid ck; have BK7 := Lib.hid bk; clear hk ck bk)
  obtain ⟨w7, hw7⟩ : ∃ W, v7.alloc (.cells #[.int .i64 a.kind, .slice p7.A0 a.sh.length p7.c0, .slice p7.A1 a.el.length p7.c1] 63) = W := ⟨_, rfl⟩
  obtain ⟨g7, hg7⟩ : ∃ g, v7.heap.size = g := ⟨_, rfl⟩
  have bb7 : Below w6.heap.size w6 w7 := by rw [← hw7]; exact bon BK7.out (albel _ _)
  have N7 : Hid (BoxL w7 g7 a p7) := Lib.hid (by rw [← hw7, ← hg7]; exact BoxL.new HK7.out CK7.out)
  have A_7 := Lib.hid (A_6.out.up bb7)
  have N4_7 := Lib.hid (N4_6.out.up bb7)
  have N5_7 := Lib.hid (N5_6.out.up bb7)
  have N6_7 := Lib.hid (N6.out.up bb7)
  have BW_7 : Hid (Below w.heap.size w w7) := Lib.hid (bon BW_6.out bb7)
  rw [hw7, hg7]
  clear x0 x1 x2 HK7 CK7 BK7 bb7 hw7 hg7 A_6 N4_6 N5_6 N6 BW_6
  obtain ⟨x0, x1, x2⟩ := A_7.out.cells
  obtain ⟨y0, y1, y2⟩ := N5_7.out.cells
  go_upto_region 10 with (first
    | ((have l0 := N7_8.out; clear l0); go_at_call 44; refine (l14is_yes a p7 p _ N7_8.out.e A_8.out.e).mono ?_; rintro e w9 ⟨rfl, b9⟩; have A_9 := Lib.hid (A_8.out.up b9); have BW_9 := Lib.hid (bon BW_8.out b9); clear b9)
    | (go_at_call 44; refine (l14is_yes a p5 p _ N5_7.out.e A_7.out.e).mono ?_; rintro e w8 ⟨rfl, b8⟩; have A_8 := Lib.hid (A_7.out.up b8); have N7_8 := Lib.hid (N7.out.up b8); have BW_8 := Lib.hid (bon BW_7.out b8); obtain ⟨x0, x1, x2⟩ := A_8.out.cells; obtain ⟨y0, y1, y2⟩ := N7_8.out.cells; clear b8))
  clear x0 x1 x2 y0 y1 y2 HRV HRR HTR HTT N4_7 N5_7 N6_7 N7 A_7 A_8 N7_8 BW_7 BW_8
  obtain ⟨x0, x1, x2⟩ := A_9.out.cells
  by_cases hz : a.sh.length = 0
  · have hz1 : ¬ (0 : Int) < (a.sh.length : Int) := by omega
    have hR : rowS a.sh = 1 := hr0 hz
    rw [hR] at hrol
    have HROX : Hid (∀ (r q : AP) (W : World), AEl W ⟨1, [], [1]⟩ r → AEl W a q → a.sh.length ≤ q.c0 → Calls Try.prog 45 #[.agg (arC ⟨1, [], [1]⟩ r), .agg (arC a q)] W (GiveE a 0 W)) := Lib.hid hrol
    clear hr0 hr1 hrol hR hRle hcap ho
    go_upto_region 13 with (fail)
    clear x0 x1 x2 hz1 hz
    have HUX : BxU w9 (lookU [(1, xo w9 ⟨1, [], [1]⟩), (3, xto w9 a 0), (4, xto w9 a 0), (5, xo w9 a)]) := lookU_two (by
      intro x hx
      simp only [List.mem_cons, List.not_mem_nil, or_false] at hx
      rcases hx with rfl | rfl | rfl | rfl <;> first | exact xo_stk _ _ | exact xto_stk _ _ _)
    refine wp_region_doneT_on (BxS w9 7 8 17 a) (bxR 7 [1, 3, 4, 5] (lookU [(1, xo w9 ⟨1, [], [1]⟩), (3, xto w9 a 0), (4, xto w9 a 0), (5, xo w9 a)]) [.int .i64 1, undef, .agg #[.int .i64 a.kind, .slice p.A0 a.sh.length p.c0, .slice p.A1 a.el.length p.c1], undef, undef, undef, .int .i64 0, undef, undef, .int .i64 0]) (by kernel_rfl) 156 rfl (by kernel_rfl) ⟨(Below.refl _ _).drew, fun e => (by cases e), fun e => (by cases e)⟩ ?_ ?_
    · intro i hi
      have hi2 : i < 10 := hi
      clear hi
      rcases i with _ | i
      · refine bx_value HUX rfl (by decide) (by decide) (by decide) 93 rfl (by decide) (.int .i64 1) rfl ?_
        intro a8 w8 hb8 ho hn
        have o16 : a8.tmps[16]? = some _ := (ho 16 (by kernel_rfl)).trans rfl
        clear ho hn
        refine ⟨wanted_free rfl, ?_⟩
        go_simp
      rcases i with _ | i
      · refine bx_call HUX 35 rfl (by decide) (by decide) (by decide) 94 rfl (by decide) ?_
        intro a8 w8 hb8 ho hn
        obtain ⟨v93, n93, hq93⟩ := hn 0 93 (by kernel_rfl) rfl
        obtain rfl := hq93.1 (by decide) (by decide)
        clear ho hn
        refine ⟨wanted_free rfl, ?_⟩
        refine ⟨#[.int .i64 1], (by go_simp), (arscalar_any 1 w8).mono ?_⟩
        rintro e wz ⟨v, rfl, p_, rfl, o, b⟩
        exact ⟨_, rfl, b, p_, rfl, o.mono hb8.size⟩
      rcases i with _ | i
      · refine bx_value HUX rfl (by decide) (by decide) (by decide) 95 rfl (by decide) (.agg #[.int .i64 a.kind, .slice p.A0 a.sh.length p.c0, .slice p.A1 a.el.length p.c1]) rfl ?_
        intro a8 w8 hb8 ho hn
        have o3 : a8.tmps[3]? = some _ := (ho 3 (by kernel_rfl)).trans rfl
        clear ho hn
        refine ⟨wanted_free rfl, ?_⟩
        obtain ⟨x0, x1, x2⟩ := (A_9.out.up hb8).cells
        go_simp
      rcases i with _ | i
      · refine bx_call HUX 45 rfl (by decide) (by decide) (by decide) 96 rfl (by decide) ?_
        intro a8 w8 hb8 ho hn
        obtain ⟨v94, n94, hq94⟩ := hn 1 94 (by kernel_rfl) rfl
        have hv94 : xo w9 ⟨1, [], [1]⟩ v94 w8 := hq94.2 (by decide)
        obtain ⟨v95, n95, hq95⟩ := hn 2 95 (by kernel_rfl) rfl
        obtain rfl := hq95.1 (by decide) (by decide)
        clear ho hn
        refine ⟨wanted_free rfl, ?_⟩
        obtain ⟨p_, rfl, o⟩ := hv94
        refine ⟨#[.agg (arC ⟨1, [], [1]⟩ p_), .agg #[.int .i64 a.kind, .slice p.A0 a.sh.length p.c0, .slice p.A1 a.el.length p.c1]], (by go_simp), (HROX.out p_ p w8 (o.el (by simp) (by simp) (fun z hz => by rw [List.mem_singleton] at hz; omega)) (A_9.out.up hb8).e A_9.out.c).mono ?_⟩
        rintro e wz ⟨r, rfl, o9, b9⟩
        exact ⟨_, rfl, b9, r, rfl, o9.mono hb8.size⟩
      rcases i with _ | i
      · refine bx_make HUX rfl (by decide) (by decide) (by decide) 92 rfl (by decide) ?_
        intro a8 w8 hb8 ho hn
        obtain ⟨v96, n96, hq96⟩ := hn 3 96 (by kernel_rfl) rfl
        have hv96 : xto w9 a 0 v96 w8 := hq96.2 (by decide)
        clear ho hn
        refine ⟨wanted_free rfl, ?_⟩
        exact ⟨v96, w8, (by go_simp), Below.refl _ _, hv96⟩
      rcases i with _ | i
      · refine bx_make HUX rfl (by decide) (by decide) (by decide) 97 rfl (by decide) ?_
        intro a8 w8 hb8 ho hn
        obtain ⟨v92, n92, hq92⟩ := hn 4 92 (by kernel_rfl) rfl
        have hv92 : xto w9 a 0 v92 w8 := hq92.2 (by decide)
        clear ho hn
        refine ⟨wanted_free rfl, ?_⟩
        obtain ⟨p_, rfl, o⟩ := hv92
        exact ⟨.agg (arC a p_), w8, (by go_simp), Below.refl _ _, p_, rfl, o⟩
      rcases i with _ | i
      · refine bx_value HUX rfl (by decide) (by decide) (by decide) 98 rfl (by decide) (.int .i64 0) rfl ?_
        intro a8 w8 hb8 ho hn
        obtain ⟨v92, n92, hq92⟩ := hn 4 92 (by kernel_rfl) rfl
        have hv92 : xto w9 a 0 v92 w8 := hq92.2 (by decide)
        clear ho hn
        refine ⟨wanted_free rfl, ?_⟩
        obtain ⟨p_, rfl, o⟩ := hv92
        go_simp
      rcases i with _ | i
      · refine bx_alloc HUX rfl (by decide) (by decide) rfl (.int .i64 0) (.slice none 0 0) (.slice none 0 0) ?_
        intro a8 w8 ho
        have o155 : a8.tmps[155]? = some _ := (ho 155 (by kernel_rfl)).trans rfl
        have hsz : 155 < a8.tmps.size := (Array.getElem?_eq_some_iff.1 o155).1
        refine ⟨by omega, wanted_free rfl, ?_⟩
        go_simp
      rcases i with _ | i
      · refine bx_store HUX rfl rfl (by decide) (by decide) rfl (by kernel_rfl) rfl ?_
        intro a8 w8 g u0 u1 u2 hg n17 hn
        obtain ⟨v97, n97, hq97⟩ := hn 5 97 (by kernel_rfl) rfl
        have hv97 : xo w9 a v97 w8 := hq97.2 (by decide)
        clear hn
        refine ⟨wanted_free rfl, ?_⟩
        obtain ⟨r, rfl, o⟩ := hv97
        have x0 := hg.cell 0
        have x1 := hg.cell 1
        have x2 := hg.cell 2
        have f0 := hg.frozen 0
        have f1 := hg.frozen 1
        have f2 := hg.frozen 2
        refine ⟨r, o, ?_⟩
        rw [show arC a r = #[.int .i64 a.kind, .slice r.A0 a.sh.length r.c0, .slice r.A1 a.el.length r.c1] from rfl] at n97
        clear hg o
        go_simp
      rcases i with _ | i
      · refine bx_value HUX rfl (by decide) (by decide) (by decide) 18 rfl (by decide) (.int .i64 0) rfl ?_
        intro a8 w8 hb8 ho hn
        obtain ⟨v98, n98, hq98⟩ := hn 6 98 (by kernel_rfl) rfl
        obtain rfl := hq98.1 (by decide) (by decide)
        clear ho hn
        refine ⟨wanted_free rfl, ?_⟩
        go_simp
      omega
    · intro dn fv w10 hS5 hR5 hall
      obtain ⟨ga, e8, hg8, _, hfin⟩ := hS5.h (hall 7 (by decide))
      obtain ⟨ra, hb8, ho8⟩ := hfin (hall 8 (by decide))
      have hbw := hS5.b
      have h48 : fv 18 = .int .i64 0 := (hR5 9 18 rfl).1 (by decide) (by decide)
      clear hS5 hR5 hall hfin
      simp only [putAll, List.foldl_cons, List.foldl_nil, Act.put, List.setIfInBounds_toArray, List.set_cons_succ, List.set_cons_zero, List.getElem?_toArray, List.getElem?_cons_succ, List.getElem?_cons_zero, Option.some.injEq] at e8 ⊢
      rw [e8, h48]
      have Oa_10 : Hid (BoxL w10 ga a ra) := Lib.hid ⟨hb8, ho8.el HFA.out.1 HFA.out.2.1 HFA.out.2.2, (Cap.of ho8).le⟩
      have A_10 := Lib.hid (A_9.out.up hbw)
      have BW_10 := Lib.hid (bon BW_9.out hbw)
      generalize fv 93 = u93
      generalize fv 94 = u94
      generalize fv 95 = u95
      generalize fv 96 = u96
      generalize fv 92 = u92
      generalize fv 97 = u97
      generalize fv 98 = u98
      clear hb8 ho8 hbw e8 h48 hg8 HUX BW_9 A_9
      go_upto_region 14 with (fail)
      have HUX : BxU w10 (lookU [(1, xo w10 ⟨1, [], [n]⟩), (3, xto w10 XY 0), (4, xto w10 XY 0), (5, xo w10 XY)]) := lookU_two (by
        intro x hx
        simp only [List.mem_cons, List.not_mem_nil, or_false] at hx
        rcases hx with rfl | rfl | rfl | rfl <;> first | exact xo_stk _ _ | exact xto_stk _ _ _)
      refine wp_region_doneT_on (BxS w10 7 8 19 XY) (bxR 7 [1, 3, 4, 5] (lookU [(1, xo w10 ⟨1, [], [n]⟩), (3, xto w10 XY 0), (4, xto w10 XY 0), (5, xo w10 XY)]) [.int .i64 n, undef, .agg #[.int .i64 a.kind, .slice p.A0 a.sh.length p.c0, .slice p.A1 a.el.length p.c1], undef, undef, undef, .int .i64 0, undef, undef, .int .i64 0]) (by kernel_rfl) 156 rfl (by kernel_rfl) ⟨(Below.refl _ _).drew, fun e => (by cases e), fun e => (by cases e)⟩ ?_ ?_
      · intro i hi
        have hi2 : i < 10 := hi
        clear hi
        rcases i with _ | i
        · refine bx_value HUX rfl (by decide) (by decide) (by decide) 100 rfl (by decide) (.int .i64 n) rfl ?_
          intro a8 w8 hb8 ho hn
          have o1 : a8.tmps[1]? = some _ := (ho 1 (by kernel_rfl)).trans rfl
          clear ho hn
          refine ⟨wanted_free rfl, ?_⟩
          go_simp
        rcases i with _ | i
        · refine bx_call HUX 35 rfl (by decide) (by decide) (by decide) 101 rfl (by decide) ?_
          intro a8 w8 hb8 ho hn
          obtain ⟨v100, n100, hq100⟩ := hn 0 100 (by kernel_rfl) rfl
          obtain rfl := hq100.1 (by decide) (by decide)
          clear ho hn
          refine ⟨wanted_free rfl, ?_⟩
          refine ⟨#[.int .i64 n], (by go_simp), (arscalar_any n w8).mono ?_⟩
          rintro e wz ⟨v, rfl, p_, rfl, o, b⟩
          exact ⟨_, rfl, b, p_, rfl, o.mono hb8.size⟩
        rcases i with _ | i
        · refine bx_value HUX rfl (by decide) (by decide) (by decide) 102 rfl (by decide) (.agg #[.int .i64 a.kind, .slice p.A0 a.sh.length p.c0, .slice p.A1 a.el.length p.c1]) rfl ?_
          intro a8 w8 hb8 ho hn
          have o3 : a8.tmps[3]? = some _ := (ho 3 (by kernel_rfl)).trans rfl
          clear ho hn
          refine ⟨wanted_free rfl, ?_⟩
          obtain ⟨x0, x1, x2⟩ := (A_10.out.up hb8).cells
          go_simp
        rcases i with _ | i
        · refine bx_call HUX 45 rfl (by decide) (by decide) (by decide) 103 rfl (by decide) ?_
          intro a8 w8 hb8 ho hn
          obtain ⟨v101, n101, hq101⟩ := hn 1 101 (by kernel_rfl) rfl
          have hv101 : xo w10 ⟨1, [], [n]⟩ v101 w8 := hq101.2 (by decide)
          obtain ⟨v102, n102, hq102⟩ := hn 2 102 (by kernel_rfl) rfl
          obtain rfl := hq102.1 (by decide) (by decide)
          clear ho hn
          refine ⟨wanted_free rfl, ?_⟩
          obtain ⟨p_, rfl, o⟩ := hv101
          refine ⟨#[.agg (arC ⟨1, [], [n]⟩ p_), .agg #[.int .i64 a.kind, .slice p.A0 a.sh.length p.c0, .slice p.A1 a.el.length p.c1]], (by go_simp), (HROY.out p_ p w8 (o.el (by simp) (by simp) (fun z hz => by rw [List.mem_singleton] at hz; omega)) (A_10.out.up hb8).e A_10.out.c).mono ?_⟩
          rintro e wz ⟨r, rfl, o9, b9⟩
          exact ⟨_, rfl, b9, r, rfl, o9.mono hb8.size⟩
        rcases i with _ | i
        · refine bx_make HUX rfl (by decide) (by decide) (by decide) 99 rfl (by decide) ?_
          intro a8 w8 hb8 ho hn
          obtain ⟨v103, n103, hq103⟩ := hn 3 103 (by kernel_rfl) rfl
          have hv103 : xto w10 XY 0 v103 w8 := hq103.2 (by decide)
          clear ho hn
          refine ⟨wanted_free rfl, ?_⟩
          exact ⟨v103, w8, (by go_simp), Below.refl _ _, hv103⟩
        rcases i with _ | i
        · refine bx_make HUX rfl (by decide) (by decide) (by decide) 104 rfl (by decide) ?_
          intro a8 w8 hb8 ho hn
          obtain ⟨v99, n99, hq99⟩ := hn 4 99 (by kernel_rfl) rfl
          have hv99 : xto w10 XY 0 v99 w8 := hq99.2 (by decide)
          clear ho hn
          refine ⟨wanted_free rfl, ?_⟩
          obtain ⟨p_, rfl, o⟩ := hv99
          exact ⟨.agg (arC XY p_), w8, (by go_simp), Below.refl _ _, p_, rfl, o⟩
        rcases i with _ | i
        · refine bx_value HUX rfl (by decide) (by decide) (by decide) 105 rfl (by decide) (.int .i64 0) rfl ?_
          intro a8 w8 hb8 ho hn
          obtain ⟨v99, n99, hq99⟩ := hn 4 99 (by kernel_rfl) rfl
          have hv99 : xto w10 XY 0 v99 w8 := hq99.2 (by decide)
          clear ho hn
          refine ⟨wanted_free rfl, ?_⟩
          obtain ⟨p_, rfl, o⟩ := hv99
          go_simp
        rcases i with _ | i
        · refine bx_alloc HUX rfl (by decide) (by decide) rfl (.int .i64 0) (.slice none 0 0) (.slice none 0 0) ?_
          intro a8 w8 ho
          have o155 : a8.tmps[155]? = some _ := (ho 155 (by kernel_rfl)).trans rfl
          have hsz : 155 < a8.tmps.size := (Array.getElem?_eq_some_iff.1 o155).1
          refine ⟨by omega, wanted_free rfl, ?_⟩
          go_simp
        rcases i with _ | i
        · refine bx_store HUX rfl rfl (by decide) (by decide) rfl (by kernel_rfl) rfl ?_
          intro a8 w8 g u0 u1 u2 hg n19 hn
          obtain ⟨v104, n104, hq104⟩ := hn 5 104 (by kernel_rfl) rfl
          have hv104 : xo w10 XY v104 w8 := hq104.2 (by decide)
          clear hn
          refine ⟨wanted_free rfl, ?_⟩
          obtain ⟨r, rfl, o⟩ := hv104
          have x0 := hg.cell 0
          have x1 := hg.cell 1
          have x2 := hg.cell 2
          have f0 := hg.frozen 0
          have f1 := hg.frozen 1
          have f2 := hg.frozen 2
          refine ⟨r, o, ?_⟩
          rw [show arC XY r = #[.int .i64 XY.kind, .slice r.A0 XY.sh.length r.c0, .slice r.A1 XY.el.length r.c1] from rfl] at n104
          clear hg o
          go_simp
        rcases i with _ | i
        · refine bx_value HUX rfl (by decide) (by decide) (by decide) 20 rfl (by decide) (.int .i64 0) rfl ?_
          intro a8 w8 hb8 ho hn
          obtain ⟨v105, n105, hq105⟩ := hn 6 105 (by kernel_rfl) rfl
          obtain rfl := hq105.1 (by decide) (by decide)
          clear ho hn
          refine ⟨wanted_free rfl, ?_⟩
          go_simp
        omega
      · intro dn fv w11 hS5 hR5 hall
        obtain ⟨gb, e8, hg8, _, hfin⟩ := hS5.h (hall 7 (by decide))
        obtain ⟨rb, hb8, ho8⟩ := hfin (hall 8 (by decide))
        have hbw := hS5.b
        have h48 : fv 20 = .int .i64 0 := (hR5 9 20 rfl).1 (by decide) (by decide)
        clear hS5 hR5 hall hfin
        simp only [putAll, List.foldl_cons, List.foldl_nil, Act.put, List.setIfInBounds_toArray, List.set_cons_succ, List.set_cons_zero, List.getElem?_toArray, List.getElem?_cons_succ, List.getElem?_cons_zero, Option.some.injEq] at e8 ⊢
        rw [e8, h48]
        have Ob_11 : Hid (BoxL w11 gb XY rb) := Lib.hid ⟨hb8, ho8.el HFY.out.1 HFY.out.2.1 HFY.out.2.2, (Cap.of ho8).le⟩
        have A_11 := Lib.hid (A_10.out.up hbw)
        have Oa_11 := Lib.hid (Oa_10.out.up hbw)
        have BW_11 := Lib.hid (bon BW_10.out hbw)
        generalize fv 100 = u100
        generalize fv 101 = u101
        generalize fv 102 = u102
        generalize fv 103 = u103
        generalize fv 99 = u99
        generalize fv 104 = u104
        generalize fv 105 = u105
        clear hb8 ho8 hbw e8 h48 hg8 HUX BW_10 A_10 Oa_10
        go_upto_region 15 with (fail)
        have HUX : BxU w11 (lookU [(1, xo w11 ⟨1, [], [m]⟩), (3, xto w11 XZ 0), (4, xto w11 XZ 0), (5, xo w11 XZ)]) := lookU_two (by
          intro x hx
          simp only [List.mem_cons, List.not_mem_nil, or_false] at hx
          rcases hx with rfl | rfl | rfl | rfl <;> first | exact xo_stk _ _ | exact xto_stk _ _ _)
        refine wp_region_doneT_on (BxS w11 7 8 21 XZ) (bxR 7 [1, 3, 4, 5] (lookU [(1, xo w11 ⟨1, [], [m]⟩), (3, xto w11 XZ 0), (4, xto w11 XZ 0), (5, xo w11 XZ)]) [.int .i64 m, undef, .agg #[.int .i64 XY.kind, .slice rb.A0 XY.sh.length rb.c0, .slice rb.A1 XY.el.length rb.c1], undef, undef, undef, .int .i64 0, undef, undef, .int .i64 0]) (by kernel_rfl) 156 rfl (by kernel_rfl) ⟨(Below.refl _ _).drew, fun e => (by cases e), fun e => (by cases e)⟩ ?_ ?_
        · intro i hi
          have hi2 : i < 10 := hi
          clear hi
          rcases i with _ | i
          · refine bx_value HUX rfl (by decide) (by decide) (by decide) 107 rfl (by decide) (.int .i64 m) rfl ?_
            intro a8 w8 hb8 ho hn
            have o2 : a8.tmps[2]? = some _ := (ho 2 (by kernel_rfl)).trans rfl
            clear ho hn
            refine ⟨wanted_free rfl, ?_⟩
            go_simp
          rcases i with _ | i
          · refine bx_call HUX 35 rfl (by decide) (by decide) (by decide) 108 rfl (by decide) ?_
            intro a8 w8 hb8 ho hn
            obtain ⟨v107, n107, hq107⟩ := hn 0 107 (by kernel_rfl) rfl
            obtain rfl := hq107.1 (by decide) (by decide)
            clear ho hn
            refine ⟨wanted_free rfl, ?_⟩
            refine ⟨#[.int .i64 m], (by go_simp), (arscalar_any m w8).mono ?_⟩
            rintro e wz ⟨v, rfl, p_, rfl, o, b⟩
            exact ⟨_, rfl, b, p_, rfl, o.mono hb8.size⟩
          rcases i with _ | i
          · refine bx_value HUX rfl (by decide) (by decide) (by decide) 109 rfl (by decide) (.agg #[.int .i64 XY.kind, .slice rb.A0 XY.sh.length rb.c0, .slice rb.A1 XY.el.length rb.c1]) rfl ?_
            intro a8 w8 hb8 ho hn
            have o19 : a8.tmps[19]? = some _ := (ho 19 (by kernel_rfl)).trans rfl
            clear ho hn
            refine ⟨wanted_free rfl, ?_⟩
            obtain ⟨x0, x1, x2⟩ := (Ob_11.out.up hb8).cells
            go_simp
          rcases i with _ | i
          · refine bx_call HUX 45 rfl (by decide) (by decide) (by decide) 110 rfl (by decide) ?_
            intro a8 w8 hb8 ho hn
            obtain ⟨v108, n108, hq108⟩ := hn 1 108 (by kernel_rfl) rfl
            have hv108 : xo w11 ⟨1, [], [m]⟩ v108 w8 := hq108.2 (by decide)
            obtain ⟨v109, n109, hq109⟩ := hn 2 109 (by kernel_rfl) rfl
            obtain rfl := hq109.1 (by decide) (by decide)
            clear ho hn
            refine ⟨wanted_free rfl, ?_⟩
            obtain ⟨p_, rfl, o⟩ := hv108
            refine ⟨#[.agg (arC ⟨1, [], [m]⟩ p_), .agg #[.int .i64 XY.kind, .slice rb.A0 XY.sh.length rb.c0, .slice rb.A1 XY.el.length rb.c1]], (by go_simp), (HROZ.out p_ rb w8 (o.el (by simp) (by simp) (fun z hz => by rw [List.mem_singleton] at hz; omega)) (Ob_11.out.up hb8).e Ob_11.out.c).mono ?_⟩
            rintro e wz ⟨r, rfl, o9, b9⟩
            exact ⟨_, rfl, b9, r, rfl, o9.mono hb8.size⟩
          rcases i with _ | i
          · refine bx_make HUX rfl (by decide) (by decide) (by decide) 106 rfl (by decide) ?_
            intro a8 w8 hb8 ho hn
            obtain ⟨v110, n110, hq110⟩ := hn 3 110 (by kernel_rfl) rfl
            have hv110 : xto w11 XZ 0 v110 w8 := hq110.2 (by decide)
            clear ho hn
            refine ⟨wanted_free rfl, ?_⟩
            exact ⟨v110, w8, (by go_simp), Below.refl _ _, hv110⟩
          rcases i with _ | i
          · refine bx_make HUX rfl (by decide) (by decide) (by decide) 111 rfl (by decide) ?_
            intro a8 w8 hb8 ho hn
            obtain ⟨v106, n106, hq106⟩ := hn 4 106 (by kernel_rfl) rfl
            have hv106 : xto w11 XZ 0 v106 w8 := hq106.2 (by decide)
            clear ho hn
            refine ⟨wanted_free rfl, ?_⟩
            obtain ⟨p_, rfl, o⟩ := hv106
            exact ⟨.agg (arC XZ p_), w8, (by go_simp), Below.refl _ _, p_, rfl, o⟩
          rcases i with _ | i
          · refine bx_value HUX rfl (by decide) (by decide) (by decide) 112 rfl (by decide) (.int .i64 0) rfl ?_
            intro a8 w8 hb8 ho hn
            obtain ⟨v106, n106, hq106⟩ := hn 4 106 (by kernel_rfl) rfl
            have hv106 : xto w11 XZ 0 v106 w8 := hq106.2 (by decide)
            clear ho hn
            refine ⟨wanted_free rfl, ?_⟩
            obtain ⟨p_, rfl, o⟩ := hv106
            go_simp
          rcases i with _ | i
          · refine bx_alloc HUX rfl (by decide) (by decide) rfl (.int .i64 0) (.slice none 0 0) (.slice none 0 0) ?_
            intro a8 w8 ho
            have o155 : a8.tmps[155]? = some _ := (ho 155 (by kernel_rfl)).trans rfl
            have hsz : 155 < a8.tmps.size := (Array.getElem?_eq_some_iff.1 o155).1
            refine ⟨by omega, wanted_free rfl, ?_⟩
            go_simp
          rcases i with _ | i
          · refine bx_store HUX rfl rfl (by decide) (by decide) rfl (by kernel_rfl) rfl ?_
            intro a8 w8 g u0 u1 u2 hg n21 hn
            obtain ⟨v111, n111, hq111⟩ := hn 5 111 (by kernel_rfl) rfl
            have hv111 : xo w11 XZ v111 w8 := hq111.2 (by decide)
            clear hn
            refine ⟨wanted_free rfl, ?_⟩
            obtain ⟨r, rfl, o⟩ := hv111
            have x0 := hg.cell 0
            have x1 := hg.cell 1
            have x2 := hg.cell 2
            have f0 := hg.frozen 0
            have f1 := hg.frozen 1
            have f2 := hg.frozen 2
            refine ⟨r, o, ?_⟩
            rw [show arC XZ r = #[.int .i64 XZ.kind, .slice r.A0 XZ.sh.length r.c0, .slice r.A1 XZ.el.length r.c1] from rfl] at n111
            clear hg o
            go_simp
          rcases i with _ | i
          · refine bx_value HUX rfl (by decide) (by decide) (by decide) 22 rfl (by decide) (.int .i64 0) rfl ?_
            intro a8 w8 hb8 ho hn
            obtain ⟨v112, n112, hq112⟩ := hn 6 112 (by kernel_rfl) rfl
            obtain rfl := hq112.1 (by decide) (by decide)
            clear ho hn
            refine ⟨wanted_free rfl, ?_⟩
            go_simp
          omega
        · intro dn fv w12 hS5 hR5 hall
          obtain ⟨gc, e8, hg8, _, hfin⟩ := hS5.h (hall 7 (by decide))
          obtain ⟨rc, hb8, ho8⟩ := hfin (hall 8 (by decide))
          have hbw := hS5.b
          have h48 : fv 22 = .int .i64 0 := (hR5 9 22 rfl).1 (by decide) (by decide)
          clear hS5 hR5 hall hfin
          simp only [putAll, List.foldl_cons, List.foldl_nil, Act.put, List.setIfInBounds_toArray, List.set_cons_succ, List.set_cons_zero, List.getElem?_toArray, List.getElem?_cons_succ, List.getElem?_cons_zero, Option.some.injEq] at e8 ⊢
          rw [e8, h48]
          have Oc_12 : Hid (BoxL w12 gc XZ rc) := Lib.hid ⟨hb8, ho8.el HFZ.out.1 HFZ.out.2.1 HFZ.out.2.2, (Cap.of ho8).le⟩
          have A_12 := Lib.hid (A_11.out.up hbw)
          have Oa_12 := Lib.hid (Oa_11.out.up hbw)
          have BW_12 := Lib.hid (bon BW_11.out hbw)
          generalize fv 107 = u107
          generalize fv 108 = u108
          generalize fv 109 = u109
          generalize fv 110 = u110
          generalize fv 106 = u106
          generalize fv 111 = u111
          generalize fv 112 = u112
          clear hb8 ho8 hbw e8 h48 hg8 HUX BW_11 A_11 Oa_11
          obtain ⟨x0, x1, x2⟩ := A_12.out.cells
          obtain ⟨y0, y1, y2⟩ := Oa_12.out.cells
          by_cases hn : n = rn
          · by_cases hm : m = rm
            · subst hn
              subst hm
              have q3 : wrap64 (n + m) = n + m := by unfold wrap64; omega
              have HROT := Lib.hid (HROS.out rfl)
              go_upto_region 21 with (go_at_call 44; refine (l14is_yes a ra p _ Oa_12.out.e A_12.out.e).mono ?_; rintro e w13 ⟨rfl, b13⟩; have A_13 := Lib.hid (A_12.out.up b13); have Oc_13 := Lib.hid (Oc_12.out.up b13); have BW_13 := Lib.hid (bon BW_12.out b13); clear b13)
              clear x0 x1 x2 y0 y1 y2 HROS
              have HUX : BxU w13 (lookU [(1, xo w13 ⟨1, [], [(n + m)]⟩), (3, xto w13 XZ 0), (4, xto w13 XZ 0), (5, xo w13 XZ)]) := lookU_two (by
                intro x hx
                simp only [List.mem_cons, List.not_mem_nil, or_false] at hx
                rcases hx with rfl | rfl | rfl | rfl <;> first | exact xo_stk _ _ | exact xto_stk _ _ _)
              refine wp_region_doneT_on (BxS w13 7 8 24 XZ) (bxR 7 [1, 3, 4, 5] (lookU [(1, xo w13 ⟨1, [], [(n + m)]⟩), (3, xto w13 XZ 0), (4, xto w13 XZ 0), (5, xo w13 XZ)]) [.int .i64 (n + m), undef, .agg #[.int .i64 a.kind, .slice p.A0 a.sh.length p.c0, .slice p.A1 a.el.length p.c1], undef, undef, undef, .int .i64 0, undef, undef, .int .i64 0]) (by kernel_rfl) 156 rfl (by kernel_rfl) ⟨(Below.refl _ _).drew, fun e => (by cases e), fun e => (by cases e)⟩ ?_ ?_
              · intro i hi
                have hi2 : i < 10 := hi
                clear hi
                rcases i with _ | i
                · refine bx_value HUX rfl (by decide) (by decide) (by decide) 143 rfl (by decide) (.int .i64 (n + m)) rfl ?_
                  intro a8 w8 hb8 ho hn
                  have o23 : a8.tmps[23]? = some _ := (ho 23 (by kernel_rfl)).trans rfl
                  clear ho hn
                  refine ⟨wanted_free rfl, ?_⟩
                  go_simp
                rcases i with _ | i
                · refine bx_call HUX 35 rfl (by decide) (by decide) (by decide) 144 rfl (by decide) ?_
                  intro a8 w8 hb8 ho hn
                  obtain ⟨v143, n143, hq143⟩ := hn 0 143 (by kernel_rfl) rfl
                  obtain rfl := hq143.1 (by decide) (by decide)
                  clear ho hn
                  refine ⟨wanted_free rfl, ?_⟩
                  refine ⟨#[.int .i64 (n + m)], (by go_simp), (arscalar_any (n + m) w8).mono ?_⟩
                  rintro e wz ⟨v, rfl, p_, rfl, o, b⟩
                  exact ⟨_, rfl, b, p_, rfl, o.mono hb8.size⟩
                rcases i with _ | i
                · refine bx_value HUX rfl (by decide) (by decide) (by decide) 145 rfl (by decide) (.agg #[.int .i64 a.kind, .slice p.A0 a.sh.length p.c0, .slice p.A1 a.el.length p.c1]) rfl ?_
                  intro a8 w8 hb8 ho hn
                  have o3 : a8.tmps[3]? = some _ := (ho 3 (by kernel_rfl)).trans rfl
                  clear ho hn
                  refine ⟨wanted_free rfl, ?_⟩
                  obtain ⟨x0, x1, x2⟩ := (A_13.out.up hb8).cells
                  go_simp
                rcases i with _ | i
                · refine bx_call HUX 45 rfl (by decide) (by decide) (by decide) 146 rfl (by decide) ?_
                  intro a8 w8 hb8 ho hn
                  obtain ⟨v144, n144, hq144⟩ := hn 1 144 (by kernel_rfl) rfl
                  have hv144 : xo w13 ⟨1, [], [(n + m)]⟩ v144 w8 := hq144.2 (by decide)
                  obtain ⟨v145, n145, hq145⟩ := hn 2 145 (by kernel_rfl) rfl
                  obtain rfl := hq145.1 (by decide) (by decide)
                  clear ho hn
                  refine ⟨wanted_free rfl, ?_⟩
                  obtain ⟨p_, rfl, o⟩ := hv144
                  refine ⟨#[.agg (arC ⟨1, [], [(n + m)]⟩ p_), .agg #[.int .i64 a.kind, .slice p.A0 a.sh.length p.c0, .slice p.A1 a.el.length p.c1]], (by go_simp), (HROT.out p_ p w8 (o.el (by simp) (by simp) (fun z hz => by rw [List.mem_singleton] at hz; omega)) (A_13.out.up hb8).e A_13.out.c).mono ?_⟩
                  rintro e wz ⟨r, rfl, o9, b9⟩
                  exact ⟨_, rfl, b9, r, rfl, o9.mono hb8.size⟩
                rcases i with _ | i
                · refine bx_make HUX rfl (by decide) (by decide) (by decide) 142 rfl (by decide) ?_
                  intro a8 w8 hb8 ho hn
                  obtain ⟨v146, n146, hq146⟩ := hn 3 146 (by kernel_rfl) rfl
                  have hv146 : xto w13 XZ 0 v146 w8 := hq146.2 (by decide)
                  clear ho hn
                  refine ⟨wanted_free rfl, ?_⟩
                  exact ⟨v146, w8, (by go_simp), Below.refl _ _, hv146⟩
                rcases i with _ | i
                · refine bx_make HUX rfl (by decide) (by decide) (by decide) 147 rfl (by decide) ?_
                  intro a8 w8 hb8 ho hn
                  obtain ⟨v142, n142, hq142⟩ := hn 4 142 (by kernel_rfl) rfl
                  have hv142 : xto w13 XZ 0 v142 w8 := hq142.2 (by decide)
                  clear ho hn
                  refine ⟨wanted_free rfl, ?_⟩
                  obtain ⟨p_, rfl, o⟩ := hv142
                  exact ⟨.agg (arC XZ p_), w8, (by go_simp), Below.refl _ _, p_, rfl, o⟩
                rcases i with _ | i
                · refine bx_value HUX rfl (by decide) (by decide) (by decide) 148 rfl (by decide) (.int .i64 0) rfl ?_
                  intro a8 w8 hb8 ho hn
                  obtain ⟨v142, n142, hq142⟩ := hn 4 142 (by kernel_rfl) rfl
                  have hv142 : xto w13 XZ 0 v142 w8 := hq142.2 (by decide)
                  clear ho hn
                  refine ⟨wanted_free rfl, ?_⟩
                  obtain ⟨p_, rfl, o⟩ := hv142
                  go_simp
                rcases i with _ | i
                · refine bx_alloc HUX rfl (by decide) (by decide) rfl (.int .i64 0) (.slice none 0 0) (.slice none 0 0) ?_
                  intro a8 w8 ho
                  have o155 : a8.tmps[155]? = some _ := (ho 155 (by kernel_rfl)).trans rfl
                  have hsz : 155 < a8.tmps.size := (Array.getElem?_eq_some_iff.1 o155).1
                  refine ⟨by omega, wanted_free rfl, ?_⟩
                  go_simp
                rcases i with _ | i
                · refine bx_store HUX rfl rfl (by decide) (by decide) rfl (by kernel_rfl) rfl ?_
                  intro a8 w8 g u0 u1 u2 hg n24 hn
                  obtain ⟨v147, n147, hq147⟩ := hn 5 147 (by kernel_rfl) rfl
                  have hv147 : xo w13 XZ v147 w8 := hq147.2 (by decide)
                  clear hn
                  refine ⟨wanted_free rfl, ?_⟩
                  obtain ⟨r, rfl, o⟩ := hv147
                  have x0 := hg.cell 0
                  have x1 := hg.cell 1
                  have x2 := hg.cell 2
                  have f0 := hg.frozen 0
                  have f1 := hg.frozen 1
                  have f2 := hg.frozen 2
                  refine ⟨r, o, ?_⟩
                  rw [show arC XZ r = #[.int .i64 XZ.kind, .slice r.A0 XZ.sh.length r.c0, .slice r.A1 XZ.el.length r.c1] from rfl] at n147
                  clear hg o
                  go_simp
                rcases i with _ | i
                · refine bx_value HUX rfl (by decide) (by decide) (by decide) 25 rfl (by decide) (.int .i64 0) rfl ?_
                  intro a8 w8 hb8 ho hn
                  obtain ⟨v148, n148, hq148⟩ := hn 6 148 (by kernel_rfl) rfl
                  obtain rfl := hq148.1 (by decide) (by decide)
                  clear ho hn
                  refine ⟨wanted_free rfl, ?_⟩
                  go_simp
                omega
              · intro dn fv w14 hS5 hR5 hall
                obtain ⟨gd, e8, hg8, _, hfin⟩ := hS5.h (hall 7 (by decide))
                obtain ⟨rd, hb8, ho8⟩ := hfin (hall 8 (by decide))
                have hbw := hS5.b
                have h48 : fv 25 = .int .i64 0 := (hR5 9 25 rfl).1 (by decide) (by decide)
                clear hS5 hR5 hall hfin
                simp only [putAll, List.foldl_cons, List.foldl_nil, Act.put, List.setIfInBounds_toArray, List.set_cons_succ, List.set_cons_zero, List.getElem?_toArray, List.getElem?_cons_succ, List.getElem?_cons_zero, Option.some.injEq] at e8 ⊢
                rw [e8, h48]
                have Od_14 : Hid (BoxL w14 gd XZ rd) := Lib.hid ⟨hb8, ho8.el HFZ.out.1 HFZ.out.2.1 HFZ.out.2.2, (Cap.of ho8).le⟩
                have Oc_14 := Lib.hid (Oc_13.out.up hbw)
                have BW_14 := Lib.hid (bon BW_13.out hbw)
                generalize fv 143 = u143
                generalize fv 144 = u144
                generalize fv 145 = u145
                generalize fv 146 = u146
                generalize fv 142 = u142
                generalize fv 147 = u147
                generalize fv 148 = u148
                clear hb8 ho8 hbw e8 h48 hg8 HUX BW_13 Oc_13
                obtain ⟨x0, x1, x2⟩ := Od_14.out.cells
                obtain ⟨y0, y1, y2⟩ := Oc_14.out.cells
                go_wp2_with (go_at_call 44; refine (l14is_yes XZ rd rc _ Od_14.out.e Oc_14.out.e).mono ?_; rintro e w15 ⟨rfl, b15⟩; have BW_15 := Lib.hid (bon BW_14.out b15); clear b15)
                go_ret
                exact ⟨rfl, BW_15.out⟩
            · subst hn
              have q2 : (m == rm) = false := beq_eq_false_iff_ne.2 hm
              have q3 : wrap64 (n + rm) = n + rm := by unfold wrap64; omega
              go_wp2_with (go_at_call 44; refine (l14is_yes a ra p _ Oa_12.out.e A_12.out.e).mono ?_; rintro e w13 ⟨rfl, b13⟩; have BW_13 := Lib.hid (bon BW_12.out b13); clear b13)
              go_ret
              exact ⟨rfl, BW_13.out⟩
          · have q1 : (n == rn) = false := beq_eq_false_iff_ne.2 hn
            have q3 : wrap64 (rn + rm) = rn + rm := by unfold wrap64; omega
            go_wp2_with (go_at_call 44; refine (l14is_yes a ra p _ Oa_12.out.e A_12.out.e).mono ?_; rintro e w13 ⟨rfl, b13⟩; have BW_13 := Lib.hid (bon BW_12.out b13); clear b13)
            go_ret
            exact ⟨rfl, BW_13.out⟩
  · obtain ⟨k, hk⟩ : ∃ k, a.sh.length = k + 1 := ⟨a.sh.length - 1, by omega⟩
    have hz1 : (0 : Int) < (a.sh.length : Int) := by omega
    have hz2 : (a.sh.length : Int) - 1 = (k : Int) := by omega
    have hz3 : k < a.sh.length := by omega
    have hk4 : k ≤ 4 := by have := okA_len ho; omega
    have hsk := hr1 k hk
    obtain ⟨ad, hA, hla, hca⟩ := A_9.out.e.r0.int_at hz3 rfl
    have hgk : a.sh[k] = ((rowS a.sh : Nat) : Int) := by
      rw [List.getElem?_eq_getElem hz3] at hsk
      exact Option.some.inj hsk
    have hR0 : 0 ≤ ((rowS a.sh : Nat) : Int) := by omega
    have hR1 : ((rowS a.sh : Nat) : Int) ≤ 4096 := by omega
    rw [hgk] at hca
    rw [hA] at x1
    obtain ⟨R, hRR⟩ : ∃ R : Int, ((rowS a.sh : Nat) : Int) = R := ⟨_, rfl⟩
    rw [hRR] at hca hrol hR0 hR1
    have HROX : Hid (∀ (r q : AP) (W : World), AEl W ⟨1, [], [R]⟩ r → AEl W a q → a.sh.length ≤ q.c0 → Calls Try.prog 45 #[.agg (arC ⟨1, [], [R]⟩ r), .agg (arC a q)] W (GiveE a 0 W)) := Lib.hid hrol
    clear hr0 hr1 hrol hRR hRle hcap hgk hsk hk hz ho
    go_upto_region 13 with (fail)
    clear x0 x1 x2 hz1 hz2 hz3 hk4 hca hla hA
    have HUX : BxU w9 (lookU [(1, xo w9 ⟨1, [], [R]⟩), (3, xto w9 a 0), (4, xto w9 a 0), (5, xo w9 a)]) := lookU_two (by
      intro x hx
      simp only [List.mem_cons, List.not_mem_nil, or_false] at hx
      rcases hx with rfl | rfl | rfl | rfl <;> first | exact xo_stk _ _ | exact xto_stk _ _ _)
    refine wp_region_doneT_on (BxS w9 7 8 17 a) (bxR 7 [1, 3, 4, 5] (lookU [(1, xo w9 ⟨1, [], [R]⟩), (3, xto w9 a 0), (4, xto w9 a 0), (5, xo w9 a)]) [.int .i64 R, undef, .agg #[.int .i64 a.kind, .slice p.A0 a.sh.length p.c0, .slice p.A1 a.el.length p.c1], undef, undef, undef, .int .i64 0, undef, undef, .int .i64 0]) (by kernel_rfl) 156 rfl (by kernel_rfl) ⟨(Below.refl _ _).drew, fun e => (by cases e), fun e => (by cases e)⟩ ?_ ?_
    · intro i hi
      have hi2 : i < 10 := hi
      clear hi
      rcases i with _ | i
      · refine bx_value HUX rfl (by decide) (by decide) (by decide) 93 rfl (by decide) (.int .i64 R) rfl ?_
        intro a8 w8 hb8 ho hn
        have o16 : a8.tmps[16]? = some _ := (ho 16 (by kernel_rfl)).trans rfl
        clear ho hn
        refine ⟨wanted_free rfl, ?_⟩
        go_simp
      rcases i with _ | i
      · refine bx_call HUX 35 rfl (by decide) (by decide) (by decide) 94 rfl (by decide) ?_
        intro a8 w8 hb8 ho hn
        obtain ⟨v93, n93, hq93⟩ := hn 0 93 (by kernel_rfl) rfl
        obtain rfl := hq93.1 (by decide) (by decide)
        clear ho hn
        refine ⟨wanted_free rfl, ?_⟩
        refine ⟨#[.int .i64 R], (by go_simp), (arscalar_any R w8).mono ?_⟩
        rintro e wz ⟨v, rfl, p_, rfl, o, b⟩
        exact ⟨_, rfl, b, p_, rfl, o.mono hb8.size⟩
      rcases i with _ | i
      · refine bx_value HUX rfl (by decide) (by decide) (by decide) 95 rfl (by decide) (.agg #[.int .i64 a.kind, .slice p.A0 a.sh.length p.c0, .slice p.A1 a.el.length p.c1]) rfl ?_
        intro a8 w8 hb8 ho hn
        have o3 : a8.tmps[3]? = some _ := (ho 3 (by kernel_rfl)).trans rfl
        clear ho hn
        refine ⟨wanted_free rfl, ?_⟩
        obtain ⟨x0, x1, x2⟩ := (A_9.out.up hb8).cells
        go_simp
      rcases i with _ | i
      · refine bx_call HUX 45 rfl (by decide) (by decide) (by decide) 96 rfl (by decide) ?_
        intro a8 w8 hb8 ho hn
        obtain ⟨v94, n94, hq94⟩ := hn 1 94 (by kernel_rfl) rfl
        have hv94 : xo w9 ⟨1, [], [R]⟩ v94 w8 := hq94.2 (by decide)
        obtain ⟨v95, n95, hq95⟩ := hn 2 95 (by kernel_rfl) rfl
        obtain rfl := hq95.1 (by decide) (by decide)
        clear ho hn
        refine ⟨wanted_free rfl, ?_⟩
        obtain ⟨p_, rfl, o⟩ := hv94
        refine ⟨#[.agg (arC ⟨1, [], [R]⟩ p_), .agg #[.int .i64 a.kind, .slice p.A0 a.sh.length p.c0, .slice p.A1 a.el.length p.c1]], (by go_simp), (HROX.out p_ p w8 (o.el (by simp) (by simp) (fun z hz => by rw [List.mem_singleton] at hz; omega)) (A_9.out.up hb8).e A_9.out.c).mono ?_⟩
        rintro e wz ⟨r, rfl, o9, b9⟩
        exact ⟨_, rfl, b9, r, rfl, o9.mono hb8.size⟩
      rcases i with _ | i
      · refine bx_make HUX rfl (by decide) (by decide) (by decide) 92 rfl (by decide) ?_
        intro a8 w8 hb8 ho hn
        obtain ⟨v96, n96, hq96⟩ := hn 3 96 (by kernel_rfl) rfl
        have hv96 : xto w9 a 0 v96 w8 := hq96.2 (by decide)
        clear ho hn
        refine ⟨wanted_free rfl, ?_⟩
        exact ⟨v96, w8, (by go_simp), Below.refl _ _, hv96⟩
      rcases i with _ | i
      · refine bx_make HUX rfl (by decide) (by decide) (by decide) 97 rfl (by decide) ?_
        intro a8 w8 hb8 ho hn
        obtain ⟨v92, n92, hq92⟩ := hn 4 92 (by kernel_rfl) rfl
        have hv92 : xto w9 a 0 v92 w8 := hq92.2 (by decide)
        clear ho hn
        refine ⟨wanted_free rfl, ?_⟩
        obtain ⟨p_, rfl, o⟩ := hv92
        exact ⟨.agg (arC a p_), w8, (by go_simp), Below.refl _ _, p_, rfl, o⟩
      rcases i with _ | i
      · refine bx_value HUX rfl (by decide) (by decide) (by decide) 98 rfl (by decide) (.int .i64 0) rfl ?_
        intro a8 w8 hb8 ho hn
        obtain ⟨v92, n92, hq92⟩ := hn 4 92 (by kernel_rfl) rfl
        have hv92 : xto w9 a 0 v92 w8 := hq92.2 (by decide)
        clear ho hn
        refine ⟨wanted_free rfl, ?_⟩
        obtain ⟨p_, rfl, o⟩ := hv92
        go_simp
      rcases i with _ | i
      · refine bx_alloc HUX rfl (by decide) (by decide) rfl (.int .i64 0) (.slice none 0 0) (.slice none 0 0) ?_
        intro a8 w8 ho
        have o155 : a8.tmps[155]? = some _ := (ho 155 (by kernel_rfl)).trans rfl
        have hsz : 155 < a8.tmps.size := (Array.getElem?_eq_some_iff.1 o155).1
        refine ⟨by omega, wanted_free rfl, ?_⟩
        go_simp
      rcases i with _ | i
      · refine bx_store HUX rfl rfl (by decide) (by decide) rfl (by kernel_rfl) rfl ?_
        intro a8 w8 g u0 u1 u2 hg n17 hn
        obtain ⟨v97, n97, hq97⟩ := hn 5 97 (by kernel_rfl) rfl
        have hv97 : xo w9 a v97 w8 := hq97.2 (by decide)
        clear hn
        refine ⟨wanted_free rfl, ?_⟩
        obtain ⟨r, rfl, o⟩ := hv97
        have x0 := hg.cell 0
        have x1 := hg.cell 1
        have x2 := hg.cell 2
        have f0 := hg.frozen 0
        have f1 := hg.frozen 1
        have f2 := hg.frozen 2
        refine ⟨r, o, ?_⟩
        rw [show arC a r = #[.int .i64 a.kind, .slice r.A0 a.sh.length r.c0, .slice r.A1 a.el.length r.c1] from rfl] at n97
        clear hg o
        go_simp
      rcases i with _ | i
      · refine bx_value HUX rfl (by decide) (by decide) (by decide) 18 rfl (by decide) (.int .i64 0) rfl ?_
        intro a8 w8 hb8 ho hn
        obtain ⟨v98, n98, hq98⟩ := hn 6 98 (by kernel_rfl) rfl
        obtain rfl := hq98.1 (by decide) (by decide)
        clear ho hn
        refine ⟨wanted_free rfl, ?_⟩
        go_simp
      omega
    · intro dn fv w10 hS5 hR5 hall
      obtain ⟨ga, e8, hg8, _, hfin⟩ := hS5.h (hall 7 (by decide))
      obtain ⟨ra, hb8, ho8⟩ := hfin (hall 8 (by decide))
      have hbw := hS5.b
      have h48 : fv 18 = .int .i64 0 := (hR5 9 18 rfl).1 (by decide) (by decide)
      clear hS5 hR5 hall hfin
      simp only [putAll, List.foldl_cons, List.foldl_nil, Act.put, List.setIfInBounds_toArray, List.set_cons_succ, List.set_cons_zero, List.getElem?_toArray, List.getElem?_cons_succ, List.getElem?_cons_zero, Option.some.injEq] at e8 ⊢
      rw [e8, h48]
      have Oa_10 : Hid (BoxL w10 ga a ra) := Lib.hid ⟨hb8, ho8.el HFA.out.1 HFA.out.2.1 HFA.out.2.2, (Cap.of ho8).le⟩
      have A_10 := Lib.hid (A_9.out.up hbw)
      have BW_10 := Lib.hid (bon BW_9.out hbw)
      generalize fv 93 = u93
      generalize fv 94 = u94
      generalize fv 95 = u95
      generalize fv 96 = u96
      generalize fv 92 = u92
      generalize fv 97 = u97
      generalize fv 98 = u98
      clear hb8 ho8 hbw e8 h48 hg8 HUX BW_9 A_9
      go_upto_region 14 with (fail)
      have HUX : BxU w10 (lookU [(1, xo w10 ⟨1, [], [n]⟩), (3, xto w10 XY 0), (4, xto w10 XY 0), (5, xo w10 XY)]) := lookU_two (by
        intro x hx
        simp only [List.mem_cons, List.not_mem_nil, or_false] at hx
        rcases hx with rfl | rfl | rfl | rfl <;> first | exact xo_stk _ _ | exact xto_stk _ _ _)
      refine wp_region_doneT_on (BxS w10 7 8 19 XY) (bxR 7 [1, 3, 4, 5] (lookU [(1, xo w10 ⟨1, [], [n]⟩), (3, xto w10 XY 0), (4, xto w10 XY 0), (5, xo w10 XY)]) [.int .i64 n, undef, .agg #[.int .i64 a.kind, .slice p.A0 a.sh.length p.c0, .slice p.A1 a.el.length p.c1], undef, undef, undef, .int .i64 0, undef, undef, .int .i64 0]) (by kernel_rfl) 156 rfl (by kernel_rfl) ⟨(Below.refl _ _).drew, fun e => (by cases e), fun e => (by cases e)⟩ ?_ ?_
      · intro i hi
        have hi2 : i < 10 := hi
        clear hi
        rcases i with _ | i
        · refine bx_value HUX rfl (by decide) (by decide) (by decide) 100 rfl (by decide) (.int .i64 n) rfl ?_
          intro a8 w8 hb8 ho hn
          have o1 : a8.tmps[1]? = some _ := (ho 1 (by kernel_rfl)).trans rfl
          clear ho hn
          refine ⟨wanted_free rfl, ?_⟩
          go_simp
        rcases i with _ | i
        · refine bx_call HUX 35 rfl (by decide) (by decide) (by decide) 101 rfl (by decide) ?_
          intro a8 w8 hb8 ho hn
          obtain ⟨v100, n100, hq100⟩ := hn 0 100 (by kernel_rfl) rfl
          obtain rfl := hq100.1 (by decide) (by decide)
          clear ho hn
          refine ⟨wanted_free rfl, ?_⟩
          refine ⟨#[.int .i64 n], (by go_simp), (arscalar_any n w8).mono ?_⟩
          rintro e wz ⟨v, rfl, p_, rfl, o, b⟩
          exact ⟨_, rfl, b, p_, rfl, o.mono hb8.size⟩
        rcases i with _ | i
        · refine bx_value HUX rfl (by decide) (by decide) (by decide) 102 rfl (by decide) (.agg #[.int .i64 a.kind, .slice p.A0 a.sh.length p.c0, .slice p.A1 a.el.length p.c1]) rfl ?_
          intro a8 w8 hb8 ho hn
          have o3 : a8.tmps[3]? = some _ := (ho 3 (by kernel_rfl)).trans rfl
          clear ho hn
          refine ⟨wanted_free rfl, ?_⟩
          obtain ⟨x0, x1, x2⟩ := (A_10.out.up hb8).cells
          go_simp
        rcases i with _ | i
        · refine bx_call HUX 45 rfl (by decide) (by decide) (by decide) 103 rfl (by decide) ?_
          intro a8 w8 hb8 ho hn
          obtain ⟨v101, n101, hq101⟩ := hn 1 101 (by kernel_rfl) rfl
          have hv101 : xo w10 ⟨1, [], [n]⟩ v101 w8 := hq101.2 (by decide)
          obtain ⟨v102, n102, hq102⟩ := hn 2 102 (by kernel_rfl) rfl
          obtain rfl := hq102.1 (by decide) (by decide)
          clear ho hn
          refine ⟨wanted_free rfl, ?_⟩
          obtain ⟨p_, rfl, o⟩ := hv101
          refine ⟨#[.agg (arC ⟨1, [], [n]⟩ p_), .agg #[.int .i64 a.kind, .slice p.A0 a.sh.length p.c0, .slice p.A1 a.el.length p.c1]], (by go_simp), (HROY.out p_ p w8 (o.el (by simp) (by simp) (fun z hz => by rw [List.mem_singleton] at hz; omega)) (A_10.out.up hb8).e A_10.out.c).mono ?_⟩
          rintro e wz ⟨r, rfl, o9, b9⟩
          exact ⟨_, rfl, b9, r, rfl, o9.mono hb8.size⟩
        rcases i with _ | i
        · refine bx_make HUX rfl (by decide) (by decide) (by decide) 99 rfl (by decide) ?_
          intro a8 w8 hb8 ho hn
          obtain ⟨v103, n103, hq103⟩ := hn 3 103 (by kernel_rfl) rfl
          have hv103 : xto w10 XY 0 v103 w8 := hq103.2 (by decide)
          clear ho hn
          refine ⟨wanted_free rfl, ?_⟩
          exact ⟨v103, w8, (by go_simp), Below.refl _ _, hv103⟩
        rcases i with _ | i
        · refine bx_make HUX rfl (by decide) (by decide) (by decide) 104 rfl (by decide) ?_
          intro a8 w8 hb8 ho hn
          obtain ⟨v99, n99, hq99⟩ := hn 4 99 (by kernel_rfl) rfl
          have hv99 : xto w10 XY 0 v99 w8 := hq99.2 (by decide)
          clear ho hn
          refine ⟨wanted_free rfl, ?_⟩
          obtain ⟨p_, rfl, o⟩ := hv99
          exact ⟨.agg (arC XY p_), w8, (by go_simp), Below.refl _ _, p_, rfl, o⟩
        rcases i with _ | i
        · refine bx_value HUX rfl (by decide) (by decide) (by decide) 105 rfl (by decide) (.int .i64 0) rfl ?_
          intro a8 w8 hb8 ho hn
          obtain ⟨v99, n99, hq99⟩ := hn 4 99 (by kernel_rfl) rfl
          have hv99 : xto w10 XY 0 v99 w8 := hq99.2 (by decide)
          clear ho hn
          refine ⟨wanted_free rfl, ?_⟩
          obtain ⟨p_, rfl, o⟩ := hv99
          go_simp
        rcases i with _ | i
        · refine bx_alloc HUX rfl (by decide) (by decide) rfl (.int .i64 0) (.slice none 0 0) (.slice none 0 0) ?_
          intro a8 w8 ho
          have o155 : a8.tmps[155]? = some _ := (ho 155 (by kernel_rfl)).trans rfl
          have hsz : 155 < a8.tmps.size := (Array.getElem?_eq_some_iff.1 o155).1
          refine ⟨by omega, wanted_free rfl, ?_⟩
          go_simp
        rcases i with _ | i
        · refine bx_store HUX rfl rfl (by decide) (by decide) rfl (by kernel_rfl) rfl ?_
          intro a8 w8 g u0 u1 u2 hg n19 hn
          obtain ⟨v104, n104, hq104⟩ := hn 5 104 (by kernel_rfl) rfl
          have hv104 : xo w10 XY v104 w8 := hq104.2 (by decide)
          clear hn
          refine ⟨wanted_free rfl, ?_⟩
          obtain ⟨r, rfl, o⟩ := hv104
          have x0 := hg.cell 0
          have x1 := hg.cell 1
          have x2 := hg.cell 2
          have f0 := hg.frozen 0
          have f1 := hg.frozen 1
          have f2 := hg.frozen 2
          refine ⟨r, o, ?_⟩
          rw [show arC XY r = #[.int .i64 XY.kind, .slice r.A0 XY.sh.length r.c0, .slice r.A1 XY.el.length r.c1] from rfl] at n104
          clear hg o
          go_simp
        rcases i with _ | i
        · refine bx_value HUX rfl (by decide) (by decide) (by decide) 20 rfl (by decide) (.int .i64 0) rfl ?_
          intro a8 w8 hb8 ho hn
          obtain ⟨v105, n105, hq105⟩ := hn 6 105 (by kernel_rfl) rfl
          obtain rfl := hq105.1 (by decide) (by decide)
          clear ho hn
          refine ⟨wanted_free rfl, ?_⟩
          go_simp
        omega
      · intro dn fv w11 hS5 hR5 hall
        obtain ⟨gb, e8, hg8, _, hfin⟩ := hS5.h (hall 7 (by decide))
        obtain ⟨rb, hb8, ho8⟩ := hfin (hall 8 (by decide))
        have hbw := hS5.b
        have h48 : fv 20 = .int .i64 0 := (hR5 9 20 rfl).1 (by decide) (by decide)
        clear hS5 hR5 hall hfin
        simp only [putAll, List.foldl_cons, List.foldl_nil, Act.put, List.setIfInBounds_toArray, List.set_cons_succ, List.set_cons_zero, List.getElem?_toArray, List.getElem?_cons_succ, List.getElem?_cons_zero, Option.some.injEq] at e8 ⊢
        rw [e8, h48]
        have Ob_11 : Hid (BoxL w11 gb XY rb) := Lib.hid ⟨hb8, ho8.el HFY.out.1 HFY.out.2.1 HFY.out.2.2, (Cap.of ho8).le⟩
        have A_11 := Lib.hid (A_10.out.up hbw)
        have Oa_11 := Lib.hid (Oa_10.out.up hbw)
        have BW_11 := Lib.hid (bon BW_10.out hbw)
        generalize fv 100 = u100
        generalize fv 101 = u101
        generalize fv 102 = u102
        generalize fv 103 = u103
        generalize fv 99 = u99
        generalize fv 104 = u104
        generalize fv 105 = u105
        clear hb8 ho8 hbw e8 h48 hg8 HUX BW_10 A_10 Oa_10
        go_upto_region 15 with (fail)
        have HUX : BxU w11 (lookU [(1, xo w11 ⟨1, [], [m]⟩), (3, xto w11 XZ 0), (4, xto w11 XZ 0), (5, xo w11 XZ)]) := lookU_two (by
          intro x hx
          simp only [List.mem_cons, List.not_mem_nil, or_false] at hx
          rcases hx with rfl | rfl | rfl | rfl <;> first | exact xo_stk _ _ | exact xto_stk _ _ _)
        refine wp_region_doneT_on (BxS w11 7 8 21 XZ) (bxR 7 [1, 3, 4, 5] (lookU [(1, xo w11 ⟨1, [], [m]⟩), (3, xto w11 XZ 0), (4, xto w11 XZ 0), (5, xo w11 XZ)]) [.int .i64 m, undef, .agg #[.int .i64 XY.kind, .slice rb.A0 XY.sh.length rb.c0, .slice rb.A1 XY.el.length rb.c1], undef, undef, undef, .int .i64 0, undef, undef, .int .i64 0]) (by kernel_rfl) 156 rfl (by kernel_rfl) ⟨(Below.refl _ _).drew, fun e => (by cases e), fun e => (by cases e)⟩ ?_ ?_
        · intro i hi
          have hi2 : i < 10 := hi
          clear hi
          rcases i with _ | i
          · refine bx_value HUX rfl (by decide) (by decide) (by decide) 107 rfl (by decide) (.int .i64 m) rfl ?_
            intro a8 w8 hb8 ho hn
            have o2 : a8.tmps[2]? = some _ := (ho 2 (by kernel_rfl)).trans rfl
            clear ho hn
            refine ⟨wanted_free rfl, ?_⟩
            go_simp
          rcases i with _ | i
          · refine bx_call HUX 35 rfl (by decide) (by decide) (by decide) 108 rfl (by decide) ?_
            intro a8 w8 hb8 ho hn
            obtain ⟨v107, n107, hq107⟩ := hn 0 107 (by kernel_rfl) rfl
            obtain rfl := hq107.1 (by decide) (by decide)
            clear ho hn
            refine ⟨wanted_free rfl, ?_⟩
            refine ⟨#[.int .i64 m], (by go_simp), (arscalar_any m w8).mono ?_⟩
            rintro e wz ⟨v, rfl, p_, rfl, o, b⟩
            exact ⟨_, rfl, b, p_, rfl, o.mono hb8.size⟩
          rcases i with _ | i
          · refine bx_value HUX rfl (by decide) (by decide) (by decide) 109 rfl (by decide) (.agg #[.int .i64 XY.kind, .slice rb.A0 XY.sh.length rb.c0, .slice rb.A1 XY.el.length rb.c1]) rfl ?_
            intro a8 w8 hb8 ho hn
            have o19 : a8.tmps[19]? = some _ := (ho 19 (by kernel_rfl)).trans rfl
            clear ho hn
            refine ⟨wanted_free rfl, ?_⟩
            obtain ⟨x0, x1, x2⟩ := (Ob_11.out.up hb8).cells
            go_simp
          rcases i with _ | i
          · refine bx_call HUX 45 rfl (by decide) (by decide) (by decide) 110 rfl (by decide) ?_
            intro a8 w8 hb8 ho hn
            obtain ⟨v108, n108, hq108⟩ := hn 1 108 (by kernel_rfl) rfl
            have hv108 : xo w11 ⟨1, [], [m]⟩ v108 w8 := hq108.2 (by decide)
            obtain ⟨v109, n109, hq109⟩ := hn 2 109 (by kernel_rfl) rfl
            obtain rfl := hq109.1 (by decide) (by decide)
            clear ho hn
            refine ⟨wanted_free rfl, ?_⟩
            obtain ⟨p_, rfl, o⟩ := hv108
            refine ⟨#[.agg (arC ⟨1, [], [m]⟩ p_), .agg #[.int .i64 XY.kind, .slice rb.A0 XY.sh.length rb.c0, .slice rb.A1 XY.el.length rb.c1]], (by go_simp), (HROZ.out p_ rb w8 (o.el (by simp) (by simp) (fun z hz => by rw [List.mem_singleton] at hz; omega)) (Ob_11.out.up hb8).e Ob_11.out.c).mono ?_⟩
            rintro e wz ⟨r, rfl, o9, b9⟩
            exact ⟨_, rfl, b9, r, rfl, o9.mono hb8.size⟩
          rcases i with _ | i
          · refine bx_make HUX rfl (by decide) (by decide) (by decide) 106 rfl (by decide) ?_
            intro a8 w8 hb8 ho hn
            obtain ⟨v110, n110, hq110⟩ := hn 3 110 (by kernel_rfl) rfl
            have hv110 : xto w11 XZ 0 v110 w8 := hq110.2 (by decide)
            clear ho hn
            refine ⟨wanted_free rfl, ?_⟩
            exact ⟨v110, w8, (by go_simp), Below.refl _ _, hv110⟩
          rcases i with _ | i
          · refine bx_make HUX rfl (by decide) (by decide) (by decide) 111 rfl (by decide) ?_
            intro a8 w8 hb8 ho hn
            obtain ⟨v106, n106, hq106⟩ := hn 4 106 (by kernel_rfl) rfl
            have hv106 : xto w11 XZ 0 v106 w8 := hq106.2 (by decide)
            clear ho hn
            refine ⟨wanted_free rfl, ?_⟩
            obtain ⟨p_, rfl, o⟩ := hv106
            exact ⟨.agg (arC XZ p_), w8, (by go_simp), Below.refl _ _, p_, rfl, o⟩
          rcases i with _ | i
          · refine bx_value HUX rfl (by decide) (by decide) (by decide) 112 rfl (by decide) (.int .i64 0) rfl ?_
            intro a8 w8 hb8 ho hn
            obtain ⟨v106, n106, hq106⟩ := hn 4 106 (by kernel_rfl) rfl
            have hv106 : xto w11 XZ 0 v106 w8 := hq106.2 (by decide)
            clear ho hn
            refine ⟨wanted_free rfl, ?_⟩
            obtain ⟨p_, rfl, o⟩ := hv106
            go_simp
          rcases i with _ | i
          · refine bx_alloc HUX rfl (by decide) (by decide) rfl (.int .i64 0) (.slice none 0 0) (.slice none 0 0) ?_
            intro a8 w8 ho
            have o155 : a8.tmps[155]? = some _ := (ho 155 (by kernel_rfl)).trans rfl
            have hsz : 155 < a8.tmps.size := (Array.getElem?_eq_some_iff.1 o155).1
            refine ⟨by omega, wanted_free rfl, ?_⟩
            go_simp
          rcases i with _ | i
          · refine bx_store HUX rfl rfl (by decide) (by decide) rfl (by kernel_rfl) rfl ?_
            intro a8 w8 g u0 u1 u2 hg n21 hn
            obtain ⟨v111, n111, hq111⟩ := hn 5 111 (by kernel_rfl) rfl
            have hv111 : xo w11 XZ v111 w8 := hq111.2 (by decide)
            clear hn
            refine ⟨wanted_free rfl, ?_⟩
            obtain ⟨r, rfl, o⟩ := hv111
            have x0 := hg.cell 0
            have x1 := hg.cell 1
            have x2 := hg.cell 2
            have f0 := hg.frozen 0
            have f1 := hg.frozen 1
            have f2 := hg.frozen 2
            refine ⟨r, o, ?_⟩
            rw [show arC XZ r = #[.int .i64 XZ.kind, .slice r.A0 XZ.sh.length r.c0, .slice r.A1 XZ.el.length r.c1] from rfl] at n111
            clear hg o
            go_simp
          rcases i with _ | i
          · refine bx_value HUX rfl (by decide) (by decide) (by decide) 22 rfl (by decide) (.int .i64 0) rfl ?_
            intro a8 w8 hb8 ho hn
            obtain ⟨v112, n112, hq112⟩ := hn 6 112 (by kernel_rfl) rfl
            obtain rfl := hq112.1 (by decide) (by decide)
            clear ho hn
            refine ⟨wanted_free rfl, ?_⟩
            go_simp
          omega
        · intro dn fv w12 hS5 hR5 hall
          obtain ⟨gc, e8, hg8, _, hfin⟩ := hS5.h (hall 7 (by decide))
          obtain ⟨rc, hb8, ho8⟩ := hfin (hall 8 (by decide))
          have hbw := hS5.b
          have h48 : fv 22 = .int .i64 0 := (hR5 9 22 rfl).1 (by decide) (by decide)
          clear hS5 hR5 hall hfin
          simp only [putAll, List.foldl_cons, List.foldl_nil, Act.put, List.setIfInBounds_toArray, List.set_cons_succ, List.set_cons_zero, List.getElem?_toArray, List.getElem?_cons_succ, List.getElem?_cons_zero, Option.some.injEq] at e8 ⊢
          rw [e8, h48]
          have Oc_12 : Hid (BoxL w12 gc XZ rc) := Lib.hid ⟨hb8, ho8.el HFZ.out.1 HFZ.out.2.1 HFZ.out.2.2, (Cap.of ho8).le⟩
          have A_12 := Lib.hid (A_11.out.up hbw)
          have Oa_12 := Lib.hid (Oa_11.out.up hbw)
          have BW_12 := Lib.hid (bon BW_11.out hbw)
          generalize fv 107 = u107
          generalize fv 108 = u108
          generalize fv 109 = u109
          generalize fv 110 = u110
          generalize fv 106 = u106
          generalize fv 111 = u111
          generalize fv 112 = u112
          clear hb8 ho8 hbw e8 h48 hg8 HUX BW_11 A_11 Oa_11
          obtain ⟨x0, x1, x2⟩ := A_12.out.cells
          obtain ⟨y0, y1, y2⟩ := Oa_12.out.cells
          by_cases hn : n = rn
          · by_cases hm : m = rm
            · subst hn
              subst hm
              have q3 : wrap64 (n + m) = n + m := by unfold wrap64; omega
              have HROT := Lib.hid (HROS.out rfl)
              go_upto_region 21 with (go_at_call 44; refine (l14is_yes a ra p _ Oa_12.out.e A_12.out.e).mono ?_; rintro e w13 ⟨rfl, b13⟩; have A_13 := Lib.hid (A_12.out.up b13); have Oc_13 := Lib.hid (Oc_12.out.up b13); have BW_13 := Lib.hid (bon BW_12.out b13); clear b13)
              clear x0 x1 x2 y0 y1 y2 HROS
              have HUX : BxU w13 (lookU [(1, xo w13 ⟨1, [], [(n + m)]⟩), (3, xto w13 XZ 0), (4, xto w13 XZ 0), (5, xo w13 XZ)]) := lookU_two (by
                intro x hx
                simp only [List.mem_cons, List.not_mem_nil, or_false] at hx
                rcases hx with rfl | rfl | rfl | rfl <;> first | exact xo_stk _ _ | exact xto_stk _ _ _)
              refine wp_region_doneT_on (BxS w13 7 8 24 XZ) (bxR 7 [1, 3, 4, 5] (lookU [(1, xo w13 ⟨1, [], [(n + m)]⟩), (3, xto w13 XZ 0), (4, xto w13 XZ 0), (5, xo w13 XZ)]) [.int .i64 (n + m), undef, .agg #[.int .i64 a.kind, .slice p.A0 a.sh.length p.c0, .slice p.A1 a.el.length p.c1], undef, undef, undef, .int .i64 0, undef, undef, .int .i64 0]) (by kernel_rfl) 156 rfl (by kernel_rfl) ⟨(Below.refl _ _).drew, fun e => (by cases e), fun e => (by cases e)⟩ ?_ ?_
              · intro i hi
                have hi2 : i < 10 := hi
                clear hi
                rcases i with _ | i
                · refine bx_value HUX rfl (by decide) (by decide) (by decide) 143 rfl (by decide) (.int .i64 (n + m)) rfl ?_
                  intro a8 w8 hb8 ho hn
                  have o23 : a8.tmps[23]? = some _ := (ho 23 (by kernel_rfl)).trans rfl
                  clear ho hn
                  refine ⟨wanted_free rfl, ?_⟩
                  go_simp
                rcases i with _ | i
                · refine bx_call HUX 35 rfl (by decide) (by decide) (by decide) 144 rfl (by decide) ?_
                  intro a8 w8 hb8 ho hn
                  obtain ⟨v143, n143, hq143⟩ := hn 0 143 (by kernel_rfl) rfl
                  obtain rfl := hq143.1 (by decide) (by decide)
                  clear ho hn
                  refine ⟨wanted_free rfl, ?_⟩
                  refine ⟨#[.int .i64 (n + m)], (by go_simp), (arscalar_any (n + m) w8).mono ?_⟩
                  rintro e wz ⟨v, rfl, p_, rfl, o, b⟩
                  exact ⟨_, rfl, b, p_, rfl, o.mono hb8.size⟩
                rcases i with _ | i
                · refine bx_value HUX rfl (by decide) (by decide) (by decide) 145 rfl (by decide) (.agg #[.int .i64 a.kind, .slice p.A0 a.sh.length p.c0, .slice p.A1 a.el.length p.c1]) rfl ?_
                  intro a8 w8 hb8 ho hn
                  have o3 : a8.tmps[3]? = some _ := (ho 3 (by kernel_rfl)).trans rfl
                  clear ho hn
                  refine ⟨wanted_free rfl, ?_⟩
                  obtain ⟨x0, x1, x2⟩ := (A_13.out.up hb8).cells
                  go_simp
                rcases i with _ | i
                · refine bx_call HUX 45 rfl (by decide) (by decide) (by decide) 146 rfl (by decide) ?_
                  intro a8 w8 hb8 ho hn
                  obtain ⟨v144, n144, hq144⟩ := hn 1 144 (by kernel_rfl) rfl
                  have hv144 : xo w13 ⟨1, [], [(n + m)]⟩ v144 w8 := hq144.2 (by decide)
                  obtain ⟨v145, n145, hq145⟩ := hn 2 145 (by kernel_rfl) rfl
                  obtain rfl := hq145.1 (by decide) (by decide)
                  clear ho hn
                  refine ⟨wanted_free rfl, ?_⟩
                  obtain ⟨p_, rfl, o⟩ := hv144
                  refine ⟨#[.agg (arC ⟨1, [], [(n + m)]⟩ p_), .agg #[.int .i64 a.kind, .slice p.A0 a.sh.length p.c0, .slice p.A1 a.el.length p.c1]], (by go_simp), (HROT.out p_ p w8 (o.el (by simp) (by simp) (fun z hz => by rw [List.mem_singleton] at hz; omega)) (A_13.out.up hb8).e A_13.out.c).mono ?_⟩
                  rintro e wz ⟨r, rfl, o9, b9⟩
                  exact ⟨_, rfl, b9, r, rfl, o9.mono hb8.size⟩
                rcases i with _ | i
                · refine bx_make HUX rfl (by decide) (by decide) (by decide) 142 rfl (by decide) ?_
                  intro a8 w8 hb8 ho hn
                  obtain ⟨v146, n146, hq146⟩ := hn 3 146 (by kernel_rfl) rfl
                  have hv146 : xto w13 XZ 0 v146 w8 := hq146.2 (by decide)
                  clear ho hn
                  refine ⟨wanted_free rfl, ?_⟩
                  exact ⟨v146, w8, (by go_simp), Below.refl _ _, hv146⟩
                rcases i with _ | i
                · refine bx_make HUX rfl (by decide) (by decide) (by decide) 147 rfl (by decide) ?_
                  intro a8 w8 hb8 ho hn
                  obtain ⟨v142, n142, hq142⟩ := hn 4 142 (by kernel_rfl) rfl
                  have hv142 : xto w13 XZ 0 v142 w8 := hq142.2 (by decide)
                  clear ho hn
                  refine ⟨wanted_free rfl, ?_⟩
                  obtain ⟨p_, rfl, o⟩ := hv142
                  exact ⟨.agg (arC XZ p_), w8, (by go_simp), Below.refl _ _, p_, rfl, o⟩
                rcases i with _ | i
                · refine bx_value HUX rfl (by decide) (by decide) (by decide) 148 rfl (by decide) (.int .i64 0) rfl ?_
                  intro a8 w8 hb8 ho hn
                  obtain ⟨v142, n142, hq142⟩ := hn 4 142 (by kernel_rfl) rfl
                  have hv142 : xto w13 XZ 0 v142 w8 := hq142.2 (by decide)
                  clear ho hn
                  refine ⟨wanted_free rfl, ?_⟩
                  obtain ⟨p_, rfl, o⟩ := hv142
                  go_simp
                rcases i with _ | i
                · refine bx_alloc HUX rfl (by decide) (by decide) rfl (.int .i64 0) (.slice none 0 0) (.slice none 0 0) ?_
                  intro a8 w8 ho
                  have o155 : a8.tmps[155]? = some _ := (ho 155 (by kernel_rfl)).trans rfl
                  have hsz : 155 < a8.tmps.size := (Array.getElem?_eq_some_iff.1 o155).1
                  refine ⟨by omega, wanted_free rfl, ?_⟩
                  go_simp
                rcases i with _ | i
                · refine bx_store HUX rfl rfl (by decide) (by decide) rfl (by kernel_rfl) rfl ?_
                  intro a8 w8 g u0 u1 u2 hg n24 hn
                  obtain ⟨v147, n147, hq147⟩ := hn 5 147 (by kernel_rfl) rfl
                  have hv147 : xo w13 XZ v147 w8 := hq147.2 (by decide)
                  clear hn
                  refine ⟨wanted_free rfl, ?_⟩
                  obtain ⟨r, rfl, o⟩ := hv147
                  have x0 := hg.cell 0
                  have x1 := hg.cell 1
                  have x2 := hg.cell 2
                  have f0 := hg.frozen 0
                  have f1 := hg.frozen 1
                  have f2 := hg.frozen 2
                  refine ⟨r, o, ?_⟩
                  rw [show arC XZ r = #[.int .i64 XZ.kind, .slice r.A0 XZ.sh.length r.c0, .slice r.A1 XZ.el.length r.c1] from rfl] at n147
                  clear hg o
                  go_simp
                rcases i with _ | i
                · refine bx_value HUX rfl (by decide) (by decide) (by decide) 25 rfl (by decide) (.int .i64 0) rfl ?_
                  intro a8 w8 hb8 ho hn
                  obtain ⟨v148, n148, hq148⟩ := hn 6 148 (by kernel_rfl) rfl
                  obtain rfl := hq148.1 (by decide) (by decide)
                  clear ho hn
                  refine ⟨wanted_free rfl, ?_⟩
                  go_simp
                omega
              · intro dn fv w14 hS5 hR5 hall
                obtain ⟨gd, e8, hg8, _, hfin⟩ := hS5.h (hall 7 (by decide))
                obtain ⟨rd, hb8, ho8⟩ := hfin (hall 8 (by decide))
                have hbw := hS5.b
                have h48 : fv 25 = .int .i64 0 := (hR5 9 25 rfl).1 (by decide) (by decide)
                clear hS5 hR5 hall hfin
                simp only [putAll, List.foldl_cons, List.foldl_nil, Act.put, List.setIfInBounds_toArray, List.set_cons_succ, List.set_cons_zero, List.getElem?_toArray, List.getElem?_cons_succ, List.getElem?_cons_zero, Option.some.injEq] at e8 ⊢
                rw [e8, h48]
                have Od_14 : Hid (BoxL w14 gd XZ rd) := Lib.hid ⟨hb8, ho8.el HFZ.out.1 HFZ.out.2.1 HFZ.out.2.2, (Cap.of ho8).le⟩
                have Oc_14 := Lib.hid (Oc_13.out.up hbw)
                have BW_14 := Lib.hid (bon BW_13.out hbw)
                generalize fv 143 = u143
                generalize fv 144 = u144
                generalize fv 145 = u145
                generalize fv 146 = u146
                generalize fv 142 = u142
                generalize fv 147 = u147
                generalize fv 148 = u148
                clear hb8 ho8 hbw e8 h48 hg8 HUX BW_13 Oc_13
                obtain ⟨x0, x1, x2⟩ := Od_14.out.cells
                obtain ⟨y0, y1, y2⟩ := Oc_14.out.cells
                go_wp2_with (go_at_call 44; refine (l14is_yes XZ rd rc _ Od_14.out.e Oc_14.out.e).mono ?_; rintro e w15 ⟨rfl, b15⟩; have BW_15 := Lib.hid (bon BW_14.out b15); clear b15)
                go_ret
                exact ⟨rfl, BW_15.out⟩
            · subst hn
              have q2 : (m == rm) = false := beq_eq_false_iff_ne.2 hm
              have q3 : wrap64 (n + rm) = n + rm := by unfold wrap64; omega
              go_wp2_with (go_at_call 44; refine (l14is_yes a ra p _ Oa_12.out.e A_12.out.e).mono ?_; rintro e w13 ⟨rfl, b13⟩; have BW_13 := Lib.hid (bon BW_12.out b13); clear b13)
              go_ret
              exact ⟨rfl, BW_13.out⟩
          · have q1 : (n == rn) = false := beq_eq_false_iff_ne.2 hn
            have q3 : wrap64 (rn + rm) = rn + rm := by unfold wrap64; omega
            go_wp2_with (go_at_call 44; refine (l14is_yes a ra p _ Oa_12.out.e A_12.out.e).mono ?_; rintro e w13 ⟨rfl, b13⟩; have BW_13 := Lib.hid (bon BW_12.out b13); clear b13)
            go_ret
            exact ⟨rfl, BW_13.out⟩
end Go.Proofs.Ytlmdijijlbmddaa.turnTwice

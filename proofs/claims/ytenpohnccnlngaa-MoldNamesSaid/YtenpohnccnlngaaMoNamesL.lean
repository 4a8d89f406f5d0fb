/-
  The walk of the statement MoldNames.
-/
import Derived.Test.YtenpohnccnlngaaMoNmK
namespace Go.Proofs.Ytenpohnccnlngaa.moldNames
open Go.RowKit Go.Proofs.Ytenpohnccnlngaa.arr Go.Proofs.Ytenpohnccnlngaa.mo Go.Proofs.Ytenpohnccnlngaa.tu

theorem c1 (p0 p1 : AP) (W : World) (h0 : AEl W ⟨1, [], [2]⟩ p0) (_k0 : Cap ⟨1, [], [2]⟩ p0) (h1 : AEl W ⟨2, [0], []⟩ p1) (_k1 : Cap ⟨2, [0], []⟩ p1) : Calls Try.prog 15 #[.agg (arC ⟨1, [], [2]⟩ p0), .agg (arC ⟨2, [0], []⟩ p1)] W (GiveE ⟨2, [2], [32, 32]⟩ 0 W) :=
  (moreshape_any _ _ p0 p1 W h0 h1).mono (fun _ _ g => giveE_to g (by kernel_rfl) (by kernel_rfl))
theorem c2 (p0 p1 : AP) (W : World) (h0 : AEl W ⟨1, [], [-1]⟩ p0) (_k0 : Cap ⟨1, [], [-1]⟩ p0) (h1 : AEl W ⟨1, [], [1]⟩ p1) (_k1 : Cap ⟨1, [], [1]⟩ p1) : Calls Try.prog 15 #[.agg (arC ⟨1, [], [-1]⟩ p0), .agg (arC ⟨1, [], [1]⟩ p1)] W (GiveE ⟨0, [], []⟩ 5 W) :=
  (moreshape_any _ _ p0 p1 W h0 h1).mono (fun _ _ g => giveE_to g (by kernel_rfl) (by kernel_rfl))
theorem c3 (p0 p1 : AP) (W : World) (h0 : AEl W ⟨1, [2], [64, 65]⟩ p0) (_k0 : Cap ⟨1, [2], [64, 65]⟩ p0) (h1 : AEl W ⟨1, [], [1]⟩ p1) (_k1 : Cap ⟨1, [], [1]⟩ p1) : Calls Try.prog 15 #[.agg (arC ⟨1, [2], [64, 65]⟩ p0), .agg (arC ⟨1, [], [1]⟩ p1)] W (GiveE ⟨0, [], []⟩ 9 W) :=
  (moreshape_any _ _ p0 p1 W h0 h1).mono (fun _ _ g => giveE_to g (by kernel_rfl) (by kernel_rfl))
theorem c4 (p0 p1 : AP) (W : World) (h0 : AEl W ⟨1, [2], [0, 1099511627776]⟩ p0) (_k0 : Cap ⟨1, [2], [0, 1099511627776]⟩ p0) (h1 : AEl W ⟨1, [], [1]⟩ p1) (_k1 : Cap ⟨1, [], [1]⟩ p1) : Calls Try.prog 15 #[.agg (arC ⟨1, [2], [0, 1099511627776]⟩ p0), .agg (arC ⟨1, [], [1]⟩ p1)] W (GiveE ⟨0, [], []⟩ 9 W) :=
  (moreshape_any _ _ p0 p1 W h0 h1).mono (fun _ _ g => giveE_to g (by kernel_rfl) (by kernel_rfl))
theorem c5 (p0 p1 : AP) (W : World) (h0 : AEl W ⟨2, [1], [97]⟩ p0) (_k0 : Cap ⟨2, [1], [97]⟩ p0) (h1 : AEl W ⟨1, [], [1]⟩ p1) (_k1 : Cap ⟨1, [], [1]⟩ p1) : Calls Try.prog 15 #[.agg (arC ⟨2, [1], [97]⟩ p0), .agg (arC ⟨1, [], [1]⟩ p1)] W (GiveE ⟨0, [], []⟩ 5 W) :=
  (moreshape_any _ _ p0 p1 W h0 h1).mono (fun _ _ g => giveE_to g (by kernel_rfl) (by kernel_rfl))
theorem c6 (p0 p1 : AP) (W : World) (h0 : AEl W ⟨1, [1, 2], [1, 1]⟩ p0) (_k0 : Cap ⟨1, [1, 2], [1, 1]⟩ p0) (h1 : AEl W ⟨1, [], [1]⟩ p1) (_k1 : Cap ⟨1, [], [1]⟩ p1) : Calls Try.prog 15 #[.agg (arC ⟨1, [1, 2], [1, 1]⟩ p0), .agg (arC ⟨1, [], [1]⟩ p1)] W (GiveE ⟨0, [], []⟩ 3 W) :=
  (moreshape_any _ _ p0 p1 W h0 h1).mono (fun _ _ g => giveE_to g (by kernel_rfl) (by kernel_rfl))
theorem c7 (p0 p1 : AP) (W : World) (h0 : AEl W ⟨1, [0], []⟩ p0) (_k0 : Cap ⟨1, [0], []⟩ p0) (h1 : AEl W ⟨1, [2], [7, 8]⟩ p1) (_k1 : Cap ⟨1, [2], [7, 8]⟩ p1) : Calls Try.prog 15 #[.agg (arC ⟨1, [0], []⟩ p0), .agg (arC ⟨1, [2], [7, 8]⟩ p1)] W (GiveE ⟨1, [], [7]⟩ 0 W) :=
  (moreshape_any _ _ p0 p1 W h0 h1).mono (fun _ _ g => giveE_to g (by kernel_rfl) (by kernel_rfl))
theorem c8 (p0 p1 : AP) (W : World) (h0 : AEl W ⟨1, [], [3]⟩ p0) (_k0 : Cap ⟨1, [], [3]⟩ p0) (h1 : AEl W ⟨1, [2], [1, 2]⟩ p1) (_k1 : Cap ⟨1, [2], [1, 2]⟩ p1) : Calls Try.prog 21 #[.agg (arC ⟨1, [], [3]⟩ p0), .agg (arC ⟨1, [2], [1, 2]⟩ p1)] W (GiveE ⟨1, [3], [1, 2, 0]⟩ 0 W) :=
  (motake_any _ _ p0 p1 W h0 h1).mono (fun _ _ g => giveE_to g (by kernel_rfl) (by kernel_rfl))
theorem c9 (p0 p1 : AP) (W : World) (h0 : AEl W ⟨1, [], [1]⟩ p0) (_k0 : Cap ⟨1, [], [1]⟩ p0) (h1 : AEl W ⟨1, [2, 2], [1, 2, 3, 4]⟩ p1) (_k1 : Cap ⟨1, [2, 2], [1, 2, 3, 4]⟩ p1) : Calls Try.prog 21 #[.agg (arC ⟨1, [], [1]⟩ p0), .agg (arC ⟨1, [2, 2], [1, 2, 3, 4]⟩ p1)] W (GiveE ⟨0, [], []⟩ 4 W) :=
  (motake_any _ _ p0 p1 W h0 h1).mono (fun _ _ g => giveE_to g (by kernel_rfl) (by kernel_rfl))
theorem c10 (p0 p1 : AP) (W : World) (h0 : AEl W ⟨1, [2], [-1, 3]⟩ p0) (_k0 : Cap ⟨1, [2], [-1, 3]⟩ p0) (h1 : AEl W ⟨1, [2, 2], [1, 2, 3, 4]⟩ p1) (_k1 : Cap ⟨1, [2, 2], [1, 2, 3, 4]⟩ p1) : Calls Try.prog 21 #[.agg (arC ⟨1, [2], [-1, 3]⟩ p0), .agg (arC ⟨1, [2, 2], [1, 2, 3, 4]⟩ p1)] W (GiveE ⟨1, [1, 3], [3, 4, 0]⟩ 0 W) :=
  (motake_any _ _ p0 p1 W h0 h1).mono (fun _ _ g => giveE_to g (by kernel_rfl) (by kernel_rfl))
theorem c11 (p0 p1 : AP) (W : World) (h0 : AEl W ⟨1, [], [2]⟩ p0) (_k0 : Cap ⟨1, [], [2]⟩ p0) (h1 : AEl W ⟨1, [], [5]⟩ p1) (_k1 : Cap ⟨1, [], [5]⟩ p1) : Calls Try.prog 21 #[.agg (arC ⟨1, [], [2]⟩ p0), .agg (arC ⟨1, [], [5]⟩ p1)] W (GiveE ⟨1, [2], [5, 0]⟩ 0 W) :=
  (motake_any _ _ p0 p1 W h0 h1).mono (fun _ _ g => giveE_to g (by kernel_rfl) (by kernel_rfl))
theorem c12 (p0 p1 : AP) (W : World) (h0 : AEl W ⟨1, [], [-9223372036854775808]⟩ p0) (_k0 : Cap ⟨1, [], [-9223372036854775808]⟩ p0) (h1 : AEl W ⟨1, [1], [1]⟩ p1) (_k1 : Cap ⟨1, [1], [1]⟩ p1) : Calls Try.prog 21 #[.agg (arC ⟨1, [], [-9223372036854775808]⟩ p0), .agg (arC ⟨1, [1], [1]⟩ p1)] W (GiveE ⟨0, [], []⟩ 9 W) :=
  (motake_any _ _ p0 p1 W h0 h1).mono (fun _ _ g => giveE_to g (by kernel_rfl) (by kernel_rfl))
theorem c13 (p0 p1 : AP) (W : World) (h0 : AEl W ⟨1, [], [-1]⟩ p0) (_k0 : Cap ⟨1, [], [-1]⟩ p0) (h1 : AEl W ⟨1, [3], [1, 2, 3]⟩ p1) (_k1 : Cap ⟨1, [3], [1, 2, 3]⟩ p1) : Calls Try.prog 22 #[.agg (arC ⟨1, [], [-1]⟩ p0), .agg (arC ⟨1, [3], [1, 2, 3]⟩ p1)] W (GiveE ⟨1, [2], [1, 2]⟩ 0 W) :=
  (modrop_any _ _ p0 p1 W h0 h1).mono (fun _ _ g => giveE_to g (by kernel_rfl) (by kernel_rfl))
theorem c14 (p0 p1 : AP) (W : World) (h0 : AEl W ⟨1, [], [-9223372036854775808]⟩ p0) (_k0 : Cap ⟨1, [], [-9223372036854775808]⟩ p0) (h1 : AEl W ⟨1, [3], [1, 2, 3]⟩ p1) (_k1 : Cap ⟨1, [3], [1, 2, 3]⟩ p1) : Calls Try.prog 22 #[.agg (arC ⟨1, [], [-9223372036854775808]⟩ p0), .agg (arC ⟨1, [3], [1, 2, 3]⟩ p1)] W (GiveE ⟨1, [0], []⟩ 0 W) :=
  (modrop_any _ _ p0 p1 W h0 h1).mono (fun _ _ g => giveE_to g (by kernel_rfl) (by kernel_rfl))
theorem c15 (p0 p1 : AP) (W : World) (h0 : AEl W ⟨1, [2, 2], [1, 2, 3, 4]⟩ p0) (k0 : Cap ⟨1, [2, 2], [1, 2, 3, 4]⟩ p0) (h1 : AEl W ⟨1, [2], [5, 6]⟩ p1) (k1 : Cap ⟨1, [2], [5, 6]⟩ p1) : Calls Try.prog 23 #[.agg (arC ⟨1, [2, 2], [1, 2, 3, 4]⟩ p0), .agg (arC ⟨1, [2], [5, 6]⟩ p1)] W (GiveE ⟨1, [2, 3], [1, 2, 5, 3, 4, 6]⟩ 0 W) :=
  (mocat_any _ _ p0 p1 W h0 h1 k0 k1).mono (fun _ _ g => giveE_to g (by kernel_rfl) (by kernel_rfl))
theorem c16 (p0 p1 : AP) (W : World) (h0 : AEl W ⟨1, [], [1]⟩ p0) (k0 : Cap ⟨1, [], [1]⟩ p0) (h1 : AEl W ⟨2, [1], [97]⟩ p1) (k1 : Cap ⟨2, [1], [97]⟩ p1) : Calls Try.prog 23 #[.agg (arC ⟨1, [], [1]⟩ p0), .agg (arC ⟨2, [1], [97]⟩ p1)] W (GiveE ⟨0, [], []⟩ 5 W) :=
  (mocat_any _ _ p0 p1 W h0 h1 k0 k1).mono (fun _ _ g => giveE_to g (by kernel_rfl) (by kernel_rfl))
theorem c17 (p0 p1 : AP) (W : World) (h0 : AEl W ⟨1, [2, 2], [1, 2, 3, 4]⟩ p0) (k0 : Cap ⟨1, [2, 2], [1, 2, 3, 4]⟩ p0) (h1 : AEl W ⟨1, [1], [5]⟩ p1) (k1 : Cap ⟨1, [1], [5]⟩ p1) : Calls Try.prog 23 #[.agg (arC ⟨1, [2, 2], [1, 2, 3, 4]⟩ p0), .agg (arC ⟨1, [1], [5]⟩ p1)] W (GiveE ⟨0, [], []⟩ 4 W) :=
  (mocat_any _ _ p0 p1 W h0 h1 k0 k1).mono (fun _ _ g => giveE_to g (by kernel_rfl) (by kernel_rfl))
theorem c18 (p0 p1 : AP) (W : World) (h0 : AEl W ⟨1, [1, 1, 1], [1]⟩ p0) (k0 : Cap ⟨1, [1, 1, 1], [1]⟩ p0) (h1 : AEl W ⟨1, [1], [5]⟩ p1) (k1 : Cap ⟨1, [1], [5]⟩ p1) : Calls Try.prog 23 #[.agg (arC ⟨1, [1, 1, 1], [1]⟩ p0), .agg (arC ⟨1, [1], [5]⟩ p1)] W (GiveE ⟨0, [], []⟩ 3 W) :=
  (mocat_any _ _ p0 p1 W h0 h1 k0 k1).mono (fun _ _ g => giveE_to g (by kernel_rfl) (by kernel_rfl))
theorem c19 (p0 p1 : AP) (W : World) (h0 : AEl W ⟨1, [], [1]⟩ p0) (k0 : Cap ⟨1, [], [1]⟩ p0) (h1 : AEl W ⟨1, [2, 1], [2, 3]⟩ p1) (k1 : Cap ⟨1, [2, 1], [2, 3]⟩ p1) : Calls Try.prog 23 #[.agg (arC ⟨1, [], [1]⟩ p0), .agg (arC ⟨1, [2, 1], [2, 3]⟩ p1)] W (GiveE ⟨1, [2, 2], [1, 2, 1, 3]⟩ 0 W) :=
  (mocat_any _ _ p0 p1 W h0 h1 k0 k1).mono (fun _ _ g => giveE_to g (by kernel_rfl) (by kernel_rfl))
theorem c20 (p0 p1 : AP) (W : World) (h0 : AEl W ⟨1, [], [1]⟩ p0) (k0 : Cap ⟨1, [], [1]⟩ p0) (h1 : AEl W ⟨1, [], [2]⟩ p1) (k1 : Cap ⟨1, [], [2]⟩ p1) : Calls Try.prog 23 #[.agg (arC ⟨1, [], [1]⟩ p0), .agg (arC ⟨1, [], [2]⟩ p1)] W (GiveE ⟨1, [2], [1, 2]⟩ 0 W) :=
  (mocat_any _ _ p0 p1 W h0 h1 k0 k1).mono (fun _ _ g => giveE_to g (by kernel_rfl) (by kernel_rfl))
theorem c21 (p0 : AP) (W : World) (h0 : AEl W ⟨1, [], [3]⟩ p0) (_k0 : Cap ⟨1, [], [3]⟩ p0) : Calls Try.prog 24 #[.agg (arC ⟨1, [], [3]⟩ p0)] W (GiveE ⟨1, [3], [1, 2, 3]⟩ 0 W) :=
  (moiota_any _ p0 W h0).mono (fun _ _ g => giveE_to g (by kernel_rfl) (by kernel_rfl))
theorem c22 (p0 : AP) (W : World) (h0 : AEl W ⟨1, [], [4097]⟩ p0) (_k0 : Cap ⟨1, [], [4097]⟩ p0) : Calls Try.prog 24 #[.agg (arC ⟨1, [], [4097]⟩ p0)] W (GiveE ⟨0, [], []⟩ 9 W) :=
  (moiota_any _ p0 W h0).mono (fun _ _ g => giveE_to g (by kernel_rfl) (by kernel_rfl))
theorem c23 (p0 : AP) (W : World) (h0 : AEl W ⟨1, [1], [3]⟩ p0) (_k0 : Cap ⟨1, [1], [3]⟩ p0) : Calls Try.prog 24 #[.agg (arC ⟨1, [1], [3]⟩ p0)] W (GiveE ⟨0, [], []⟩ 3 W) :=
  (moiota_any _ p0 W h0).mono (fun _ _ g => giveE_to g (by kernel_rfl) (by kernel_rfl))
theorem c24 (p0 : AP) (W : World) (h0 : AEl W ⟨1, [], [-1]⟩ p0) (_k0 : Cap ⟨1, [], [-1]⟩ p0) : Calls Try.prog 24 #[.agg (arC ⟨1, [], [-1]⟩ p0)] W (GiveE ⟨0, [], []⟩ 5 W) :=
  (moiota_any _ p0 W h0).mono (fun _ _ g => giveE_to g (by kernel_rfl) (by kernel_rfl))
theorem c25 (p0 : AP) (W : World) (h0 : AEl W ⟨1, [], [9]⟩ p0) (_k0 : Cap ⟨1, [], [9]⟩ p0) : Calls Try.prog 25 #[.agg (arC ⟨1, [], [9]⟩ p0)] W (GiveE ⟨1, [], [1]⟩ 0 W) :=
  (motally_any _ p0 W h0).mono (fun _ _ g => giveE_to g (by kernel_rfl) (by kernel_rfl))
theorem c26 (p0 : AP) (W : World) (h0 : AEl W ⟨1, [], [9]⟩ p0) (_k0 : Cap ⟨1, [], [9]⟩ p0) : Calls Try.prog 26 #[.agg (arC ⟨1, [], [9]⟩ p0)] W (GiveE ⟨1, [0], []⟩ 0 W) :=
  (moshape_any _ p0 W h0).mono (fun _ _ g => giveE_to g (by kernel_rfl) (by kernel_rfl))
theorem c27 (p0 : AP) (W : World) (h0 : AEl W ⟨0, [], []⟩ p0) (_k0 : Cap ⟨0, [], []⟩ p0) : Calls Try.prog 27 #[.agg (arC ⟨0, [], []⟩ p0)] W (GiveE ⟨0, [], []⟩ 110 W) :=
  (moravel_any _ p0 W h0).mono (fun _ _ g => giveE_to g (by kernel_rfl) (by kernel_rfl))
set_option maxRecDepth 100000 in
set_option maxHeartbeats 16000000 in
theorem walk (wa : World) : Calls Try.prog 3 #[] wa fun e w' => e = .returned (.bool true) ∧ Below wa.heap.size wa w' := by
  have HB_wa : Hid (Bxs wa []) := Lib.hid (Bxs.nil _)
  have BW_wa := Lib.hid (Below.refl wa.heap.size wa)
  go_enter Try.func3, Try.ntmps3
  go_upto_region 1 with (fail)
  have HUX : BxU wa (lookU [(0, xo wa ⟨1, [], [2]⟩), (1, xo wa ⟨2, [0], []⟩), (2, xto wa ⟨2, [2], [32, 32]⟩ 0), (3, xto wa ⟨2, [2], [32, 32]⟩ 0), (4, xo wa ⟨2, [2], [32, 32]⟩)]) := lookU_two (by
   intro x hx
   simp only [List.mem_cons, List.not_mem_nil, or_false] at hx
   rcases hx with rfl | rfl | rfl | rfl | rfl <;> first | exact xo_stk _ _ | exact slo_stk _ _ _ | exact sio_stk _ _ _ | exact xto_stk _ _ _)
  refine qX HUX 6 7 1 ⟨2, [2], [32, 32]⟩ [0, 1, 2, 3, 4] [undef, undef, undef, undef, undef, .int .i64 0, undef, undef, .int .i64 0] (by kernel_rfl) 472 rfl (by kernel_rfl) ?_ ?_
  ·intro i hi
   have hi2 : i < 9 := hi
   clear hi
   rcases i with _ | _ | _ | _ | _ | _ | _ | _ | _ | i
   · refine kx HUX 16 rfl 74 rfl ?_
     refine fun _ w8 hb8 _ _ => ⟨wanted_free rfl, ?_⟩
     refine ⟨#[.int .i64 2], (by kernel_rfl), (sca_lit 2 w8).mono ?_⟩
     rintro e wz ⟨p_, rfl, o, b⟩
     exact ⟨_, rfl, b, p_, rfl, o.mono hb8.size⟩
   · refine kx HUX 17 rfl 75 rfl ?_
     refine fun _ w8 hb8 _ _ => ⟨wanted_free rfl, ?_⟩
     refine ⟨#[.string { data := #[] }], (by kernel_rfl), (chr_lit { data := #[] } [] (by decide) (by decide +kernel) 0 (by decide) w8).mono ?_⟩
     rintro e wz ⟨p_, rfl, o, b⟩
     exact ⟨_, rfl, b, p_, rfl, o.mono hb8.size⟩
   · refine kx HUX 15 rfl 76 rfl ?_
     intro a8 w8 hb8 ho hn
     obtain ⟨v74, n74, hq74⟩ := hn 0 74 (by kernel_rfl) rfl
     have hv74 := hq74.2 (by decide)
     obtain ⟨v75, n75, hq75⟩ := hn 1 75 (by kernel_rfl) rfl
     have hv75 := hq75.2 (by decide)
     clear ho hn
     refine ⟨wanted_free rfl, ?_⟩
     obtain ⟨q0_, rfl, o0_⟩ := hv74
     obtain ⟨q1_, rfl, o1_⟩ := hv75
     refine ⟨#[.agg (arC ⟨1, [], [2]⟩ q0_), .agg (arC ⟨2, [0], []⟩ q1_)], (kc2 rfl rfl (by kernel_rfl) (ev_t n74) (ev_t n75)), (c1 q0_ q1_ w8 (o0_.el (by decide) (by decide) (by decide)) (Cap.of o0_) (o1_.el (by decide) (by decide) (by decide)) (Cap.of o1_)).mono ?_⟩
     rintro e wz ⟨r, rfl, o9, b9⟩
     exact ⟨_, rfl, b9, r, rfl, o9.mono hb8.size⟩
   · refine mx HUX rfl 73 rfl ?_
     intro a8 w8 hb8 ho hn
     obtain ⟨v76, n76, hq76⟩ := hn 2 76 (by kernel_rfl) rfl
     have hv76 := hq76.2 (by decide)
     clear ho hn
     refine ⟨wanted_free rfl, ?_⟩
     exact ⟨v76, w8, (by go_simp), Below.refl _ _, hv76⟩
   · refine mx HUX rfl 77 rfl ?_
     intro a8 w8 hb8 ho hn
     obtain ⟨v73, n73, hq73⟩ := hn 3 73 (by kernel_rfl) rfl
     have hv73 := hq73.2 (by decide)
     clear ho hn
     refine ⟨wanted_free rfl, ?_⟩
     obtain ⟨p_, rfl, o⟩ := hv73
     exact ⟨.agg (arC ⟨2, [2], [32, 32]⟩ p_), w8, (by go_simp), Below.refl _ _, p_, rfl, o⟩
   · refine vx HUX rfl 78 rfl (.int .i64 0) rfl ?_
     intro a8 w8 hb8 ho hn
     obtain ⟨v73, n73, hq73⟩ := hn 3 73 (by kernel_rfl) rfl
     have hv73 := hq73.2 (by decide)
     clear ho hn
     refine ⟨wanted_free rfl, ?_⟩
     obtain ⟨p_, rfl, o⟩ := hv73
     go_simp
   · refine bx_alloc HUX rfl (by decide) (by decide) rfl (.int .i64 0) (.slice none 0 0) (.slice none 0 0) ?_
     intro a8 w8 ho
     have o471 : a8.tmps[471]? = some _ := (ho 471 (by kernel_rfl)).trans rfl
     have hsz : 471 < a8.tmps.size := (Array.getElem?_eq_some_iff.1 o471).1
     refine ⟨by omega, wanted_free rfl, ?_⟩
     go_simp
   · refine bx_store HUX rfl rfl (by decide) (by decide) rfl (by kernel_rfl) rfl ?_
     intro a8 w8 g u0 u1 u2 hg n1 hn
     obtain ⟨v77, n77, hq77⟩ := hn 4 77 (by kernel_rfl) rfl
     have hv77 := hq77.2 (by decide)
     clear hn
     refine ⟨wanted_free rfl, ?_⟩
     obtain ⟨r, rfl, o⟩ := hv77
     have x0 := hg.cell 0
     have x1 := hg.cell 1
     have x2 := hg.cell 2
     have f0 := hg.frozen 0
     have f1 := hg.frozen 1
     have f2 := hg.frozen 2
     refine ⟨r, o, ?_⟩
     rw [show arC ⟨2, [2], [32, 32]⟩ r = #[.int .i64 2, .slice r.A0 1 r.c0, .slice r.A1 2 r.c1] from rfl] at n77
     clear hg o
     go_simp
   · refine vx HUX rfl 2 rfl (.int .i64 0) rfl ?_
     intro a8 w8 hb8 ho hn
     obtain ⟨v78, n78, hq78⟩ := hn 5 78 (by kernel_rfl) rfl
     obtain rfl := hq78.1 (by decide) (by decide)
     clear ho hn
     refine ⟨wanted_free rfl, ?_⟩
     go_simp
   omega
  intro dn fv wb1 hS5 hR5 hall
  obtain ⟨g1, e8, hg8, _, hfin⟩ := hS5.h (hall 6 (by decide))
  have e8 := put_at e8 472 rfl (by decide) rfl
  obtain ⟨r1, hb8, ho8⟩ := hfin (hall 7 (by decide))
  have hbw := hS5.b
  have h48 : fv 2 = .int .i64 0 := (hR5 8 2 rfl).1 (by decide) (by decide)
  clear hS5 hR5 hall hfin
  simp only [putAll, List.foldl_cons, List.foldl_nil, Act.put, List.setIfInBounds_toArray, List.set_cons_succ, List.set_cons_zero]
  rw [e8, h48]
  have HB_wb1 := Lib.hid (bxs_cons (g := g1) (X := ⟨2, [2], [32, 32]⟩) (p := r1) (HB_wa.out.up hbw) ⟨hb8, ho8.el (by decide) (by decide) (by decide), Cap.of ho8⟩)
  have BW_wb1 := Lib.hid (bon BW_wa.out hbw)
  generalize fv 74 = u74, fv 75 = u75, fv 76 = u76, fv 73 = u73, fv 77 = u77, fv 78 = u78
  clear hb8 ho8 hbw e8 h48 hg8 HUX HB_wa BW_wa
  go_upto_region 2 with (fail)
  have HUX : BxU wb1 (lookU [(0, xo wb1 ⟨1, [], [-1]⟩), (1, xo wb1 ⟨1, [], [1]⟩), (2, xto wb1 ⟨0, [], []⟩ 5), (3, xto wb1 ⟨0, [], []⟩ 5), (4, xo wb1 ⟨0, [], []⟩)]) := lookU_two (by
   intro x hx
   simp only [List.mem_cons, List.not_mem_nil, or_false] at hx
   rcases hx with rfl | rfl | rfl | rfl | rfl <;> first | exact xo_stk _ _ | exact slo_stk _ _ _ | exact sio_stk _ _ _ | exact xto_stk _ _ _)
  refine qX HUX 6 7 3 ⟨0, [], []⟩ [0, 1, 2, 3, 4] [undef, undef, undef, undef, undef, .int .i64 5, undef, undef, .int .i64 5] (by kernel_rfl) 472 rfl (by kernel_rfl) ?_ ?_
  ·intro i hi
   have hi2 : i < 9 := hi
   clear hi
   rcases i with _ | _ | _ | _ | _ | _ | _ | _ | _ | i
   · refine kx HUX 16 rfl 80 rfl ?_
     refine fun _ w8 hb8 _ _ => ⟨wanted_free rfl, ?_⟩
     refine ⟨#[.int .i64 (-1)], (by kernel_rfl), (sca_lit (-1) w8).mono ?_⟩
     rintro e wz ⟨p_, rfl, o, b⟩
     exact ⟨_, rfl, b, p_, rfl, o.mono hb8.size⟩
   · refine kx HUX 16 rfl 81 rfl ?_
     refine fun _ w8 hb8 _ _ => ⟨wanted_free rfl, ?_⟩
     refine ⟨#[.int .i64 1], (by kernel_rfl), (sca_lit 1 w8).mono ?_⟩
     rintro e wz ⟨p_, rfl, o, b⟩
     exact ⟨_, rfl, b, p_, rfl, o.mono hb8.size⟩
   · refine kx HUX 15 rfl 82 rfl ?_
     intro a8 w8 hb8 ho hn
     obtain ⟨v80, n80, hq80⟩ := hn 0 80 (by kernel_rfl) rfl
     have hv80 := hq80.2 (by decide)
     obtain ⟨v81, n81, hq81⟩ := hn 1 81 (by kernel_rfl) rfl
     have hv81 := hq81.2 (by decide)
     clear ho hn
     refine ⟨wanted_free rfl, ?_⟩
     obtain ⟨q0_, rfl, o0_⟩ := hv80
     obtain ⟨q1_, rfl, o1_⟩ := hv81
     refine ⟨#[.agg (arC ⟨1, [], [-1]⟩ q0_), .agg (arC ⟨1, [], [1]⟩ q1_)], (kc2 rfl rfl (by kernel_rfl) (ev_t n80) (ev_t n81)), (c2 q0_ q1_ w8 (o0_.el (by decide) (by decide) (by decide)) (Cap.of o0_) (o1_.el (by decide) (by decide) (by decide)) (Cap.of o1_)).mono ?_⟩
     rintro e wz ⟨r, rfl, o9, b9⟩
     exact ⟨_, rfl, b9, r, rfl, o9.mono hb8.size⟩
   · refine mx HUX rfl 79 rfl ?_
     intro a8 w8 hb8 ho hn
     obtain ⟨v82, n82, hq82⟩ := hn 2 82 (by kernel_rfl) rfl
     have hv82 := hq82.2 (by decide)
     clear ho hn
     refine ⟨wanted_free rfl, ?_⟩
     exact ⟨v82, w8, (by go_simp), Below.refl _ _, hv82⟩
   · refine mx HUX rfl 83 rfl ?_
     intro a8 w8 hb8 ho hn
     obtain ⟨v79, n79, hq79⟩ := hn 3 79 (by kernel_rfl) rfl
     have hv79 := hq79.2 (by decide)
     clear ho hn
     refine ⟨wanted_free rfl, ?_⟩
     obtain ⟨p_, rfl, o⟩ := hv79
     exact ⟨.agg (arC ⟨0, [], []⟩ p_), w8, (by go_simp), Below.refl _ _, p_, rfl, o⟩
   · refine vx HUX rfl 84 rfl (.int .i64 5) rfl ?_
     intro a8 w8 hb8 ho hn
     obtain ⟨v79, n79, hq79⟩ := hn 3 79 (by kernel_rfl) rfl
     have hv79 := hq79.2 (by decide)
     clear ho hn
     refine ⟨wanted_free rfl, ?_⟩
     obtain ⟨p_, rfl, o⟩ := hv79
     go_simp
   · refine bx_alloc HUX rfl (by decide) (by decide) rfl (.int .i64 0) (.slice none 0 0) (.slice none 0 0) ?_
     intro a8 w8 ho
     have o471 : a8.tmps[471]? = some _ := (ho 471 (by kernel_rfl)).trans rfl
     have hsz : 471 < a8.tmps.size := (Array.getElem?_eq_some_iff.1 o471).1
     refine ⟨by omega, wanted_free rfl, ?_⟩
     go_simp
   · refine bx_store HUX rfl rfl (by decide) (by decide) rfl (by kernel_rfl) rfl ?_
     intro a8 w8 g u0 u1 u2 hg n3 hn
     obtain ⟨v83, n83, hq83⟩ := hn 4 83 (by kernel_rfl) rfl
     have hv83 := hq83.2 (by decide)
     clear hn
     refine ⟨wanted_free rfl, ?_⟩
     obtain ⟨r, rfl, o⟩ := hv83
     have x0 := hg.cell 0
     have x1 := hg.cell 1
     have x2 := hg.cell 2
     have f0 := hg.frozen 0
     have f1 := hg.frozen 1
     have f2 := hg.frozen 2
     refine ⟨r, o, ?_⟩
     rw [show arC ⟨0, [], []⟩ r = #[.int .i64 0, .slice r.A0 0 r.c0, .slice r.A1 0 r.c1] from rfl] at n83
     clear hg o
     go_simp
   · refine vx HUX rfl 4 rfl (.int .i64 5) rfl ?_
     intro a8 w8 hb8 ho hn
     obtain ⟨v84, n84, hq84⟩ := hn 5 84 (by kernel_rfl) rfl
     obtain rfl := hq84.1 (by decide) (by decide)
     clear ho hn
     refine ⟨wanted_free rfl, ?_⟩
     go_simp
   omega
  intro dn fv wb2 hS5 hR5 hall
  obtain ⟨g2, e8, hg8, _, hfin⟩ := hS5.h (hall 6 (by decide))
  have e8 := put_at e8 472 rfl (by decide) rfl
  obtain ⟨r2, hb8, ho8⟩ := hfin (hall 7 (by decide))
  have hbw := hS5.b
  have h48 : fv 4 = .int .i64 5 := (hR5 8 4 rfl).1 (by decide) (by decide)
  clear hS5 hR5 hall hfin
  simp only [putAll, List.foldl_cons, List.foldl_nil, Act.put, List.setIfInBounds_toArray, List.set_cons_succ, List.set_cons_zero]
  rw [e8, h48]
  have HB_wb2 := Lib.hid (bxs_cons (g := g2) (X := ⟨0, [], []⟩) (p := r2) (HB_wb1.out.up hbw) ⟨hb8, ho8.el (by decide) (by decide) (by decide), Cap.of ho8⟩)
  have BW_wb2 := Lib.hid (bon BW_wb1.out hbw)
  generalize fv 80 = u80, fv 81 = u81, fv 82 = u82, fv 79 = u79, fv 83 = u83, fv 84 = u84
  clear hb8 ho8 hbw e8 h48 hg8 HUX HB_wb1 BW_wb1
  go_upto_region 3 with (fail)
  have HUX : BxU wb2 (lookU [(0, slo wb2 2 #[.int .i64 64, .int .i64 65]), (1, xo wb2 ⟨1, [2], [64, 65]⟩), (2, xo wb2 ⟨1, [], [1]⟩), (3, xto wb2 ⟨0, [], []⟩ 9), (4, xto wb2 ⟨0, [], []⟩ 9), (5, xo wb2 ⟨0, [], []⟩)]) := lookU_two (by
   intro x hx
   simp only [List.mem_cons, List.not_mem_nil, or_false] at hx
   rcases hx with rfl | rfl | rfl | rfl | rfl | rfl <;> first | exact xo_stk _ _ | exact slo_stk _ _ _ | exact sio_stk _ _ _ | exact xto_stk _ _ _)
  refine qX HUX 7 8 5 ⟨0, [], []⟩ [0, 1, 2, 3, 4, 5] [undef, undef, undef, undef, undef, undef, .int .i64 9, undef, undef, .int .i64 9] (by kernel_rfl) 472 rfl (by kernel_rfl) ?_ ?_
  ·intro i hi
   have hi2 : i < 10 := hi
   clear hi
   rcases i with _ | _ | _ | _ | _ | _ | _ | _ | _ | _ | i
   · refine mx HUX rfl 86 rfl ?_
     refine fun _ w8 hb8 _ _ => ⟨wanted_free rfl, ?_⟩
     exact ⟨.slice (some ⟨w8.heap.size, 0, none⟩) 2 2, w8.alloc (.cells #[.int .i64 64, .int .i64 65] 2), (by go_simp), albel _ _, w8.heap.size, rfl, hb8.size, Blk.new w8 _ _⟩
   · refine kx HUX 18 rfl 87 rfl ?_
     intro a8 w8 hb8 ho hn
     obtain ⟨v86, n86, hq86⟩ := hn 0 86 (by kernel_rfl) rfl
     have hv86 := hq86.2 (by decide)
     clear ho hn
     refine ⟨wanted_free rfl, ?_⟩
     obtain ⟨g, rfl, _, hg⟩ := hv86
     refine ⟨#[.slice (some ⟨g, 0, none⟩) 2 2], (kc1 rfl rfl (by kernel_rfl) (ev_t n86)), (vec_lit [64, 65] (by decide) _ 2 2 w8 rfl (reads_blk hg rfl)).mono ?_⟩
     rintro e wz ⟨p_, rfl, o, b⟩
     exact ⟨_, rfl, b, p_, rfl, o.mono hb8.size⟩
   · refine kx HUX 16 rfl 88 rfl ?_
     refine fun _ w8 hb8 _ _ => ⟨wanted_free rfl, ?_⟩
     refine ⟨#[.int .i64 1], (by kernel_rfl), (sca_lit 1 w8).mono ?_⟩
     rintro e wz ⟨p_, rfl, o, b⟩
     exact ⟨_, rfl, b, p_, rfl, o.mono hb8.size⟩
   · refine kx HUX 15 rfl 89 rfl ?_
     intro a8 w8 hb8 ho hn
     obtain ⟨v87, n87, hq87⟩ := hn 1 87 (by kernel_rfl) rfl
     have hv87 := hq87.2 (by decide)
     obtain ⟨v88, n88, hq88⟩ := hn 2 88 (by kernel_rfl) rfl
     have hv88 := hq88.2 (by decide)
     clear ho hn
     refine ⟨wanted_free rfl, ?_⟩
     obtain ⟨q0_, rfl, o0_⟩ := hv87
     obtain ⟨q1_, rfl, o1_⟩ := hv88
     refine ⟨#[.agg (arC ⟨1, [2], [64, 65]⟩ q0_), .agg (arC ⟨1, [], [1]⟩ q1_)], (kc2 rfl rfl (by kernel_rfl) (ev_t n87) (ev_t n88)), (c3 q0_ q1_ w8 (o0_.el (by decide) (by decide) (by decide)) (Cap.of o0_) (o1_.el (by decide) (by decide) (by decide)) (Cap.of o1_)).mono ?_⟩
     rintro e wz ⟨r, rfl, o9, b9⟩
     exact ⟨_, rfl, b9, r, rfl, o9.mono hb8.size⟩
   · refine mx HUX rfl 85 rfl ?_
     intro a8 w8 hb8 ho hn
     obtain ⟨v89, n89, hq89⟩ := hn 3 89 (by kernel_rfl) rfl
     have hv89 := hq89.2 (by decide)
     clear ho hn
     refine ⟨wanted_free rfl, ?_⟩
     exact ⟨v89, w8, (by go_simp), Below.refl _ _, hv89⟩
   · refine mx HUX rfl 90 rfl ?_
     intro a8 w8 hb8 ho hn
     obtain ⟨v85, n85, hq85⟩ := hn 4 85 (by kernel_rfl) rfl
     have hv85 := hq85.2 (by decide)
     clear ho hn
     refine ⟨wanted_free rfl, ?_⟩
     obtain ⟨p_, rfl, o⟩ := hv85
     exact ⟨.agg (arC ⟨0, [], []⟩ p_), w8, (by go_simp), Below.refl _ _, p_, rfl, o⟩
   · refine vx HUX rfl 91 rfl (.int .i64 9) rfl ?_
     intro a8 w8 hb8 ho hn
     obtain ⟨v85, n85, hq85⟩ := hn 4 85 (by kernel_rfl) rfl
     have hv85 := hq85.2 (by decide)
     clear ho hn
     refine ⟨wanted_free rfl, ?_⟩
     obtain ⟨p_, rfl, o⟩ := hv85
     go_simp
   · refine bx_alloc HUX rfl (by decide) (by decide) rfl (.int .i64 0) (.slice none 0 0) (.slice none 0 0) ?_
     intro a8 w8 ho
     have o471 : a8.tmps[471]? = some _ := (ho 471 (by kernel_rfl)).trans rfl
     have hsz : 471 < a8.tmps.size := (Array.getElem?_eq_some_iff.1 o471).1
     refine ⟨by omega, wanted_free rfl, ?_⟩
     go_simp
   · refine bx_store HUX rfl rfl (by decide) (by decide) rfl (by kernel_rfl) rfl ?_
     intro a8 w8 g u0 u1 u2 hg n5 hn
     obtain ⟨v90, n90, hq90⟩ := hn 5 90 (by kernel_rfl) rfl
     have hv90 := hq90.2 (by decide)
     clear hn
     refine ⟨wanted_free rfl, ?_⟩
     obtain ⟨r, rfl, o⟩ := hv90
     have x0 := hg.cell 0
     have x1 := hg.cell 1
     have x2 := hg.cell 2
     have f0 := hg.frozen 0
     have f1 := hg.frozen 1
     have f2 := hg.frozen 2
     refine ⟨r, o, ?_⟩
     rw [show arC ⟨0, [], []⟩ r = #[.int .i64 0, .slice r.A0 0 r.c0, .slice r.A1 0 r.c1] from rfl] at n90
     clear hg o
     go_simp
   · refine vx HUX rfl 6 rfl (.int .i64 9) rfl ?_
     intro a8 w8 hb8 ho hn
     obtain ⟨v91, n91, hq91⟩ := hn 6 91 (by kernel_rfl) rfl
     obtain rfl := hq91.1 (by decide) (by decide)
     clear ho hn
     refine ⟨wanted_free rfl, ?_⟩
     go_simp
   omega
  intro dn fv wb3 hS5 hR5 hall
  obtain ⟨g3, e8, hg8, _, hfin⟩ := hS5.h (hall 7 (by decide))
  have e8 := put_at e8 472 rfl (by decide) rfl
  obtain ⟨r3, hb8, ho8⟩ := hfin (hall 8 (by decide))
  have hbw := hS5.b
  have h48 : fv 6 = .int .i64 9 := (hR5 9 6 rfl).1 (by decide) (by decide)
  clear hS5 hR5 hall hfin
  simp only [putAll, List.foldl_cons, List.foldl_nil, Act.put, List.setIfInBounds_toArray, List.set_cons_succ, List.set_cons_zero]
  rw [e8, h48]
  have HB_wb3 := Lib.hid (bxs_cons (g := g3) (X := ⟨0, [], []⟩) (p := r3) (HB_wb2.out.up hbw) ⟨hb8, ho8.el (by decide) (by decide) (by decide), Cap.of ho8⟩)
  have BW_wb3 := Lib.hid (bon BW_wb2.out hbw)
  generalize fv 86 = u86, fv 87 = u87, fv 88 = u88, fv 89 = u89, fv 85 = u85, fv 90 = u90, fv 91 = u91
  clear hb8 ho8 hbw e8 h48 hg8 HUX HB_wb2 BW_wb2
  go_upto_region 4 with (fail)
  have HUX : BxU wb3 (lookU [(0, slo wb3 2 #[.int .i64 0, .int .i64 1099511627776]), (1, xo wb3 ⟨1, [2], [0, 1099511627776]⟩), (2, xo wb3 ⟨1, [], [1]⟩), (3, xto wb3 ⟨0, [], []⟩ 9), (4, xto wb3 ⟨0, [], []⟩ 9), (5, xo wb3 ⟨0, [], []⟩)]) := lookU_two (by
   intro x hx
   simp only [List.mem_cons, List.not_mem_nil, or_false] at hx
   rcases hx with rfl | rfl | rfl | rfl | rfl | rfl <;> first | exact xo_stk _ _ | exact slo_stk _ _ _ | exact sio_stk _ _ _ | exact xto_stk _ _ _)
  refine qX HUX 7 8 7 ⟨0, [], []⟩ [0, 1, 2, 3, 4, 5] [undef, undef, undef, undef, undef, undef, .int .i64 9, undef, undef, .int .i64 9] (by kernel_rfl) 472 rfl (by kernel_rfl) ?_ ?_
  ·intro i hi
   have hi2 : i < 10 := hi
   clear hi
   rcases i with _ | _ | _ | _ | _ | _ | _ | _ | _ | _ | i
   · refine mx HUX rfl 93 rfl ?_
     refine fun _ w8 hb8 _ _ => ⟨wanted_free rfl, ?_⟩
     exact ⟨.slice (some ⟨w8.heap.size, 0, none⟩) 2 2, w8.alloc (.cells #[.int .i64 0, .int .i64 1099511627776] 2), (by go_simp), albel _ _, w8.heap.size, rfl, hb8.size, Blk.new w8 _ _⟩
   · refine kx HUX 18 rfl 94 rfl ?_
     intro a8 w8 hb8 ho hn
     obtain ⟨v93, n93, hq93⟩ := hn 0 93 (by kernel_rfl) rfl
     have hv93 := hq93.2 (by decide)
     clear ho hn
     refine ⟨wanted_free rfl, ?_⟩
     obtain ⟨g, rfl, _, hg⟩ := hv93
     refine ⟨#[.slice (some ⟨g, 0, none⟩) 2 2], (kc1 rfl rfl (by kernel_rfl) (ev_t n93)), (vec_lit [0, 1099511627776] (by decide) _ 2 2 w8 rfl (reads_blk hg rfl)).mono ?_⟩
     rintro e wz ⟨p_, rfl, o, b⟩
     exact ⟨_, rfl, b, p_, rfl, o.mono hb8.size⟩
   · refine kx HUX 16 rfl 95 rfl ?_
     refine fun _ w8 hb8 _ _ => ⟨wanted_free rfl, ?_⟩
     refine ⟨#[.int .i64 1], (by kernel_rfl), (sca_lit 1 w8).mono ?_⟩
     rintro e wz ⟨p_, rfl, o, b⟩
     exact ⟨_, rfl, b, p_, rfl, o.mono hb8.size⟩
   · refine kx HUX 15 rfl 96 rfl ?_
     intro a8 w8 hb8 ho hn
     obtain ⟨v94, n94, hq94⟩ := hn 1 94 (by kernel_rfl) rfl
     have hv94 := hq94.2 (by decide)
     obtain ⟨v95, n95, hq95⟩ := hn 2 95 (by kernel_rfl) rfl
     have hv95 := hq95.2 (by decide)
     clear ho hn
     refine ⟨wanted_free rfl, ?_⟩
     obtain ⟨q0_, rfl, o0_⟩ := hv94
     obtain ⟨q1_, rfl, o1_⟩ := hv95
     refine ⟨#[.agg (arC ⟨1, [2], [0, 1099511627776]⟩ q0_), .agg (arC ⟨1, [], [1]⟩ q1_)], (kc2 rfl rfl (by kernel_rfl) (ev_t n94) (ev_t n95)), (c4 q0_ q1_ w8 (o0_.el (by decide) (by decide) (by decide)) (Cap.of o0_) (o1_.el (by decide) (by decide) (by decide)) (Cap.of o1_)).mono ?_⟩
     rintro e wz ⟨r, rfl, o9, b9⟩
     exact ⟨_, rfl, b9, r, rfl, o9.mono hb8.size⟩
   · refine mx HUX rfl 92 rfl ?_
     intro a8 w8 hb8 ho hn
     obtain ⟨v96, n96, hq96⟩ := hn 3 96 (by kernel_rfl) rfl
     have hv96 := hq96.2 (by decide)
     clear ho hn
     refine ⟨wanted_free rfl, ?_⟩
     exact ⟨v96, w8, (by go_simp), Below.refl _ _, hv96⟩
   · refine mx HUX rfl 97 rfl ?_
     intro a8 w8 hb8 ho hn
     obtain ⟨v92, n92, hq92⟩ := hn 4 92 (by kernel_rfl) rfl
     have hv92 := hq92.2 (by decide)
     clear ho hn
     refine ⟨wanted_free rfl, ?_⟩
     obtain ⟨p_, rfl, o⟩ := hv92
     exact ⟨.agg (arC ⟨0, [], []⟩ p_), w8, (by go_simp), Below.refl _ _, p_, rfl, o⟩
   · refine vx HUX rfl 98 rfl (.int .i64 9) rfl ?_
     intro a8 w8 hb8 ho hn
     obtain ⟨v92, n92, hq92⟩ := hn 4 92 (by kernel_rfl) rfl
     have hv92 := hq92.2 (by decide)
     clear ho hn
     refine ⟨wanted_free rfl, ?_⟩
     obtain ⟨p_, rfl, o⟩ := hv92
     go_simp
   · refine bx_alloc HUX rfl (by decide) (by decide) rfl (.int .i64 0) (.slice none 0 0) (.slice none 0 0) ?_
     intro a8 w8 ho
     have o471 : a8.tmps[471]? = some _ := (ho 471 (by kernel_rfl)).trans rfl
     have hsz : 471 < a8.tmps.size := (Array.getElem?_eq_some_iff.1 o471).1
     refine ⟨by omega, wanted_free rfl, ?_⟩
     go_simp
   · refine bx_store HUX rfl rfl (by decide) (by decide) rfl (by kernel_rfl) rfl ?_
     intro a8 w8 g u0 u1 u2 hg n7 hn
     obtain ⟨v97, n97, hq97⟩ := hn 5 97 (by kernel_rfl) rfl
     have hv97 := hq97.2 (by decide)
     clear hn
     refine ⟨wanted_free rfl, ?_⟩
     obtain ⟨r, rfl, o⟩ := hv97
     have x0 := hg.cell 0
     have x1 := hg.cell 1
     have x2 := hg.cell 2
     have f0 := hg.frozen 0
     have f1 := hg.frozen 1
     have f2 := hg.frozen 2
     refine ⟨r, o, ?_⟩
     rw [show arC ⟨0, [], []⟩ r = #[.int .i64 0, .slice r.A0 0 r.c0, .slice r.A1 0 r.c1] from rfl] at n97
     clear hg o
     go_simp
   · refine vx HUX rfl 8 rfl (.int .i64 9) rfl ?_
     intro a8 w8 hb8 ho hn
     obtain ⟨v98, n98, hq98⟩ := hn 6 98 (by kernel_rfl) rfl
     obtain rfl := hq98.1 (by decide) (by decide)
     clear ho hn
     refine ⟨wanted_free rfl, ?_⟩
     go_simp
   omega
  intro dn fv wb4 hS5 hR5 hall
  obtain ⟨g4, e8, hg8, _, hfin⟩ := hS5.h (hall 7 (by decide))
  have e8 := put_at e8 472 rfl (by decide) rfl
  obtain ⟨r4, hb8, ho8⟩ := hfin (hall 8 (by decide))
  have hbw := hS5.b
  have h48 : fv 8 = .int .i64 9 := (hR5 9 8 rfl).1 (by decide) (by decide)
  clear hS5 hR5 hall hfin
  simp only [putAll, List.foldl_cons, List.foldl_nil, Act.put, List.setIfInBounds_toArray, List.set_cons_succ, List.set_cons_zero]
  rw [e8, h48]
  have HB_wb4 := Lib.hid (bxs_cons (g := g4) (X := ⟨0, [], []⟩) (p := r4) (HB_wb3.out.up hbw) ⟨hb8, ho8.el (by decide) (by decide) (by decide), Cap.of ho8⟩)
  have BW_wb4 := Lib.hid (bon BW_wb3.out hbw)
  generalize fv 93 = u93, fv 94 = u94, fv 95 = u95, fv 96 = u96, fv 92 = u92, fv 97 = u97, fv 98 = u98
  clear hb8 ho8 hbw e8 h48 hg8 HUX HB_wb3 BW_wb3
  go_upto_region 5 with (fail)
  have HUX : BxU wb4 (lookU [(0, xo wb4 ⟨2, [1], [97]⟩), (1, xo wb4 ⟨1, [], [1]⟩), (2, xto wb4 ⟨0, [], []⟩ 5), (3, xto wb4 ⟨0, [], []⟩ 5), (4, xo wb4 ⟨0, [], []⟩)]) := lookU_two (by
   intro x hx
   simp only [List.mem_cons, List.not_mem_nil, or_false] at hx
   rcases hx with rfl | rfl | rfl | rfl | rfl <;> first | exact xo_stk _ _ | exact slo_stk _ _ _ | exact sio_stk _ _ _ | exact xto_stk _ _ _)
  refine qX HUX 6 7 9 ⟨0, [], []⟩ [0, 1, 2, 3, 4] [undef, undef, undef, undef, undef, .int .i64 5, undef, undef, .int .i64 5] (by kernel_rfl) 472 rfl (by kernel_rfl) ?_ ?_
  ·intro i hi
   have hi2 : i < 9 := hi
   clear hi
   rcases i with _ | _ | _ | _ | _ | _ | _ | _ | _ | i
   · refine kx HUX 17 rfl 100 rfl ?_
     refine fun _ w8 hb8 _ _ => ⟨wanted_free rfl, ?_⟩
     refine ⟨#[.string { data := #[97] }], (by kernel_rfl), (chr_lit { data := #[97] } [97] (by decide) (by decide +kernel) 1 (by decide) w8).mono ?_⟩
     rintro e wz ⟨p_, rfl, o, b⟩
     exact ⟨_, rfl, b, p_, rfl, o.mono hb8.size⟩
   · refine kx HUX 16 rfl 101 rfl ?_
     refine fun _ w8 hb8 _ _ => ⟨wanted_free rfl, ?_⟩
     refine ⟨#[.int .i64 1], (by kernel_rfl), (sca_lit 1 w8).mono ?_⟩
     rintro e wz ⟨p_, rfl, o, b⟩
     exact ⟨_, rfl, b, p_, rfl, o.mono hb8.size⟩
   · refine kx HUX 15 rfl 102 rfl ?_
     intro a8 w8 hb8 ho hn
     obtain ⟨v100, n100, hq100⟩ := hn 0 100 (by kernel_rfl) rfl
     have hv100 := hq100.2 (by decide)
     obtain ⟨v101, n101, hq101⟩ := hn 1 101 (by kernel_rfl) rfl
     have hv101 := hq101.2 (by decide)
     clear ho hn
     refine ⟨wanted_free rfl, ?_⟩
     obtain ⟨q0_, rfl, o0_⟩ := hv100
     obtain ⟨q1_, rfl, o1_⟩ := hv101
     refine ⟨#[.agg (arC ⟨2, [1], [97]⟩ q0_), .agg (arC ⟨1, [], [1]⟩ q1_)], (kc2 rfl rfl (by kernel_rfl) (ev_t n100) (ev_t n101)), (c5 q0_ q1_ w8 (o0_.el (by decide) (by decide) (by decide)) (Cap.of o0_) (o1_.el (by decide) (by decide) (by decide)) (Cap.of o1_)).mono ?_⟩
     rintro e wz ⟨r, rfl, o9, b9⟩
     exact ⟨_, rfl, b9, r, rfl, o9.mono hb8.size⟩
   · refine mx HUX rfl 99 rfl ?_
     intro a8 w8 hb8 ho hn
     obtain ⟨v102, n102, hq102⟩ := hn 2 102 (by kernel_rfl) rfl
     have hv102 := hq102.2 (by decide)
     clear ho hn
     refine ⟨wanted_free rfl, ?_⟩
     exact ⟨v102, w8, (by go_simp), Below.refl _ _, hv102⟩
   · refine mx HUX rfl 103 rfl ?_
     intro a8 w8 hb8 ho hn
     obtain ⟨v99, n99, hq99⟩ := hn 3 99 (by kernel_rfl) rfl
     have hv99 := hq99.2 (by decide)
     clear ho hn
     refine ⟨wanted_free rfl, ?_⟩
     obtain ⟨p_, rfl, o⟩ := hv99
     exact ⟨.agg (arC ⟨0, [], []⟩ p_), w8, (by go_simp), Below.refl _ _, p_, rfl, o⟩
   · refine vx HUX rfl 104 rfl (.int .i64 5) rfl ?_
     intro a8 w8 hb8 ho hn
     obtain ⟨v99, n99, hq99⟩ := hn 3 99 (by kernel_rfl) rfl
     have hv99 := hq99.2 (by decide)
     clear ho hn
     refine ⟨wanted_free rfl, ?_⟩
     obtain ⟨p_, rfl, o⟩ := hv99
     go_simp
   · refine bx_alloc HUX rfl (by decide) (by decide) rfl (.int .i64 0) (.slice none 0 0) (.slice none 0 0) ?_
     intro a8 w8 ho
     have o471 : a8.tmps[471]? = some _ := (ho 471 (by kernel_rfl)).trans rfl
     have hsz : 471 < a8.tmps.size := (Array.getElem?_eq_some_iff.1 o471).1
     refine ⟨by omega, wanted_free rfl, ?_⟩
     go_simp
   · refine bx_store HUX rfl rfl (by decide) (by decide) rfl (by kernel_rfl) rfl ?_
     intro a8 w8 g u0 u1 u2 hg n9 hn
     obtain ⟨v103, n103, hq103⟩ := hn 4 103 (by kernel_rfl) rfl
     have hv103 := hq103.2 (by decide)
     clear hn
     refine ⟨wanted_free rfl, ?_⟩
     obtain ⟨r, rfl, o⟩ := hv103
     have x0 := hg.cell 0
     have x1 := hg.cell 1
     have x2 := hg.cell 2
     have f0 := hg.frozen 0
     have f1 := hg.frozen 1
     have f2 := hg.frozen 2
     refine ⟨r, o, ?_⟩
     rw [show arC ⟨0, [], []⟩ r = #[.int .i64 0, .slice r.A0 0 r.c0, .slice r.A1 0 r.c1] from rfl] at n103
     clear hg o
     go_simp
   · refine vx HUX rfl 10 rfl (.int .i64 5) rfl ?_
     intro a8 w8 hb8 ho hn
     obtain ⟨v104, n104, hq104⟩ := hn 5 104 (by kernel_rfl) rfl
     obtain rfl := hq104.1 (by decide) (by decide)
     clear ho hn
     refine ⟨wanted_free rfl, ?_⟩
     go_simp
   omega
  intro dn fv wb5 hS5 hR5 hall
  obtain ⟨g5, e8, hg8, _, hfin⟩ := hS5.h (hall 6 (by decide))
  have e8 := put_at e8 472 rfl (by decide) rfl
  obtain ⟨r5, hb8, ho8⟩ := hfin (hall 7 (by decide))
  have hbw := hS5.b
  have h48 : fv 10 = .int .i64 5 := (hR5 8 10 rfl).1 (by decide) (by decide)
  clear hS5 hR5 hall hfin
  simp only [putAll, List.foldl_cons, List.foldl_nil, Act.put, List.setIfInBounds_toArray, List.set_cons_succ, List.set_cons_zero]
  rw [e8, h48]
  have HB_wb5 := Lib.hid (bxs_cons (g := g5) (X := ⟨0, [], []⟩) (p := r5) (HB_wb4.out.up hbw) ⟨hb8, ho8.el (by decide) (by decide) (by decide), Cap.of ho8⟩)
  have BW_wb5 := Lib.hid (bon BW_wb4.out hbw)
  generalize fv 100 = u100, fv 101 = u101, fv 102 = u102, fv 99 = u99, fv 103 = u103, fv 104 = u104
  clear hb8 ho8 hbw e8 h48 hg8 HUX HB_wb4 BW_wb4
  go_upto_region 6 with (fail)
  have HUX : BxU wb5 (lookU [(0, slo wb5 2 #[.int .i64 1, .int .i64 1]), (1, xo wb5 ⟨1, [1, 2], [1, 1]⟩), (2, xo wb5 ⟨1, [], [1]⟩), (3, xto wb5 ⟨0, [], []⟩ 3), (4, xto wb5 ⟨0, [], []⟩ 3), (5, xo wb5 ⟨0, [], []⟩)]) := lookU_two (by
   intro x hx
   simp only [List.mem_cons, List.not_mem_nil, or_false] at hx
   rcases hx with rfl | rfl | rfl | rfl | rfl | rfl <;> first | exact xo_stk _ _ | exact slo_stk _ _ _ | exact sio_stk _ _ _ | exact xto_stk _ _ _)
  refine qX HUX 7 8 11 ⟨0, [], []⟩ [0, 1, 2, 3, 4, 5] [undef, undef, undef, undef, undef, undef, .int .i64 3, undef, undef, .int .i64 3] (by kernel_rfl) 472 rfl (by kernel_rfl) ?_ ?_
  ·intro i hi
   have hi2 : i < 10 := hi
   clear hi
   rcases i with _ | _ | _ | _ | _ | _ | _ | _ | _ | _ | i
   · refine mx HUX rfl 106 rfl ?_
     refine fun _ w8 hb8 _ _ => ⟨wanted_free rfl, ?_⟩
     exact ⟨.slice (some ⟨w8.heap.size, 0, none⟩) 2 2, w8.alloc (.cells #[.int .i64 1, .int .i64 1] 2), (by go_simp), albel _ _, w8.heap.size, rfl, hb8.size, Blk.new w8 _ _⟩
   · refine kx HUX 19 rfl 107 rfl ?_
     intro a8 w8 hb8 ho hn
     obtain ⟨v106, n106, hq106⟩ := hn 0 106 (by kernel_rfl) rfl
     have hv106 := hq106.2 (by decide)
     clear ho hn
     refine ⟨wanted_free rfl, ?_⟩
     obtain ⟨g, rfl, hB, hg⟩ := hv106
     refine ⟨#[.int .i64 2, .slice (some ⟨g, 0, none⟩) 2 2], (by first | exact kc2 rfl rfl (by kernel_rfl) rfl (ev_t n106) | exact kc2 rfl rfl (by kernel_rfl) (ev_t n106) rfl | go_simp), (mat13 [1, 1] 2 (by decide) (by decide) (by decide) g 2 w8 rfl _ hB hb8.size hg).mono ?_⟩
     rintro e wz ⟨p_, rfl, o, b⟩
     exact ⟨_, rfl, b, p_, rfl, o⟩
   · refine kx HUX 16 rfl 108 rfl ?_
     refine fun _ w8 hb8 _ _ => ⟨wanted_free rfl, ?_⟩
     refine ⟨#[.int .i64 1], (by kernel_rfl), (sca_lit 1 w8).mono ?_⟩
     rintro e wz ⟨p_, rfl, o, b⟩
     exact ⟨_, rfl, b, p_, rfl, o.mono hb8.size⟩
   · refine kx HUX 15 rfl 109 rfl ?_
     intro a8 w8 hb8 ho hn
     obtain ⟨v107, n107, hq107⟩ := hn 1 107 (by kernel_rfl) rfl
     have hv107 := hq107.2 (by decide)
     obtain ⟨v108, n108, hq108⟩ := hn 2 108 (by kernel_rfl) rfl
     have hv108 := hq108.2 (by decide)
     clear ho hn
     refine ⟨wanted_free rfl, ?_⟩
     obtain ⟨q0_, rfl, o0_⟩ := hv107
     obtain ⟨q1_, rfl, o1_⟩ := hv108
     refine ⟨#[.agg (arC ⟨1, [1, 2], [1, 1]⟩ q0_), .agg (arC ⟨1, [], [1]⟩ q1_)], (kc2 rfl rfl (by kernel_rfl) (ev_t n107) (ev_t n108)), (c6 q0_ q1_ w8 (o0_.el (by decide) (by decide) (by decide)) (Cap.of o0_) (o1_.el (by decide) (by decide) (by decide)) (Cap.of o1_)).mono ?_⟩
     rintro e wz ⟨r, rfl, o9, b9⟩
     exact ⟨_, rfl, b9, r, rfl, o9.mono hb8.size⟩
   · refine mx HUX rfl 105 rfl ?_
     intro a8 w8 hb8 ho hn
     obtain ⟨v109, n109, hq109⟩ := hn 3 109 (by kernel_rfl) rfl
     have hv109 := hq109.2 (by decide)
     clear ho hn
     refine ⟨wanted_free rfl, ?_⟩
     exact ⟨v109, w8, (by go_simp), Below.refl _ _, hv109⟩
   · refine mx HUX rfl 110 rfl ?_
     intro a8 w8 hb8 ho hn
     obtain ⟨v105, n105, hq105⟩ := hn 4 105 (by kernel_rfl) rfl
     have hv105 := hq105.2 (by decide)
     clear ho hn
     refine ⟨wanted_free rfl, ?_⟩
     obtain ⟨p_, rfl, o⟩ := hv105
     exact ⟨.agg (arC ⟨0, [], []⟩ p_), w8, (by go_simp), Below.refl _ _, p_, rfl, o⟩
   · refine vx HUX rfl 111 rfl (.int .i64 3) rfl ?_
     intro a8 w8 hb8 ho hn
     obtain ⟨v105, n105, hq105⟩ := hn 4 105 (by kernel_rfl) rfl
     have hv105 := hq105.2 (by decide)
     clear ho hn
     refine ⟨wanted_free rfl, ?_⟩
     obtain ⟨p_, rfl, o⟩ := hv105
     go_simp
   · refine bx_alloc HUX rfl (by decide) (by decide) rfl (.int .i64 0) (.slice none 0 0) (.slice none 0 0) ?_
     intro a8 w8 ho
     have o471 : a8.tmps[471]? = some _ := (ho 471 (by kernel_rfl)).trans rfl
     have hsz : 471 < a8.tmps.size := (Array.getElem?_eq_some_iff.1 o471).1
     refine ⟨by omega, wanted_free rfl, ?_⟩
     go_simp
   · refine bx_store HUX rfl rfl (by decide) (by decide) rfl (by kernel_rfl) rfl ?_
     intro a8 w8 g u0 u1 u2 hg n11 hn
     obtain ⟨v110, n110, hq110⟩ := hn 5 110 (by kernel_rfl) rfl
     have hv110 := hq110.2 (by decide)
     clear hn
     refine ⟨wanted_free rfl, ?_⟩
     obtain ⟨r, rfl, o⟩ := hv110
     have x0 := hg.cell 0
     have x1 := hg.cell 1
     have x2 := hg.cell 2
     have f0 := hg.frozen 0
     have f1 := hg.frozen 1
     have f2 := hg.frozen 2
     refine ⟨r, o, ?_⟩
     rw [show arC ⟨0, [], []⟩ r = #[.int .i64 0, .slice r.A0 0 r.c0, .slice r.A1 0 r.c1] from rfl] at n110
     clear hg o
     go_simp
   · refine vx HUX rfl 12 rfl (.int .i64 3) rfl ?_
     intro a8 w8 hb8 ho hn
     obtain ⟨v111, n111, hq111⟩ := hn 6 111 (by kernel_rfl) rfl
     obtain rfl := hq111.1 (by decide) (by decide)
     clear ho hn
     refine ⟨wanted_free rfl, ?_⟩
     go_simp
   omega
  intro dn fv wb6 hS5 hR5 hall
  obtain ⟨g6, e8, hg8, _, hfin⟩ := hS5.h (hall 7 (by decide))
  have e8 := put_at e8 472 rfl (by decide) rfl
  obtain ⟨r6, hb8, ho8⟩ := hfin (hall 8 (by decide))
  have hbw := hS5.b
  have h48 : fv 12 = .int .i64 3 := (hR5 9 12 rfl).1 (by decide) (by decide)
  clear hS5 hR5 hall hfin
  simp only [putAll, List.foldl_cons, List.foldl_nil, Act.put, List.setIfInBounds_toArray, List.set_cons_succ, List.set_cons_zero]
  rw [e8, h48]
  have HB_wb6 := Lib.hid (bxs_cons (g := g6) (X := ⟨0, [], []⟩) (p := r6) (HB_wb5.out.up hbw) ⟨hb8, ho8.el (by decide) (by decide) (by decide), Cap.of ho8⟩)
  have BW_wb6 := Lib.hid (bon BW_wb5.out hbw)
  generalize fv 106 = u106, fv 107 = u107, fv 108 = u108, fv 109 = u109, fv 105 = u105, fv 110 = u110, fv 111 = u111
  clear hb8 ho8 hbw e8 h48 hg8 HUX HB_wb5 BW_wb5
  go_upto_region 7 with (fail)
  have HUX : BxU wb6 (lookU [(0, xo wb6 ⟨1, [0], []⟩), (1, slo wb6 2 #[.int .i64 7, .int .i64 8]), (2, xo wb6 ⟨1, [2], [7, 8]⟩), (3, xto wb6 ⟨1, [], [7]⟩ 0), (4, xto wb6 ⟨1, [], [7]⟩ 0), (5, xo wb6 ⟨1, [], [7]⟩)]) := lookU_two (by
   intro x hx
   simp only [List.mem_cons, List.not_mem_nil, or_false] at hx
   rcases hx with rfl | rfl | rfl | rfl | rfl | rfl <;> first | exact xo_stk _ _ | exact slo_stk _ _ _ | exact sio_stk _ _ _ | exact xto_stk _ _ _)
  refine qX HUX 7 8 13 ⟨1, [], [7]⟩ [0, 1, 2, 3, 4, 5] [undef, undef, undef, undef, undef, undef, .int .i64 0, undef, undef, .int .i64 0] (by kernel_rfl) 472 rfl (by kernel_rfl) ?_ ?_
  ·intro i hi
   have hi2 : i < 10 := hi
   clear hi
   rcases i with _ | _ | _ | _ | _ | _ | _ | _ | _ | _ | i
   · refine kx HUX 18 rfl 113 rfl ?_
     refine fun _ w8 hb8 _ _ => ⟨wanted_free rfl, ?_⟩
     refine ⟨#[.slice none 0 0], (by kernel_rfl), (vec_lit [] (by decide) _ 0 0 w8 rfl Reads.none_).mono ?_⟩
     rintro e wz ⟨p_, rfl, o, b⟩
     exact ⟨_, rfl, b, p_, rfl, o.mono hb8.size⟩
   · refine mx HUX rfl 114 rfl ?_
     refine fun _ w8 hb8 _ _ => ⟨wanted_free rfl, ?_⟩
     exact ⟨.slice (some ⟨w8.heap.size, 0, none⟩) 2 2, w8.alloc (.cells #[.int .i64 7, .int .i64 8] 2), (by go_simp), albel _ _, w8.heap.size, rfl, hb8.size, Blk.new w8 _ _⟩
   · refine kx HUX 18 rfl 115 rfl ?_
     intro a8 w8 hb8 ho hn
     obtain ⟨v114, n114, hq114⟩ := hn 1 114 (by kernel_rfl) rfl
     have hv114 := hq114.2 (by decide)
     clear ho hn
     refine ⟨wanted_free rfl, ?_⟩
     obtain ⟨g, rfl, _, hg⟩ := hv114
     refine ⟨#[.slice (some ⟨g, 0, none⟩) 2 2], (kc1 rfl rfl (by kernel_rfl) (ev_t n114)), (vec_lit [7, 8] (by decide) _ 2 2 w8 rfl (reads_blk hg rfl)).mono ?_⟩
     rintro e wz ⟨p_, rfl, o, b⟩
     exact ⟨_, rfl, b, p_, rfl, o.mono hb8.size⟩
   · refine kx HUX 15 rfl 116 rfl ?_
     intro a8 w8 hb8 ho hn
     obtain ⟨v113, n113, hq113⟩ := hn 0 113 (by kernel_rfl) rfl
     have hv113 := hq113.2 (by decide)
     obtain ⟨v115, n115, hq115⟩ := hn 2 115 (by kernel_rfl) rfl
     have hv115 := hq115.2 (by decide)
     clear ho hn
     refine ⟨wanted_free rfl, ?_⟩
     obtain ⟨q0_, rfl, o0_⟩ := hv113
     obtain ⟨q1_, rfl, o1_⟩ := hv115
     refine ⟨#[.agg (arC ⟨1, [0], []⟩ q0_), .agg (arC ⟨1, [2], [7, 8]⟩ q1_)], (kc2 rfl rfl (by kernel_rfl) (ev_t n113) (ev_t n115)), (c7 q0_ q1_ w8 (o0_.el (by decide) (by decide) (by decide)) (Cap.of o0_) (o1_.el (by decide) (by decide) (by decide)) (Cap.of o1_)).mono ?_⟩
     rintro e wz ⟨r, rfl, o9, b9⟩
     exact ⟨_, rfl, b9, r, rfl, o9.mono hb8.size⟩
   · refine mx HUX rfl 112 rfl ?_
     intro a8 w8 hb8 ho hn
     obtain ⟨v116, n116, hq116⟩ := hn 3 116 (by kernel_rfl) rfl
     have hv116 := hq116.2 (by decide)
     clear ho hn
     refine ⟨wanted_free rfl, ?_⟩
     exact ⟨v116, w8, (by go_simp), Below.refl _ _, hv116⟩
   · refine mx HUX rfl 117 rfl ?_
     intro a8 w8 hb8 ho hn
     obtain ⟨v112, n112, hq112⟩ := hn 4 112 (by kernel_rfl) rfl
     have hv112 := hq112.2 (by decide)
     clear ho hn
     refine ⟨wanted_free rfl, ?_⟩
     obtain ⟨p_, rfl, o⟩ := hv112
     exact ⟨.agg (arC ⟨1, [], [7]⟩ p_), w8, (by go_simp), Below.refl _ _, p_, rfl, o⟩
   · refine vx HUX rfl 118 rfl (.int .i64 0) rfl ?_
     intro a8 w8 hb8 ho hn
     obtain ⟨v112, n112, hq112⟩ := hn 4 112 (by kernel_rfl) rfl
     have hv112 := hq112.2 (by decide)
     clear ho hn
     refine ⟨wanted_free rfl, ?_⟩
     obtain ⟨p_, rfl, o⟩ := hv112
     go_simp
   · refine bx_alloc HUX rfl (by decide) (by decide) rfl (.int .i64 0) (.slice none 0 0) (.slice none 0 0) ?_
     intro a8 w8 ho
     have o471 : a8.tmps[471]? = some _ := (ho 471 (by kernel_rfl)).trans rfl
     have hsz : 471 < a8.tmps.size := (Array.getElem?_eq_some_iff.1 o471).1
     refine ⟨by omega, wanted_free rfl, ?_⟩
     go_simp
   · refine bx_store HUX rfl rfl (by decide) (by decide) rfl (by kernel_rfl) rfl ?_
     intro a8 w8 g u0 u1 u2 hg n13 hn
     obtain ⟨v117, n117, hq117⟩ := hn 5 117 (by kernel_rfl) rfl
     have hv117 := hq117.2 (by decide)
     clear hn
     refine ⟨wanted_free rfl, ?_⟩
     obtain ⟨r, rfl, o⟩ := hv117
     have x0 := hg.cell 0
     have x1 := hg.cell 1
     have x2 := hg.cell 2
     have f0 := hg.frozen 0
     have f1 := hg.frozen 1
     have f2 := hg.frozen 2
     refine ⟨r, o, ?_⟩
     rw [show arC ⟨1, [], [7]⟩ r = #[.int .i64 1, .slice r.A0 0 r.c0, .slice r.A1 1 r.c1] from rfl] at n117
     clear hg o
     go_simp
   · refine vx HUX rfl 14 rfl (.int .i64 0) rfl ?_
     intro a8 w8 hb8 ho hn
     obtain ⟨v118, n118, hq118⟩ := hn 6 118 (by kernel_rfl) rfl
     obtain rfl := hq118.1 (by decide) (by decide)
     clear ho hn
     refine ⟨wanted_free rfl, ?_⟩
     go_simp
   omega
  intro dn fv wb7 hS5 hR5 hall
  obtain ⟨g7, e8, hg8, _, hfin⟩ := hS5.h (hall 7 (by decide))
  have e8 := put_at e8 472 rfl (by decide) rfl
  obtain ⟨r7, hb8, ho8⟩ := hfin (hall 8 (by decide))
  have hbw := hS5.b
  have h48 : fv 14 = .int .i64 0 := (hR5 9 14 rfl).1 (by decide) (by decide)
  clear hS5 hR5 hall hfin
  simp only [putAll, List.foldl_cons, List.foldl_nil, Act.put, List.setIfInBounds_toArray, List.set_cons_succ, List.set_cons_zero]
  rw [e8, h48]
  have HB_wb7 := Lib.hid (bxs_cons (g := g7) (X := ⟨1, [], [7]⟩) (p := r7) (HB_wb6.out.up hbw) ⟨hb8, ho8.el (by decide) (by decide) (by decide), Cap.of ho8⟩)
  have BW_wb7 := Lib.hid (bon BW_wb6.out hbw)
  generalize fv 113 = u113, fv 114 = u114, fv 115 = u115, fv 116 = u116, fv 112 = u112, fv 117 = u117, fv 118 = u118
  clear hb8 ho8 hbw e8 h48 hg8 HUX HB_wb6 BW_wb6
  go_upto_region 8 with (fail)
  have HU : GU (lookU [(2, xo wb7 ⟨2, [2], [32, 32]⟩), (3, xv (.bool true)), (27, xo wb7 ⟨1, [], [7]⟩), (28, xv (.bool true))]) := lookU_stay (by
   intro x hx
   simp only [List.mem_cons, List.not_mem_nil, or_false] at hx
   rcases hx with rfl | rfl | rfl | rfl <;> first | exact (slo_stk _ _ _).1 | exact (sio_stk _ _ _).1 | exact (xo_stk _ _).1 | exact xv_stk _)
  refine wp_region_done_on (GS wb7) (GR [2, 3, 27, 28] (lookU [(2, xo wb7 ⟨2, [2], [32, 32]⟩), (3, xv (.bool true)), (27, xo wb7 ⟨1, [], [7]⟩), (28, xv (.bool true))]) [.agg #[.int .i64 2, .slice r1.A0 1 r1.c0, .slice r1.A1 2 r1.c1], .int .i64 0, undef, undef, .bool true, .int .i64 5, .bool true, .bool true, .bool true, .int .i64 9, .bool true, .bool true, .bool true, .int .i64 9, .bool true, .bool true, .bool true, .int .i64 5, .bool true, .bool true, .bool true, .int .i64 3, .bool true, .bool true, .bool true, .agg #[.int .i64 1, .slice r7.A0 0 r7.c0, .slice r7.A1 1 r7.c1], .int .i64 0, undef, undef, .bool true, .bool true]) (by kernel_rfl) 472 rfl (by kernel_rfl) ((Below.refl _ _).drew) ?_ ?_
  ·intro i hi
   have hi2 : i < 31 := hi
   clear hi
   rcases i with _ | _ | _ | _ | _ | _ | _ | _ | _ | _ | _ | _ | _ | _ | _ | _ | _ | _ | _ | _ | _ | _ | _ | _ | _ | _ | _ | _ | _ | _ | _ | i
   · refine gr_value rfl (by decide) (.agg #[.int .i64 2, .slice r1.A0 1 r1.c0, .slice r1.A1 2 r1.c1]) rfl ?_
     intro a8 w8 hb8 ho hn
     have o1 : a8.tmps[1]? = some _ := (ho 1 (by kernel_rfl)).trans rfl
     clear ho hn
     refine ⟨wanted_free rfl, ?_⟩
     have x := (HB_wb7.out.up hb8) 6 _ _ _ rfl
     have x0 : w8.cell? ⟨g1, 0, none⟩ = some (.int .i64 2) := x.k.cell 0
     have x1 : w8.cell? ⟨g1, 1, none⟩ = some (.slice r1.A0 1 r1.c0) := x.k.cell 1
     have x2 : w8.cell? ⟨g1, 2, none⟩ = some (.slice r1.A1 2 r1.c1) := x.k.cell 2
     clear x
     go_simp
   · refine gr_value rfl (by decide) (.int .i64 0) rfl ?_
     intro a8 w8 hb8 ho hn
     have o2 : a8.tmps[2]? = some _ := (ho 2 (by kernel_rfl)).trans rfl
     clear ho hn
     refine ⟨wanted_free rfl, ?_⟩
     go_simp
   · refine gr_call HU 17 rfl (by decide) ?_
     refine fun _ w8 hb8 _ _ => ⟨wanted_free rfl, ?_⟩
     refine ⟨#[.string { data := #[32, 32] }], (by kernel_rfl), (chr_lit { data := #[32, 32] } [32, 32] (by decide) (by decide +kernel) 2 (by decide) w8).mono ?_⟩
     rintro e wz ⟨p_, rfl, o, b⟩
     exact ⟨_, rfl, b, p_, rfl, o.mono hb8.size⟩
   · refine gr_call HU 20 rfl (by decide) ?_
     intro a8 w8 hb8 ho hn
     obtain ⟨v119, n119, hq119⟩ := hn 0 119 (by kernel_rfl) rfl
     obtain rfl := hq119.1 (by decide)
     obtain ⟨v120, n120, hq120⟩ := hn 1 120 (by kernel_rfl) rfl
     obtain rfl := hq120.1 (by decide)
     obtain ⟨v121, n121, hq121⟩ := hn 2 121 (by kernel_rfl) rfl
     have hv121 := hq121.2 (by decide)
     clear ho hn
     refine ⟨wanted_free rfl, ?_⟩
     obtain ⟨q_, rfl, o_⟩ := hv121
     refine ⟨#[.agg #[.int .i64 2, .slice r1.A0 1 r1.c0, .slice r1.A1 2 r1.c1], .int .i64 0, .agg (arC ⟨2, [2], [32, 32]⟩ q_)], (kc3 rfl rfl (by kernel_rfl) (ev_t n119) (ev_t n120) (ev_t n121)), (l13is_yes ⟨2, [2], [32, 32]⟩ r1 q_ w8 ((HB_wb7.out.up hb8) 6 _ _ _ rfl).e (o_.el (by decide) (by decide) (by decide))).mono ?_⟩
     rintro e wz ⟨rfl, b9⟩
     exact ⟨_, rfl, b9, rfl⟩
   · refine gr_value rfl (by decide) (.bool true) rfl ?_
     intro a8 w8 hb8 ho hn
     obtain ⟨v122, n122, hq122⟩ := hn 3 122 (by kernel_rfl) rfl
     have hv122 := hq122.2 (by decide)
     clear ho hn
     refine ⟨wanted_free rfl, ?_⟩
     obtain rfl : v122 = .bool true := hv122
     go_simp
   · refine gr_value rfl (by decide) (.int .i64 5) rfl ?_
     intro a8 w8 hb8 ho hn
     have o4 : a8.tmps[4]? = some _ := (ho 4 (by kernel_rfl)).trans rfl
     obtain ⟨v123, n123, hq123⟩ := hn 4 123 (by kernel_rfl) rfl
     obtain rfl := hq123.1 (by decide)
     clear ho hn
     refine ⟨wanted_of 4 123 rfl rfl n123, ?_⟩
     go_simp
   · refine gr_value rfl (by decide) (.bool true) rfl ?_
     intro a8 w8 hb8 ho hn
     obtain ⟨v124, n124, hq124⟩ := hn 5 124 (by kernel_rfl) rfl
     obtain rfl := hq124.1 (by decide)
     obtain ⟨v123, n123, hq123⟩ := hn 4 123 (by kernel_rfl) rfl
     obtain rfl := hq123.1 (by decide)
     clear ho hn
     refine ⟨wanted_of 4 123 rfl rfl n123, ?_⟩
     go_simp
   · refine gr_value rfl (by decide) (.bool true) rfl ?_
     intro a8 w8 hb8 ho hn
     obtain ⟨v123, n123, hq123⟩ := hn 4 123 (by kernel_rfl) rfl
     obtain rfl := hq123.1 (by decide)
     obtain ⟨v125, n125, hq125⟩ := hn 6 125 (by kernel_rfl) rfl
     obtain rfl := hq125.1 (by decide)
     clear ho hn
     refine ⟨wanted_free rfl, ?_⟩
     go_simp
   · refine gr_value rfl (by decide) (.bool true) rfl ?_
     intro a8 w8 hb8 ho hn
     obtain ⟨v126, n126, hq126⟩ := hn 7 126 (by kernel_rfl) rfl
     obtain rfl := hq126.1 (by decide)
     clear ho hn
     refine ⟨wanted_free rfl, ?_⟩
     go_simp
   · refine gr_value rfl (by decide) (.int .i64 9) rfl ?_
     intro a8 w8 hb8 ho hn
     have o6 : a8.tmps[6]? = some _ := (ho 6 (by kernel_rfl)).trans rfl
     obtain ⟨v127, n127, hq127⟩ := hn 8 127 (by kernel_rfl) rfl
     obtain rfl := hq127.1 (by decide)
     clear ho hn
     refine ⟨wanted_of 8 127 rfl rfl n127, ?_⟩
     go_simp
   · refine gr_value rfl (by decide) (.bool true) rfl ?_
     intro a8 w8 hb8 ho hn
     obtain ⟨v128, n128, hq128⟩ := hn 9 128 (by kernel_rfl) rfl
     obtain rfl := hq128.1 (by decide)
     obtain ⟨v127, n127, hq127⟩ := hn 8 127 (by kernel_rfl) rfl
     obtain rfl := hq127.1 (by decide)
     clear ho hn
     refine ⟨wanted_of 8 127 rfl rfl n127, ?_⟩
     go_simp
   · refine gr_value rfl (by decide) (.bool true) rfl ?_
     intro a8 w8 hb8 ho hn
     obtain ⟨v127, n127, hq127⟩ := hn 8 127 (by kernel_rfl) rfl
     obtain rfl := hq127.1 (by decide)
     obtain ⟨v129, n129, hq129⟩ := hn 10 129 (by kernel_rfl) rfl
     obtain rfl := hq129.1 (by decide)
     clear ho hn
     refine ⟨wanted_free rfl, ?_⟩
     go_simp
   · refine gr_value rfl (by decide) (.bool true) rfl ?_
     intro a8 w8 hb8 ho hn
     obtain ⟨v130, n130, hq130⟩ := hn 11 130 (by kernel_rfl) rfl
     obtain rfl := hq130.1 (by decide)
     clear ho hn
     refine ⟨wanted_free rfl, ?_⟩
     go_simp
   · refine gr_value rfl (by decide) (.int .i64 9) rfl ?_
     intro a8 w8 hb8 ho hn
     have o8 : a8.tmps[8]? = some _ := (ho 8 (by kernel_rfl)).trans rfl
     obtain ⟨v131, n131, hq131⟩ := hn 12 131 (by kernel_rfl) rfl
     obtain rfl := hq131.1 (by decide)
     clear ho hn
     refine ⟨wanted_of 12 131 rfl rfl n131, ?_⟩
     go_simp
   · refine gr_value rfl (by decide) (.bool true) rfl ?_
     intro a8 w8 hb8 ho hn
     obtain ⟨v132, n132, hq132⟩ := hn 13 132 (by kernel_rfl) rfl
     obtain rfl := hq132.1 (by decide)
     obtain ⟨v131, n131, hq131⟩ := hn 12 131 (by kernel_rfl) rfl
     obtain rfl := hq131.1 (by decide)
     clear ho hn
     refine ⟨wanted_of 12 131 rfl rfl n131, ?_⟩
     go_simp
   · refine gr_value rfl (by decide) (.bool true) rfl ?_
     intro a8 w8 hb8 ho hn
     obtain ⟨v131, n131, hq131⟩ := hn 12 131 (by kernel_rfl) rfl
     obtain rfl := hq131.1 (by decide)
     obtain ⟨v133, n133, hq133⟩ := hn 14 133 (by kernel_rfl) rfl
     obtain rfl := hq133.1 (by decide)
     clear ho hn
     refine ⟨wanted_free rfl, ?_⟩
     go_simp
   · refine gr_value rfl (by decide) (.bool true) rfl ?_
     intro a8 w8 hb8 ho hn
     obtain ⟨v134, n134, hq134⟩ := hn 15 134 (by kernel_rfl) rfl
     obtain rfl := hq134.1 (by decide)
     clear ho hn
     refine ⟨wanted_free rfl, ?_⟩
     go_simp
   · refine gr_value rfl (by decide) (.int .i64 5) rfl ?_
     intro a8 w8 hb8 ho hn
     have o10 : a8.tmps[10]? = some _ := (ho 10 (by kernel_rfl)).trans rfl
     obtain ⟨v135, n135, hq135⟩ := hn 16 135 (by kernel_rfl) rfl
     obtain rfl := hq135.1 (by decide)
     clear ho hn
     refine ⟨wanted_of 16 135 rfl rfl n135, ?_⟩
     go_simp
   · refine gr_value rfl (by decide) (.bool true) rfl ?_
     intro a8 w8 hb8 ho hn
     obtain ⟨v136, n136, hq136⟩ := hn 17 136 (by kernel_rfl) rfl
     obtain rfl := hq136.1 (by decide)
     obtain ⟨v135, n135, hq135⟩ := hn 16 135 (by kernel_rfl) rfl
     obtain rfl := hq135.1 (by decide)
     clear ho hn
     refine ⟨wanted_of 16 135 rfl rfl n135, ?_⟩
     go_simp
   · refine gr_value rfl (by decide) (.bool true) rfl ?_
     intro a8 w8 hb8 ho hn
     obtain ⟨v135, n135, hq135⟩ := hn 16 135 (by kernel_rfl) rfl
     obtain rfl := hq135.1 (by decide)
     obtain ⟨v137, n137, hq137⟩ := hn 18 137 (by kernel_rfl) rfl
     obtain rfl := hq137.1 (by decide)
     clear ho hn
     refine ⟨wanted_free rfl, ?_⟩
     go_simp
   · refine gr_value rfl (by decide) (.bool true) rfl ?_
     intro a8 w8 hb8 ho hn
     obtain ⟨v138, n138, hq138⟩ := hn 19 138 (by kernel_rfl) rfl
     obtain rfl := hq138.1 (by decide)
     clear ho hn
     refine ⟨wanted_free rfl, ?_⟩
     go_simp
   · refine gr_value rfl (by decide) (.int .i64 3) rfl ?_
     intro a8 w8 hb8 ho hn
     have o12 : a8.tmps[12]? = some _ := (ho 12 (by kernel_rfl)).trans rfl
     obtain ⟨v139, n139, hq139⟩ := hn 20 139 (by kernel_rfl) rfl
     obtain rfl := hq139.1 (by decide)
     clear ho hn
     refine ⟨wanted_of 20 139 rfl rfl n139, ?_⟩
     go_simp
   · refine gr_value rfl (by decide) (.bool true) rfl ?_
     intro a8 w8 hb8 ho hn
     obtain ⟨v140, n140, hq140⟩ := hn 21 140 (by kernel_rfl) rfl
     obtain rfl := hq140.1 (by decide)
     obtain ⟨v139, n139, hq139⟩ := hn 20 139 (by kernel_rfl) rfl
     obtain rfl := hq139.1 (by decide)
     clear ho hn
     refine ⟨wanted_of 20 139 rfl rfl n139, ?_⟩
     go_simp
   · refine gr_value rfl (by decide) (.bool true) rfl ?_
     intro a8 w8 hb8 ho hn
     obtain ⟨v139, n139, hq139⟩ := hn 20 139 (by kernel_rfl) rfl
     obtain rfl := hq139.1 (by decide)
     obtain ⟨v141, n141, hq141⟩ := hn 22 141 (by kernel_rfl) rfl
     obtain rfl := hq141.1 (by decide)
     clear ho hn
     refine ⟨wanted_free rfl, ?_⟩
     go_simp
   · refine gr_value rfl (by decide) (.bool true) rfl ?_
     intro a8 w8 hb8 ho hn
     obtain ⟨v142, n142, hq142⟩ := hn 23 142 (by kernel_rfl) rfl
     obtain rfl := hq142.1 (by decide)
     clear ho hn
     refine ⟨wanted_free rfl, ?_⟩
     go_simp
   · refine gr_value rfl (by decide) (.agg #[.int .i64 1, .slice r7.A0 0 r7.c0, .slice r7.A1 1 r7.c1]) rfl ?_
     intro a8 w8 hb8 ho hn
     have o13 : a8.tmps[13]? = some _ := (ho 13 (by kernel_rfl)).trans rfl
     obtain ⟨v143, n143, hq143⟩ := hn 24 143 (by kernel_rfl) rfl
     obtain rfl := hq143.1 (by decide)
     clear ho hn
     refine ⟨wanted_of 24 143 rfl rfl n143, ?_⟩
     have x := (HB_wb7.out.up hb8) 0 _ _ _ rfl
     have x0 : w8.cell? ⟨g7, 0, none⟩ = some (.int .i64 1) := x.k.cell 0
     have x1 : w8.cell? ⟨g7, 1, none⟩ = some (.slice r7.A0 0 r7.c0) := x.k.cell 1
     have x2 : w8.cell? ⟨g7, 2, none⟩ = some (.slice r7.A1 1 r7.c1) := x.k.cell 2
     clear x
     go_simp
   · refine gr_value rfl (by decide) (.int .i64 0) rfl ?_
     intro a8 w8 hb8 ho hn
     have o14 : a8.tmps[14]? = some _ := (ho 14 (by kernel_rfl)).trans rfl
     obtain ⟨v143, n143, hq143⟩ := hn 24 143 (by kernel_rfl) rfl
     obtain rfl := hq143.1 (by decide)
     clear ho hn
     refine ⟨wanted_of 24 143 rfl rfl n143, ?_⟩
     go_simp
   · refine gr_call HU 16 rfl (by decide) ?_
     intro a8 w8 hb8 ho hn
     obtain ⟨v143, n143, hq143⟩ := hn 24 143 (by kernel_rfl) rfl
     obtain rfl := hq143.1 (by decide)
     clear ho hn
     refine ⟨wanted_of 24 143 rfl rfl n143, ?_⟩
     refine ⟨#[.int .i64 7], (by kernel_rfl), (sca_lit 7 w8).mono ?_⟩
     rintro e wz ⟨p_, rfl, o, b⟩
     exact ⟨_, rfl, b, p_, rfl, o.mono hb8.size⟩
   · refine gr_call HU 20 rfl (by decide) ?_
     intro a8 w8 hb8 ho hn
     obtain ⟨v144, n144, hq144⟩ := hn 25 144 (by kernel_rfl) rfl
     obtain rfl := hq144.1 (by decide)
     obtain ⟨v145, n145, hq145⟩ := hn 26 145 (by kernel_rfl) rfl
     obtain rfl := hq145.1 (by decide)
     obtain ⟨v146, n146, hq146⟩ := hn 27 146 (by kernel_rfl) rfl
     have hv146 := hq146.2 (by decide)
     obtain ⟨v143, n143, hq143⟩ := hn 24 143 (by kernel_rfl) rfl
     obtain rfl := hq143.1 (by decide)
     clear ho hn
     refine ⟨wanted_of 24 143 rfl rfl n143, ?_⟩
     obtain ⟨q_, rfl, o_⟩ := hv146
     refine ⟨#[.agg #[.int .i64 1, .slice r7.A0 0 r7.c0, .slice r7.A1 1 r7.c1], .int .i64 0, .agg (arC ⟨1, [], [7]⟩ q_)], (kc3 rfl rfl (by kernel_rfl) (ev_t n144) (ev_t n145) (ev_t n146)), (l13is_yes ⟨1, [], [7]⟩ r7 q_ w8 ((HB_wb7.out.up hb8) 0 _ _ _ rfl).e (o_.el (by decide) (by decide) (by decide))).mono ?_⟩
     rintro e wz ⟨rfl, b9⟩
     exact ⟨_, rfl, b9, rfl⟩
   · refine gr_value rfl (by decide) (.bool true) rfl ?_
     intro a8 w8 hb8 ho hn
     obtain ⟨v143, n143, hq143⟩ := hn 24 143 (by kernel_rfl) rfl
     obtain rfl := hq143.1 (by decide)
     obtain ⟨v147, n147, hq147⟩ := hn 28 147 (by kernel_rfl) rfl
     have hv147 := hq147.2 (by decide)
     clear ho hn
     refine ⟨wanted_free rfl, ?_⟩
     obtain rfl : v147 = .bool true := hv147
     go_simp
   · refine gr_value rfl (by decide) (.bool true) rfl ?_
     intro a8 w8 hb8 ho hn
     obtain ⟨v148, n148, hq148⟩ := hn 29 148 (by kernel_rfl) rfl
     obtain rfl := hq148.1 (by decide)
     clear ho hn
     refine ⟨wanted_free rfl, ?_⟩
     go_simp
   omega
  intro dn fv wb8 hb_wb8 hR5 hall
  have h15 : fv 15 = _ := (hR5 30 15 rfl).1 (by decide)
  simp only [putAll, List.foldl_cons, List.foldl_nil, Act.put, List.setIfInBounds_toArray, List.set_cons_succ, List.set_cons_zero, h15, List.getD_cons_zero, List.getD_cons_succ]
  clear hR5 hall
  have HB_wb8 := Lib.hid (HB_wb7.out.up hb_wb8)
  have BW_wb8 := Lib.hid (bon BW_wb7.out hb_wb8)
  generalize fv 119 = u119, fv 120 = u120, fv 121 = u121, fv 122 = u122, fv 123 = u123, fv 124 = u124, fv 125 = u125, fv 126 = u126
  generalize fv 127 = u127, fv 128 = u128, fv 129 = u129, fv 130 = u130, fv 131 = u131, fv 132 = u132, fv 133 = u133, fv 134 = u134
  generalize fv 135 = u135, fv 136 = u136, fv 137 = u137, fv 138 = u138, fv 139 = u139, fv 140 = u140, fv 141 = u141, fv 142 = u142
  generalize fv 143 = u143, fv 144 = u144, fv 145 = u145, fv 146 = u146, fv 147 = u147, fv 148 = u148
  clear hb_wb8 HU h15 HB_wb7 BW_wb7
  go_upto_region 9 with (fail)
  have HUX : BxU wb8 (lookU [(0, xo wb8 ⟨1, [], [3]⟩), (1, slo wb8 2 #[.int .i64 1, .int .i64 2]), (2, xo wb8 ⟨1, [2], [1, 2]⟩), (3, xto wb8 ⟨1, [3], [1, 2, 0]⟩ 0), (4, xto wb8 ⟨1, [3], [1, 2, 0]⟩ 0), (5, xo wb8 ⟨1, [3], [1, 2, 0]⟩)]) := lookU_two (by
   intro x hx
   simp only [List.mem_cons, List.not_mem_nil, or_false] at hx
   rcases hx with rfl | rfl | rfl | rfl | rfl | rfl <;> first | exact xo_stk _ _ | exact slo_stk _ _ _ | exact sio_stk _ _ _ | exact xto_stk _ _ _)
  refine qX HUX 7 8 16 ⟨1, [3], [1, 2, 0]⟩ [0, 1, 2, 3, 4, 5] [undef, undef, undef, undef, undef, undef, .int .i64 0, undef, undef, .int .i64 0] (by kernel_rfl) 472 rfl (by kernel_rfl) ?_ ?_
  ·intro i hi
   have hi2 : i < 10 := hi
   clear hi
   rcases i with _ | _ | _ | _ | _ | _ | _ | _ | _ | _ | i
   · refine kx HUX 16 rfl 150 rfl ?_
     refine fun _ w8 hb8 _ _ => ⟨wanted_free rfl, ?_⟩
     refine ⟨#[.int .i64 3], (by kernel_rfl), (sca_lit 3 w8).mono ?_⟩
     rintro e wz ⟨p_, rfl, o, b⟩
     exact ⟨_, rfl, b, p_, rfl, o.mono hb8.size⟩
   · refine mx HUX rfl 151 rfl ?_
     refine fun _ w8 hb8 _ _ => ⟨wanted_free rfl, ?_⟩
     exact ⟨.slice (some ⟨w8.heap.size, 0, none⟩) 2 2, w8.alloc (.cells #[.int .i64 1, .int .i64 2] 2), (by go_simp), albel _ _, w8.heap.size, rfl, hb8.size, Blk.new w8 _ _⟩
   · refine kx HUX 18 rfl 152 rfl ?_
     intro a8 w8 hb8 ho hn
     obtain ⟨v151, n151, hq151⟩ := hn 1 151 (by kernel_rfl) rfl
     have hv151 := hq151.2 (by decide)
     clear ho hn
     refine ⟨wanted_free rfl, ?_⟩
     obtain ⟨g, rfl, _, hg⟩ := hv151
     refine ⟨#[.slice (some ⟨g, 0, none⟩) 2 2], (kc1 rfl rfl (by kernel_rfl) (ev_t n151)), (vec_lit [1, 2] (by decide) _ 2 2 w8 rfl (reads_blk hg rfl)).mono ?_⟩
     rintro e wz ⟨p_, rfl, o, b⟩
     exact ⟨_, rfl, b, p_, rfl, o.mono hb8.size⟩
   · refine kx HUX 21 rfl 153 rfl ?_
     intro a8 w8 hb8 ho hn
     obtain ⟨v150, n150, hq150⟩ := hn 0 150 (by kernel_rfl) rfl
     have hv150 := hq150.2 (by decide)
     obtain ⟨v152, n152, hq152⟩ := hn 2 152 (by kernel_rfl) rfl
     have hv152 := hq152.2 (by decide)
     clear ho hn
     refine ⟨wanted_free rfl, ?_⟩
     obtain ⟨q0_, rfl, o0_⟩ := hv150
     obtain ⟨q1_, rfl, o1_⟩ := hv152
     refine ⟨#[.agg (arC ⟨1, [], [3]⟩ q0_), .agg (arC ⟨1, [2], [1, 2]⟩ q1_)], (kc2 rfl rfl (by kernel_rfl) (ev_t n150) (ev_t n152)), (c8 q0_ q1_ w8 (o0_.el (by decide) (by decide) (by decide)) (Cap.of o0_) (o1_.el (by decide) (by decide) (by decide)) (Cap.of o1_)).mono ?_⟩
     rintro e wz ⟨r, rfl, o9, b9⟩
     exact ⟨_, rfl, b9, r, rfl, o9.mono hb8.size⟩
   · refine mx HUX rfl 149 rfl ?_
     intro a8 w8 hb8 ho hn
     obtain ⟨v153, n153, hq153⟩ := hn 3 153 (by kernel_rfl) rfl
     have hv153 := hq153.2 (by decide)
     clear ho hn
     refine ⟨wanted_free rfl, ?_⟩
     exact ⟨v153, w8, (by go_simp), Below.refl _ _, hv153⟩
   · refine mx HUX rfl 154 rfl ?_
     intro a8 w8 hb8 ho hn
     obtain ⟨v149, n149, hq149⟩ := hn 4 149 (by kernel_rfl) rfl
     have hv149 := hq149.2 (by decide)
     clear ho hn
     refine ⟨wanted_free rfl, ?_⟩
     obtain ⟨p_, rfl, o⟩ := hv149
     exact ⟨.agg (arC ⟨1, [3], [1, 2, 0]⟩ p_), w8, (by go_simp), Below.refl _ _, p_, rfl, o⟩
   · refine vx HUX rfl 155 rfl (.int .i64 0) rfl ?_
     intro a8 w8 hb8 ho hn
     obtain ⟨v149, n149, hq149⟩ := hn 4 149 (by kernel_rfl) rfl
     have hv149 := hq149.2 (by decide)
     clear ho hn
     refine ⟨wanted_free rfl, ?_⟩
     obtain ⟨p_, rfl, o⟩ := hv149
     go_simp
   · refine bx_alloc HUX rfl (by decide) (by decide) rfl (.int .i64 0) (.slice none 0 0) (.slice none 0 0) ?_
     intro a8 w8 ho
     have o471 : a8.tmps[471]? = some _ := (ho 471 (by kernel_rfl)).trans rfl
     have hsz : 471 < a8.tmps.size := (Array.getElem?_eq_some_iff.1 o471).1
     refine ⟨by omega, wanted_free rfl, ?_⟩
     go_simp
   · refine bx_store HUX rfl rfl (by decide) (by decide) rfl (by kernel_rfl) rfl ?_
     intro a8 w8 g u0 u1 u2 hg n16 hn
     obtain ⟨v154, n154, hq154⟩ := hn 5 154 (by kernel_rfl) rfl
     have hv154 := hq154.2 (by decide)
     clear hn
     refine ⟨wanted_free rfl, ?_⟩
     obtain ⟨r, rfl, o⟩ := hv154
     have x0 := hg.cell 0
     have x1 := hg.cell 1
     have x2 := hg.cell 2
     have f0 := hg.frozen 0
     have f1 := hg.frozen 1
     have f2 := hg.frozen 2
     refine ⟨r, o, ?_⟩
     rw [show arC ⟨1, [3], [1, 2, 0]⟩ r = #[.int .i64 1, .slice r.A0 1 r.c0, .slice r.A1 3 r.c1] from rfl] at n154
     clear hg o
     go_simp
   · refine vx HUX rfl 17 rfl (.int .i64 0) rfl ?_
     intro a8 w8 hb8 ho hn
     obtain ⟨v155, n155, hq155⟩ := hn 6 155 (by kernel_rfl) rfl
     obtain rfl := hq155.1 (by decide) (by decide)
     clear ho hn
     refine ⟨wanted_free rfl, ?_⟩
     go_simp
   omega
  intro dn fv wb9 hS5 hR5 hall
  obtain ⟨g9, e8, hg8, _, hfin⟩ := hS5.h (hall 7 (by decide))
  have e8 := put_at e8 472 rfl (by decide) rfl
  obtain ⟨r9, hb8, ho8⟩ := hfin (hall 8 (by decide))
  have hbw := hS5.b
  have h48 : fv 17 = .int .i64 0 := (hR5 9 17 rfl).1 (by decide) (by decide)
  clear hS5 hR5 hall hfin
  simp only [putAll, List.foldl_cons, List.foldl_nil, Act.put, List.setIfInBounds_toArray, List.set_cons_succ, List.set_cons_zero]
  rw [e8, h48]
  have HB_wb9 := Lib.hid (bxs_cons (g := g9) (X := ⟨1, [3], [1, 2, 0]⟩) (p := r9) (HB_wb8.out.up hbw) ⟨hb8, ho8.el (by decide) (by decide) (by decide), Cap.of ho8⟩)
  have BW_wb9 := Lib.hid (bon BW_wb8.out hbw)
  generalize fv 150 = u150, fv 151 = u151, fv 152 = u152, fv 153 = u153, fv 149 = u149, fv 154 = u154, fv 155 = u155
  clear hb8 ho8 hbw e8 h48 hg8 HUX HB_wb8 BW_wb8
  go_upto_region 10 with (fail)
  have HUX : BxU wb9 (lookU [(0, xo wb9 ⟨1, [], [1]⟩), (1, slo wb9 4 #[.int .i64 1, .int .i64 2, .int .i64 3, .int .i64 4]), (2, xo wb9 ⟨1, [2, 2], [1, 2, 3, 4]⟩), (3, xto wb9 ⟨0, [], []⟩ 4), (4, xto wb9 ⟨0, [], []⟩ 4), (5, xo wb9 ⟨0, [], []⟩)]) := lookU_two (by
   intro x hx
   simp only [List.mem_cons, List.not_mem_nil, or_false] at hx
   rcases hx with rfl | rfl | rfl | rfl | rfl | rfl <;> first | exact xo_stk _ _ | exact slo_stk _ _ _ | exact sio_stk _ _ _ | exact xto_stk _ _ _)
  refine qX HUX 7 8 18 ⟨0, [], []⟩ [0, 1, 2, 3, 4, 5] [undef, undef, undef, undef, undef, undef, .int .i64 4, undef, undef, .int .i64 4] (by kernel_rfl) 472 rfl (by kernel_rfl) ?_ ?_
  ·intro i hi
   have hi2 : i < 10 := hi
   clear hi
   rcases i with _ | _ | _ | _ | _ | _ | _ | _ | _ | _ | i
   · refine kx HUX 16 rfl 157 rfl ?_
     refine fun _ w8 hb8 _ _ => ⟨wanted_free rfl, ?_⟩
     refine ⟨#[.int .i64 1], (by kernel_rfl), (sca_lit 1 w8).mono ?_⟩
     rintro e wz ⟨p_, rfl, o, b⟩
     exact ⟨_, rfl, b, p_, rfl, o.mono hb8.size⟩
   · refine mx HUX rfl 158 rfl ?_
     refine fun _ w8 hb8 _ _ => ⟨wanted_free rfl, ?_⟩
     exact ⟨.slice (some ⟨w8.heap.size, 0, none⟩) 4 4, w8.alloc (.cells #[.int .i64 1, .int .i64 2, .int .i64 3, .int .i64 4] 2), (by go_simp), albel _ _, w8.heap.size, rfl, hb8.size, Blk.new w8 _ _⟩
   · refine kx HUX 19 rfl 159 rfl ?_
     intro a8 w8 hb8 ho hn
     obtain ⟨v158, n158, hq158⟩ := hn 1 158 (by kernel_rfl) rfl
     have hv158 := hq158.2 (by decide)
     clear ho hn
     refine ⟨wanted_free rfl, ?_⟩
     obtain ⟨g, rfl, hB, hg⟩ := hv158
     refine ⟨#[.int .i64 2, .slice (some ⟨g, 0, none⟩) 4 4], (by first | exact kc2 rfl rfl (by kernel_rfl) rfl (ev_t n158) | exact kc2 rfl rfl (by kernel_rfl) (ev_t n158) rfl | go_simp), (mat13 [1, 2, 3, 4] 2 (by decide) (by decide) (by decide) g 4 w8 rfl _ hB hb8.size hg).mono ?_⟩
     rintro e wz ⟨p_, rfl, o, b⟩
     exact ⟨_, rfl, b, p_, rfl, o⟩
   · refine kx HUX 21 rfl 160 rfl ?_
     intro a8 w8 hb8 ho hn
     obtain ⟨v157, n157, hq157⟩ := hn 0 157 (by kernel_rfl) rfl
     have hv157 := hq157.2 (by decide)
     obtain ⟨v159, n159, hq159⟩ := hn 2 159 (by kernel_rfl) rfl
     have hv159 := hq159.2 (by decide)
     clear ho hn
     refine ⟨wanted_free rfl, ?_⟩
     obtain ⟨q0_, rfl, o0_⟩ := hv157
     obtain ⟨q1_, rfl, o1_⟩ := hv159
     refine ⟨#[.agg (arC ⟨1, [], [1]⟩ q0_), .agg (arC ⟨1, [2, 2], [1, 2, 3, 4]⟩ q1_)], (kc2 rfl rfl (by kernel_rfl) (ev_t n157) (ev_t n159)), (c9 q0_ q1_ w8 (o0_.el (by decide) (by decide) (by decide)) (Cap.of o0_) (o1_.el (by decide) (by decide) (by decide)) (Cap.of o1_)).mono ?_⟩
     rintro e wz ⟨r, rfl, o9, b9⟩
     exact ⟨_, rfl, b9, r, rfl, o9.mono hb8.size⟩
   · refine mx HUX rfl 156 rfl ?_
     intro a8 w8 hb8 ho hn
     obtain ⟨v160, n160, hq160⟩ := hn 3 160 (by kernel_rfl) rfl
     have hv160 := hq160.2 (by decide)
     clear ho hn
     refine ⟨wanted_free rfl, ?_⟩
     exact ⟨v160, w8, (by go_simp), Below.refl _ _, hv160⟩
   · refine mx HUX rfl 161 rfl ?_
     intro a8 w8 hb8 ho hn
     obtain ⟨v156, n156, hq156⟩ := hn 4 156 (by kernel_rfl) rfl
     have hv156 := hq156.2 (by decide)
     clear ho hn
     refine ⟨wanted_free rfl, ?_⟩
     obtain ⟨p_, rfl, o⟩ := hv156
     exact ⟨.agg (arC ⟨0, [], []⟩ p_), w8, (by go_simp), Below.refl _ _, p_, rfl, o⟩
   · refine vx HUX rfl 162 rfl (.int .i64 4) rfl ?_
     intro a8 w8 hb8 ho hn
     obtain ⟨v156, n156, hq156⟩ := hn 4 156 (by kernel_rfl) rfl
     have hv156 := hq156.2 (by decide)
     clear ho hn
     refine ⟨wanted_free rfl, ?_⟩
     obtain ⟨p_, rfl, o⟩ := hv156
     go_simp
   · refine bx_alloc HUX rfl (by decide) (by decide) rfl (.int .i64 0) (.slice none 0 0) (.slice none 0 0) ?_
     intro a8 w8 ho
     have o471 : a8.tmps[471]? = some _ := (ho 471 (by kernel_rfl)).trans rfl
     have hsz : 471 < a8.tmps.size := (Array.getElem?_eq_some_iff.1 o471).1
     refine ⟨by omega, wanted_free rfl, ?_⟩
     go_simp
   · refine bx_store HUX rfl rfl (by decide) (by decide) rfl (by kernel_rfl) rfl ?_
     intro a8 w8 g u0 u1 u2 hg n18 hn
     obtain ⟨v161, n161, hq161⟩ := hn 5 161 (by kernel_rfl) rfl
     have hv161 := hq161.2 (by decide)
     clear hn
     refine ⟨wanted_free rfl, ?_⟩
     obtain ⟨r, rfl, o⟩ := hv161
     have x0 := hg.cell 0
     have x1 := hg.cell 1
     have x2 := hg.cell 2
     have f0 := hg.frozen 0
     have f1 := hg.frozen 1
     have f2 := hg.frozen 2
     refine ⟨r, o, ?_⟩
     rw [show arC ⟨0, [], []⟩ r = #[.int .i64 0, .slice r.A0 0 r.c0, .slice r.A1 0 r.c1] from rfl] at n161
     clear hg o
     go_simp
   · refine vx HUX rfl 19 rfl (.int .i64 4) rfl ?_
     intro a8 w8 hb8 ho hn
     obtain ⟨v162, n162, hq162⟩ := hn 6 162 (by kernel_rfl) rfl
     obtain rfl := hq162.1 (by decide) (by decide)
     clear ho hn
     refine ⟨wanted_free rfl, ?_⟩
     go_simp
   omega
  intro dn fv wb10 hS5 hR5 hall
  obtain ⟨g10, e8, hg8, _, hfin⟩ := hS5.h (hall 7 (by decide))
  have e8 := put_at e8 472 rfl (by decide) rfl
  obtain ⟨r10, hb8, ho8⟩ := hfin (hall 8 (by decide))
  have hbw := hS5.b
  have h48 : fv 19 = .int .i64 4 := (hR5 9 19 rfl).1 (by decide) (by decide)
  clear hS5 hR5 hall hfin
  simp only [putAll, List.foldl_cons, List.foldl_nil, Act.put, List.setIfInBounds_toArray, List.set_cons_succ, List.set_cons_zero]
  rw [e8, h48]
  have HB_wb10 := Lib.hid (bxs_cons (g := g10) (X := ⟨0, [], []⟩) (p := r10) (HB_wb9.out.up hbw) ⟨hb8, ho8.el (by decide) (by decide) (by decide), Cap.of ho8⟩)
  have BW_wb10 := Lib.hid (bon BW_wb9.out hbw)
  generalize fv 157 = u157, fv 158 = u158, fv 159 = u159, fv 160 = u160, fv 156 = u156, fv 161 = u161, fv 162 = u162
  clear hb8 ho8 hbw e8 h48 hg8 HUX HB_wb9 BW_wb9
  go_upto_region 11 with (fail)
  have HUX : BxU wb10 (lookU [(0, slo wb10 2 #[.int .i64 (-1), .int .i64 3]), (1, xo wb10 ⟨1, [2], [-1, 3]⟩), (2, slo wb10 4 #[.int .i64 1, .int .i64 2, .int .i64 3, .int .i64 4]), (3, xo wb10 ⟨1, [2, 2], [1, 2, 3, 4]⟩), (4, xto wb10 ⟨1, [1, 3], [3, 4, 0]⟩ 0), (5, xto wb10 ⟨1, [1, 3], [3, 4, 0]⟩ 0), (6, xo wb10 ⟨1, [1, 3], [3, 4, 0]⟩)]) := lookU_two (by
   intro x hx
   simp only [List.mem_cons, List.not_mem_nil, or_false] at hx
   rcases hx with rfl | rfl | rfl | rfl | rfl | rfl | rfl <;> first | exact xo_stk _ _ | exact slo_stk _ _ _ | exact sio_stk _ _ _ | exact xto_stk _ _ _)
  refine qX HUX 8 9 20 ⟨1, [1, 3], [3, 4, 0]⟩ [0, 1, 2, 3, 4, 5, 6] [undef, undef, undef, undef, undef, undef, undef, .int .i64 0, undef, undef, .int .i64 0] (by kernel_rfl) 472 rfl (by kernel_rfl) ?_ ?_
  ·intro i hi
   have hi2 : i < 11 := hi
   clear hi
   rcases i with _ | _ | _ | _ | _ | _ | _ | _ | _ | _ | _ | i
   · refine mx HUX rfl 164 rfl ?_
     refine fun _ w8 hb8 _ _ => ⟨wanted_free rfl, ?_⟩
     exact ⟨.slice (some ⟨w8.heap.size, 0, none⟩) 2 2, w8.alloc (.cells #[.int .i64 (-1), .int .i64 3] 2), (by go_simp), albel _ _, w8.heap.size, rfl, hb8.size, Blk.new w8 _ _⟩
   · refine kx HUX 18 rfl 165 rfl ?_
     intro a8 w8 hb8 ho hn
     obtain ⟨v164, n164, hq164⟩ := hn 0 164 (by kernel_rfl) rfl
     have hv164 := hq164.2 (by decide)
     clear ho hn
     refine ⟨wanted_free rfl, ?_⟩
     obtain ⟨g, rfl, _, hg⟩ := hv164
     refine ⟨#[.slice (some ⟨g, 0, none⟩) 2 2], (kc1 rfl rfl (by kernel_rfl) (ev_t n164)), (vec_lit [-1, 3] (by decide) _ 2 2 w8 rfl (reads_blk hg rfl)).mono ?_⟩
     rintro e wz ⟨p_, rfl, o, b⟩
     exact ⟨_, rfl, b, p_, rfl, o.mono hb8.size⟩
   · refine mx HUX rfl 166 rfl ?_
     refine fun _ w8 hb8 _ _ => ⟨wanted_free rfl, ?_⟩
     exact ⟨.slice (some ⟨w8.heap.size, 0, none⟩) 4 4, w8.alloc (.cells #[.int .i64 1, .int .i64 2, .int .i64 3, .int .i64 4] 2), (by go_simp), albel _ _, w8.heap.size, rfl, hb8.size, Blk.new w8 _ _⟩
   · refine kx HUX 19 rfl 167 rfl ?_
     intro a8 w8 hb8 ho hn
     obtain ⟨v166, n166, hq166⟩ := hn 2 166 (by kernel_rfl) rfl
     have hv166 := hq166.2 (by decide)
     clear ho hn
     refine ⟨wanted_free rfl, ?_⟩
     obtain ⟨g, rfl, hB, hg⟩ := hv166
     refine ⟨#[.int .i64 2, .slice (some ⟨g, 0, none⟩) 4 4], (by first | exact kc2 rfl rfl (by kernel_rfl) rfl (ev_t n166) | exact kc2 rfl rfl (by kernel_rfl) (ev_t n166) rfl | go_simp), (mat13 [1, 2, 3, 4] 2 (by decide) (by decide) (by decide) g 4 w8 rfl _ hB hb8.size hg).mono ?_⟩
     rintro e wz ⟨p_, rfl, o, b⟩
     exact ⟨_, rfl, b, p_, rfl, o⟩
   · refine kx HUX 21 rfl 168 rfl ?_
     intro a8 w8 hb8 ho hn
     obtain ⟨v165, n165, hq165⟩ := hn 1 165 (by kernel_rfl) rfl
     have hv165 := hq165.2 (by decide)
     obtain ⟨v167, n167, hq167⟩ := hn 3 167 (by kernel_rfl) rfl
     have hv167 := hq167.2 (by decide)
     clear ho hn
     refine ⟨wanted_free rfl, ?_⟩
     obtain ⟨q0_, rfl, o0_⟩ := hv165
     obtain ⟨q1_, rfl, o1_⟩ := hv167
     refine ⟨#[.agg (arC ⟨1, [2], [-1, 3]⟩ q0_), .agg (arC ⟨1, [2, 2], [1, 2, 3, 4]⟩ q1_)], (kc2 rfl rfl (by kernel_rfl) (ev_t n165) (ev_t n167)), (c10 q0_ q1_ w8 (o0_.el (by decide) (by decide) (by decide)) (Cap.of o0_) (o1_.el (by decide) (by decide) (by decide)) (Cap.of o1_)).mono ?_⟩
     rintro e wz ⟨r, rfl, o9, b9⟩
     exact ⟨_, rfl, b9, r, rfl, o9.mono hb8.size⟩
   · refine mx HUX rfl 163 rfl ?_
     intro a8 w8 hb8 ho hn
     obtain ⟨v168, n168, hq168⟩ := hn 4 168 (by kernel_rfl) rfl
     have hv168 := hq168.2 (by decide)
     clear ho hn
     refine ⟨wanted_free rfl, ?_⟩
     exact ⟨v168, w8, (by go_simp), Below.refl _ _, hv168⟩
   · refine mx HUX rfl 169 rfl ?_
     intro a8 w8 hb8 ho hn
     obtain ⟨v163, n163, hq163⟩ := hn 5 163 (by kernel_rfl) rfl
     have hv163 := hq163.2 (by decide)
     clear ho hn
     refine ⟨wanted_free rfl, ?_⟩
     obtain ⟨p_, rfl, o⟩ := hv163
     exact ⟨.agg (arC ⟨1, [1, 3], [3, 4, 0]⟩ p_), w8, (by go_simp), Below.refl _ _, p_, rfl, o⟩
   · refine vx HUX rfl 170 rfl (.int .i64 0) rfl ?_
     intro a8 w8 hb8 ho hn
     obtain ⟨v163, n163, hq163⟩ := hn 5 163 (by kernel_rfl) rfl
     have hv163 := hq163.2 (by decide)
     clear ho hn
     refine ⟨wanted_free rfl, ?_⟩
     obtain ⟨p_, rfl, o⟩ := hv163
     go_simp
   · refine bx_alloc HUX rfl (by decide) (by decide) rfl (.int .i64 0) (.slice none 0 0) (.slice none 0 0) ?_
     intro a8 w8 ho
     have o471 : a8.tmps[471]? = some _ := (ho 471 (by kernel_rfl)).trans rfl
     have hsz : 471 < a8.tmps.size := (Array.getElem?_eq_some_iff.1 o471).1
     refine ⟨by omega, wanted_free rfl, ?_⟩
     go_simp
   · refine bx_store HUX rfl rfl (by decide) (by decide) rfl (by kernel_rfl) rfl ?_
     intro a8 w8 g u0 u1 u2 hg n20 hn
     obtain ⟨v169, n169, hq169⟩ := hn 6 169 (by kernel_rfl) rfl
     have hv169 := hq169.2 (by decide)
     clear hn
     refine ⟨wanted_free rfl, ?_⟩
     obtain ⟨r, rfl, o⟩ := hv169
     have x0 := hg.cell 0
     have x1 := hg.cell 1
     have x2 := hg.cell 2
     have f0 := hg.frozen 0
     have f1 := hg.frozen 1
     have f2 := hg.frozen 2
     refine ⟨r, o, ?_⟩
     rw [show arC ⟨1, [1, 3], [3, 4, 0]⟩ r = #[.int .i64 1, .slice r.A0 2 r.c0, .slice r.A1 3 r.c1] from rfl] at n169
     clear hg o
     go_simp
   · refine vx HUX rfl 21 rfl (.int .i64 0) rfl ?_
     intro a8 w8 hb8 ho hn
     obtain ⟨v170, n170, hq170⟩ := hn 7 170 (by kernel_rfl) rfl
     obtain rfl := hq170.1 (by decide) (by decide)
     clear ho hn
     refine ⟨wanted_free rfl, ?_⟩
     go_simp
   omega
  intro dn fv wb11 hS5 hR5 hall
  obtain ⟨g11, e8, hg8, _, hfin⟩ := hS5.h (hall 8 (by decide))
  have e8 := put_at e8 472 rfl (by decide) rfl
  obtain ⟨r11, hb8, ho8⟩ := hfin (hall 9 (by decide))
  have hbw := hS5.b
  have h48 : fv 21 = .int .i64 0 := (hR5 10 21 rfl).1 (by decide) (by decide)
  clear hS5 hR5 hall hfin
  simp only [putAll, List.foldl_cons, List.foldl_nil, Act.put, List.setIfInBounds_toArray, List.set_cons_succ, List.set_cons_zero]
  rw [e8, h48]
  have HB_wb11 := Lib.hid (bxs_cons (g := g11) (X := ⟨1, [1, 3], [3, 4, 0]⟩) (p := r11) (HB_wb10.out.up hbw) ⟨hb8, ho8.el (by decide) (by decide) (by decide), Cap.of ho8⟩)
  have BW_wb11 := Lib.hid (bon BW_wb10.out hbw)
  generalize fv 164 = u164, fv 165 = u165, fv 166 = u166, fv 167 = u167, fv 168 = u168, fv 163 = u163, fv 169 = u169, fv 170 = u170
  clear hb8 ho8 hbw e8 h48 hg8 HUX HB_wb10 BW_wb10
  go_upto_region 12 with (fail)
  have HUX : BxU wb11 (lookU [(0, xo wb11 ⟨1, [], [2]⟩), (1, xo wb11 ⟨1, [], [5]⟩), (2, xto wb11 ⟨1, [2], [5, 0]⟩ 0), (3, xto wb11 ⟨1, [2], [5, 0]⟩ 0), (4, xo wb11 ⟨1, [2], [5, 0]⟩)]) := lookU_two (by
   intro x hx
   simp only [List.mem_cons, List.not_mem_nil, or_false] at hx
   rcases hx with rfl | rfl | rfl | rfl | rfl <;> first | exact xo_stk _ _ | exact slo_stk _ _ _ | exact sio_stk _ _ _ | exact xto_stk _ _ _)
  refine qX HUX 6 7 22 ⟨1, [2], [5, 0]⟩ [0, 1, 2, 3, 4] [undef, undef, undef, undef, undef, .int .i64 0, undef, undef, .int .i64 0] (by kernel_rfl) 472 rfl (by kernel_rfl) ?_ ?_
  ·intro i hi
   have hi2 : i < 9 := hi
   clear hi
   rcases i with _ | _ | _ | _ | _ | _ | _ | _ | _ | i
   · refine kx HUX 16 rfl 172 rfl ?_
     refine fun _ w8 hb8 _ _ => ⟨wanted_free rfl, ?_⟩
     refine ⟨#[.int .i64 2], (by kernel_rfl), (sca_lit 2 w8).mono ?_⟩
     rintro e wz ⟨p_, rfl, o, b⟩
     exact ⟨_, rfl, b, p_, rfl, o.mono hb8.size⟩
   · refine kx HUX 16 rfl 173 rfl ?_
     refine fun _ w8 hb8 _ _ => ⟨wanted_free rfl, ?_⟩
     refine ⟨#[.int .i64 5], (by kernel_rfl), (sca_lit 5 w8).mono ?_⟩
     rintro e wz ⟨p_, rfl, o, b⟩
     exact ⟨_, rfl, b, p_, rfl, o.mono hb8.size⟩
   · refine kx HUX 21 rfl 174 rfl ?_
     intro a8 w8 hb8 ho hn
     obtain ⟨v172, n172, hq172⟩ := hn 0 172 (by kernel_rfl) rfl
     have hv172 := hq172.2 (by decide)
     obtain ⟨v173, n173, hq173⟩ := hn 1 173 (by kernel_rfl) rfl
     have hv173 := hq173.2 (by decide)
     clear ho hn
     refine ⟨wanted_free rfl, ?_⟩
     obtain ⟨q0_, rfl, o0_⟩ := hv172
     obtain ⟨q1_, rfl, o1_⟩ := hv173
     refine ⟨#[.agg (arC ⟨1, [], [2]⟩ q0_), .agg (arC ⟨1, [], [5]⟩ q1_)], (kc2 rfl rfl (by kernel_rfl) (ev_t n172) (ev_t n173)), (c11 q0_ q1_ w8 (o0_.el (by decide) (by decide) (by decide)) (Cap.of o0_) (o1_.el (by decide) (by decide) (by decide)) (Cap.of o1_)).mono ?_⟩
     rintro e wz ⟨r, rfl, o9, b9⟩
     exact ⟨_, rfl, b9, r, rfl, o9.mono hb8.size⟩
   · refine mx HUX rfl 171 rfl ?_
     intro a8 w8 hb8 ho hn
     obtain ⟨v174, n174, hq174⟩ := hn 2 174 (by kernel_rfl) rfl
     have hv174 := hq174.2 (by decide)
     clear ho hn
     refine ⟨wanted_free rfl, ?_⟩
     exact ⟨v174, w8, (by go_simp), Below.refl _ _, hv174⟩
   · refine mx HUX rfl 175 rfl ?_
     intro a8 w8 hb8 ho hn
     obtain ⟨v171, n171, hq171⟩ := hn 3 171 (by kernel_rfl) rfl
     have hv171 := hq171.2 (by decide)
     clear ho hn
     refine ⟨wanted_free rfl, ?_⟩
     obtain ⟨p_, rfl, o⟩ := hv171
     exact ⟨.agg (arC ⟨1, [2], [5, 0]⟩ p_), w8, (by go_simp), Below.refl _ _, p_, rfl, o⟩
   · refine vx HUX rfl 176 rfl (.int .i64 0) rfl ?_
     intro a8 w8 hb8 ho hn
     obtain ⟨v171, n171, hq171⟩ := hn 3 171 (by kernel_rfl) rfl
     have hv171 := hq171.2 (by decide)
     clear ho hn
     refine ⟨wanted_free rfl, ?_⟩
     obtain ⟨p_, rfl, o⟩ := hv171
     go_simp
   · refine bx_alloc HUX rfl (by decide) (by decide) rfl (.int .i64 0) (.slice none 0 0) (.slice none 0 0) ?_
     intro a8 w8 ho
     have o471 : a8.tmps[471]? = some _ := (ho 471 (by kernel_rfl)).trans rfl
     have hsz : 471 < a8.tmps.size := (Array.getElem?_eq_some_iff.1 o471).1
     refine ⟨by omega, wanted_free rfl, ?_⟩
     go_simp
   · refine bx_store HUX rfl rfl (by decide) (by decide) rfl (by kernel_rfl) rfl ?_
     intro a8 w8 g u0 u1 u2 hg n22 hn
     obtain ⟨v175, n175, hq175⟩ := hn 4 175 (by kernel_rfl) rfl
     have hv175 := hq175.2 (by decide)
     clear hn
     refine ⟨wanted_free rfl, ?_⟩
     obtain ⟨r, rfl, o⟩ := hv175
     have x0 := hg.cell 0
     have x1 := hg.cell 1
     have x2 := hg.cell 2
     have f0 := hg.frozen 0
     have f1 := hg.frozen 1
     have f2 := hg.frozen 2
     refine ⟨r, o, ?_⟩
     rw [show arC ⟨1, [2], [5, 0]⟩ r = #[.int .i64 1, .slice r.A0 1 r.c0, .slice r.A1 2 r.c1] from rfl] at n175
     clear hg o
     go_simp
   · refine vx HUX rfl 23 rfl (.int .i64 0) rfl ?_
     intro a8 w8 hb8 ho hn
     obtain ⟨v176, n176, hq176⟩ := hn 5 176 (by kernel_rfl) rfl
     obtain rfl := hq176.1 (by decide) (by decide)
     clear ho hn
     refine ⟨wanted_free rfl, ?_⟩
     go_simp
   omega
  intro dn fv wb12 hS5 hR5 hall
  obtain ⟨g12, e8, hg8, _, hfin⟩ := hS5.h (hall 6 (by decide))
  have e8 := put_at e8 472 rfl (by decide) rfl
  obtain ⟨r12, hb8, ho8⟩ := hfin (hall 7 (by decide))
  have hbw := hS5.b
  have h48 : fv 23 = .int .i64 0 := (hR5 8 23 rfl).1 (by decide) (by decide)
  clear hS5 hR5 hall hfin
  simp only [putAll, List.foldl_cons, List.foldl_nil, Act.put, List.setIfInBounds_toArray, List.set_cons_succ, List.set_cons_zero]
  rw [e8, h48]
  have HB_wb12 := Lib.hid (bxs_cons (g := g12) (X := ⟨1, [2], [5, 0]⟩) (p := r12) (HB_wb11.out.up hbw) ⟨hb8, ho8.el (by decide) (by decide) (by decide), Cap.of ho8⟩)
  have BW_wb12 := Lib.hid (bon BW_wb11.out hbw)
  generalize fv 172 = u172, fv 173 = u173, fv 174 = u174, fv 171 = u171, fv 175 = u175, fv 176 = u176
  clear hb8 ho8 hbw e8 h48 hg8 HUX HB_wb11 BW_wb11
  go_upto_region 13 with (fail)
  have HUX : BxU wb12 (lookU [(0, xo wb12 ⟨1, [], [-9223372036854775808]⟩), (1, slo wb12 1 #[.int .i64 1]), (2, xo wb12 ⟨1, [1], [1]⟩), (3, xto wb12 ⟨0, [], []⟩ 9), (4, xto wb12 ⟨0, [], []⟩ 9), (5, xo wb12 ⟨0, [], []⟩)]) := lookU_two (by
   intro x hx
   simp only [List.mem_cons, List.not_mem_nil, or_false] at hx
   rcases hx with rfl | rfl | rfl | rfl | rfl | rfl <;> first | exact xo_stk _ _ | exact slo_stk _ _ _ | exact sio_stk _ _ _ | exact xto_stk _ _ _)
  refine qX HUX 7 8 24 ⟨0, [], []⟩ [0, 1, 2, 3, 4, 5] [undef, undef, undef, undef, undef, undef, .int .i64 9, undef, undef, .int .i64 9] (by kernel_rfl) 472 rfl (by kernel_rfl) ?_ ?_
  ·intro i hi
   have hi2 : i < 10 := hi
   clear hi
   rcases i with _ | _ | _ | _ | _ | _ | _ | _ | _ | _ | i
   · refine kx HUX 16 rfl 178 rfl ?_
     refine fun _ w8 hb8 _ _ => ⟨wanted_free rfl, ?_⟩
     refine ⟨#[.int .i64 (-9223372036854775808)], (by kernel_rfl), (sca_lit (-9223372036854775808) w8).mono ?_⟩
     rintro e wz ⟨p_, rfl, o, b⟩
     exact ⟨_, rfl, b, p_, rfl, o.mono hb8.size⟩
   · refine mx HUX rfl 179 rfl ?_
     refine fun _ w8 hb8 _ _ => ⟨wanted_free rfl, ?_⟩
     exact ⟨.slice (some ⟨w8.heap.size, 0, none⟩) 1 1, w8.alloc (.cells #[.int .i64 1] 2), (by go_simp), albel _ _, w8.heap.size, rfl, hb8.size, Blk.new w8 _ _⟩
   · refine kx HUX 18 rfl 180 rfl ?_
     intro a8 w8 hb8 ho hn
     obtain ⟨v179, n179, hq179⟩ := hn 1 179 (by kernel_rfl) rfl
     have hv179 := hq179.2 (by decide)
     clear ho hn
     refine ⟨wanted_free rfl, ?_⟩
     obtain ⟨g, rfl, _, hg⟩ := hv179
     refine ⟨#[.slice (some ⟨g, 0, none⟩) 1 1], (kc1 rfl rfl (by kernel_rfl) (ev_t n179)), (vec_lit [1] (by decide) _ 1 1 w8 rfl (reads_blk hg rfl)).mono ?_⟩
     rintro e wz ⟨p_, rfl, o, b⟩
     exact ⟨_, rfl, b, p_, rfl, o.mono hb8.size⟩
   · refine kx HUX 21 rfl 181 rfl ?_
     intro a8 w8 hb8 ho hn
     obtain ⟨v178, n178, hq178⟩ := hn 0 178 (by kernel_rfl) rfl
     have hv178 := hq178.2 (by decide)
     obtain ⟨v180, n180, hq180⟩ := hn 2 180 (by kernel_rfl) rfl
     have hv180 := hq180.2 (by decide)
     clear ho hn
     refine ⟨wanted_free rfl, ?_⟩
     obtain ⟨q0_, rfl, o0_⟩ := hv178
     obtain ⟨q1_, rfl, o1_⟩ := hv180
     refine ⟨#[.agg (arC ⟨1, [], [-9223372036854775808]⟩ q0_), .agg (arC ⟨1, [1], [1]⟩ q1_)], (kc2 rfl rfl (by kernel_rfl) (ev_t n178) (ev_t n180)), (c12 q0_ q1_ w8 (o0_.el (by decide) (by decide) (by decide)) (Cap.of o0_) (o1_.el (by decide) (by decide) (by decide)) (Cap.of o1_)).mono ?_⟩
     rintro e wz ⟨r, rfl, o9, b9⟩
     exact ⟨_, rfl, b9, r, rfl, o9.mono hb8.size⟩
   · refine mx HUX rfl 177 rfl ?_
     intro a8 w8 hb8 ho hn
     obtain ⟨v181, n181, hq181⟩ := hn 3 181 (by kernel_rfl) rfl
     have hv181 := hq181.2 (by decide)
     clear ho hn
     refine ⟨wanted_free rfl, ?_⟩
     exact ⟨v181, w8, (by go_simp), Below.refl _ _, hv181⟩
   · refine mx HUX rfl 182 rfl ?_
     intro a8 w8 hb8 ho hn
     obtain ⟨v177, n177, hq177⟩ := hn 4 177 (by kernel_rfl) rfl
     have hv177 := hq177.2 (by decide)
     clear ho hn
     refine ⟨wanted_free rfl, ?_⟩
     obtain ⟨p_, rfl, o⟩ := hv177
     exact ⟨.agg (arC ⟨0, [], []⟩ p_), w8, (by go_simp), Below.refl _ _, p_, rfl, o⟩
   · refine vx HUX rfl 183 rfl (.int .i64 9) rfl ?_
     intro a8 w8 hb8 ho hn
     obtain ⟨v177, n177, hq177⟩ := hn 4 177 (by kernel_rfl) rfl
     have hv177 := hq177.2 (by decide)
     clear ho hn
     refine ⟨wanted_free rfl, ?_⟩
     obtain ⟨p_, rfl, o⟩ := hv177
     go_simp
   · refine bx_alloc HUX rfl (by decide) (by decide) rfl (.int .i64 0) (.slice none 0 0) (.slice none 0 0) ?_
     intro a8 w8 ho
     have o471 : a8.tmps[471]? = some _ := (ho 471 (by kernel_rfl)).trans rfl
     have hsz : 471 < a8.tmps.size := (Array.getElem?_eq_some_iff.1 o471).1
     refine ⟨by omega, wanted_free rfl, ?_⟩
     go_simp
   · refine bx_store HUX rfl rfl (by decide) (by decide) rfl (by kernel_rfl) rfl ?_
     intro a8 w8 g u0 u1 u2 hg n24 hn
     obtain ⟨v182, n182, hq182⟩ := hn 5 182 (by kernel_rfl) rfl
     have hv182 := hq182.2 (by decide)
     clear hn
     refine ⟨wanted_free rfl, ?_⟩
     obtain ⟨r, rfl, o⟩ := hv182
     have x0 := hg.cell 0
     have x1 := hg.cell 1
     have x2 := hg.cell 2
     have f0 := hg.frozen 0
     have f1 := hg.frozen 1
     have f2 := hg.frozen 2
     refine ⟨r, o, ?_⟩
     rw [show arC ⟨0, [], []⟩ r = #[.int .i64 0, .slice r.A0 0 r.c0, .slice r.A1 0 r.c1] from rfl] at n182
     clear hg o
     go_simp
   · refine vx HUX rfl 25 rfl (.int .i64 9) rfl ?_
     intro a8 w8 hb8 ho hn
     obtain ⟨v183, n183, hq183⟩ := hn 6 183 (by kernel_rfl) rfl
     obtain rfl := hq183.1 (by decide) (by decide)
     clear ho hn
     refine ⟨wanted_free rfl, ?_⟩
     go_simp
   omega
  intro dn fv wb13 hS5 hR5 hall
  obtain ⟨g13, e8, hg8, _, hfin⟩ := hS5.h (hall 7 (by decide))
  have e8 := put_at e8 472 rfl (by decide) rfl
  obtain ⟨r13, hb8, ho8⟩ := hfin (hall 8 (by decide))
  have hbw := hS5.b
  have h48 : fv 25 = .int .i64 9 := (hR5 9 25 rfl).1 (by decide) (by decide)
  clear hS5 hR5 hall hfin
  simp only [putAll, List.foldl_cons, List.foldl_nil, Act.put, List.setIfInBounds_toArray, List.set_cons_succ, List.set_cons_zero]
  rw [e8, h48]
  have HB_wb13 := Lib.hid (bxs_cons (g := g13) (X := ⟨0, [], []⟩) (p := r13) (HB_wb12.out.up hbw) ⟨hb8, ho8.el (by decide) (by decide) (by decide), Cap.of ho8⟩)
  have BW_wb13 := Lib.hid (bon BW_wb12.out hbw)
  generalize fv 178 = u178, fv 179 = u179, fv 180 = u180, fv 181 = u181, fv 177 = u177, fv 182 = u182, fv 183 = u183
  clear hb8 ho8 hbw e8 h48 hg8 HUX HB_wb12 BW_wb12
  go_upto_region 14 with (fail)
  have HUX : BxU wb13 (lookU [(0, xo wb13 ⟨1, [], [-1]⟩), (1, slo wb13 3 #[.int .i64 1, .int .i64 2, .int .i64 3]), (2, xo wb13 ⟨1, [3], [1, 2, 3]⟩), (3, xto wb13 ⟨1, [2], [1, 2]⟩ 0), (4, xto wb13 ⟨1, [2], [1, 2]⟩ 0), (5, xo wb13 ⟨1, [2], [1, 2]⟩)]) := lookU_two (by
   intro x hx
   simp only [List.mem_cons, List.not_mem_nil, or_false] at hx
   rcases hx with rfl | rfl | rfl | rfl | rfl | rfl <;> first | exact xo_stk _ _ | exact slo_stk _ _ _ | exact sio_stk _ _ _ | exact xto_stk _ _ _)
  refine qX HUX 7 8 26 ⟨1, [2], [1, 2]⟩ [0, 1, 2, 3, 4, 5] [undef, undef, undef, undef, undef, undef, .int .i64 0, undef, undef, .int .i64 0] (by kernel_rfl) 472 rfl (by kernel_rfl) ?_ ?_
  ·intro i hi
   have hi2 : i < 10 := hi
   clear hi
   rcases i with _ | _ | _ | _ | _ | _ | _ | _ | _ | _ | i
   · refine kx HUX 16 rfl 185 rfl ?_
     refine fun _ w8 hb8 _ _ => ⟨wanted_free rfl, ?_⟩
     refine ⟨#[.int .i64 (-1)], (by kernel_rfl), (sca_lit (-1) w8).mono ?_⟩
     rintro e wz ⟨p_, rfl, o, b⟩
     exact ⟨_, rfl, b, p_, rfl, o.mono hb8.size⟩
   · refine mx HUX rfl 186 rfl ?_
     refine fun _ w8 hb8 _ _ => ⟨wanted_free rfl, ?_⟩
     exact ⟨.slice (some ⟨w8.heap.size, 0, none⟩) 3 3, w8.alloc (.cells #[.int .i64 1, .int .i64 2, .int .i64 3] 2), (by go_simp), albel _ _, w8.heap.size, rfl, hb8.size, Blk.new w8 _ _⟩
   · refine kx HUX 18 rfl 187 rfl ?_
     intro a8 w8 hb8 ho hn
     obtain ⟨v186, n186, hq186⟩ := hn 1 186 (by kernel_rfl) rfl
     have hv186 := hq186.2 (by decide)
     clear ho hn
     refine ⟨wanted_free rfl, ?_⟩
     obtain ⟨g, rfl, _, hg⟩ := hv186
     refine ⟨#[.slice (some ⟨g, 0, none⟩) 3 3], (kc1 rfl rfl (by kernel_rfl) (ev_t n186)), (vec_lit [1, 2, 3] (by decide) _ 3 3 w8 rfl (reads_blk hg rfl)).mono ?_⟩
     rintro e wz ⟨p_, rfl, o, b⟩
     exact ⟨_, rfl, b, p_, rfl, o.mono hb8.size⟩
   · refine kx HUX 22 rfl 188 rfl ?_
     intro a8 w8 hb8 ho hn
     obtain ⟨v185, n185, hq185⟩ := hn 0 185 (by kernel_rfl) rfl
     have hv185 := hq185.2 (by decide)
     obtain ⟨v187, n187, hq187⟩ := hn 2 187 (by kernel_rfl) rfl
     have hv187 := hq187.2 (by decide)
     clear ho hn
     refine ⟨wanted_free rfl, ?_⟩
     obtain ⟨q0_, rfl, o0_⟩ := hv185
     obtain ⟨q1_, rfl, o1_⟩ := hv187
     refine ⟨#[.agg (arC ⟨1, [], [-1]⟩ q0_), .agg (arC ⟨1, [3], [1, 2, 3]⟩ q1_)], (kc2 rfl rfl (by kernel_rfl) (ev_t n185) (ev_t n187)), (c13 q0_ q1_ w8 (o0_.el (by decide) (by decide) (by decide)) (Cap.of o0_) (o1_.el (by decide) (by decide) (by decide)) (Cap.of o1_)).mono ?_⟩
     rintro e wz ⟨r, rfl, o9, b9⟩
     exact ⟨_, rfl, b9, r, rfl, o9.mono hb8.size⟩
   · refine mx HUX rfl 184 rfl ?_
     intro a8 w8 hb8 ho hn
     obtain ⟨v188, n188, hq188⟩ := hn 3 188 (by kernel_rfl) rfl
     have hv188 := hq188.2 (by decide)
     clear ho hn
     refine ⟨wanted_free rfl, ?_⟩
     exact ⟨v188, w8, (by go_simp), Below.refl _ _, hv188⟩
   · refine mx HUX rfl 189 rfl ?_
     intro a8 w8 hb8 ho hn
     obtain ⟨v184, n184, hq184⟩ := hn 4 184 (by kernel_rfl) rfl
     have hv184 := hq184.2 (by decide)
     clear ho hn
     refine ⟨wanted_free rfl, ?_⟩
     obtain ⟨p_, rfl, o⟩ := hv184
     exact ⟨.agg (arC ⟨1, [2], [1, 2]⟩ p_), w8, (by go_simp), Below.refl _ _, p_, rfl, o⟩
   · refine vx HUX rfl 190 rfl (.int .i64 0) rfl ?_
     intro a8 w8 hb8 ho hn
     obtain ⟨v184, n184, hq184⟩ := hn 4 184 (by kernel_rfl) rfl
     have hv184 := hq184.2 (by decide)
     clear ho hn
     refine ⟨wanted_free rfl, ?_⟩
     obtain ⟨p_, rfl, o⟩ := hv184
     go_simp
   · refine bx_alloc HUX rfl (by decide) (by decide) rfl (.int .i64 0) (.slice none 0 0) (.slice none 0 0) ?_
     intro a8 w8 ho
     have o471 : a8.tmps[471]? = some _ := (ho 471 (by kernel_rfl)).trans rfl
     have hsz : 471 < a8.tmps.size := (Array.getElem?_eq_some_iff.1 o471).1
     refine ⟨by omega, wanted_free rfl, ?_⟩
     go_simp
   · refine bx_store HUX rfl rfl (by decide) (by decide) rfl (by kernel_rfl) rfl ?_
     intro a8 w8 g u0 u1 u2 hg n26 hn
     obtain ⟨v189, n189, hq189⟩ := hn 5 189 (by kernel_rfl) rfl
     have hv189 := hq189.2 (by decide)
     clear hn
     refine ⟨wanted_free rfl, ?_⟩
     obtain ⟨r, rfl, o⟩ := hv189
     have x0 := hg.cell 0
     have x1 := hg.cell 1
     have x2 := hg.cell 2
     have f0 := hg.frozen 0
     have f1 := hg.frozen 1
     have f2 := hg.frozen 2
     refine ⟨r, o, ?_⟩
     rw [show arC ⟨1, [2], [1, 2]⟩ r = #[.int .i64 1, .slice r.A0 1 r.c0, .slice r.A1 2 r.c1] from rfl] at n189
     clear hg o
     go_simp
   · refine vx HUX rfl 27 rfl (.int .i64 0) rfl ?_
     intro a8 w8 hb8 ho hn
     obtain ⟨v190, n190, hq190⟩ := hn 6 190 (by kernel_rfl) rfl
     obtain rfl := hq190.1 (by decide) (by decide)
     clear ho hn
     refine ⟨wanted_free rfl, ?_⟩
     go_simp
   omega
  intro dn fv wb14 hS5 hR5 hall
  obtain ⟨g14, e8, hg8, _, hfin⟩ := hS5.h (hall 7 (by decide))
  have e8 := put_at e8 472 rfl (by decide) rfl
  obtain ⟨r14, hb8, ho8⟩ := hfin (hall 8 (by decide))
  have hbw := hS5.b
  have h48 : fv 27 = .int .i64 0 := (hR5 9 27 rfl).1 (by decide) (by decide)
  clear hS5 hR5 hall hfin
  simp only [putAll, List.foldl_cons, List.foldl_nil, Act.put, List.setIfInBounds_toArray, List.set_cons_succ, List.set_cons_zero]
  rw [e8, h48]
  have HB_wb14 := Lib.hid (bxs_cons (g := g14) (X := ⟨1, [2], [1, 2]⟩) (p := r14) (HB_wb13.out.up hbw) ⟨hb8, ho8.el (by decide) (by decide) (by decide), Cap.of ho8⟩)
  have BW_wb14 := Lib.hid (bon BW_wb13.out hbw)
  generalize fv 185 = u185, fv 186 = u186, fv 187 = u187, fv 188 = u188, fv 184 = u184, fv 189 = u189, fv 190 = u190
  clear hb8 ho8 hbw e8 h48 hg8 HUX HB_wb13 BW_wb13
  go_upto_region 15 with (fail)
  have HUX : BxU wb14 (lookU [(0, xo wb14 ⟨1, [], [-9223372036854775808]⟩), (1, slo wb14 3 #[.int .i64 1, .int .i64 2, .int .i64 3]), (2, xo wb14 ⟨1, [3], [1, 2, 3]⟩), (3, xto wb14 ⟨1, [0], []⟩ 0), (4, xto wb14 ⟨1, [0], []⟩ 0), (5, xo wb14 ⟨1, [0], []⟩)]) := lookU_two (by
   intro x hx
   simp only [List.mem_cons, List.not_mem_nil, or_false] at hx
   rcases hx with rfl | rfl | rfl | rfl | rfl | rfl <;> first | exact xo_stk _ _ | exact slo_stk _ _ _ | exact sio_stk _ _ _ | exact xto_stk _ _ _)
  refine qX HUX 7 8 28 ⟨1, [0], []⟩ [0, 1, 2, 3, 4, 5] [undef, undef, undef, undef, undef, undef, .int .i64 0, undef, undef, .int .i64 0] (by kernel_rfl) 472 rfl (by kernel_rfl) ?_ ?_
  ·intro i hi
   have hi2 : i < 10 := hi
   clear hi
   rcases i with _ | _ | _ | _ | _ | _ | _ | _ | _ | _ | i
   · refine kx HUX 16 rfl 192 rfl ?_
     refine fun _ w8 hb8 _ _ => ⟨wanted_free rfl, ?_⟩
     refine ⟨#[.int .i64 (-9223372036854775808)], (by kernel_rfl), (sca_lit (-9223372036854775808) w8).mono ?_⟩
     rintro e wz ⟨p_, rfl, o, b⟩
     exact ⟨_, rfl, b, p_, rfl, o.mono hb8.size⟩
   · refine mx HUX rfl 193 rfl ?_
     refine fun _ w8 hb8 _ _ => ⟨wanted_free rfl, ?_⟩
     exact ⟨.slice (some ⟨w8.heap.size, 0, none⟩) 3 3, w8.alloc (.cells #[.int .i64 1, .int .i64 2, .int .i64 3] 2), (by go_simp), albel _ _, w8.heap.size, rfl, hb8.size, Blk.new w8 _ _⟩
   · refine kx HUX 18 rfl 194 rfl ?_
     intro a8 w8 hb8 ho hn
     obtain ⟨v193, n193, hq193⟩ := hn 1 193 (by kernel_rfl) rfl
     have hv193 := hq193.2 (by decide)
     clear ho hn
     refine ⟨wanted_free rfl, ?_⟩
     obtain ⟨g, rfl, _, hg⟩ := hv193
     refine ⟨#[.slice (some ⟨g, 0, none⟩) 3 3], (kc1 rfl rfl (by kernel_rfl) (ev_t n193)), (vec_lit [1, 2, 3] (by decide) _ 3 3 w8 rfl (reads_blk hg rfl)).mono ?_⟩
     rintro e wz ⟨p_, rfl, o, b⟩
     exact ⟨_, rfl, b, p_, rfl, o.mono hb8.size⟩
   · refine kx HUX 22 rfl 195 rfl ?_
     intro a8 w8 hb8 ho hn
     obtain ⟨v192, n192, hq192⟩ := hn 0 192 (by kernel_rfl) rfl
     have hv192 := hq192.2 (by decide)
     obtain ⟨v194, n194, hq194⟩ := hn 2 194 (by kernel_rfl) rfl
     have hv194 := hq194.2 (by decide)
     clear ho hn
     refine ⟨wanted_free rfl, ?_⟩
     obtain ⟨q0_, rfl, o0_⟩ := hv192
     obtain ⟨q1_, rfl, o1_⟩ := hv194
     refine ⟨#[.agg (arC ⟨1, [], [-9223372036854775808]⟩ q0_), .agg (arC ⟨1, [3], [1, 2, 3]⟩ q1_)], (kc2 rfl rfl (by kernel_rfl) (ev_t n192) (ev_t n194)), (c14 q0_ q1_ w8 (o0_.el (by decide) (by decide) (by decide)) (Cap.of o0_) (o1_.el (by decide) (by decide) (by decide)) (Cap.of o1_)).mono ?_⟩
     rintro e wz ⟨r, rfl, o9, b9⟩
     exact ⟨_, rfl, b9, r, rfl, o9.mono hb8.size⟩
   · refine mx HUX rfl 191 rfl ?_
     intro a8 w8 hb8 ho hn
     obtain ⟨v195, n195, hq195⟩ := hn 3 195 (by kernel_rfl) rfl
     have hv195 := hq195.2 (by decide)
     clear ho hn
     refine ⟨wanted_free rfl, ?_⟩
     exact ⟨v195, w8, (by go_simp), Below.refl _ _, hv195⟩
   · refine mx HUX rfl 196 rfl ?_
     intro a8 w8 hb8 ho hn
     obtain ⟨v191, n191, hq191⟩ := hn 4 191 (by kernel_rfl) rfl
     have hv191 := hq191.2 (by decide)
     clear ho hn
     refine ⟨wanted_free rfl, ?_⟩
     obtain ⟨p_, rfl, o⟩ := hv191
     exact ⟨.agg (arC ⟨1, [0], []⟩ p_), w8, (by go_simp), Below.refl _ _, p_, rfl, o⟩
   · refine vx HUX rfl 197 rfl (.int .i64 0) rfl ?_
     intro a8 w8 hb8 ho hn
     obtain ⟨v191, n191, hq191⟩ := hn 4 191 (by kernel_rfl) rfl
     have hv191 := hq191.2 (by decide)
     clear ho hn
     refine ⟨wanted_free rfl, ?_⟩
     obtain ⟨p_, rfl, o⟩ := hv191
     go_simp
   · refine bx_alloc HUX rfl (by decide) (by decide) rfl (.int .i64 0) (.slice none 0 0) (.slice none 0 0) ?_
     intro a8 w8 ho
     have o471 : a8.tmps[471]? = some _ := (ho 471 (by kernel_rfl)).trans rfl
     have hsz : 471 < a8.tmps.size := (Array.getElem?_eq_some_iff.1 o471).1
     refine ⟨by omega, wanted_free rfl, ?_⟩
     go_simp
   · refine bx_store HUX rfl rfl (by decide) (by decide) rfl (by kernel_rfl) rfl ?_
     intro a8 w8 g u0 u1 u2 hg n28 hn
     obtain ⟨v196, n196, hq196⟩ := hn 5 196 (by kernel_rfl) rfl
     have hv196 := hq196.2 (by decide)
     clear hn
     refine ⟨wanted_free rfl, ?_⟩
     obtain ⟨r, rfl, o⟩ := hv196
     have x0 := hg.cell 0
     have x1 := hg.cell 1
     have x2 := hg.cell 2
     have f0 := hg.frozen 0
     have f1 := hg.frozen 1
     have f2 := hg.frozen 2
     refine ⟨r, o, ?_⟩
     rw [show arC ⟨1, [0], []⟩ r = #[.int .i64 1, .slice r.A0 1 r.c0, .slice r.A1 0 r.c1] from rfl] at n196
     clear hg o
     go_simp
   · refine vx HUX rfl 29 rfl (.int .i64 0) rfl ?_
     intro a8 w8 hb8 ho hn
     obtain ⟨v197, n197, hq197⟩ := hn 6 197 (by kernel_rfl) rfl
     obtain rfl := hq197.1 (by decide) (by decide)
     clear ho hn
     refine ⟨wanted_free rfl, ?_⟩
     go_simp
   omega
  intro dn fv wb15 hS5 hR5 hall
  obtain ⟨g15, e8, hg8, _, hfin⟩ := hS5.h (hall 7 (by decide))
  have e8 := put_at e8 472 rfl (by decide) rfl
  obtain ⟨r15, hb8, ho8⟩ := hfin (hall 8 (by decide))
  have hbw := hS5.b
  have h48 : fv 29 = .int .i64 0 := (hR5 9 29 rfl).1 (by decide) (by decide)
  clear hS5 hR5 hall hfin
  simp only [putAll, List.foldl_cons, List.foldl_nil, Act.put, List.setIfInBounds_toArray, List.set_cons_succ, List.set_cons_zero]
  rw [e8, h48]
  have HB_wb15 := Lib.hid (bxs_cons (g := g15) (X := ⟨1, [0], []⟩) (p := r15) (HB_wb14.out.up hbw) ⟨hb8, ho8.el (by decide) (by decide) (by decide), Cap.of ho8⟩)
  have BW_wb15 := Lib.hid (bon BW_wb14.out hbw)
  generalize fv 192 = u192, fv 193 = u193, fv 194 = u194, fv 195 = u195, fv 191 = u191, fv 196 = u196, fv 197 = u197
  clear hb8 ho8 hbw e8 h48 hg8 HUX HB_wb14 BW_wb14
  go_upto_region 16 with (fail)
  have HU : GU (lookU [(2, slo wb15 3 #[.int .i64 1, .int .i64 2, .int .i64 0]), (3, xo wb15 ⟨1, [3], [1, 2, 0]⟩), (4, xv (.bool true)), (12, slo wb15 3 #[.int .i64 3, .int .i64 4, .int .i64 0]), (13, xo wb15 ⟨1, [1, 3], [3, 4, 0]⟩), (14, xv (.bool true)), (19, slo wb15 2 #[.int .i64 5, .int .i64 0]), (20, xo wb15 ⟨1, [2], [5, 0]⟩), (21, xv (.bool true)), (30, slo wb15 2 #[.int .i64 1, .int .i64 2]), (31, xo wb15 ⟨1, [2], [1, 2]⟩), (32, xv (.bool true)), (37, xo wb15 ⟨1, [0], []⟩), (38, xv (.bool true))]) := lookU_stay (by
   intro x hx
   simp only [List.mem_cons, List.not_mem_nil, or_false] at hx
   rcases hx with rfl | rfl | rfl | rfl | rfl | rfl | rfl | rfl | rfl | rfl | rfl | rfl | rfl | rfl <;> first | exact (slo_stk _ _ _).1 | exact (sio_stk _ _ _).1 | exact (xo_stk _ _).1 | exact xv_stk _)
  refine wp_region_done_on (GS wb15) (GR [2, 3, 4, 12, 13, 14, 19, 20, 21, 30, 31, 32, 37, 38] (lookU [(2, slo wb15 3 #[.int .i64 1, .int .i64 2, .int .i64 0]), (3, xo wb15 ⟨1, [3], [1, 2, 0]⟩), (4, xv (.bool true)), (12, slo wb15 3 #[.int .i64 3, .int .i64 4, .int .i64 0]), (13, xo wb15 ⟨1, [1, 3], [3, 4, 0]⟩), (14, xv (.bool true)), (19, slo wb15 2 #[.int .i64 5, .int .i64 0]), (20, xo wb15 ⟨1, [2], [5, 0]⟩), (21, xv (.bool true)), (30, slo wb15 2 #[.int .i64 1, .int .i64 2]), (31, xo wb15 ⟨1, [2], [1, 2]⟩), (32, xv (.bool true)), (37, xo wb15 ⟨1, [0], []⟩), (38, xv (.bool true))]) [.agg #[.int .i64 1, .slice r9.A0 1 r9.c0, .slice r9.A1 3 r9.c1], .int .i64 0, undef, undef, undef, .bool true, .int .i64 4, .bool true, .bool true, .bool true, .agg #[.int .i64 1, .slice r11.A0 2 r11.c0, .slice r11.A1 3 r11.c1], .int .i64 0, undef, undef, undef, .bool true, .bool true, .agg #[.int .i64 1, .slice r12.A0 1 r12.c0, .slice r12.A1 2 r12.c1], .int .i64 0, undef, undef, undef, .bool true, .bool true, .int .i64 9, .bool true, .bool true, .bool true, .agg #[.int .i64 1, .slice r14.A0 1 r14.c0, .slice r14.A1 2 r14.c1], .int .i64 0, undef, undef, undef, .bool true, .bool true, .agg #[.int .i64 1, .slice r15.A0 1 r15.c0, .slice r15.A1 0 r15.c1], .int .i64 0, undef, undef, .bool true, .bool true]) (by kernel_rfl) 472 rfl (by kernel_rfl) ((Below.refl _ _).drew) ?_ ?_
  ·intro i hi
   have hi2 : i < 41 := hi
   clear hi
   rcases i with _ | _ | _ | _ | _ | _ | _ | _ | _ | _ | _ | _ | _ | _ | _ | _ | _ | _ | _ | _ | _ | _ | _ | _ | _ | _ | _ | _ | _ | _ | _ | _ | _ | _ | _ | _ | _ | _ | _ | _ | _ | i
   · refine gr_value rfl (by decide) (.agg #[.int .i64 1, .slice r9.A0 1 r9.c0, .slice r9.A1 3 r9.c1]) rfl ?_
     intro a8 w8 hb8 ho hn
     have o16 : a8.tmps[16]? = some _ := (ho 16 (by kernel_rfl)).trans rfl
     clear ho hn
     refine ⟨wanted_free rfl, ?_⟩
     have x := (HB_wb15.out.up hb8) 6 _ _ _ rfl
     have x0 : w8.cell? ⟨g9, 0, none⟩ = some (.int .i64 1) := x.k.cell 0
     have x1 : w8.cell? ⟨g9, 1, none⟩ = some (.slice r9.A0 1 r9.c0) := x.k.cell 1
     have x2 : w8.cell? ⟨g9, 2, none⟩ = some (.slice r9.A1 3 r9.c1) := x.k.cell 2
     clear x
     go_simp
   · refine gr_value rfl (by decide) (.int .i64 0) rfl ?_
     intro a8 w8 hb8 ho hn
     have o17 : a8.tmps[17]? = some _ := (ho 17 (by kernel_rfl)).trans rfl
     clear ho hn
     refine ⟨wanted_free rfl, ?_⟩
     go_simp
   · refine gr_make HU rfl (by decide) ?_
     refine fun _ w8 hb8 _ _ => ⟨wanted_free rfl, ?_⟩
     exact ⟨.slice (some ⟨w8.heap.size, 0, none⟩) 3 3, w8.alloc (.cells #[.int .i64 1, .int .i64 2, .int .i64 0] 2), (by go_simp), albel _ _, w8.heap.size, rfl, hb8.size, Blk.new w8 _ _⟩
   · refine gr_call HU 18 rfl (by decide) ?_
     intro a8 w8 hb8 ho hn
     obtain ⟨v200, n200, hq200⟩ := hn 2 200 (by kernel_rfl) rfl
     have hv200 := hq200.2 (by decide)
     clear ho hn
     refine ⟨wanted_free rfl, ?_⟩
     obtain ⟨g, rfl, _, hg⟩ := hv200
     refine ⟨#[.slice (some ⟨g, 0, none⟩) 3 3], (kc1 rfl rfl (by kernel_rfl) (ev_t n200)), (vec_lit [1, 2, 0] (by decide) _ 3 3 w8 rfl (reads_blk hg rfl)).mono ?_⟩
     rintro e wz ⟨p_, rfl, o, b⟩
     exact ⟨_, rfl, b, p_, rfl, o.mono hb8.size⟩
   · refine gr_call HU 20 rfl (by decide) ?_
     intro a8 w8 hb8 ho hn
     obtain ⟨v198, n198, hq198⟩ := hn 0 198 (by kernel_rfl) rfl
     obtain rfl := hq198.1 (by decide)
     obtain ⟨v199, n199, hq199⟩ := hn 1 199 (by kernel_rfl) rfl
     obtain rfl := hq199.1 (by decide)
     obtain ⟨v201, n201, hq201⟩ := hn 3 201 (by kernel_rfl) rfl
     have hv201 := hq201.2 (by decide)
     clear ho hn
     refine ⟨wanted_free rfl, ?_⟩
     obtain ⟨q_, rfl, o_⟩ := hv201
     refine ⟨#[.agg #[.int .i64 1, .slice r9.A0 1 r9.c0, .slice r9.A1 3 r9.c1], .int .i64 0, .agg (arC ⟨1, [3], [1, 2, 0]⟩ q_)], (kc3 rfl rfl (by kernel_rfl) (ev_t n198) (ev_t n199) (ev_t n201)), (l13is_yes ⟨1, [3], [1, 2, 0]⟩ r9 q_ w8 ((HB_wb15.out.up hb8) 6 _ _ _ rfl).e (o_.el (by decide) (by decide) (by decide))).mono ?_⟩
     rintro e wz ⟨rfl, b9⟩
     exact ⟨_, rfl, b9, rfl⟩
   · refine gr_value rfl (by decide) (.bool true) rfl ?_
     intro a8 w8 hb8 ho hn
     obtain ⟨v202, n202, hq202⟩ := hn 4 202 (by kernel_rfl) rfl
     have hv202 := hq202.2 (by decide)
     clear ho hn
     refine ⟨wanted_free rfl, ?_⟩
     obtain rfl : v202 = .bool true := hv202
     go_simp
   · refine gr_value rfl (by decide) (.int .i64 4) rfl ?_
     intro a8 w8 hb8 ho hn
     have o19 : a8.tmps[19]? = some _ := (ho 19 (by kernel_rfl)).trans rfl
     obtain ⟨v203, n203, hq203⟩ := hn 5 203 (by kernel_rfl) rfl
     obtain rfl := hq203.1 (by decide)
     clear ho hn
     refine ⟨wanted_of 5 203 rfl rfl n203, ?_⟩
     go_simp
   · refine gr_value rfl (by decide) (.bool true) rfl ?_
     intro a8 w8 hb8 ho hn
     obtain ⟨v204, n204, hq204⟩ := hn 6 204 (by kernel_rfl) rfl
     obtain rfl := hq204.1 (by decide)
     obtain ⟨v203, n203, hq203⟩ := hn 5 203 (by kernel_rfl) rfl
     obtain rfl := hq203.1 (by decide)
     clear ho hn
     refine ⟨wanted_of 5 203 rfl rfl n203, ?_⟩
     go_simp
   · refine gr_value rfl (by decide) (.bool true) rfl ?_
     intro a8 w8 hb8 ho hn
     obtain ⟨v203, n203, hq203⟩ := hn 5 203 (by kernel_rfl) rfl
     obtain rfl := hq203.1 (by decide)
     obtain ⟨v205, n205, hq205⟩ := hn 7 205 (by kernel_rfl) rfl
     obtain rfl := hq205.1 (by decide)
     clear ho hn
     refine ⟨wanted_free rfl, ?_⟩
     go_simp
   · refine gr_value rfl (by decide) (.bool true) rfl ?_
     intro a8 w8 hb8 ho hn
     obtain ⟨v206, n206, hq206⟩ := hn 8 206 (by kernel_rfl) rfl
     obtain rfl := hq206.1 (by decide)
     clear ho hn
     refine ⟨wanted_free rfl, ?_⟩
     go_simp
   · refine gr_value rfl (by decide) (.agg #[.int .i64 1, .slice r11.A0 2 r11.c0, .slice r11.A1 3 r11.c1]) rfl ?_
     intro a8 w8 hb8 ho hn
     have o20 : a8.tmps[20]? = some _ := (ho 20 (by kernel_rfl)).trans rfl
     obtain ⟨v207, n207, hq207⟩ := hn 9 207 (by kernel_rfl) rfl
     obtain rfl := hq207.1 (by decide)
     clear ho hn
     refine ⟨wanted_of 9 207 rfl rfl n207, ?_⟩
     have x := (HB_wb15.out.up hb8) 4 _ _ _ rfl
     have x0 : w8.cell? ⟨g11, 0, none⟩ = some (.int .i64 1) := x.k.cell 0
     have x1 : w8.cell? ⟨g11, 1, none⟩ = some (.slice r11.A0 2 r11.c0) := x.k.cell 1
     have x2 : w8.cell? ⟨g11, 2, none⟩ = some (.slice r11.A1 3 r11.c1) := x.k.cell 2
     clear x
     go_simp
   · refine gr_value rfl (by decide) (.int .i64 0) rfl ?_
     intro a8 w8 hb8 ho hn
     have o21 : a8.tmps[21]? = some _ := (ho 21 (by kernel_rfl)).trans rfl
     obtain ⟨v207, n207, hq207⟩ := hn 9 207 (by kernel_rfl) rfl
     obtain rfl := hq207.1 (by decide)
     clear ho hn
     refine ⟨wanted_of 9 207 rfl rfl n207, ?_⟩
     go_simp
   · refine gr_make HU rfl (by decide) ?_
     intro a8 w8 hb8 ho hn
     obtain ⟨v207, n207, hq207⟩ := hn 9 207 (by kernel_rfl) rfl
     obtain rfl := hq207.1 (by decide)
     clear ho hn
     refine ⟨wanted_of 9 207 rfl rfl n207, ?_⟩
     exact ⟨.slice (some ⟨w8.heap.size, 0, none⟩) 3 3, w8.alloc (.cells #[.int .i64 3, .int .i64 4, .int .i64 0] 2), (by go_simp), albel _ _, w8.heap.size, rfl, hb8.size, Blk.new w8 _ _⟩
   · refine gr_call HU 19 rfl (by decide) ?_
     intro a8 w8 hb8 ho hn
     obtain ⟨v210, n210, hq210⟩ := hn 12 210 (by kernel_rfl) rfl
     have hv210 := hq210.2 (by decide)
     obtain ⟨v207, n207, hq207⟩ := hn 9 207 (by kernel_rfl) rfl
     obtain rfl := hq207.1 (by decide)
     clear ho hn
     refine ⟨wanted_of 9 207 rfl rfl n207, ?_⟩
     obtain ⟨g, rfl, hB, hg⟩ := hv210
     refine ⟨#[.int .i64 3, .slice (some ⟨g, 0, none⟩) 3 3], (by first | exact kc2 rfl rfl (by kernel_rfl) rfl (ev_t n210) | exact kc2 rfl rfl (by kernel_rfl) (ev_t n210) rfl | go_simp), (mat13 [3, 4, 0] 3 (by decide) (by decide) (by decide) g 3 w8 rfl _ hB hb8.size hg).mono ?_⟩
     rintro e wz ⟨p_, rfl, o, b⟩
     exact ⟨_, rfl, b, p_, rfl, o⟩
   · refine gr_call HU 20 rfl (by decide) ?_
     intro a8 w8 hb8 ho hn
     obtain ⟨v208, n208, hq208⟩ := hn 10 208 (by kernel_rfl) rfl
     obtain rfl := hq208.1 (by decide)
     obtain ⟨v209, n209, hq209⟩ := hn 11 209 (by kernel_rfl) rfl
     obtain rfl := hq209.1 (by decide)
     obtain ⟨v211, n211, hq211⟩ := hn 13 211 (by kernel_rfl) rfl
     have hv211 := hq211.2 (by decide)
     obtain ⟨v207, n207, hq207⟩ := hn 9 207 (by kernel_rfl) rfl
     obtain rfl := hq207.1 (by decide)
     clear ho hn
     refine ⟨wanted_of 9 207 rfl rfl n207, ?_⟩
     obtain ⟨q_, rfl, o_⟩ := hv211
     refine ⟨#[.agg #[.int .i64 1, .slice r11.A0 2 r11.c0, .slice r11.A1 3 r11.c1], .int .i64 0, .agg (arC ⟨1, [1, 3], [3, 4, 0]⟩ q_)], (kc3 rfl rfl (by kernel_rfl) (ev_t n208) (ev_t n209) (ev_t n211)), (l13is_yes ⟨1, [1, 3], [3, 4, 0]⟩ r11 q_ w8 ((HB_wb15.out.up hb8) 4 _ _ _ rfl).e (o_.el (by decide) (by decide) (by decide))).mono ?_⟩
     rintro e wz ⟨rfl, b9⟩
     exact ⟨_, rfl, b9, rfl⟩
   · refine gr_value rfl (by decide) (.bool true) rfl ?_
     intro a8 w8 hb8 ho hn
     obtain ⟨v207, n207, hq207⟩ := hn 9 207 (by kernel_rfl) rfl
     obtain rfl := hq207.1 (by decide)
     obtain ⟨v212, n212, hq212⟩ := hn 14 212 (by kernel_rfl) rfl
     have hv212 := hq212.2 (by decide)
     clear ho hn
     refine ⟨wanted_free rfl, ?_⟩
     obtain rfl : v212 = .bool true := hv212
     go_simp
   · refine gr_value rfl (by decide) (.bool true) rfl ?_
     intro a8 w8 hb8 ho hn
     obtain ⟨v213, n213, hq213⟩ := hn 15 213 (by kernel_rfl) rfl
     obtain rfl := hq213.1 (by decide)
     clear ho hn
     refine ⟨wanted_free rfl, ?_⟩
     go_simp
   · refine gr_value rfl (by decide) (.agg #[.int .i64 1, .slice r12.A0 1 r12.c0, .slice r12.A1 2 r12.c1]) rfl ?_
     intro a8 w8 hb8 ho hn
     have o22 : a8.tmps[22]? = some _ := (ho 22 (by kernel_rfl)).trans rfl
     obtain ⟨v214, n214, hq214⟩ := hn 16 214 (by kernel_rfl) rfl
     obtain rfl := hq214.1 (by decide)
     clear ho hn
     refine ⟨wanted_of 16 214 rfl rfl n214, ?_⟩
     have x := (HB_wb15.out.up hb8) 3 _ _ _ rfl
     have x0 : w8.cell? ⟨g12, 0, none⟩ = some (.int .i64 1) := x.k.cell 0
     have x1 : w8.cell? ⟨g12, 1, none⟩ = some (.slice r12.A0 1 r12.c0) := x.k.cell 1
     have x2 : w8.cell? ⟨g12, 2, none⟩ = some (.slice r12.A1 2 r12.c1) := x.k.cell 2
     clear x
     go_simp
   · refine gr_value rfl (by decide) (.int .i64 0) rfl ?_
     intro a8 w8 hb8 ho hn
     have o23 : a8.tmps[23]? = some _ := (ho 23 (by kernel_rfl)).trans rfl
     obtain ⟨v214, n214, hq214⟩ := hn 16 214 (by kernel_rfl) rfl
     obtain rfl := hq214.1 (by decide)
     clear ho hn
     refine ⟨wanted_of 16 214 rfl rfl n214, ?_⟩
     go_simp
   · refine gr_make HU rfl (by decide) ?_
     intro a8 w8 hb8 ho hn
     obtain ⟨v214, n214, hq214⟩ := hn 16 214 (by kernel_rfl) rfl
     obtain rfl := hq214.1 (by decide)
     clear ho hn
     refine ⟨wanted_of 16 214 rfl rfl n214, ?_⟩
     exact ⟨.slice (some ⟨w8.heap.size, 0, none⟩) 2 2, w8.alloc (.cells #[.int .i64 5, .int .i64 0] 2), (by go_simp), albel _ _, w8.heap.size, rfl, hb8.size, Blk.new w8 _ _⟩
   · refine gr_call HU 18 rfl (by decide) ?_
     intro a8 w8 hb8 ho hn
     obtain ⟨v217, n217, hq217⟩ := hn 19 217 (by kernel_rfl) rfl
     have hv217 := hq217.2 (by decide)
     obtain ⟨v214, n214, hq214⟩ := hn 16 214 (by kernel_rfl) rfl
     obtain rfl := hq214.1 (by decide)
     clear ho hn
     refine ⟨wanted_of 16 214 rfl rfl n214, ?_⟩
     obtain ⟨g, rfl, _, hg⟩ := hv217
     refine ⟨#[.slice (some ⟨g, 0, none⟩) 2 2], (kc1 rfl rfl (by kernel_rfl) (ev_t n217)), (vec_lit [5, 0] (by decide) _ 2 2 w8 rfl (reads_blk hg rfl)).mono ?_⟩
     rintro e wz ⟨p_, rfl, o, b⟩
     exact ⟨_, rfl, b, p_, rfl, o.mono hb8.size⟩
   · refine gr_call HU 20 rfl (by decide) ?_
     intro a8 w8 hb8 ho hn
     obtain ⟨v215, n215, hq215⟩ := hn 17 215 (by kernel_rfl) rfl
     obtain rfl := hq215.1 (by decide)
     obtain ⟨v216, n216, hq216⟩ := hn 18 216 (by kernel_rfl) rfl
     obtain rfl := hq216.1 (by decide)
     obtain ⟨v218, n218, hq218⟩ := hn 20 218 (by kernel_rfl) rfl
     have hv218 := hq218.2 (by decide)
     obtain ⟨v214, n214, hq214⟩ := hn 16 214 (by kernel_rfl) rfl
     obtain rfl := hq214.1 (by decide)
     clear ho hn
     refine ⟨wanted_of 16 214 rfl rfl n214, ?_⟩
     obtain ⟨q_, rfl, o_⟩ := hv218
     refine ⟨#[.agg #[.int .i64 1, .slice r12.A0 1 r12.c0, .slice r12.A1 2 r12.c1], .int .i64 0, .agg (arC ⟨1, [2], [5, 0]⟩ q_)], (kc3 rfl rfl (by kernel_rfl) (ev_t n215) (ev_t n216) (ev_t n218)), (l13is_yes ⟨1, [2], [5, 0]⟩ r12 q_ w8 ((HB_wb15.out.up hb8) 3 _ _ _ rfl).e (o_.el (by decide) (by decide) (by decide))).mono ?_⟩
     rintro e wz ⟨rfl, b9⟩
     exact ⟨_, rfl, b9, rfl⟩
   · refine gr_value rfl (by decide) (.bool true) rfl ?_
     intro a8 w8 hb8 ho hn
     obtain ⟨v214, n214, hq214⟩ := hn 16 214 (by kernel_rfl) rfl
     obtain rfl := hq214.1 (by decide)
     obtain ⟨v219, n219, hq219⟩ := hn 21 219 (by kernel_rfl) rfl
     have hv219 := hq219.2 (by decide)
     clear ho hn
     refine ⟨wanted_free rfl, ?_⟩
     obtain rfl : v219 = .bool true := hv219
     go_simp
   · refine gr_value rfl (by decide) (.bool true) rfl ?_
     intro a8 w8 hb8 ho hn
     obtain ⟨v220, n220, hq220⟩ := hn 22 220 (by kernel_rfl) rfl
     obtain rfl := hq220.1 (by decide)
     clear ho hn
     refine ⟨wanted_free rfl, ?_⟩
     go_simp
   · refine gr_value rfl (by decide) (.int .i64 9) rfl ?_
     intro a8 w8 hb8 ho hn
     have o25 : a8.tmps[25]? = some _ := (ho 25 (by kernel_rfl)).trans rfl
     obtain ⟨v221, n221, hq221⟩ := hn 23 221 (by kernel_rfl) rfl
     obtain rfl := hq221.1 (by decide)
     clear ho hn
     refine ⟨wanted_of 23 221 rfl rfl n221, ?_⟩
     go_simp
   · refine gr_value rfl (by decide) (.bool true) rfl ?_
     intro a8 w8 hb8 ho hn
     obtain ⟨v222, n222, hq222⟩ := hn 24 222 (by kernel_rfl) rfl
     obtain rfl := hq222.1 (by decide)
     obtain ⟨v221, n221, hq221⟩ := hn 23 221 (by kernel_rfl) rfl
     obtain rfl := hq221.1 (by decide)
     clear ho hn
     refine ⟨wanted_of 23 221 rfl rfl n221, ?_⟩
     go_simp
   · refine gr_value rfl (by decide) (.bool true) rfl ?_
     intro a8 w8 hb8 ho hn
     obtain ⟨v221, n221, hq221⟩ := hn 23 221 (by kernel_rfl) rfl
     obtain rfl := hq221.1 (by decide)
     obtain ⟨v223, n223, hq223⟩ := hn 25 223 (by kernel_rfl) rfl
     obtain rfl := hq223.1 (by decide)
     clear ho hn
     refine ⟨wanted_free rfl, ?_⟩
     go_simp
   · refine gr_value rfl (by decide) (.bool true) rfl ?_
     intro a8 w8 hb8 ho hn
     obtain ⟨v224, n224, hq224⟩ := hn 26 224 (by kernel_rfl) rfl
     obtain rfl := hq224.1 (by decide)
     clear ho hn
     refine ⟨wanted_free rfl, ?_⟩
     go_simp
   · refine gr_value rfl (by decide) (.agg #[.int .i64 1, .slice r14.A0 1 r14.c0, .slice r14.A1 2 r14.c1]) rfl ?_
     intro a8 w8 hb8 ho hn
     have o26 : a8.tmps[26]? = some _ := (ho 26 (by kernel_rfl)).trans rfl
     obtain ⟨v225, n225, hq225⟩ := hn 27 225 (by kernel_rfl) rfl
     obtain rfl := hq225.1 (by decide)
     clear ho hn
     refine ⟨wanted_of 27 225 rfl rfl n225, ?_⟩
     have x := (HB_wb15.out.up hb8) 1 _ _ _ rfl
     have x0 : w8.cell? ⟨g14, 0, none⟩ = some (.int .i64 1) := x.k.cell 0
     have x1 : w8.cell? ⟨g14, 1, none⟩ = some (.slice r14.A0 1 r14.c0) := x.k.cell 1
     have x2 : w8.cell? ⟨g14, 2, none⟩ = some (.slice r14.A1 2 r14.c1) := x.k.cell 2
     clear x
     go_simp
   · refine gr_value rfl (by decide) (.int .i64 0) rfl ?_
     intro a8 w8 hb8 ho hn
     have o27 : a8.tmps[27]? = some _ := (ho 27 (by kernel_rfl)).trans rfl
     obtain ⟨v225, n225, hq225⟩ := hn 27 225 (by kernel_rfl) rfl
     obtain rfl := hq225.1 (by decide)
     clear ho hn
     refine ⟨wanted_of 27 225 rfl rfl n225, ?_⟩
     go_simp
   · refine gr_make HU rfl (by decide) ?_
     intro a8 w8 hb8 ho hn
     obtain ⟨v225, n225, hq225⟩ := hn 27 225 (by kernel_rfl) rfl
     obtain rfl := hq225.1 (by decide)
     clear ho hn
     refine ⟨wanted_of 27 225 rfl rfl n225, ?_⟩
     exact ⟨.slice (some ⟨w8.heap.size, 0, none⟩) 2 2, w8.alloc (.cells #[.int .i64 1, .int .i64 2] 2), (by go_simp), albel _ _, w8.heap.size, rfl, hb8.size, Blk.new w8 _ _⟩
   · refine gr_call HU 18 rfl (by decide) ?_
     intro a8 w8 hb8 ho hn
     obtain ⟨v228, n228, hq228⟩ := hn 30 228 (by kernel_rfl) rfl
     have hv228 := hq228.2 (by decide)
     obtain ⟨v225, n225, hq225⟩ := hn 27 225 (by kernel_rfl) rfl
     obtain rfl := hq225.1 (by decide)
     clear ho hn
     refine ⟨wanted_of 27 225 rfl rfl n225, ?_⟩
     obtain ⟨g, rfl, _, hg⟩ := hv228
     refine ⟨#[.slice (some ⟨g, 0, none⟩) 2 2], (kc1 rfl rfl (by kernel_rfl) (ev_t n228)), (vec_lit [1, 2] (by decide) _ 2 2 w8 rfl (reads_blk hg rfl)).mono ?_⟩
     rintro e wz ⟨p_, rfl, o, b⟩
     exact ⟨_, rfl, b, p_, rfl, o.mono hb8.size⟩
   · refine gr_call HU 20 rfl (by decide) ?_
     intro a8 w8 hb8 ho hn
     obtain ⟨v226, n226, hq226⟩ := hn 28 226 (by kernel_rfl) rfl
     obtain rfl := hq226.1 (by decide)
     obtain ⟨v227, n227, hq227⟩ := hn 29 227 (by kernel_rfl) rfl
     obtain rfl := hq227.1 (by decide)
     obtain ⟨v229, n229, hq229⟩ := hn 31 229 (by kernel_rfl) rfl
     have hv229 := hq229.2 (by decide)
     obtain ⟨v225, n225, hq225⟩ := hn 27 225 (by kernel_rfl) rfl
     obtain rfl := hq225.1 (by decide)
     clear ho hn
     refine ⟨wanted_of 27 225 rfl rfl n225, ?_⟩
     obtain ⟨q_, rfl, o_⟩ := hv229
     refine ⟨#[.agg #[.int .i64 1, .slice r14.A0 1 r14.c0, .slice r14.A1 2 r14.c1], .int .i64 0, .agg (arC ⟨1, [2], [1, 2]⟩ q_)], (kc3 rfl rfl (by kernel_rfl) (ev_t n226) (ev_t n227) (ev_t n229)), (l13is_yes ⟨1, [2], [1, 2]⟩ r14 q_ w8 ((HB_wb15.out.up hb8) 1 _ _ _ rfl).e (o_.el (by decide) (by decide) (by decide))).mono ?_⟩
     rintro e wz ⟨rfl, b9⟩
     exact ⟨_, rfl, b9, rfl⟩
   · refine gr_value rfl (by decide) (.bool true) rfl ?_
     intro a8 w8 hb8 ho hn
     obtain ⟨v225, n225, hq225⟩ := hn 27 225 (by kernel_rfl) rfl
     obtain rfl := hq225.1 (by decide)
     obtain ⟨v230, n230, hq230⟩ := hn 32 230 (by kernel_rfl) rfl
     have hv230 := hq230.2 (by decide)
     clear ho hn
     refine ⟨wanted_free rfl, ?_⟩
     obtain rfl : v230 = .bool true := hv230
     go_simp
   · refine gr_value rfl (by decide) (.bool true) rfl ?_
     intro a8 w8 hb8 ho hn
     obtain ⟨v231, n231, hq231⟩ := hn 33 231 (by kernel_rfl) rfl
     obtain rfl := hq231.1 (by decide)
     clear ho hn
     refine ⟨wanted_free rfl, ?_⟩
     go_simp
   · refine gr_value rfl (by decide) (.agg #[.int .i64 1, .slice r15.A0 1 r15.c0, .slice r15.A1 0 r15.c1]) rfl ?_
     intro a8 w8 hb8 ho hn
     have o28 : a8.tmps[28]? = some _ := (ho 28 (by kernel_rfl)).trans rfl
     obtain ⟨v232, n232, hq232⟩ := hn 34 232 (by kernel_rfl) rfl
     obtain rfl := hq232.1 (by decide)
     clear ho hn
     refine ⟨wanted_of 34 232 rfl rfl n232, ?_⟩
     have x := (HB_wb15.out.up hb8) 0 _ _ _ rfl
     have x0 : w8.cell? ⟨g15, 0, none⟩ = some (.int .i64 1) := x.k.cell 0
     have x1 : w8.cell? ⟨g15, 1, none⟩ = some (.slice r15.A0 1 r15.c0) := x.k.cell 1
     have x2 : w8.cell? ⟨g15, 2, none⟩ = some (.slice r15.A1 0 r15.c1) := x.k.cell 2
     clear x
     go_simp
   · refine gr_value rfl (by decide) (.int .i64 0) rfl ?_
     intro a8 w8 hb8 ho hn
     have o29 : a8.tmps[29]? = some _ := (ho 29 (by kernel_rfl)).trans rfl
     obtain ⟨v232, n232, hq232⟩ := hn 34 232 (by kernel_rfl) rfl
     obtain rfl := hq232.1 (by decide)
     clear ho hn
     refine ⟨wanted_of 34 232 rfl rfl n232, ?_⟩
     go_simp
   · refine gr_call HU 18 rfl (by decide) ?_
     intro a8 w8 hb8 ho hn
     obtain ⟨v232, n232, hq232⟩ := hn 34 232 (by kernel_rfl) rfl
     obtain rfl := hq232.1 (by decide)
     clear ho hn
     refine ⟨wanted_of 34 232 rfl rfl n232, ?_⟩
     refine ⟨#[.slice none 0 0], (by kernel_rfl), (vec_lit [] (by decide) _ 0 0 w8 rfl Reads.none_).mono ?_⟩
     rintro e wz ⟨p_, rfl, o, b⟩
     exact ⟨_, rfl, b, p_, rfl, o.mono hb8.size⟩
   · refine gr_call HU 20 rfl (by decide) ?_
     intro a8 w8 hb8 ho hn
     obtain ⟨v233, n233, hq233⟩ := hn 35 233 (by kernel_rfl) rfl
     obtain rfl := hq233.1 (by decide)
     obtain ⟨v234, n234, hq234⟩ := hn 36 234 (by kernel_rfl) rfl
     obtain rfl := hq234.1 (by decide)
     obtain ⟨v235, n235, hq235⟩ := hn 37 235 (by kernel_rfl) rfl
     have hv235 := hq235.2 (by decide)
     obtain ⟨v232, n232, hq232⟩ := hn 34 232 (by kernel_rfl) rfl
     obtain rfl := hq232.1 (by decide)
     clear ho hn
     refine ⟨wanted_of 34 232 rfl rfl n232, ?_⟩
     obtain ⟨q_, rfl, o_⟩ := hv235
     refine ⟨#[.agg #[.int .i64 1, .slice r15.A0 1 r15.c0, .slice r15.A1 0 r15.c1], .int .i64 0, .agg (arC ⟨1, [0], []⟩ q_)], (kc3 rfl rfl (by kernel_rfl) (ev_t n233) (ev_t n234) (ev_t n235)), (l13is_yes ⟨1, [0], []⟩ r15 q_ w8 ((HB_wb15.out.up hb8) 0 _ _ _ rfl).e (o_.el (by decide) (by decide) (by decide))).mono ?_⟩
     rintro e wz ⟨rfl, b9⟩
     exact ⟨_, rfl, b9, rfl⟩
   · refine gr_value rfl (by decide) (.bool true) rfl ?_
     intro a8 w8 hb8 ho hn
     obtain ⟨v232, n232, hq232⟩ := hn 34 232 (by kernel_rfl) rfl
     obtain rfl := hq232.1 (by decide)
     obtain ⟨v236, n236, hq236⟩ := hn 38 236 (by kernel_rfl) rfl
     have hv236 := hq236.2 (by decide)
     clear ho hn
     refine ⟨wanted_free rfl, ?_⟩
     obtain rfl : v236 = .bool true := hv236
     go_simp
   · refine gr_value rfl (by decide) (.bool true) rfl ?_
     intro a8 w8 hb8 ho hn
     obtain ⟨v237, n237, hq237⟩ := hn 39 237 (by kernel_rfl) rfl
     obtain rfl := hq237.1 (by decide)
     clear ho hn
     refine ⟨wanted_free rfl, ?_⟩
     go_simp
   omega
  intro dn fv wb16 hb_wb16 hR5 hall
  have h30 : fv 30 = _ := (hR5 40 30 rfl).1 (by decide)
  simp only [putAll, List.foldl_cons, List.foldl_nil, Act.put, List.setIfInBounds_toArray, List.set_cons_succ, List.set_cons_zero, h30, List.getD_cons_zero, List.getD_cons_succ]
  clear hR5 hall
  have HB_wb16 := Lib.hid (HB_wb15.out.up hb_wb16)
  have BW_wb16 := Lib.hid (bon BW_wb15.out hb_wb16)
  generalize fv 198 = u198, fv 199 = u199, fv 200 = u200, fv 201 = u201, fv 202 = u202, fv 203 = u203, fv 204 = u204, fv 205 = u205
  generalize fv 206 = u206, fv 207 = u207, fv 208 = u208, fv 209 = u209, fv 210 = u210, fv 211 = u211, fv 212 = u212, fv 213 = u213
  generalize fv 214 = u214, fv 215 = u215, fv 216 = u216, fv 217 = u217, fv 218 = u218, fv 219 = u219, fv 220 = u220, fv 221 = u221
  generalize fv 222 = u222, fv 223 = u223, fv 224 = u224, fv 225 = u225, fv 226 = u226, fv 227 = u227, fv 228 = u228, fv 229 = u229
  generalize fv 230 = u230, fv 231 = u231, fv 232 = u232, fv 233 = u233, fv 234 = u234, fv 235 = u235, fv 236 = u236, fv 237 = u237
  clear hb_wb16 HU h30 HB_wb15 BW_wb15
  go_upto_region 17 with (fail)
  have HUX : BxU wb16 (lookU [(0, slo wb16 4 #[.int .i64 1, .int .i64 2, .int .i64 3, .int .i64 4]), (1, xo wb16 ⟨1, [2, 2], [1, 2, 3, 4]⟩), (2, slo wb16 2 #[.int .i64 5, .int .i64 6]), (3, xo wb16 ⟨1, [2], [5, 6]⟩), (4, xto wb16 ⟨1, [2, 3], [1, 2, 5, 3, 4, 6]⟩ 0), (5, xto wb16 ⟨1, [2, 3], [1, 2, 5, 3, 4, 6]⟩ 0), (6, xo wb16 ⟨1, [2, 3], [1, 2, 5, 3, 4, 6]⟩)]) := lookU_two (by
   intro x hx
   simp only [List.mem_cons, List.not_mem_nil, or_false] at hx
   rcases hx with rfl | rfl | rfl | rfl | rfl | rfl | rfl <;> first | exact xo_stk _ _ | exact slo_stk _ _ _ | exact sio_stk _ _ _ | exact xto_stk _ _ _)
  refine qX HUX 8 9 31 ⟨1, [2, 3], [1, 2, 5, 3, 4, 6]⟩ [0, 1, 2, 3, 4, 5, 6] [undef, undef, undef, undef, undef, undef, undef, .int .i64 0, undef, undef, .int .i64 0] (by kernel_rfl) 472 rfl (by kernel_rfl) ?_ ?_
  ·intro i hi
   have hi2 : i < 11 := hi
   clear hi
   rcases i with _ | _ | _ | _ | _ | _ | _ | _ | _ | _ | _ | i
   · refine mx HUX rfl 239 rfl ?_
     refine fun _ w8 hb8 _ _ => ⟨wanted_free rfl, ?_⟩
     exact ⟨.slice (some ⟨w8.heap.size, 0, none⟩) 4 4, w8.alloc (.cells #[.int .i64 1, .int .i64 2, .int .i64 3, .int .i64 4] 2), (by go_simp), albel _ _, w8.heap.size, rfl, hb8.size, Blk.new w8 _ _⟩
   · refine kx HUX 19 rfl 240 rfl ?_
     intro a8 w8 hb8 ho hn
     obtain ⟨v239, n239, hq239⟩ := hn 0 239 (by kernel_rfl) rfl
     have hv239 := hq239.2 (by decide)
     clear ho hn
     refine ⟨wanted_free rfl, ?_⟩
     obtain ⟨g, rfl, hB, hg⟩ := hv239
     refine ⟨#[.int .i64 2, .slice (some ⟨g, 0, none⟩) 4 4], (by first | exact kc2 rfl rfl (by kernel_rfl) rfl (ev_t n239) | exact kc2 rfl rfl (by kernel_rfl) (ev_t n239) rfl | go_simp), (mat13 [1, 2, 3, 4] 2 (by decide) (by decide) (by decide) g 4 w8 rfl _ hB hb8.size hg).mono ?_⟩
     rintro e wz ⟨p_, rfl, o, b⟩
     exact ⟨_, rfl, b, p_, rfl, o⟩
   · refine mx HUX rfl 241 rfl ?_
     refine fun _ w8 hb8 _ _ => ⟨wanted_free rfl, ?_⟩
     exact ⟨.slice (some ⟨w8.heap.size, 0, none⟩) 2 2, w8.alloc (.cells #[.int .i64 5, .int .i64 6] 2), (by go_simp), albel _ _, w8.heap.size, rfl, hb8.size, Blk.new w8 _ _⟩
   · refine kx HUX 18 rfl 242 rfl ?_
     intro a8 w8 hb8 ho hn
     obtain ⟨v241, n241, hq241⟩ := hn 2 241 (by kernel_rfl) rfl
     have hv241 := hq241.2 (by decide)
     clear ho hn
     refine ⟨wanted_free rfl, ?_⟩
     obtain ⟨g, rfl, _, hg⟩ := hv241
     refine ⟨#[.slice (some ⟨g, 0, none⟩) 2 2], (kc1 rfl rfl (by kernel_rfl) (ev_t n241)), (vec_lit [5, 6] (by decide) _ 2 2 w8 rfl (reads_blk hg rfl)).mono ?_⟩
     rintro e wz ⟨p_, rfl, o, b⟩
     exact ⟨_, rfl, b, p_, rfl, o.mono hb8.size⟩
   · refine kx HUX 23 rfl 243 rfl ?_
     intro a8 w8 hb8 ho hn
     obtain ⟨v240, n240, hq240⟩ := hn 1 240 (by kernel_rfl) rfl
     have hv240 := hq240.2 (by decide)
     obtain ⟨v242, n242, hq242⟩ := hn 3 242 (by kernel_rfl) rfl
     have hv242 := hq242.2 (by decide)
     clear ho hn
     refine ⟨wanted_free rfl, ?_⟩
     obtain ⟨q0_, rfl, o0_⟩ := hv240
     obtain ⟨q1_, rfl, o1_⟩ := hv242
     refine ⟨#[.agg (arC ⟨1, [2, 2], [1, 2, 3, 4]⟩ q0_), .agg (arC ⟨1, [2], [5, 6]⟩ q1_)], (kc2 rfl rfl (by kernel_rfl) (ev_t n240) (ev_t n242)), (c15 q0_ q1_ w8 (o0_.el (by decide) (by decide) (by decide)) (Cap.of o0_) (o1_.el (by decide) (by decide) (by decide)) (Cap.of o1_)).mono ?_⟩
     rintro e wz ⟨r, rfl, o9, b9⟩
     exact ⟨_, rfl, b9, r, rfl, o9.mono hb8.size⟩
   · refine mx HUX rfl 238 rfl ?_
     intro a8 w8 hb8 ho hn
     obtain ⟨v243, n243, hq243⟩ := hn 4 243 (by kernel_rfl) rfl
     have hv243 := hq243.2 (by decide)
     clear ho hn
     refine ⟨wanted_free rfl, ?_⟩
     exact ⟨v243, w8, (by go_simp), Below.refl _ _, hv243⟩
   · refine mx HUX rfl 244 rfl ?_
     intro a8 w8 hb8 ho hn
     obtain ⟨v238, n238, hq238⟩ := hn 5 238 (by kernel_rfl) rfl
     have hv238 := hq238.2 (by decide)
     clear ho hn
     refine ⟨wanted_free rfl, ?_⟩
     obtain ⟨p_, rfl, o⟩ := hv238
     exact ⟨.agg (arC ⟨1, [2, 3], [1, 2, 5, 3, 4, 6]⟩ p_), w8, (by go_simp), Below.refl _ _, p_, rfl, o⟩
   · refine vx HUX rfl 245 rfl (.int .i64 0) rfl ?_
     intro a8 w8 hb8 ho hn
     obtain ⟨v238, n238, hq238⟩ := hn 5 238 (by kernel_rfl) rfl
     have hv238 := hq238.2 (by decide)
     clear ho hn
     refine ⟨wanted_free rfl, ?_⟩
     obtain ⟨p_, rfl, o⟩ := hv238
     go_simp
   · refine bx_alloc HUX rfl (by decide) (by decide) rfl (.int .i64 0) (.slice none 0 0) (.slice none 0 0) ?_
     intro a8 w8 ho
     have o471 : a8.tmps[471]? = some _ := (ho 471 (by kernel_rfl)).trans rfl
     have hsz : 471 < a8.tmps.size := (Array.getElem?_eq_some_iff.1 o471).1
     refine ⟨by omega, wanted_free rfl, ?_⟩
     go_simp
   · refine bx_store HUX rfl rfl (by decide) (by decide) rfl (by kernel_rfl) rfl ?_
     intro a8 w8 g u0 u1 u2 hg n31 hn
     obtain ⟨v244, n244, hq244⟩ := hn 6 244 (by kernel_rfl) rfl
     have hv244 := hq244.2 (by decide)
     clear hn
     refine ⟨wanted_free rfl, ?_⟩
     obtain ⟨r, rfl, o⟩ := hv244
     have x0 := hg.cell 0
     have x1 := hg.cell 1
     have x2 := hg.cell 2
     have f0 := hg.frozen 0
     have f1 := hg.frozen 1
     have f2 := hg.frozen 2
     refine ⟨r, o, ?_⟩
     rw [show arC ⟨1, [2, 3], [1, 2, 5, 3, 4, 6]⟩ r = #[.int .i64 1, .slice r.A0 2 r.c0, .slice r.A1 6 r.c1] from rfl] at n244
     clear hg o
     go_simp
   · refine vx HUX rfl 32 rfl (.int .i64 0) rfl ?_
     intro a8 w8 hb8 ho hn
     obtain ⟨v245, n245, hq245⟩ := hn 7 245 (by kernel_rfl) rfl
     obtain rfl := hq245.1 (by decide) (by decide)
     clear ho hn
     refine ⟨wanted_free rfl, ?_⟩
     go_simp
   omega
  intro dn fv wb17 hS5 hR5 hall
  obtain ⟨g17, e8, hg8, _, hfin⟩ := hS5.h (hall 8 (by decide))
  have e8 := put_at e8 472 rfl (by decide) rfl
  obtain ⟨r17, hb8, ho8⟩ := hfin (hall 9 (by decide))
  have hbw := hS5.b
  have h48 : fv 32 = .int .i64 0 := (hR5 10 32 rfl).1 (by decide) (by decide)
  clear hS5 hR5 hall hfin
  simp only [putAll, List.foldl_cons, List.foldl_nil, Act.put, List.setIfInBounds_toArray, List.set_cons_succ, List.set_cons_zero]
  rw [e8, h48]
  have HB_wb17 := Lib.hid (bxs_cons (g := g17) (X := ⟨1, [2, 3], [1, 2, 5, 3, 4, 6]⟩) (p := r17) (HB_wb16.out.up hbw) ⟨hb8, ho8.el (by decide) (by decide) (by decide), Cap.of ho8⟩)
  have BW_wb17 := Lib.hid (bon BW_wb16.out hbw)
  generalize fv 239 = u239, fv 240 = u240, fv 241 = u241, fv 242 = u242, fv 243 = u243, fv 238 = u238, fv 244 = u244, fv 245 = u245
  clear hb8 ho8 hbw e8 h48 hg8 HUX HB_wb16 BW_wb16
  go_upto_region 18 with (fail)
  have HUX : BxU wb17 (lookU [(0, xo wb17 ⟨1, [], [1]⟩), (1, xo wb17 ⟨2, [1], [97]⟩), (2, xto wb17 ⟨0, [], []⟩ 5), (3, xto wb17 ⟨0, [], []⟩ 5), (4, xo wb17 ⟨0, [], []⟩)]) := lookU_two (by
   intro x hx
   simp only [List.mem_cons, List.not_mem_nil, or_false] at hx
   rcases hx with rfl | rfl | rfl | rfl | rfl <;> first | exact xo_stk _ _ | exact slo_stk _ _ _ | exact sio_stk _ _ _ | exact xto_stk _ _ _)
  refine qX HUX 6 7 33 ⟨0, [], []⟩ [0, 1, 2, 3, 4] [undef, undef, undef, undef, undef, .int .i64 5, undef, undef, .int .i64 5] (by kernel_rfl) 472 rfl (by kernel_rfl) ?_ ?_
  ·intro i hi
   have hi2 : i < 9 := hi
   clear hi
   rcases i with _ | _ | _ | _ | _ | _ | _ | _ | _ | i
   · refine kx HUX 16 rfl 247 rfl ?_
     refine fun _ w8 hb8 _ _ => ⟨wanted_free rfl, ?_⟩
     refine ⟨#[.int .i64 1], (by kernel_rfl), (sca_lit 1 w8).mono ?_⟩
     rintro e wz ⟨p_, rfl, o, b⟩
     exact ⟨_, rfl, b, p_, rfl, o.mono hb8.size⟩
   · refine kx HUX 17 rfl 248 rfl ?_
     refine fun _ w8 hb8 _ _ => ⟨wanted_free rfl, ?_⟩
     refine ⟨#[.string { data := #[97] }], (by kernel_rfl), (chr_lit { data := #[97] } [97] (by decide) (by decide +kernel) 1 (by decide) w8).mono ?_⟩
     rintro e wz ⟨p_, rfl, o, b⟩
     exact ⟨_, rfl, b, p_, rfl, o.mono hb8.size⟩
   · refine kx HUX 23 rfl 249 rfl ?_
     intro a8 w8 hb8 ho hn
     obtain ⟨v247, n247, hq247⟩ := hn 0 247 (by kernel_rfl) rfl
     have hv247 := hq247.2 (by decide)
     obtain ⟨v248, n248, hq248⟩ := hn 1 248 (by kernel_rfl) rfl
     have hv248 := hq248.2 (by decide)
     clear ho hn
     refine ⟨wanted_free rfl, ?_⟩
     obtain ⟨q0_, rfl, o0_⟩ := hv247
     obtain ⟨q1_, rfl, o1_⟩ := hv248
     refine ⟨#[.agg (arC ⟨1, [], [1]⟩ q0_), .agg (arC ⟨2, [1], [97]⟩ q1_)], (kc2 rfl rfl (by kernel_rfl) (ev_t n247) (ev_t n248)), (c16 q0_ q1_ w8 (o0_.el (by decide) (by decide) (by decide)) (Cap.of o0_) (o1_.el (by decide) (by decide) (by decide)) (Cap.of o1_)).mono ?_⟩
     rintro e wz ⟨r, rfl, o9, b9⟩
     exact ⟨_, rfl, b9, r, rfl, o9.mono hb8.size⟩
   · refine mx HUX rfl 246 rfl ?_
     intro a8 w8 hb8 ho hn
     obtain ⟨v249, n249, hq249⟩ := hn 2 249 (by kernel_rfl) rfl
     have hv249 := hq249.2 (by decide)
     clear ho hn
     refine ⟨wanted_free rfl, ?_⟩
     exact ⟨v249, w8, (by go_simp), Below.refl _ _, hv249⟩
   · refine mx HUX rfl 250 rfl ?_
     intro a8 w8 hb8 ho hn
     obtain ⟨v246, n246, hq246⟩ := hn 3 246 (by kernel_rfl) rfl
     have hv246 := hq246.2 (by decide)
     clear ho hn
     refine ⟨wanted_free rfl, ?_⟩
     obtain ⟨p_, rfl, o⟩ := hv246
     exact ⟨.agg (arC ⟨0, [], []⟩ p_), w8, (by go_simp), Below.refl _ _, p_, rfl, o⟩
   · refine vx HUX rfl 251 rfl (.int .i64 5) rfl ?_
     intro a8 w8 hb8 ho hn
     obtain ⟨v246, n246, hq246⟩ := hn 3 246 (by kernel_rfl) rfl
     have hv246 := hq246.2 (by decide)
     clear ho hn
     refine ⟨wanted_free rfl, ?_⟩
     obtain ⟨p_, rfl, o⟩ := hv246
     go_simp
   · refine bx_alloc HUX rfl (by decide) (by decide) rfl (.int .i64 0) (.slice none 0 0) (.slice none 0 0) ?_
     intro a8 w8 ho
     have o471 : a8.tmps[471]? = some _ := (ho 471 (by kernel_rfl)).trans rfl
     have hsz : 471 < a8.tmps.size := (Array.getElem?_eq_some_iff.1 o471).1
     refine ⟨by omega, wanted_free rfl, ?_⟩
     go_simp
   · refine bx_store HUX rfl rfl (by decide) (by decide) rfl (by kernel_rfl) rfl ?_
     intro a8 w8 g u0 u1 u2 hg n33 hn
     obtain ⟨v250, n250, hq250⟩ := hn 4 250 (by kernel_rfl) rfl
     have hv250 := hq250.2 (by decide)
     clear hn
     refine ⟨wanted_free rfl, ?_⟩
     obtain ⟨r, rfl, o⟩ := hv250
     have x0 := hg.cell 0
     have x1 := hg.cell 1
     have x2 := hg.cell 2
     have f0 := hg.frozen 0
     have f1 := hg.frozen 1
     have f2 := hg.frozen 2
     refine ⟨r, o, ?_⟩
     rw [show arC ⟨0, [], []⟩ r = #[.int .i64 0, .slice r.A0 0 r.c0, .slice r.A1 0 r.c1] from rfl] at n250
     clear hg o
     go_simp
   · refine vx HUX rfl 34 rfl (.int .i64 5) rfl ?_
     intro a8 w8 hb8 ho hn
     obtain ⟨v251, n251, hq251⟩ := hn 5 251 (by kernel_rfl) rfl
     obtain rfl := hq251.1 (by decide) (by decide)
     clear ho hn
     refine ⟨wanted_free rfl, ?_⟩
     go_simp
   omega
  intro dn fv wb18 hS5 hR5 hall
  obtain ⟨g18, e8, hg8, _, hfin⟩ := hS5.h (hall 6 (by decide))
  have e8 := put_at e8 472 rfl (by decide) rfl
  obtain ⟨r18, hb8, ho8⟩ := hfin (hall 7 (by decide))
  have hbw := hS5.b
  have h48 : fv 34 = .int .i64 5 := (hR5 8 34 rfl).1 (by decide) (by decide)
  clear hS5 hR5 hall hfin
  simp only [putAll, List.foldl_cons, List.foldl_nil, Act.put, List.setIfInBounds_toArray, List.set_cons_succ, List.set_cons_zero]
  rw [e8, h48]
  have HB_wb18 := Lib.hid (bxs_cons (g := g18) (X := ⟨0, [], []⟩) (p := r18) (HB_wb17.out.up hbw) ⟨hb8, ho8.el (by decide) (by decide) (by decide), Cap.of ho8⟩)
  have BW_wb18 := Lib.hid (bon BW_wb17.out hbw)
  generalize fv 247 = u247, fv 248 = u248, fv 249 = u249, fv 246 = u246, fv 250 = u250, fv 251 = u251
  clear hb8 ho8 hbw e8 h48 hg8 HUX HB_wb17 BW_wb17
  go_upto_region 19 with (fail)
  have HUX : BxU wb18 (lookU [(0, slo wb18 4 #[.int .i64 1, .int .i64 2, .int .i64 3, .int .i64 4]), (1, xo wb18 ⟨1, [2, 2], [1, 2, 3, 4]⟩), (2, slo wb18 1 #[.int .i64 5]), (3, xo wb18 ⟨1, [1], [5]⟩), (4, xto wb18 ⟨0, [], []⟩ 4), (5, xto wb18 ⟨0, [], []⟩ 4), (6, xo wb18 ⟨0, [], []⟩)]) := lookU_two (by
   intro x hx
   simp only [List.mem_cons, List.not_mem_nil, or_false] at hx
   rcases hx with rfl | rfl | rfl | rfl | rfl | rfl | rfl <;> first | exact xo_stk _ _ | exact slo_stk _ _ _ | exact sio_stk _ _ _ | exact xto_stk _ _ _)
  refine qX HUX 8 9 35 ⟨0, [], []⟩ [0, 1, 2, 3, 4, 5, 6] [undef, undef, undef, undef, undef, undef, undef, .int .i64 4, undef, undef, .int .i64 4] (by kernel_rfl) 472 rfl (by kernel_rfl) ?_ ?_
  ·intro i hi
   have hi2 : i < 11 := hi
   clear hi
   rcases i with _ | _ | _ | _ | _ | _ | _ | _ | _ | _ | _ | i
   · refine mx HUX rfl 253 rfl ?_
     refine fun _ w8 hb8 _ _ => ⟨wanted_free rfl, ?_⟩
     exact ⟨.slice (some ⟨w8.heap.size, 0, none⟩) 4 4, w8.alloc (.cells #[.int .i64 1, .int .i64 2, .int .i64 3, .int .i64 4] 2), (by go_simp), albel _ _, w8.heap.size, rfl, hb8.size, Blk.new w8 _ _⟩
   · refine kx HUX 19 rfl 254 rfl ?_
     intro a8 w8 hb8 ho hn
     obtain ⟨v253, n253, hq253⟩ := hn 0 253 (by kernel_rfl) rfl
     have hv253 := hq253.2 (by decide)
     clear ho hn
     refine ⟨wanted_free rfl, ?_⟩
     obtain ⟨g, rfl, hB, hg⟩ := hv253
     refine ⟨#[.int .i64 2, .slice (some ⟨g, 0, none⟩) 4 4], (by first | exact kc2 rfl rfl (by kernel_rfl) rfl (ev_t n253) | exact kc2 rfl rfl (by kernel_rfl) (ev_t n253) rfl | go_simp), (mat13 [1, 2, 3, 4] 2 (by decide) (by decide) (by decide) g 4 w8 rfl _ hB hb8.size hg).mono ?_⟩
     rintro e wz ⟨p_, rfl, o, b⟩
     exact ⟨_, rfl, b, p_, rfl, o⟩
   · refine mx HUX rfl 255 rfl ?_
     refine fun _ w8 hb8 _ _ => ⟨wanted_free rfl, ?_⟩
     exact ⟨.slice (some ⟨w8.heap.size, 0, none⟩) 1 1, w8.alloc (.cells #[.int .i64 5] 2), (by go_simp), albel _ _, w8.heap.size, rfl, hb8.size, Blk.new w8 _ _⟩
   · refine kx HUX 18 rfl 256 rfl ?_
     intro a8 w8 hb8 ho hn
     obtain ⟨v255, n255, hq255⟩ := hn 2 255 (by kernel_rfl) rfl
     have hv255 := hq255.2 (by decide)
     clear ho hn
     refine ⟨wanted_free rfl, ?_⟩
     obtain ⟨g, rfl, _, hg⟩ := hv255
     refine ⟨#[.slice (some ⟨g, 0, none⟩) 1 1], (kc1 rfl rfl (by kernel_rfl) (ev_t n255)), (vec_lit [5] (by decide) _ 1 1 w8 rfl (reads_blk hg rfl)).mono ?_⟩
     rintro e wz ⟨p_, rfl, o, b⟩
     exact ⟨_, rfl, b, p_, rfl, o.mono hb8.size⟩
   · refine kx HUX 23 rfl 257 rfl ?_
     intro a8 w8 hb8 ho hn
     obtain ⟨v254, n254, hq254⟩ := hn 1 254 (by kernel_rfl) rfl
     have hv254 := hq254.2 (by decide)
     obtain ⟨v256, n256, hq256⟩ := hn 3 256 (by kernel_rfl) rfl
     have hv256 := hq256.2 (by decide)
     clear ho hn
     refine ⟨wanted_free rfl, ?_⟩
     obtain ⟨q0_, rfl, o0_⟩ := hv254
     obtain ⟨q1_, rfl, o1_⟩ := hv256
     refine ⟨#[.agg (arC ⟨1, [2, 2], [1, 2, 3, 4]⟩ q0_), .agg (arC ⟨1, [1], [5]⟩ q1_)], (kc2 rfl rfl (by kernel_rfl) (ev_t n254) (ev_t n256)), (c17 q0_ q1_ w8 (o0_.el (by decide) (by decide) (by decide)) (Cap.of o0_) (o1_.el (by decide) (by decide) (by decide)) (Cap.of o1_)).mono ?_⟩
     rintro e wz ⟨r, rfl, o9, b9⟩
     exact ⟨_, rfl, b9, r, rfl, o9.mono hb8.size⟩
   · refine mx HUX rfl 252 rfl ?_
     intro a8 w8 hb8 ho hn
     obtain ⟨v257, n257, hq257⟩ := hn 4 257 (by kernel_rfl) rfl
     have hv257 := hq257.2 (by decide)
     clear ho hn
     refine ⟨wanted_free rfl, ?_⟩
     exact ⟨v257, w8, (by go_simp), Below.refl _ _, hv257⟩
   · refine mx HUX rfl 258 rfl ?_
     intro a8 w8 hb8 ho hn
     obtain ⟨v252, n252, hq252⟩ := hn 5 252 (by kernel_rfl) rfl
     have hv252 := hq252.2 (by decide)
     clear ho hn
     refine ⟨wanted_free rfl, ?_⟩
     obtain ⟨p_, rfl, o⟩ := hv252
     exact ⟨.agg (arC ⟨0, [], []⟩ p_), w8, (by go_simp), Below.refl _ _, p_, rfl, o⟩
   · refine vx HUX rfl 259 rfl (.int .i64 4) rfl ?_
     intro a8 w8 hb8 ho hn
     obtain ⟨v252, n252, hq252⟩ := hn 5 252 (by kernel_rfl) rfl
     have hv252 := hq252.2 (by decide)
     clear ho hn
     refine ⟨wanted_free rfl, ?_⟩
     obtain ⟨p_, rfl, o⟩ := hv252
     go_simp
   · refine bx_alloc HUX rfl (by decide) (by decide) rfl (.int .i64 0) (.slice none 0 0) (.slice none 0 0) ?_
     intro a8 w8 ho
     have o471 : a8.tmps[471]? = some _ := (ho 471 (by kernel_rfl)).trans rfl
     have hsz : 471 < a8.tmps.size := (Array.getElem?_eq_some_iff.1 o471).1
     refine ⟨by omega, wanted_free rfl, ?_⟩
     go_simp
   · refine bx_store HUX rfl rfl (by decide) (by decide) rfl (by kernel_rfl) rfl ?_
     intro a8 w8 g u0 u1 u2 hg n35 hn
     obtain ⟨v258, n258, hq258⟩ := hn 6 258 (by kernel_rfl) rfl
     have hv258 := hq258.2 (by decide)
     clear hn
     refine ⟨wanted_free rfl, ?_⟩
     obtain ⟨r, rfl, o⟩ := hv258
     have x0 := hg.cell 0
     have x1 := hg.cell 1
     have x2 := hg.cell 2
     have f0 := hg.frozen 0
     have f1 := hg.frozen 1
     have f2 := hg.frozen 2
     refine ⟨r, o, ?_⟩
     rw [show arC ⟨0, [], []⟩ r = #[.int .i64 0, .slice r.A0 0 r.c0, .slice r.A1 0 r.c1] from rfl] at n258
     clear hg o
     go_simp
   · refine vx HUX rfl 36 rfl (.int .i64 4) rfl ?_
     intro a8 w8 hb8 ho hn
     obtain ⟨v259, n259, hq259⟩ := hn 7 259 (by kernel_rfl) rfl
     obtain rfl := hq259.1 (by decide) (by decide)
     clear ho hn
     refine ⟨wanted_free rfl, ?_⟩
     go_simp
   omega
  intro dn fv wb19 hS5 hR5 hall
  obtain ⟨g19, e8, hg8, _, hfin⟩ := hS5.h (hall 8 (by decide))
  have e8 := put_at e8 472 rfl (by decide) rfl
  obtain ⟨r19, hb8, ho8⟩ := hfin (hall 9 (by decide))
  have hbw := hS5.b
  have h48 : fv 36 = .int .i64 4 := (hR5 10 36 rfl).1 (by decide) (by decide)
  clear hS5 hR5 hall hfin
  simp only [putAll, List.foldl_cons, List.foldl_nil, Act.put, List.setIfInBounds_toArray, List.set_cons_succ, List.set_cons_zero]
  rw [e8, h48]
  have HB_wb19 := Lib.hid (bxs_cons (g := g19) (X := ⟨0, [], []⟩) (p := r19) (HB_wb18.out.up hbw) ⟨hb8, ho8.el (by decide) (by decide) (by decide), Cap.of ho8⟩)
  have BW_wb19 := Lib.hid (bon BW_wb18.out hbw)
  generalize fv 253 = u253, fv 254 = u254, fv 255 = u255, fv 256 = u256, fv 257 = u257, fv 252 = u252, fv 258 = u258, fv 259 = u259
  clear hb8 ho8 hbw e8 h48 hg8 HUX HB_wb18 BW_wb18
  go_upto_region 20 with (fail)
  have HUX : BxU wb19 (lookU [(0, sio wb19 3 #[.int .i64 1, .int .i64 1, .int .i64 1]), (1, slo wb19 1 #[.int .i64 1]), (2, xo wb19 ⟨1, [1, 1, 1], [1]⟩), (3, slo wb19 1 #[.int .i64 5]), (4, xo wb19 ⟨1, [1], [5]⟩), (5, xto wb19 ⟨0, [], []⟩ 3), (6, xto wb19 ⟨0, [], []⟩ 3), (7, xo wb19 ⟨0, [], []⟩)]) := lookU_two (by
   intro x hx
   simp only [List.mem_cons, List.not_mem_nil, or_false] at hx
   rcases hx with rfl | rfl | rfl | rfl | rfl | rfl | rfl | rfl <;> first | exact xo_stk _ _ | exact slo_stk _ _ _ | exact sio_stk _ _ _ | exact xto_stk _ _ _)
  refine qX HUX 9 10 37 ⟨0, [], []⟩ [0, 1, 2, 3, 4, 5, 6, 7] [undef, undef, undef, undef, undef, undef, undef, undef, .int .i64 3, undef, undef, .int .i64 3] (by kernel_rfl) 472 rfl (by kernel_rfl) ?_ ?_
  ·intro i hi
   have hi2 : i < 12 := hi
   clear hi
   rcases i with _ | _ | _ | _ | _ | _ | _ | _ | _ | _ | _ | _ | i
   · refine mx HUX rfl 261 rfl ?_
     refine fun _ w8 hb8 _ _ => ⟨wanted_free rfl, ?_⟩
     exact ⟨.slice (some ⟨w8.heap.size, 0, none⟩) 3 3, w8.alloc (.cells #[.int .i64 1, .int .i64 1, .int .i64 1] 3), (by go_simp), albel _ _, w8.heap.size, rfl, hb8.size, Blk.new w8 _ _⟩
   · refine mx HUX rfl 262 rfl ?_
     refine fun _ w8 hb8 _ _ => ⟨wanted_free rfl, ?_⟩
     exact ⟨.slice (some ⟨w8.heap.size, 0, none⟩) 1 1, w8.alloc (.cells #[.int .i64 1] 2), (by go_simp), albel _ _, w8.heap.size, rfl, hb8.size, Blk.new w8 _ _⟩
   · refine mx HUX rfl 263 rfl ?_
     intro a8 w8 hb8 ho hn
     obtain ⟨v261, n261, hq261⟩ := hn 0 261 (by kernel_rfl) rfl
     have hv261 := hq261.2 (by decide)
     obtain ⟨v262, n262, hq262⟩ := hn 1 262 (by kernel_rfl) rfl
     have hv262 := hq262.2 (by decide)
     clear ho hn
     refine ⟨wanted_free rfl, ?_⟩
     obtain ⟨gs, rfl, hBs, hgs⟩ := hv261
     obtain ⟨ge, rfl, hBe, hge⟩ := hv262
     exact ⟨.agg #[.int .i64 1, .slice (some ⟨gs, 0, none⟩) 3 3, .slice (some ⟨ge, 0, none⟩) 1 1], w8, (by go_simp), Below.refl _ _, ⟨some ⟨gs, 0, none⟩, 3, some ⟨ge, 0, none⟩, 1⟩, rfl, own_lit2 1 [1, 1, 1] [1] gs ge 3 1 _ w8 rfl rfl hBs hBe (by decide) (by decide) hgs hge⟩
   · refine mx HUX rfl 264 rfl ?_
     refine fun _ w8 hb8 _ _ => ⟨wanted_free rfl, ?_⟩
     exact ⟨.slice (some ⟨w8.heap.size, 0, none⟩) 1 1, w8.alloc (.cells #[.int .i64 5] 2), (by go_simp), albel _ _, w8.heap.size, rfl, hb8.size, Blk.new w8 _ _⟩
   · refine kx HUX 18 rfl 265 rfl ?_
     intro a8 w8 hb8 ho hn
     obtain ⟨v264, n264, hq264⟩ := hn 3 264 (by kernel_rfl) rfl
     have hv264 := hq264.2 (by decide)
     clear ho hn
     refine ⟨wanted_free rfl, ?_⟩
     obtain ⟨g, rfl, _, hg⟩ := hv264
     refine ⟨#[.slice (some ⟨g, 0, none⟩) 1 1], (kc1 rfl rfl (by kernel_rfl) (ev_t n264)), (vec_lit [5] (by decide) _ 1 1 w8 rfl (reads_blk hg rfl)).mono ?_⟩
     rintro e wz ⟨p_, rfl, o, b⟩
     exact ⟨_, rfl, b, p_, rfl, o.mono hb8.size⟩
   · refine kx HUX 23 rfl 266 rfl ?_
     intro a8 w8 hb8 ho hn
     obtain ⟨v263, n263, hq263⟩ := hn 2 263 (by kernel_rfl) rfl
     have hv263 := hq263.2 (by decide)
     obtain ⟨v265, n265, hq265⟩ := hn 4 265 (by kernel_rfl) rfl
     have hv265 := hq265.2 (by decide)
     clear ho hn
     refine ⟨wanted_free rfl, ?_⟩
     obtain ⟨q0_, rfl, o0_⟩ := hv263
     obtain ⟨q1_, rfl, o1_⟩ := hv265
     refine ⟨#[.agg (arC ⟨1, [1, 1, 1], [1]⟩ q0_), .agg (arC ⟨1, [1], [5]⟩ q1_)], (kc2 rfl rfl (by kernel_rfl) (ev_t n263) (ev_t n265)), (c18 q0_ q1_ w8 (o0_.el (by decide) (by decide) (by decide)) (Cap.of o0_) (o1_.el (by decide) (by decide) (by decide)) (Cap.of o1_)).mono ?_⟩
     rintro e wz ⟨r, rfl, o9, b9⟩
     exact ⟨_, rfl, b9, r, rfl, o9.mono hb8.size⟩
   · refine mx HUX rfl 260 rfl ?_
     intro a8 w8 hb8 ho hn
     obtain ⟨v266, n266, hq266⟩ := hn 5 266 (by kernel_rfl) rfl
     have hv266 := hq266.2 (by decide)
     clear ho hn
     refine ⟨wanted_free rfl, ?_⟩
     exact ⟨v266, w8, (by go_simp), Below.refl _ _, hv266⟩
   · refine mx HUX rfl 267 rfl ?_
     intro a8 w8 hb8 ho hn
     obtain ⟨v260, n260, hq260⟩ := hn 6 260 (by kernel_rfl) rfl
     have hv260 := hq260.2 (by decide)
     clear ho hn
     refine ⟨wanted_free rfl, ?_⟩
     obtain ⟨p_, rfl, o⟩ := hv260
     exact ⟨.agg (arC ⟨0, [], []⟩ p_), w8, (by go_simp), Below.refl _ _, p_, rfl, o⟩
   · refine vx HUX rfl 268 rfl (.int .i64 3) rfl ?_
     intro a8 w8 hb8 ho hn
     obtain ⟨v260, n260, hq260⟩ := hn 6 260 (by kernel_rfl) rfl
     have hv260 := hq260.2 (by decide)
     clear ho hn
     refine ⟨wanted_free rfl, ?_⟩
     obtain ⟨p_, rfl, o⟩ := hv260
     go_simp
   · refine bx_alloc HUX rfl (by decide) (by decide) rfl (.int .i64 0) (.slice none 0 0) (.slice none 0 0) ?_
     intro a8 w8 ho
     have o471 : a8.tmps[471]? = some _ := (ho 471 (by kernel_rfl)).trans rfl
     have hsz : 471 < a8.tmps.size := (Array.getElem?_eq_some_iff.1 o471).1
     refine ⟨by omega, wanted_free rfl, ?_⟩
     go_simp
   · refine bx_store HUX rfl rfl (by decide) (by decide) rfl (by kernel_rfl) rfl ?_
     intro a8 w8 g u0 u1 u2 hg n37 hn
     obtain ⟨v267, n267, hq267⟩ := hn 7 267 (by kernel_rfl) rfl
     have hv267 := hq267.2 (by decide)
     clear hn
     refine ⟨wanted_free rfl, ?_⟩
     obtain ⟨r, rfl, o⟩ := hv267
     have x0 := hg.cell 0
     have x1 := hg.cell 1
     have x2 := hg.cell 2
     have f0 := hg.frozen 0
     have f1 := hg.frozen 1
     have f2 := hg.frozen 2
     refine ⟨r, o, ?_⟩
     rw [show arC ⟨0, [], []⟩ r = #[.int .i64 0, .slice r.A0 0 r.c0, .slice r.A1 0 r.c1] from rfl] at n267
     clear hg o
     go_simp
   · refine vx HUX rfl 38 rfl (.int .i64 3) rfl ?_
     intro a8 w8 hb8 ho hn
     obtain ⟨v268, n268, hq268⟩ := hn 8 268 (by kernel_rfl) rfl
     obtain rfl := hq268.1 (by decide) (by decide)
     clear ho hn
     refine ⟨wanted_free rfl, ?_⟩
     go_simp
   omega
  intro dn fv wb20 hS5 hR5 hall
  obtain ⟨g20, e8, hg8, _, hfin⟩ := hS5.h (hall 9 (by decide))
  have e8 := put_at e8 472 rfl (by decide) rfl
  obtain ⟨r20, hb8, ho8⟩ := hfin (hall 10 (by decide))
  have hbw := hS5.b
  have h48 : fv 38 = .int .i64 3 := (hR5 11 38 rfl).1 (by decide) (by decide)
  clear hS5 hR5 hall hfin
  simp only [putAll, List.foldl_cons, List.foldl_nil, Act.put, List.setIfInBounds_toArray, List.set_cons_succ, List.set_cons_zero]
  rw [e8, h48]
  have HB_wb20 := Lib.hid (bxs_cons (g := g20) (X := ⟨0, [], []⟩) (p := r20) (HB_wb19.out.up hbw) ⟨hb8, ho8.el (by decide) (by decide) (by decide), Cap.of ho8⟩)
  have BW_wb20 := Lib.hid (bon BW_wb19.out hbw)
  generalize fv 261 = u261, fv 262 = u262, fv 263 = u263, fv 264 = u264, fv 265 = u265, fv 266 = u266, fv 260 = u260, fv 267 = u267
  generalize fv 268 = u268
  clear hb8 ho8 hbw e8 h48 hg8 HUX HB_wb19 BW_wb19
  go_upto_region 21 with (fail)
  have HUX : BxU wb20 (lookU [(0, xo wb20 ⟨1, [], [1]⟩), (1, slo wb20 2 #[.int .i64 2, .int .i64 3]), (2, xo wb20 ⟨1, [2, 1], [2, 3]⟩), (3, xto wb20 ⟨1, [2, 2], [1, 2, 1, 3]⟩ 0), (4, xto wb20 ⟨1, [2, 2], [1, 2, 1, 3]⟩ 0), (5, xo wb20 ⟨1, [2, 2], [1, 2, 1, 3]⟩)]) := lookU_two (by
   intro x hx
   simp only [List.mem_cons, List.not_mem_nil, or_false] at hx
   rcases hx with rfl | rfl | rfl | rfl | rfl | rfl <;> first | exact xo_stk _ _ | exact slo_stk _ _ _ | exact sio_stk _ _ _ | exact xto_stk _ _ _)
  refine qX HUX 7 8 39 ⟨1, [2, 2], [1, 2, 1, 3]⟩ [0, 1, 2, 3, 4, 5] [undef, undef, undef, undef, undef, undef, .int .i64 0, undef, undef, .int .i64 0] (by kernel_rfl) 472 rfl (by kernel_rfl) ?_ ?_
  ·intro i hi
   have hi2 : i < 10 := hi
   clear hi
   rcases i with _ | _ | _ | _ | _ | _ | _ | _ | _ | _ | i
   · refine kx HUX 16 rfl 270 rfl ?_
     refine fun _ w8 hb8 _ _ => ⟨wanted_free rfl, ?_⟩
     refine ⟨#[.int .i64 1], (by kernel_rfl), (sca_lit 1 w8).mono ?_⟩
     rintro e wz ⟨p_, rfl, o, b⟩
     exact ⟨_, rfl, b, p_, rfl, o.mono hb8.size⟩
   · refine mx HUX rfl 271 rfl ?_
     refine fun _ w8 hb8 _ _ => ⟨wanted_free rfl, ?_⟩
     exact ⟨.slice (some ⟨w8.heap.size, 0, none⟩) 2 2, w8.alloc (.cells #[.int .i64 2, .int .i64 3] 2), (by go_simp), albel _ _, w8.heap.size, rfl, hb8.size, Blk.new w8 _ _⟩
   · refine kx HUX 19 rfl 272 rfl ?_
     intro a8 w8 hb8 ho hn
     obtain ⟨v271, n271, hq271⟩ := hn 1 271 (by kernel_rfl) rfl
     have hv271 := hq271.2 (by decide)
     clear ho hn
     refine ⟨wanted_free rfl, ?_⟩
     obtain ⟨g, rfl, hB, hg⟩ := hv271
     refine ⟨#[.int .i64 1, .slice (some ⟨g, 0, none⟩) 2 2], (by first | exact kc2 rfl rfl (by kernel_rfl) rfl (ev_t n271) | exact kc2 rfl rfl (by kernel_rfl) (ev_t n271) rfl | go_simp), (mat13 [2, 3] 1 (by decide) (by decide) (by decide) g 2 w8 rfl _ hB hb8.size hg).mono ?_⟩
     rintro e wz ⟨p_, rfl, o, b⟩
     exact ⟨_, rfl, b, p_, rfl, o⟩
   · refine kx HUX 23 rfl 273 rfl ?_
     intro a8 w8 hb8 ho hn
     obtain ⟨v270, n270, hq270⟩ := hn 0 270 (by kernel_rfl) rfl
     have hv270 := hq270.2 (by decide)
     obtain ⟨v272, n272, hq272⟩ := hn 2 272 (by kernel_rfl) rfl
     have hv272 := hq272.2 (by decide)
     clear ho hn
     refine ⟨wanted_free rfl, ?_⟩
     obtain ⟨q0_, rfl, o0_⟩ := hv270
     obtain ⟨q1_, rfl, o1_⟩ := hv272
     refine ⟨#[.agg (arC ⟨1, [], [1]⟩ q0_), .agg (arC ⟨1, [2, 1], [2, 3]⟩ q1_)], (kc2 rfl rfl (by kernel_rfl) (ev_t n270) (ev_t n272)), (c19 q0_ q1_ w8 (o0_.el (by decide) (by decide) (by decide)) (Cap.of o0_) (o1_.el (by decide) (by decide) (by decide)) (Cap.of o1_)).mono ?_⟩
     rintro e wz ⟨r, rfl, o9, b9⟩
     exact ⟨_, rfl, b9, r, rfl, o9.mono hb8.size⟩
   · refine mx HUX rfl 269 rfl ?_
     intro a8 w8 hb8 ho hn
     obtain ⟨v273, n273, hq273⟩ := hn 3 273 (by kernel_rfl) rfl
     have hv273 := hq273.2 (by decide)
     clear ho hn
     refine ⟨wanted_free rfl, ?_⟩
     exact ⟨v273, w8, (by go_simp), Below.refl _ _, hv273⟩
   · refine mx HUX rfl 274 rfl ?_
     intro a8 w8 hb8 ho hn
     obtain ⟨v269, n269, hq269⟩ := hn 4 269 (by kernel_rfl) rfl
     have hv269 := hq269.2 (by decide)
     clear ho hn
     refine ⟨wanted_free rfl, ?_⟩
     obtain ⟨p_, rfl, o⟩ := hv269
     exact ⟨.agg (arC ⟨1, [2, 2], [1, 2, 1, 3]⟩ p_), w8, (by go_simp), Below.refl _ _, p_, rfl, o⟩
   · refine vx HUX rfl 275 rfl (.int .i64 0) rfl ?_
     intro a8 w8 hb8 ho hn
     obtain ⟨v269, n269, hq269⟩ := hn 4 269 (by kernel_rfl) rfl
     have hv269 := hq269.2 (by decide)
     clear ho hn
     refine ⟨wanted_free rfl, ?_⟩
     obtain ⟨p_, rfl, o⟩ := hv269
     go_simp
   · refine bx_alloc HUX rfl (by decide) (by decide) rfl (.int .i64 0) (.slice none 0 0) (.slice none 0 0) ?_
     intro a8 w8 ho
     have o471 : a8.tmps[471]? = some _ := (ho 471 (by kernel_rfl)).trans rfl
     have hsz : 471 < a8.tmps.size := (Array.getElem?_eq_some_iff.1 o471).1
     refine ⟨by omega, wanted_free rfl, ?_⟩
     go_simp
   · refine bx_store HUX rfl rfl (by decide) (by decide) rfl (by kernel_rfl) rfl ?_
     intro a8 w8 g u0 u1 u2 hg n39 hn
     obtain ⟨v274, n274, hq274⟩ := hn 5 274 (by kernel_rfl) rfl
     have hv274 := hq274.2 (by decide)
     clear hn
     refine ⟨wanted_free rfl, ?_⟩
     obtain ⟨r, rfl, o⟩ := hv274
     have x0 := hg.cell 0
     have x1 := hg.cell 1
     have x2 := hg.cell 2
     have f0 := hg.frozen 0
     have f1 := hg.frozen 1
     have f2 := hg.frozen 2
     refine ⟨r, o, ?_⟩
     rw [show arC ⟨1, [2, 2], [1, 2, 1, 3]⟩ r = #[.int .i64 1, .slice r.A0 2 r.c0, .slice r.A1 4 r.c1] from rfl] at n274
     clear hg o
     go_simp
   · refine vx HUX rfl 40 rfl (.int .i64 0) rfl ?_
     intro a8 w8 hb8 ho hn
     obtain ⟨v275, n275, hq275⟩ := hn 6 275 (by kernel_rfl) rfl
     obtain rfl := hq275.1 (by decide) (by decide)
     clear ho hn
     refine ⟨wanted_free rfl, ?_⟩
     go_simp
   omega
  intro dn fv wb21 hS5 hR5 hall
  obtain ⟨g21, e8, hg8, _, hfin⟩ := hS5.h (hall 7 (by decide))
  have e8 := put_at e8 472 rfl (by decide) rfl
  obtain ⟨r21, hb8, ho8⟩ := hfin (hall 8 (by decide))
  have hbw := hS5.b
  have h48 : fv 40 = .int .i64 0 := (hR5 9 40 rfl).1 (by decide) (by decide)
  clear hS5 hR5 hall hfin
  simp only [putAll, List.foldl_cons, List.foldl_nil, Act.put, List.setIfInBounds_toArray, List.set_cons_succ, List.set_cons_zero]
  rw [e8, h48]
  have HB_wb21 := Lib.hid (bxs_cons (g := g21) (X := ⟨1, [2, 2], [1, 2, 1, 3]⟩) (p := r21) (HB_wb20.out.up hbw) ⟨hb8, ho8.el (by decide) (by decide) (by decide), Cap.of ho8⟩)
  have BW_wb21 := Lib.hid (bon BW_wb20.out hbw)
  generalize fv 270 = u270, fv 271 = u271, fv 272 = u272, fv 273 = u273, fv 269 = u269, fv 274 = u274, fv 275 = u275
  clear hb8 ho8 hbw e8 h48 hg8 HUX HB_wb20 BW_wb20
  go_upto_region 22 with (fail)
  have HUX : BxU wb21 (lookU [(0, xo wb21 ⟨1, [], [1]⟩), (1, xo wb21 ⟨1, [], [2]⟩), (2, xto wb21 ⟨1, [2], [1, 2]⟩ 0), (3, xto wb21 ⟨1, [2], [1, 2]⟩ 0), (4, xo wb21 ⟨1, [2], [1, 2]⟩)]) := lookU_two (by
   intro x hx
   simp only [List.mem_cons, List.not_mem_nil, or_false] at hx
   rcases hx with rfl | rfl | rfl | rfl | rfl <;> first | exact xo_stk _ _ | exact slo_stk _ _ _ | exact sio_stk _ _ _ | exact xto_stk _ _ _)
  refine qX HUX 6 7 41 ⟨1, [2], [1, 2]⟩ [0, 1, 2, 3, 4] [undef, undef, undef, undef, undef, .int .i64 0, undef, undef, .int .i64 0] (by kernel_rfl) 472 rfl (by kernel_rfl) ?_ ?_
  ·intro i hi
   have hi2 : i < 9 := hi
   clear hi
   rcases i with _ | _ | _ | _ | _ | _ | _ | _ | _ | i
   · refine kx HUX 16 rfl 277 rfl ?_
     refine fun _ w8 hb8 _ _ => ⟨wanted_free rfl, ?_⟩
     refine ⟨#[.int .i64 1], (by kernel_rfl), (sca_lit 1 w8).mono ?_⟩
     rintro e wz ⟨p_, rfl, o, b⟩
     exact ⟨_, rfl, b, p_, rfl, o.mono hb8.size⟩
   · refine kx HUX 16 rfl 278 rfl ?_
     refine fun _ w8 hb8 _ _ => ⟨wanted_free rfl, ?_⟩
     refine ⟨#[.int .i64 2], (by kernel_rfl), (sca_lit 2 w8).mono ?_⟩
     rintro e wz ⟨p_, rfl, o, b⟩
     exact ⟨_, rfl, b, p_, rfl, o.mono hb8.size⟩
   · refine kx HUX 23 rfl 279 rfl ?_
     intro a8 w8 hb8 ho hn
     obtain ⟨v277, n277, hq277⟩ := hn 0 277 (by kernel_rfl) rfl
     have hv277 := hq277.2 (by decide)
     obtain ⟨v278, n278, hq278⟩ := hn 1 278 (by kernel_rfl) rfl
     have hv278 := hq278.2 (by decide)
     clear ho hn
     refine ⟨wanted_free rfl, ?_⟩
     obtain ⟨q0_, rfl, o0_⟩ := hv277
     obtain ⟨q1_, rfl, o1_⟩ := hv278
     refine ⟨#[.agg (arC ⟨1, [], [1]⟩ q0_), .agg (arC ⟨1, [], [2]⟩ q1_)], (kc2 rfl rfl (by kernel_rfl) (ev_t n277) (ev_t n278)), (c20 q0_ q1_ w8 (o0_.el (by decide) (by decide) (by decide)) (Cap.of o0_) (o1_.el (by decide) (by decide) (by decide)) (Cap.of o1_)).mono ?_⟩
     rintro e wz ⟨r, rfl, o9, b9⟩
     exact ⟨_, rfl, b9, r, rfl, o9.mono hb8.size⟩
   · refine mx HUX rfl 276 rfl ?_
     intro a8 w8 hb8 ho hn
     obtain ⟨v279, n279, hq279⟩ := hn 2 279 (by kernel_rfl) rfl
     have hv279 := hq279.2 (by decide)
     clear ho hn
     refine ⟨wanted_free rfl, ?_⟩
     exact ⟨v279, w8, (by go_simp), Below.refl _ _, hv279⟩
   · refine mx HUX rfl 280 rfl ?_
     intro a8 w8 hb8 ho hn
     obtain ⟨v276, n276, hq276⟩ := hn 3 276 (by kernel_rfl) rfl
     have hv276 := hq276.2 (by decide)
     clear ho hn
     refine ⟨wanted_free rfl, ?_⟩
     obtain ⟨p_, rfl, o⟩ := hv276
     exact ⟨.agg (arC ⟨1, [2], [1, 2]⟩ p_), w8, (by go_simp), Below.refl _ _, p_, rfl, o⟩
   · refine vx HUX rfl 281 rfl (.int .i64 0) rfl ?_
     intro a8 w8 hb8 ho hn
     obtain ⟨v276, n276, hq276⟩ := hn 3 276 (by kernel_rfl) rfl
     have hv276 := hq276.2 (by decide)
     clear ho hn
     refine ⟨wanted_free rfl, ?_⟩
     obtain ⟨p_, rfl, o⟩ := hv276
     go_simp
   · refine bx_alloc HUX rfl (by decide) (by decide) rfl (.int .i64 0) (.slice none 0 0) (.slice none 0 0) ?_
     intro a8 w8 ho
     have o471 : a8.tmps[471]? = some _ := (ho 471 (by kernel_rfl)).trans rfl
     have hsz : 471 < a8.tmps.size := (Array.getElem?_eq_some_iff.1 o471).1
     refine ⟨by omega, wanted_free rfl, ?_⟩
     go_simp
   · refine bx_store HUX rfl rfl (by decide) (by decide) rfl (by kernel_rfl) rfl ?_
     intro a8 w8 g u0 u1 u2 hg n41 hn
     obtain ⟨v280, n280, hq280⟩ := hn 4 280 (by kernel_rfl) rfl
     have hv280 := hq280.2 (by decide)
     clear hn
     refine ⟨wanted_free rfl, ?_⟩
     obtain ⟨r, rfl, o⟩ := hv280
     have x0 := hg.cell 0
     have x1 := hg.cell 1
     have x2 := hg.cell 2
     have f0 := hg.frozen 0
     have f1 := hg.frozen 1
     have f2 := hg.frozen 2
     refine ⟨r, o, ?_⟩
     rw [show arC ⟨1, [2], [1, 2]⟩ r = #[.int .i64 1, .slice r.A0 1 r.c0, .slice r.A1 2 r.c1] from rfl] at n280
     clear hg o
     go_simp
   · refine vx HUX rfl 42 rfl (.int .i64 0) rfl ?_
     intro a8 w8 hb8 ho hn
     obtain ⟨v281, n281, hq281⟩ := hn 5 281 (by kernel_rfl) rfl
     obtain rfl := hq281.1 (by decide) (by decide)
     clear ho hn
     refine ⟨wanted_free rfl, ?_⟩
     go_simp
   omega
  intro dn fv wb22 hS5 hR5 hall
  obtain ⟨g22, e8, hg8, _, hfin⟩ := hS5.h (hall 6 (by decide))
  have e8 := put_at e8 472 rfl (by decide) rfl
  obtain ⟨r22, hb8, ho8⟩ := hfin (hall 7 (by decide))
  have hbw := hS5.b
  have h48 : fv 42 = .int .i64 0 := (hR5 8 42 rfl).1 (by decide) (by decide)
  clear hS5 hR5 hall hfin
  simp only [putAll, List.foldl_cons, List.foldl_nil, Act.put, List.setIfInBounds_toArray, List.set_cons_succ, List.set_cons_zero]
  rw [e8, h48]
  have HB_wb22 := Lib.hid (bxs_cons (g := g22) (X := ⟨1, [2], [1, 2]⟩) (p := r22) (HB_wb21.out.up hbw) ⟨hb8, ho8.el (by decide) (by decide) (by decide), Cap.of ho8⟩)
  have BW_wb22 := Lib.hid (bon BW_wb21.out hbw)
  generalize fv 277 = u277, fv 278 = u278, fv 279 = u279, fv 276 = u276, fv 280 = u280, fv 281 = u281
  clear hb8 ho8 hbw e8 h48 hg8 HUX HB_wb21 BW_wb21
  go_upto_region 23 with (fail)
  have HUX : BxU wb22 (lookU [(0, sio wb22 1 #[.int .i64 4096]), (1, slo wb22 4096 bigZ), (2, xo wb22 bigA), (3, xo wb22 ⟨1, [], [1]⟩), (4, xto wb22 ⟨0, [], []⟩ 9), (5, xto wb22 ⟨0, [], []⟩ 9), (6, xo wb22 ⟨0, [], []⟩)]) := lookU_two (by
   intro x hx
   simp only [List.mem_cons, List.not_mem_nil, or_false] at hx
   rcases hx with rfl | rfl | rfl | rfl | rfl | rfl | rfl <;> first | exact xo_stk _ _ | exact slo_stk _ _ _ | exact sio_stk _ _ _ | exact xto_stk _ _ _)
  refine wp_region_doneT_on (BxS wb22 8 9 43 ⟨0, [], []⟩) (bxR 8 [0, 1, 2, 3, 4, 5, 6] (lookU [(0, sio wb22 1 #[.int .i64 4096]), (1, slo wb22 4096 bigZ), (2, xo wb22 bigA), (3, xo wb22 ⟨1, [], [1]⟩), (4, xto wb22 ⟨0, [], []⟩ 9), (5, xto wb22 ⟨0, [], []⟩ 9), (6, xo wb22 ⟨0, [], []⟩)]) [undef, undef, undef, undef, undef, undef, undef, .int .i64 9, undef, undef, .int .i64 9]) (by kernel_rfl) 472 rfl (by kernel_rfl) ⟨(Below.refl _ _).drew, fun e => (by cases e), fun e => (by cases e)⟩ ?_ ?_
  ·intro i hi
   have hi2 : i < 11 := hi
   clear hi
   rcases i with _ | _ | _ | _ | _ | _ | _ | _ | _ | _ | _ | i
   · refine mx HUX rfl 283 rfl ?_
     refine fun _ w8 hb8 _ _ => ⟨wanted_free rfl, ?_⟩
     exact ⟨.slice (some ⟨w8.heap.size, 0, none⟩) 1 1, w8.alloc (.cells #[.int .i64 4096] 3), (by go_simp), albel _ _, w8.heap.size, rfl, hb8.size, Blk.new w8 _ _⟩
   · refine mx HUX rfl 284 rfl ?_
     refine fun _ w8 hb8 _ _ => ⟨wanted_free rfl, ?_⟩
     have hmk := big_make w8
     exact ⟨.slice (some ⟨w8.heap.size, 0, none⟩) 4096 4096, w8.alloc (.cells bigZ 2), (by go_simp), albel _ _, w8.heap.size, rfl, hb8.size, Blk.new w8 _ _⟩
   · refine mx HUX rfl 285 rfl ?_
     intro a8 w8 hb8 ho hn
     obtain ⟨v283, n283, hq283⟩ := hn 0 283 (by kernel_rfl) rfl
     have hv283 := hq283.2 (by decide)
     obtain ⟨v284, n284, hq284⟩ := hn 1 284 (by kernel_rfl) rfl
     have hv284 := hq284.2 (by decide)
     clear ho hn
     refine ⟨wanted_free rfl, ?_⟩
     obtain ⟨gs, rfl, hBs, hgs⟩ := hv283
     obtain ⟨ge, rfl, hBe, hge⟩ := hv284
     exact ⟨.agg #[.int .i64 1, .slice (some ⟨gs, 0, none⟩) 1 1, .slice (some ⟨ge, 0, none⟩) 4096 4096], w8, (by go_simp), Below.refl _ _, ⟨some ⟨gs, 0, none⟩, 1, some ⟨ge, 0, none⟩, 4096⟩, big_val ⟨some ⟨gs, 0, none⟩, 1, some ⟨ge, 0, none⟩, 4096⟩, own_lit2 1 [4096] bigL gs ge 1 4096 _ w8 rfl bigL_len hBs hBe (by decide) (by decide) hgs (bigZ_eq ▸ hge)⟩
   · refine kx HUX 16 rfl 286 rfl ?_
     refine fun _ w8 hb8 _ _ => ⟨wanted_free rfl, ?_⟩
     refine ⟨#[.int .i64 1], (by kernel_rfl), (sca_lit 1 w8).mono ?_⟩
     rintro e wz ⟨p_, rfl, o, b⟩
     exact ⟨_, rfl, b, p_, rfl, o.mono hb8.size⟩
   · refine kx HUX 23 rfl 287 rfl ?_
     intro a8 w8 hb8 ho hn
     obtain ⟨v285, n285, hq285⟩ := hn 2 285 (by kernel_rfl) rfl
     have hv285 := hq285.2 (by decide)
     obtain ⟨v286, n286, hq286⟩ := hn 3 286 (by kernel_rfl) rfl
     have hv286 := hq286.2 (by decide)
     clear ho hn
     refine ⟨wanted_free rfl, ?_⟩
     obtain ⟨q0_, rfl, o0_⟩ := hv285
     obtain ⟨q1_, rfl, o1_⟩ := hv286
     refine ⟨#[.agg (arC bigA q0_), .agg (arC ⟨1, [], [1]⟩ q1_)], (kc2 rfl rfl (by kernel_rfl) (ev_t n285) (ev_t n286)), (big_cat q0_ q1_ w8 (o0_.el (by decide) (show bigL.length ≤ _ by rw [bigL_len]; omega) bigL_fine) (o1_.el (by decide) (by decide) (by decide)) (Cap.of o0_) (Cap.of o1_)).mono ?_⟩
     rintro e wz ⟨r, rfl, o9, b9⟩
     exact ⟨_, rfl, b9, r, rfl, o9.mono hb8.size⟩
   · refine mx HUX rfl 282 rfl ?_
     intro a8 w8 hb8 ho hn
     obtain ⟨v287, n287, hq287⟩ := hn 4 287 (by kernel_rfl) rfl
     have hv287 := hq287.2 (by decide)
     clear ho hn
     refine ⟨wanted_free rfl, ?_⟩
     exact ⟨v287, w8, (by go_simp), Below.refl _ _, hv287⟩
   · refine mx HUX rfl 288 rfl ?_
     intro a8 w8 hb8 ho hn
     obtain ⟨v282, n282, hq282⟩ := hn 5 282 (by kernel_rfl) rfl
     have hv282 := hq282.2 (by decide)
     clear ho hn
     refine ⟨wanted_free rfl, ?_⟩
     obtain ⟨p_, rfl, o⟩ := hv282
     exact ⟨.agg (arC ⟨0, [], []⟩ p_), w8, (by go_simp), Below.refl _ _, p_, rfl, o⟩
   · refine vx HUX rfl 289 rfl (.int .i64 9) rfl ?_
     intro a8 w8 hb8 ho hn
     obtain ⟨v282, n282, hq282⟩ := hn 5 282 (by kernel_rfl) rfl
     have hv282 := hq282.2 (by decide)
     clear ho hn
     refine ⟨wanted_free rfl, ?_⟩
     obtain ⟨p_, rfl, o⟩ := hv282
     go_simp
   · refine bx_alloc HUX rfl (by decide) (by decide) rfl (.int .i64 0) (.slice none 0 0) (.slice none 0 0) ?_
     intro a8 w8 ho
     have o471 : a8.tmps[471]? = some _ := (ho 471 (by kernel_rfl)).trans rfl
     have hsz : 471 < a8.tmps.size := (Array.getElem?_eq_some_iff.1 o471).1
     refine ⟨by omega, wanted_free rfl, ?_⟩
     go_simp
   · refine bx_store HUX rfl rfl (by decide) (by decide) rfl (by kernel_rfl) rfl ?_
     intro a8 w8 g u0 u1 u2 hg n43 hn
     obtain ⟨v288, n288, hq288⟩ := hn 6 288 (by kernel_rfl) rfl
     have hv288 := hq288.2 (by decide)
     clear hn
     refine ⟨wanted_free rfl, ?_⟩
     obtain ⟨r, rfl, o⟩ := hv288
     have x0 := hg.cell 0
     have x1 := hg.cell 1
     have x2 := hg.cell 2
     have f0 := hg.frozen 0
     have f1 := hg.frozen 1
     have f2 := hg.frozen 2
     refine ⟨r, o, ?_⟩
     rw [show arC ⟨0, [], []⟩ r = #[.int .i64 0, .slice r.A0 0 r.c0, .slice r.A1 0 r.c1] from rfl] at n288
     clear hg o
     go_simp
   · refine vx HUX rfl 44 rfl (.int .i64 9) rfl ?_
     intro a8 w8 hb8 ho hn
     obtain ⟨v289, n289, hq289⟩ := hn 7 289 (by kernel_rfl) rfl
     obtain rfl := hq289.1 (by decide) (by decide)
     clear ho hn
     refine ⟨wanted_free rfl, ?_⟩
     go_simp
   omega
  intro dn fv wb23 hS5 hR5 hall
  obtain ⟨g23, e8, hg8, _, hfin⟩ := hS5.h (hall 8 (by decide))
  have e8 := put_at e8 472 rfl (by decide) rfl
  obtain ⟨r23, hb8, ho8⟩ := hfin (hall 9 (by decide))
  have hbw := hS5.b
  have h48 : fv 44 = .int .i64 9 := (hR5 10 44 rfl).1 (by decide) (by decide)
  clear hS5 hR5 hall hfin
  simp only [putAll, List.foldl_cons, List.foldl_nil, Act.put, List.setIfInBounds_toArray, List.set_cons_succ, List.set_cons_zero]
  rw [e8, h48]
  have HB_wb23 := Lib.hid (bxs_cons (g := g23) (X := ⟨0, [], []⟩) (p := r23) (HB_wb22.out.up hbw) ⟨hb8, ho8.el (by decide) (by decide) (by decide), Cap.of ho8⟩)
  have BW_wb23 := Lib.hid (bon BW_wb22.out hbw)
  generalize fv 283 = u283, fv 284 = u284, fv 285 = u285, fv 286 = u286, fv 287 = u287, fv 282 = u282, fv 288 = u288, fv 289 = u289
  clear hb8 ho8 hbw e8 h48 hg8 HUX HB_wb22 BW_wb22
  go_upto_region 24 with (fail)
  have HU : GU (lookU [(2, slo wb23 6 #[.int .i64 1, .int .i64 2, .int .i64 5, .int .i64 3, .int .i64 4, .int .i64 6]), (3, xo wb23 ⟨1, [2, 3], [1, 2, 5, 3, 4, 6]⟩), (4, xv (.bool true)), (20, slo wb23 4 #[.int .i64 1, .int .i64 2, .int .i64 1, .int .i64 3]), (21, xo wb23 ⟨1, [2, 2], [1, 2, 1, 3]⟩), (22, xv (.bool true)), (27, slo wb23 2 #[.int .i64 1, .int .i64 2]), (28, xo wb23 ⟨1, [2], [1, 2]⟩), (29, xv (.bool true))]) := lookU_stay (by
   intro x hx
   simp only [List.mem_cons, List.not_mem_nil, or_false] at hx
   rcases hx with rfl | rfl | rfl | rfl | rfl | rfl | rfl | rfl | rfl <;> first | exact (slo_stk _ _ _).1 | exact (sio_stk _ _ _).1 | exact (xo_stk _ _).1 | exact xv_stk _)
  refine wp_region_done_on (GS wb23) (GR [2, 3, 4, 20, 21, 22, 27, 28, 29] (lookU [(2, slo wb23 6 #[.int .i64 1, .int .i64 2, .int .i64 5, .int .i64 3, .int .i64 4, .int .i64 6]), (3, xo wb23 ⟨1, [2, 3], [1, 2, 5, 3, 4, 6]⟩), (4, xv (.bool true)), (20, slo wb23 4 #[.int .i64 1, .int .i64 2, .int .i64 1, .int .i64 3]), (21, xo wb23 ⟨1, [2, 2], [1, 2, 1, 3]⟩), (22, xv (.bool true)), (27, slo wb23 2 #[.int .i64 1, .int .i64 2]), (28, xo wb23 ⟨1, [2], [1, 2]⟩), (29, xv (.bool true))]) [.agg #[.int .i64 1, .slice r17.A0 2 r17.c0, .slice r17.A1 6 r17.c1], .int .i64 0, undef, undef, undef, .bool true, .int .i64 5, .bool true, .bool true, .bool true, .int .i64 4, .bool true, .bool true, .bool true, .int .i64 3, .bool true, .bool true, .bool true, .agg #[.int .i64 1, .slice r21.A0 2 r21.c0, .slice r21.A1 4 r21.c1], .int .i64 0, undef, undef, undef, .bool true, .bool true, .agg #[.int .i64 1, .slice r22.A0 1 r22.c0, .slice r22.A1 2 r22.c1], .int .i64 0, undef, undef, undef, .bool true, .bool true, .int .i64 9, .bool true, .bool true, .bool true]) (by kernel_rfl) 472 rfl (by kernel_rfl) ((Below.refl _ _).drew) ?_ ?_
  ·intro i hi
   have hi2 : i < 36 := hi
   clear hi
   rcases i with _ | _ | _ | _ | _ | _ | _ | _ | _ | _ | _ | _ | _ | _ | _ | _ | _ | _ | _ | _ | _ | _ | _ | _ | _ | _ | _ | _ | _ | _ | _ | _ | _ | _ | _ | _ | i
   · refine gr_value rfl (by decide) (.agg #[.int .i64 1, .slice r17.A0 2 r17.c0, .slice r17.A1 6 r17.c1]) rfl ?_
     intro a8 w8 hb8 ho hn
     have o31 : a8.tmps[31]? = some _ := (ho 31 (by kernel_rfl)).trans rfl
     clear ho hn
     refine ⟨wanted_free rfl, ?_⟩
     have x := (HB_wb23.out.up hb8) 6 _ _ _ rfl
     have x0 : w8.cell? ⟨g17, 0, none⟩ = some (.int .i64 1) := x.k.cell 0
     have x1 : w8.cell? ⟨g17, 1, none⟩ = some (.slice r17.A0 2 r17.c0) := x.k.cell 1
     have x2 : w8.cell? ⟨g17, 2, none⟩ = some (.slice r17.A1 6 r17.c1) := x.k.cell 2
     clear x
     go_simp
   · refine gr_value rfl (by decide) (.int .i64 0) rfl ?_
     intro a8 w8 hb8 ho hn
     have o32 : a8.tmps[32]? = some _ := (ho 32 (by kernel_rfl)).trans rfl
     clear ho hn
     refine ⟨wanted_free rfl, ?_⟩
     go_simp
   · refine gr_make HU rfl (by decide) ?_
     refine fun _ w8 hb8 _ _ => ⟨wanted_free rfl, ?_⟩
     exact ⟨.slice (some ⟨w8.heap.size, 0, none⟩) 6 6, w8.alloc (.cells #[.int .i64 1, .int .i64 2, .int .i64 5, .int .i64 3, .int .i64 4, .int .i64 6] 2), (by go_simp), albel _ _, w8.heap.size, rfl, hb8.size, Blk.new w8 _ _⟩
   · refine gr_call HU 19 rfl (by decide) ?_
     intro a8 w8 hb8 ho hn
     obtain ⟨v292, n292, hq292⟩ := hn 2 292 (by kernel_rfl) rfl
     have hv292 := hq292.2 (by decide)
     clear ho hn
     refine ⟨wanted_free rfl, ?_⟩
     obtain ⟨g, rfl, hB, hg⟩ := hv292
     refine ⟨#[.int .i64 3, .slice (some ⟨g, 0, none⟩) 6 6], (by first | exact kc2 rfl rfl (by kernel_rfl) rfl (ev_t n292) | exact kc2 rfl rfl (by kernel_rfl) (ev_t n292) rfl | go_simp), (mat13 [1, 2, 5, 3, 4, 6] 3 (by decide) (by decide) (by decide) g 6 w8 rfl _ hB hb8.size hg).mono ?_⟩
     rintro e wz ⟨p_, rfl, o, b⟩
     exact ⟨_, rfl, b, p_, rfl, o⟩
   · refine gr_call HU 20 rfl (by decide) ?_
     intro a8 w8 hb8 ho hn
     obtain ⟨v290, n290, hq290⟩ := hn 0 290 (by kernel_rfl) rfl
     obtain rfl := hq290.1 (by decide)
     obtain ⟨v291, n291, hq291⟩ := hn 1 291 (by kernel_rfl) rfl
     obtain rfl := hq291.1 (by decide)
     obtain ⟨v293, n293, hq293⟩ := hn 3 293 (by kernel_rfl) rfl
     have hv293 := hq293.2 (by decide)
     clear ho hn
     refine ⟨wanted_free rfl, ?_⟩
     obtain ⟨q_, rfl, o_⟩ := hv293
     refine ⟨#[.agg #[.int .i64 1, .slice r17.A0 2 r17.c0, .slice r17.A1 6 r17.c1], .int .i64 0, .agg (arC ⟨1, [2, 3], [1, 2, 5, 3, 4, 6]⟩ q_)], (kc3 rfl rfl (by kernel_rfl) (ev_t n290) (ev_t n291) (ev_t n293)), (l13is_yes ⟨1, [2, 3], [1, 2, 5, 3, 4, 6]⟩ r17 q_ w8 ((HB_wb23.out.up hb8) 6 _ _ _ rfl).e (o_.el (by decide) (by decide) (by decide))).mono ?_⟩
     rintro e wz ⟨rfl, b9⟩
     exact ⟨_, rfl, b9, rfl⟩
   · refine gr_value rfl (by decide) (.bool true) rfl ?_
     intro a8 w8 hb8 ho hn
     obtain ⟨v294, n294, hq294⟩ := hn 4 294 (by kernel_rfl) rfl
     have hv294 := hq294.2 (by decide)
     clear ho hn
     refine ⟨wanted_free rfl, ?_⟩
     obtain rfl : v294 = .bool true := hv294
     go_simp
   · refine gr_value rfl (by decide) (.int .i64 5) rfl ?_
     intro a8 w8 hb8 ho hn
     have o34 : a8.tmps[34]? = some _ := (ho 34 (by kernel_rfl)).trans rfl
     obtain ⟨v295, n295, hq295⟩ := hn 5 295 (by kernel_rfl) rfl
     obtain rfl := hq295.1 (by decide)
     clear ho hn
     refine ⟨wanted_of 5 295 rfl rfl n295, ?_⟩
     go_simp
   · refine gr_value rfl (by decide) (.bool true) rfl ?_
     intro a8 w8 hb8 ho hn
     obtain ⟨v296, n296, hq296⟩ := hn 6 296 (by kernel_rfl) rfl
     obtain rfl := hq296.1 (by decide)
     obtain ⟨v295, n295, hq295⟩ := hn 5 295 (by kernel_rfl) rfl
     obtain rfl := hq295.1 (by decide)
     clear ho hn
     refine ⟨wanted_of 5 295 rfl rfl n295, ?_⟩
     go_simp
   · refine gr_value rfl (by decide) (.bool true) rfl ?_
     intro a8 w8 hb8 ho hn
     obtain ⟨v295, n295, hq295⟩ := hn 5 295 (by kernel_rfl) rfl
     obtain rfl := hq295.1 (by decide)
     obtain ⟨v297, n297, hq297⟩ := hn 7 297 (by kernel_rfl) rfl
     obtain rfl := hq297.1 (by decide)
     clear ho hn
     refine ⟨wanted_free rfl, ?_⟩
     go_simp
   · refine gr_value rfl (by decide) (.bool true) rfl ?_
     intro a8 w8 hb8 ho hn
     obtain ⟨v298, n298, hq298⟩ := hn 8 298 (by kernel_rfl) rfl
     obtain rfl := hq298.1 (by decide)
     clear ho hn
     refine ⟨wanted_free rfl, ?_⟩
     go_simp
   · refine gr_value rfl (by decide) (.int .i64 4) rfl ?_
     intro a8 w8 hb8 ho hn
     have o36 : a8.tmps[36]? = some _ := (ho 36 (by kernel_rfl)).trans rfl
     obtain ⟨v299, n299, hq299⟩ := hn 9 299 (by kernel_rfl) rfl
     obtain rfl := hq299.1 (by decide)
     clear ho hn
     refine ⟨wanted_of 9 299 rfl rfl n299, ?_⟩
     go_simp
   · refine gr_value rfl (by decide) (.bool true) rfl ?_
     intro a8 w8 hb8 ho hn
     obtain ⟨v300, n300, hq300⟩ := hn 10 300 (by kernel_rfl) rfl
     obtain rfl := hq300.1 (by decide)
     obtain ⟨v299, n299, hq299⟩ := hn 9 299 (by kernel_rfl) rfl
     obtain rfl := hq299.1 (by decide)
     clear ho hn
     refine ⟨wanted_of 9 299 rfl rfl n299, ?_⟩
     go_simp
   · refine gr_value rfl (by decide) (.bool true) rfl ?_
     intro a8 w8 hb8 ho hn
     obtain ⟨v299, n299, hq299⟩ := hn 9 299 (by kernel_rfl) rfl
     obtain rfl := hq299.1 (by decide)
     obtain ⟨v301, n301, hq301⟩ := hn 11 301 (by kernel_rfl) rfl
     obtain rfl := hq301.1 (by decide)
     clear ho hn
     refine ⟨wanted_free rfl, ?_⟩
     go_simp
   · refine gr_value rfl (by decide) (.bool true) rfl ?_
     intro a8 w8 hb8 ho hn
     obtain ⟨v302, n302, hq302⟩ := hn 12 302 (by kernel_rfl) rfl
     obtain rfl := hq302.1 (by decide)
     clear ho hn
     refine ⟨wanted_free rfl, ?_⟩
     go_simp
   · refine gr_value rfl (by decide) (.int .i64 3) rfl ?_
     intro a8 w8 hb8 ho hn
     have o38 : a8.tmps[38]? = some _ := (ho 38 (by kernel_rfl)).trans rfl
     obtain ⟨v303, n303, hq303⟩ := hn 13 303 (by kernel_rfl) rfl
     obtain rfl := hq303.1 (by decide)
     clear ho hn
     refine ⟨wanted_of 13 303 rfl rfl n303, ?_⟩
     go_simp
   · refine gr_value rfl (by decide) (.bool true) rfl ?_
     intro a8 w8 hb8 ho hn
     obtain ⟨v304, n304, hq304⟩ := hn 14 304 (by kernel_rfl) rfl
     obtain rfl := hq304.1 (by decide)
     obtain ⟨v303, n303, hq303⟩ := hn 13 303 (by kernel_rfl) rfl
     obtain rfl := hq303.1 (by decide)
     clear ho hn
     refine ⟨wanted_of 13 303 rfl rfl n303, ?_⟩
     go_simp
   · refine gr_value rfl (by decide) (.bool true) rfl ?_
     intro a8 w8 hb8 ho hn
     obtain ⟨v303, n303, hq303⟩ := hn 13 303 (by kernel_rfl) rfl
     obtain rfl := hq303.1 (by decide)
     obtain ⟨v305, n305, hq305⟩ := hn 15 305 (by kernel_rfl) rfl
     obtain rfl := hq305.1 (by decide)
     clear ho hn
     refine ⟨wanted_free rfl, ?_⟩
     go_simp
   · refine gr_value rfl (by decide) (.bool true) rfl ?_
     intro a8 w8 hb8 ho hn
     obtain ⟨v306, n306, hq306⟩ := hn 16 306 (by kernel_rfl) rfl
     obtain rfl := hq306.1 (by decide)
     clear ho hn
     refine ⟨wanted_free rfl, ?_⟩
     go_simp
   · refine gr_value rfl (by decide) (.agg #[.int .i64 1, .slice r21.A0 2 r21.c0, .slice r21.A1 4 r21.c1]) rfl ?_
     intro a8 w8 hb8 ho hn
     have o39 : a8.tmps[39]? = some _ := (ho 39 (by kernel_rfl)).trans rfl
     obtain ⟨v307, n307, hq307⟩ := hn 17 307 (by kernel_rfl) rfl
     obtain rfl := hq307.1 (by decide)
     clear ho hn
     refine ⟨wanted_of 17 307 rfl rfl n307, ?_⟩
     have x := (HB_wb23.out.up hb8) 2 _ _ _ rfl
     have x0 : w8.cell? ⟨g21, 0, none⟩ = some (.int .i64 1) := x.k.cell 0
     have x1 : w8.cell? ⟨g21, 1, none⟩ = some (.slice r21.A0 2 r21.c0) := x.k.cell 1
     have x2 : w8.cell? ⟨g21, 2, none⟩ = some (.slice r21.A1 4 r21.c1) := x.k.cell 2
     clear x
     go_simp
   · refine gr_value rfl (by decide) (.int .i64 0) rfl ?_
     intro a8 w8 hb8 ho hn
     have o40 : a8.tmps[40]? = some _ := (ho 40 (by kernel_rfl)).trans rfl
     obtain ⟨v307, n307, hq307⟩ := hn 17 307 (by kernel_rfl) rfl
     obtain rfl := hq307.1 (by decide)
     clear ho hn
     refine ⟨wanted_of 17 307 rfl rfl n307, ?_⟩
     go_simp
   · refine gr_make HU rfl (by decide) ?_
     intro a8 w8 hb8 ho hn
     obtain ⟨v307, n307, hq307⟩ := hn 17 307 (by kernel_rfl) rfl
     obtain rfl := hq307.1 (by decide)
     clear ho hn
     refine ⟨wanted_of 17 307 rfl rfl n307, ?_⟩
     exact ⟨.slice (some ⟨w8.heap.size, 0, none⟩) 4 4, w8.alloc (.cells #[.int .i64 1, .int .i64 2, .int .i64 1, .int .i64 3] 2), (by go_simp), albel _ _, w8.heap.size, rfl, hb8.size, Blk.new w8 _ _⟩
   · refine gr_call HU 19 rfl (by decide) ?_
     intro a8 w8 hb8 ho hn
     obtain ⟨v310, n310, hq310⟩ := hn 20 310 (by kernel_rfl) rfl
     have hv310 := hq310.2 (by decide)
     obtain ⟨v307, n307, hq307⟩ := hn 17 307 (by kernel_rfl) rfl
     obtain rfl := hq307.1 (by decide)
     clear ho hn
     refine ⟨wanted_of 17 307 rfl rfl n307, ?_⟩
     obtain ⟨g, rfl, hB, hg⟩ := hv310
     refine ⟨#[.int .i64 2, .slice (some ⟨g, 0, none⟩) 4 4], (by first | exact kc2 rfl rfl (by kernel_rfl) rfl (ev_t n310) | exact kc2 rfl rfl (by kernel_rfl) (ev_t n310) rfl | go_simp), (mat13 [1, 2, 1, 3] 2 (by decide) (by decide) (by decide) g 4 w8 rfl _ hB hb8.size hg).mono ?_⟩
     rintro e wz ⟨p_, rfl, o, b⟩
     exact ⟨_, rfl, b, p_, rfl, o⟩
   · refine gr_call HU 20 rfl (by decide) ?_
     intro a8 w8 hb8 ho hn
     obtain ⟨v308, n308, hq308⟩ := hn 18 308 (by kernel_rfl) rfl
     obtain rfl := hq308.1 (by decide)
     obtain ⟨v309, n309, hq309⟩ := hn 19 309 (by kernel_rfl) rfl
     obtain rfl := hq309.1 (by decide)
     obtain ⟨v311, n311, hq311⟩ := hn 21 311 (by kernel_rfl) rfl
     have hv311 := hq311.2 (by decide)
     obtain ⟨v307, n307, hq307⟩ := hn 17 307 (by kernel_rfl) rfl
     obtain rfl := hq307.1 (by decide)
     clear ho hn
     refine ⟨wanted_of 17 307 rfl rfl n307, ?_⟩
     obtain ⟨q_, rfl, o_⟩ := hv311
     refine ⟨#[.agg #[.int .i64 1, .slice r21.A0 2 r21.c0, .slice r21.A1 4 r21.c1], .int .i64 0, .agg (arC ⟨1, [2, 2], [1, 2, 1, 3]⟩ q_)], (kc3 rfl rfl (by kernel_rfl) (ev_t n308) (ev_t n309) (ev_t n311)), (l13is_yes ⟨1, [2, 2], [1, 2, 1, 3]⟩ r21 q_ w8 ((HB_wb23.out.up hb8) 2 _ _ _ rfl).e (o_.el (by decide) (by decide) (by decide))).mono ?_⟩
     rintro e wz ⟨rfl, b9⟩
     exact ⟨_, rfl, b9, rfl⟩
   · refine gr_value rfl (by decide) (.bool true) rfl ?_
     intro a8 w8 hb8 ho hn
     obtain ⟨v307, n307, hq307⟩ := hn 17 307 (by kernel_rfl) rfl
     obtain rfl := hq307.1 (by decide)
     obtain ⟨v312, n312, hq312⟩ := hn 22 312 (by kernel_rfl) rfl
     have hv312 := hq312.2 (by decide)
     clear ho hn
     refine ⟨wanted_free rfl, ?_⟩
     obtain rfl : v312 = .bool true := hv312
     go_simp
   · refine gr_value rfl (by decide) (.bool true) rfl ?_
     intro a8 w8 hb8 ho hn
     obtain ⟨v313, n313, hq313⟩ := hn 23 313 (by kernel_rfl) rfl
     obtain rfl := hq313.1 (by decide)
     clear ho hn
     refine ⟨wanted_free rfl, ?_⟩
     go_simp
   · refine gr_value rfl (by decide) (.agg #[.int .i64 1, .slice r22.A0 1 r22.c0, .slice r22.A1 2 r22.c1]) rfl ?_
     intro a8 w8 hb8 ho hn
     have o41 : a8.tmps[41]? = some _ := (ho 41 (by kernel_rfl)).trans rfl
     obtain ⟨v314, n314, hq314⟩ := hn 24 314 (by kernel_rfl) rfl
     obtain rfl := hq314.1 (by decide)
     clear ho hn
     refine ⟨wanted_of 24 314 rfl rfl n314, ?_⟩
     have x := (HB_wb23.out.up hb8) 1 _ _ _ rfl
     have x0 : w8.cell? ⟨g22, 0, none⟩ = some (.int .i64 1) := x.k.cell 0
     have x1 : w8.cell? ⟨g22, 1, none⟩ = some (.slice r22.A0 1 r22.c0) := x.k.cell 1
     have x2 : w8.cell? ⟨g22, 2, none⟩ = some (.slice r22.A1 2 r22.c1) := x.k.cell 2
     clear x
     go_simp
   · refine gr_value rfl (by decide) (.int .i64 0) rfl ?_
     intro a8 w8 hb8 ho hn
     have o42 : a8.tmps[42]? = some _ := (ho 42 (by kernel_rfl)).trans rfl
     obtain ⟨v314, n314, hq314⟩ := hn 24 314 (by kernel_rfl) rfl
     obtain rfl := hq314.1 (by decide)
     clear ho hn
     refine ⟨wanted_of 24 314 rfl rfl n314, ?_⟩
     go_simp
   · refine gr_make HU rfl (by decide) ?_
     intro a8 w8 hb8 ho hn
     obtain ⟨v314, n314, hq314⟩ := hn 24 314 (by kernel_rfl) rfl
     obtain rfl := hq314.1 (by decide)
     clear ho hn
     refine ⟨wanted_of 24 314 rfl rfl n314, ?_⟩
     exact ⟨.slice (some ⟨w8.heap.size, 0, none⟩) 2 2, w8.alloc (.cells #[.int .i64 1, .int .i64 2] 2), (by go_simp), albel _ _, w8.heap.size, rfl, hb8.size, Blk.new w8 _ _⟩
   · refine gr_call HU 18 rfl (by decide) ?_
     intro a8 w8 hb8 ho hn
     obtain ⟨v317, n317, hq317⟩ := hn 27 317 (by kernel_rfl) rfl
     have hv317 := hq317.2 (by decide)
     obtain ⟨v314, n314, hq314⟩ := hn 24 314 (by kernel_rfl) rfl
     obtain rfl := hq314.1 (by decide)
     clear ho hn
     refine ⟨wanted_of 24 314 rfl rfl n314, ?_⟩
     obtain ⟨g, rfl, _, hg⟩ := hv317
     refine ⟨#[.slice (some ⟨g, 0, none⟩) 2 2], (kc1 rfl rfl (by kernel_rfl) (ev_t n317)), (vec_lit [1, 2] (by decide) _ 2 2 w8 rfl (reads_blk hg rfl)).mono ?_⟩
     rintro e wz ⟨p_, rfl, o, b⟩
     exact ⟨_, rfl, b, p_, rfl, o.mono hb8.size⟩
   · refine gr_call HU 20 rfl (by decide) ?_
     intro a8 w8 hb8 ho hn
     obtain ⟨v315, n315, hq315⟩ := hn 25 315 (by kernel_rfl) rfl
     obtain rfl := hq315.1 (by decide)
     obtain ⟨v316, n316, hq316⟩ := hn 26 316 (by kernel_rfl) rfl
     obtain rfl := hq316.1 (by decide)
     obtain ⟨v318, n318, hq318⟩ := hn 28 318 (by kernel_rfl) rfl
     have hv318 := hq318.2 (by decide)
     obtain ⟨v314, n314, hq314⟩ := hn 24 314 (by kernel_rfl) rfl
     obtain rfl := hq314.1 (by decide)
     clear ho hn
     refine ⟨wanted_of 24 314 rfl rfl n314, ?_⟩
     obtain ⟨q_, rfl, o_⟩ := hv318
     refine ⟨#[.agg #[.int .i64 1, .slice r22.A0 1 r22.c0, .slice r22.A1 2 r22.c1], .int .i64 0, .agg (arC ⟨1, [2], [1, 2]⟩ q_)], (kc3 rfl rfl (by kernel_rfl) (ev_t n315) (ev_t n316) (ev_t n318)), (l13is_yes ⟨1, [2], [1, 2]⟩ r22 q_ w8 ((HB_wb23.out.up hb8) 1 _ _ _ rfl).e (o_.el (by decide) (by decide) (by decide))).mono ?_⟩
     rintro e wz ⟨rfl, b9⟩
     exact ⟨_, rfl, b9, rfl⟩
   · refine gr_value rfl (by decide) (.bool true) rfl ?_
     intro a8 w8 hb8 ho hn
     obtain ⟨v314, n314, hq314⟩ := hn 24 314 (by kernel_rfl) rfl
     obtain rfl := hq314.1 (by decide)
     obtain ⟨v319, n319, hq319⟩ := hn 29 319 (by kernel_rfl) rfl
     have hv319 := hq319.2 (by decide)
     clear ho hn
     refine ⟨wanted_free rfl, ?_⟩
     obtain rfl : v319 = .bool true := hv319
     go_simp
   · refine gr_value rfl (by decide) (.bool true) rfl ?_
     intro a8 w8 hb8 ho hn
     obtain ⟨v320, n320, hq320⟩ := hn 30 320 (by kernel_rfl) rfl
     obtain rfl := hq320.1 (by decide)
     clear ho hn
     refine ⟨wanted_free rfl, ?_⟩
     go_simp
   · refine gr_value rfl (by decide) (.int .i64 9) rfl ?_
     intro a8 w8 hb8 ho hn
     have o44 : a8.tmps[44]? = some _ := (ho 44 (by kernel_rfl)).trans rfl
     obtain ⟨v321, n321, hq321⟩ := hn 31 321 (by kernel_rfl) rfl
     obtain rfl := hq321.1 (by decide)
     clear ho hn
     refine ⟨wanted_of 31 321 rfl rfl n321, ?_⟩
     go_simp
   · refine gr_value rfl (by decide) (.bool true) rfl ?_
     intro a8 w8 hb8 ho hn
     obtain ⟨v322, n322, hq322⟩ := hn 32 322 (by kernel_rfl) rfl
     obtain rfl := hq322.1 (by decide)
     obtain ⟨v321, n321, hq321⟩ := hn 31 321 (by kernel_rfl) rfl
     obtain rfl := hq321.1 (by decide)
     clear ho hn
     refine ⟨wanted_of 31 321 rfl rfl n321, ?_⟩
     go_simp
   · refine gr_value rfl (by decide) (.bool true) rfl ?_
     intro a8 w8 hb8 ho hn
     obtain ⟨v321, n321, hq321⟩ := hn 31 321 (by kernel_rfl) rfl
     obtain rfl := hq321.1 (by decide)
     obtain ⟨v323, n323, hq323⟩ := hn 33 323 (by kernel_rfl) rfl
     obtain rfl := hq323.1 (by decide)
     clear ho hn
     refine ⟨wanted_free rfl, ?_⟩
     go_simp
   · refine gr_value rfl (by decide) (.bool true) rfl ?_
     intro a8 w8 hb8 ho hn
     obtain ⟨v324, n324, hq324⟩ := hn 34 324 (by kernel_rfl) rfl
     obtain rfl := hq324.1 (by decide)
     clear ho hn
     refine ⟨wanted_free rfl, ?_⟩
     go_simp
   omega
  intro dn fv wb24 hb_wb24 hR5 hall
  have h45 : fv 45 = _ := (hR5 35 45 rfl).1 (by decide)
  simp only [putAll, List.foldl_cons, List.foldl_nil, Act.put, List.setIfInBounds_toArray, List.set_cons_succ, List.set_cons_zero, h45, List.getD_cons_zero, List.getD_cons_succ]
  clear hR5 hall
  have HB_wb24 := Lib.hid (HB_wb23.out.up hb_wb24)
  have BW_wb24 := Lib.hid (bon BW_wb23.out hb_wb24)
  generalize fv 290 = u290, fv 291 = u291, fv 292 = u292, fv 293 = u293, fv 294 = u294, fv 295 = u295, fv 296 = u296, fv 297 = u297
  generalize fv 298 = u298, fv 299 = u299, fv 300 = u300, fv 301 = u301, fv 302 = u302, fv 303 = u303, fv 304 = u304, fv 305 = u305
  generalize fv 306 = u306, fv 307 = u307, fv 308 = u308, fv 309 = u309, fv 310 = u310, fv 311 = u311, fv 312 = u312, fv 313 = u313
  generalize fv 314 = u314, fv 315 = u315, fv 316 = u316, fv 317 = u317, fv 318 = u318, fv 319 = u319, fv 320 = u320, fv 321 = u321
  generalize fv 322 = u322, fv 323 = u323, fv 324 = u324
  clear hb_wb24 HU h45 HB_wb23 BW_wb23
  go_upto_region 25 with (fail)
  have HUX : BxU wb24 (lookU [(0, xo wb24 ⟨1, [], [3]⟩), (1, xto wb24 ⟨1, [3], [1, 2, 3]⟩ 0), (2, xto wb24 ⟨1, [3], [1, 2, 3]⟩ 0), (3, xo wb24 ⟨1, [3], [1, 2, 3]⟩)]) := lookU_two (by
   intro x hx
   simp only [List.mem_cons, List.not_mem_nil, or_false] at hx
   rcases hx with rfl | rfl | rfl | rfl <;> first | exact xo_stk _ _ | exact slo_stk _ _ _ | exact sio_stk _ _ _ | exact xto_stk _ _ _)
  refine qX HUX 5 6 46 ⟨1, [3], [1, 2, 3]⟩ [0, 1, 2, 3] [undef, undef, undef, undef, .int .i64 0, undef, undef, .int .i64 0] (by kernel_rfl) 472 rfl (by kernel_rfl) ?_ ?_
  ·intro i hi
   have hi2 : i < 8 := hi
   clear hi
   rcases i with _ | _ | _ | _ | _ | _ | _ | _ | i
   · refine kx HUX 16 rfl 326 rfl ?_
     refine fun _ w8 hb8 _ _ => ⟨wanted_free rfl, ?_⟩
     refine ⟨#[.int .i64 3], (by kernel_rfl), (sca_lit 3 w8).mono ?_⟩
     rintro e wz ⟨p_, rfl, o, b⟩
     exact ⟨_, rfl, b, p_, rfl, o.mono hb8.size⟩
   · refine kx HUX 24 rfl 327 rfl ?_
     intro a8 w8 hb8 ho hn
     obtain ⟨v326, n326, hq326⟩ := hn 0 326 (by kernel_rfl) rfl
     have hv326 := hq326.2 (by decide)
     clear ho hn
     refine ⟨wanted_free rfl, ?_⟩
     obtain ⟨q0_, rfl, o0_⟩ := hv326
     refine ⟨#[.agg (arC ⟨1, [], [3]⟩ q0_)], (kc1 rfl rfl (by kernel_rfl) (ev_t n326)), (c21 q0_ w8 (o0_.el (by decide) (by decide) (by decide)) (Cap.of o0_)).mono ?_⟩
     rintro e wz ⟨r, rfl, o9, b9⟩
     exact ⟨_, rfl, b9, r, rfl, o9.mono hb8.size⟩
   · refine mx HUX rfl 325 rfl ?_
     intro a8 w8 hb8 ho hn
     obtain ⟨v327, n327, hq327⟩ := hn 1 327 (by kernel_rfl) rfl
     have hv327 := hq327.2 (by decide)
     clear ho hn
     refine ⟨wanted_free rfl, ?_⟩
     exact ⟨v327, w8, (by go_simp), Below.refl _ _, hv327⟩
   · refine mx HUX rfl 328 rfl ?_
     intro a8 w8 hb8 ho hn
     obtain ⟨v325, n325, hq325⟩ := hn 2 325 (by kernel_rfl) rfl
     have hv325 := hq325.2 (by decide)
     clear ho hn
     refine ⟨wanted_free rfl, ?_⟩
     obtain ⟨p_, rfl, o⟩ := hv325
     exact ⟨.agg (arC ⟨1, [3], [1, 2, 3]⟩ p_), w8, (by go_simp), Below.refl _ _, p_, rfl, o⟩
   · refine vx HUX rfl 329 rfl (.int .i64 0) rfl ?_
     intro a8 w8 hb8 ho hn
     obtain ⟨v325, n325, hq325⟩ := hn 2 325 (by kernel_rfl) rfl
     have hv325 := hq325.2 (by decide)
     clear ho hn
     refine ⟨wanted_free rfl, ?_⟩
     obtain ⟨p_, rfl, o⟩ := hv325
     go_simp
   · refine bx_alloc HUX rfl (by decide) (by decide) rfl (.int .i64 0) (.slice none 0 0) (.slice none 0 0) ?_
     intro a8 w8 ho
     have o471 : a8.tmps[471]? = some _ := (ho 471 (by kernel_rfl)).trans rfl
     have hsz : 471 < a8.tmps.size := (Array.getElem?_eq_some_iff.1 o471).1
     refine ⟨by omega, wanted_free rfl, ?_⟩
     go_simp
   · refine bx_store HUX rfl rfl (by decide) (by decide) rfl (by kernel_rfl) rfl ?_
     intro a8 w8 g u0 u1 u2 hg n46 hn
     obtain ⟨v328, n328, hq328⟩ := hn 3 328 (by kernel_rfl) rfl
     have hv328 := hq328.2 (by decide)
     clear hn
     refine ⟨wanted_free rfl, ?_⟩
     obtain ⟨r, rfl, o⟩ := hv328
     have x0 := hg.cell 0
     have x1 := hg.cell 1
     have x2 := hg.cell 2
     have f0 := hg.frozen 0
     have f1 := hg.frozen 1
     have f2 := hg.frozen 2
     refine ⟨r, o, ?_⟩
     rw [show arC ⟨1, [3], [1, 2, 3]⟩ r = #[.int .i64 1, .slice r.A0 1 r.c0, .slice r.A1 3 r.c1] from rfl] at n328
     clear hg o
     go_simp
   · refine vx HUX rfl 47 rfl (.int .i64 0) rfl ?_
     intro a8 w8 hb8 ho hn
     obtain ⟨v329, n329, hq329⟩ := hn 4 329 (by kernel_rfl) rfl
     obtain rfl := hq329.1 (by decide) (by decide)
     clear ho hn
     refine ⟨wanted_free rfl, ?_⟩
     go_simp
   omega
  intro dn fv wb25 hS5 hR5 hall
  obtain ⟨g25, e8, hg8, _, hfin⟩ := hS5.h (hall 5 (by decide))
  have e8 := put_at e8 472 rfl (by decide) rfl
  obtain ⟨r25, hb8, ho8⟩ := hfin (hall 6 (by decide))
  have hbw := hS5.b
  have h48 : fv 47 = .int .i64 0 := (hR5 7 47 rfl).1 (by decide) (by decide)
  clear hS5 hR5 hall hfin
  simp only [putAll, List.foldl_cons, List.foldl_nil, Act.put, List.setIfInBounds_toArray, List.set_cons_succ, List.set_cons_zero]
  rw [e8, h48]
  have HB_wb25 := Lib.hid (bxs_cons (g := g25) (X := ⟨1, [3], [1, 2, 3]⟩) (p := r25) (HB_wb24.out.up hbw) ⟨hb8, ho8.el (by decide) (by decide) (by decide), Cap.of ho8⟩)
  have BW_wb25 := Lib.hid (bon BW_wb24.out hbw)
  generalize fv 326 = u326, fv 327 = u327, fv 325 = u325, fv 328 = u328, fv 329 = u329
  clear hb8 ho8 hbw e8 h48 hg8 HUX HB_wb24 BW_wb24
  go_upto_region 26 with (fail)
  have HUX : BxU wb25 (lookU [(0, xo wb25 ⟨1, [], [4097]⟩), (1, xto wb25 ⟨0, [], []⟩ 9), (2, xto wb25 ⟨0, [], []⟩ 9), (3, xo wb25 ⟨0, [], []⟩)]) := lookU_two (by
   intro x hx
   simp only [List.mem_cons, List.not_mem_nil, or_false] at hx
   rcases hx with rfl | rfl | rfl | rfl <;> first | exact xo_stk _ _ | exact slo_stk _ _ _ | exact sio_stk _ _ _ | exact xto_stk _ _ _)
  refine qX HUX 5 6 48 ⟨0, [], []⟩ [0, 1, 2, 3] [undef, undef, undef, undef, .int .i64 9, undef, undef, .int .i64 9] (by kernel_rfl) 472 rfl (by kernel_rfl) ?_ ?_
  ·intro i hi
   have hi2 : i < 8 := hi
   clear hi
   rcases i with _ | _ | _ | _ | _ | _ | _ | _ | i
   · refine kx HUX 16 rfl 331 rfl ?_
     refine fun _ w8 hb8 _ _ => ⟨wanted_free rfl, ?_⟩
     refine ⟨#[.int .i64 4097], (by kernel_rfl), (sca_lit 4097 w8).mono ?_⟩
     rintro e wz ⟨p_, rfl, o, b⟩
     exact ⟨_, rfl, b, p_, rfl, o.mono hb8.size⟩
   · refine kx HUX 24 rfl 332 rfl ?_
     intro a8 w8 hb8 ho hn
     obtain ⟨v331, n331, hq331⟩ := hn 0 331 (by kernel_rfl) rfl
     have hv331 := hq331.2 (by decide)
     clear ho hn
     refine ⟨wanted_free rfl, ?_⟩
     obtain ⟨q0_, rfl, o0_⟩ := hv331
     refine ⟨#[.agg (arC ⟨1, [], [4097]⟩ q0_)], (kc1 rfl rfl (by kernel_rfl) (ev_t n331)), (c22 q0_ w8 (o0_.el (by decide) (by decide) (by decide)) (Cap.of o0_)).mono ?_⟩
     rintro e wz ⟨r, rfl, o9, b9⟩
     exact ⟨_, rfl, b9, r, rfl, o9.mono hb8.size⟩
   · refine mx HUX rfl 330 rfl ?_
     intro a8 w8 hb8 ho hn
     obtain ⟨v332, n332, hq332⟩ := hn 1 332 (by kernel_rfl) rfl
     have hv332 := hq332.2 (by decide)
     clear ho hn
     refine ⟨wanted_free rfl, ?_⟩
     exact ⟨v332, w8, (by go_simp), Below.refl _ _, hv332⟩
   · refine mx HUX rfl 333 rfl ?_
     intro a8 w8 hb8 ho hn
     obtain ⟨v330, n330, hq330⟩ := hn 2 330 (by kernel_rfl) rfl
     have hv330 := hq330.2 (by decide)
     clear ho hn
     refine ⟨wanted_free rfl, ?_⟩
     obtain ⟨p_, rfl, o⟩ := hv330
     exact ⟨.agg (arC ⟨0, [], []⟩ p_), w8, (by go_simp), Below.refl _ _, p_, rfl, o⟩
   · refine vx HUX rfl 334 rfl (.int .i64 9) rfl ?_
     intro a8 w8 hb8 ho hn
     obtain ⟨v330, n330, hq330⟩ := hn 2 330 (by kernel_rfl) rfl
     have hv330 := hq330.2 (by decide)
     clear ho hn
     refine ⟨wanted_free rfl, ?_⟩
     obtain ⟨p_, rfl, o⟩ := hv330
     go_simp
   · refine bx_alloc HUX rfl (by decide) (by decide) rfl (.int .i64 0) (.slice none 0 0) (.slice none 0 0) ?_
     intro a8 w8 ho
     have o471 : a8.tmps[471]? = some _ := (ho 471 (by kernel_rfl)).trans rfl
     have hsz : 471 < a8.tmps.size := (Array.getElem?_eq_some_iff.1 o471).1
     refine ⟨by omega, wanted_free rfl, ?_⟩
     go_simp
   · refine bx_store HUX rfl rfl (by decide) (by decide) rfl (by kernel_rfl) rfl ?_
     intro a8 w8 g u0 u1 u2 hg n48 hn
     obtain ⟨v333, n333, hq333⟩ := hn 3 333 (by kernel_rfl) rfl
     have hv333 := hq333.2 (by decide)
     clear hn
     refine ⟨wanted_free rfl, ?_⟩
     obtain ⟨r, rfl, o⟩ := hv333
     have x0 := hg.cell 0
     have x1 := hg.cell 1
     have x2 := hg.cell 2
     have f0 := hg.frozen 0
     have f1 := hg.frozen 1
     have f2 := hg.frozen 2
     refine ⟨r, o, ?_⟩
     rw [show arC ⟨0, [], []⟩ r = #[.int .i64 0, .slice r.A0 0 r.c0, .slice r.A1 0 r.c1] from rfl] at n333
     clear hg o
     go_simp
   · refine vx HUX rfl 49 rfl (.int .i64 9) rfl ?_
     intro a8 w8 hb8 ho hn
     obtain ⟨v334, n334, hq334⟩ := hn 4 334 (by kernel_rfl) rfl
     obtain rfl := hq334.1 (by decide) (by decide)
     clear ho hn
     refine ⟨wanted_free rfl, ?_⟩
     go_simp
   omega
  intro dn fv wb26 hS5 hR5 hall
  obtain ⟨g26, e8, hg8, _, hfin⟩ := hS5.h (hall 5 (by decide))
  have e8 := put_at e8 472 rfl (by decide) rfl
  obtain ⟨r26, hb8, ho8⟩ := hfin (hall 6 (by decide))
  have hbw := hS5.b
  have h48 : fv 49 = .int .i64 9 := (hR5 7 49 rfl).1 (by decide) (by decide)
  clear hS5 hR5 hall hfin
  simp only [putAll, List.foldl_cons, List.foldl_nil, Act.put, List.setIfInBounds_toArray, List.set_cons_succ, List.set_cons_zero]
  rw [e8, h48]
  have HB_wb26 := Lib.hid (bxs_cons (g := g26) (X := ⟨0, [], []⟩) (p := r26) (HB_wb25.out.up hbw) ⟨hb8, ho8.el (by decide) (by decide) (by decide), Cap.of ho8⟩)
  have BW_wb26 := Lib.hid (bon BW_wb25.out hbw)
  generalize fv 331 = u331, fv 332 = u332, fv 330 = u330, fv 333 = u333, fv 334 = u334
  clear hb8 ho8 hbw e8 h48 hg8 HUX HB_wb25 BW_wb25
  go_upto_region 27 with (fail)
  have HUX : BxU wb26 (lookU [(0, slo wb26 1 #[.int .i64 3]), (1, xo wb26 ⟨1, [1], [3]⟩), (2, xto wb26 ⟨0, [], []⟩ 3), (3, xto wb26 ⟨0, [], []⟩ 3), (4, xo wb26 ⟨0, [], []⟩)]) := lookU_two (by
   intro x hx
   simp only [List.mem_cons, List.not_mem_nil, or_false] at hx
   rcases hx with rfl | rfl | rfl | rfl | rfl <;> first | exact xo_stk _ _ | exact slo_stk _ _ _ | exact sio_stk _ _ _ | exact xto_stk _ _ _)
  refine qX HUX 6 7 50 ⟨0, [], []⟩ [0, 1, 2, 3, 4] [undef, undef, undef, undef, undef, .int .i64 3, undef, undef, .int .i64 3] (by kernel_rfl) 472 rfl (by kernel_rfl) ?_ ?_
  ·intro i hi
   have hi2 : i < 9 := hi
   clear hi
   rcases i with _ | _ | _ | _ | _ | _ | _ | _ | _ | i
   · refine mx HUX rfl 336 rfl ?_
     refine fun _ w8 hb8 _ _ => ⟨wanted_free rfl, ?_⟩
     exact ⟨.slice (some ⟨w8.heap.size, 0, none⟩) 1 1, w8.alloc (.cells #[.int .i64 3] 2), (by go_simp), albel _ _, w8.heap.size, rfl, hb8.size, Blk.new w8 _ _⟩
   · refine kx HUX 18 rfl 337 rfl ?_
     intro a8 w8 hb8 ho hn
     obtain ⟨v336, n336, hq336⟩ := hn 0 336 (by kernel_rfl) rfl
     have hv336 := hq336.2 (by decide)
     clear ho hn
     refine ⟨wanted_free rfl, ?_⟩
     obtain ⟨g, rfl, _, hg⟩ := hv336
     refine ⟨#[.slice (some ⟨g, 0, none⟩) 1 1], (kc1 rfl rfl (by kernel_rfl) (ev_t n336)), (vec_lit [3] (by decide) _ 1 1 w8 rfl (reads_blk hg rfl)).mono ?_⟩
     rintro e wz ⟨p_, rfl, o, b⟩
     exact ⟨_, rfl, b, p_, rfl, o.mono hb8.size⟩
   · refine kx HUX 24 rfl 338 rfl ?_
     intro a8 w8 hb8 ho hn
     obtain ⟨v337, n337, hq337⟩ := hn 1 337 (by kernel_rfl) rfl
     have hv337 := hq337.2 (by decide)
     clear ho hn
     refine ⟨wanted_free rfl, ?_⟩
     obtain ⟨q0_, rfl, o0_⟩ := hv337
     refine ⟨#[.agg (arC ⟨1, [1], [3]⟩ q0_)], (kc1 rfl rfl (by kernel_rfl) (ev_t n337)), (c23 q0_ w8 (o0_.el (by decide) (by decide) (by decide)) (Cap.of o0_)).mono ?_⟩
     rintro e wz ⟨r, rfl, o9, b9⟩
     exact ⟨_, rfl, b9, r, rfl, o9.mono hb8.size⟩
   · refine mx HUX rfl 335 rfl ?_
     intro a8 w8 hb8 ho hn
     obtain ⟨v338, n338, hq338⟩ := hn 2 338 (by kernel_rfl) rfl
     have hv338 := hq338.2 (by decide)
     clear ho hn
     refine ⟨wanted_free rfl, ?_⟩
     exact ⟨v338, w8, (by go_simp), Below.refl _ _, hv338⟩
   · refine mx HUX rfl 339 rfl ?_
     intro a8 w8 hb8 ho hn
     obtain ⟨v335, n335, hq335⟩ := hn 3 335 (by kernel_rfl) rfl
     have hv335 := hq335.2 (by decide)
     clear ho hn
     refine ⟨wanted_free rfl, ?_⟩
     obtain ⟨p_, rfl, o⟩ := hv335
     exact ⟨.agg (arC ⟨0, [], []⟩ p_), w8, (by go_simp), Below.refl _ _, p_, rfl, o⟩
   · refine vx HUX rfl 340 rfl (.int .i64 3) rfl ?_
     intro a8 w8 hb8 ho hn
     obtain ⟨v335, n335, hq335⟩ := hn 3 335 (by kernel_rfl) rfl
     have hv335 := hq335.2 (by decide)
     clear ho hn
     refine ⟨wanted_free rfl, ?_⟩
     obtain ⟨p_, rfl, o⟩ := hv335
     go_simp
   · refine bx_alloc HUX rfl (by decide) (by decide) rfl (.int .i64 0) (.slice none 0 0) (.slice none 0 0) ?_
     intro a8 w8 ho
     have o471 : a8.tmps[471]? = some _ := (ho 471 (by kernel_rfl)).trans rfl
     have hsz : 471 < a8.tmps.size := (Array.getElem?_eq_some_iff.1 o471).1
     refine ⟨by omega, wanted_free rfl, ?_⟩
     go_simp
   · refine bx_store HUX rfl rfl (by decide) (by decide) rfl (by kernel_rfl) rfl ?_
     intro a8 w8 g u0 u1 u2 hg n50 hn
     obtain ⟨v339, n339, hq339⟩ := hn 4 339 (by kernel_rfl) rfl
     have hv339 := hq339.2 (by decide)
     clear hn
     refine ⟨wanted_free rfl, ?_⟩
     obtain ⟨r, rfl, o⟩ := hv339
     have x0 := hg.cell 0
     have x1 := hg.cell 1
     have x2 := hg.cell 2
     have f0 := hg.frozen 0
     have f1 := hg.frozen 1
     have f2 := hg.frozen 2
     refine ⟨r, o, ?_⟩
     rw [show arC ⟨0, [], []⟩ r = #[.int .i64 0, .slice r.A0 0 r.c0, .slice r.A1 0 r.c1] from rfl] at n339
     clear hg o
     go_simp
   · refine vx HUX rfl 51 rfl (.int .i64 3) rfl ?_
     intro a8 w8 hb8 ho hn
     obtain ⟨v340, n340, hq340⟩ := hn 5 340 (by kernel_rfl) rfl
     obtain rfl := hq340.1 (by decide) (by decide)
     clear ho hn
     refine ⟨wanted_free rfl, ?_⟩
     go_simp
   omega
  intro dn fv wb27 hS5 hR5 hall
  obtain ⟨g27, e8, hg8, _, hfin⟩ := hS5.h (hall 6 (by decide))
  have e8 := put_at e8 472 rfl (by decide) rfl
  obtain ⟨r27, hb8, ho8⟩ := hfin (hall 7 (by decide))
  have hbw := hS5.b
  have h48 : fv 51 = .int .i64 3 := (hR5 8 51 rfl).1 (by decide) (by decide)
  clear hS5 hR5 hall hfin
  simp only [putAll, List.foldl_cons, List.foldl_nil, Act.put, List.setIfInBounds_toArray, List.set_cons_succ, List.set_cons_zero]
  rw [e8, h48]
  have HB_wb27 := Lib.hid (bxs_cons (g := g27) (X := ⟨0, [], []⟩) (p := r27) (HB_wb26.out.up hbw) ⟨hb8, ho8.el (by decide) (by decide) (by decide), Cap.of ho8⟩)
  have BW_wb27 := Lib.hid (bon BW_wb26.out hbw)
  generalize fv 336 = u336, fv 337 = u337, fv 338 = u338, fv 335 = u335, fv 339 = u339, fv 340 = u340
  clear hb8 ho8 hbw e8 h48 hg8 HUX HB_wb26 BW_wb26
  go_upto_region 28 with (fail)
  have HUX : BxU wb27 (lookU [(0, xo wb27 ⟨1, [], [-1]⟩), (1, xto wb27 ⟨0, [], []⟩ 5), (2, xto wb27 ⟨0, [], []⟩ 5), (3, xo wb27 ⟨0, [], []⟩)]) := lookU_two (by
   intro x hx
   simp only [List.mem_cons, List.not_mem_nil, or_false] at hx
   rcases hx with rfl | rfl | rfl | rfl <;> first | exact xo_stk _ _ | exact slo_stk _ _ _ | exact sio_stk _ _ _ | exact xto_stk _ _ _)
  refine qX HUX 5 6 52 ⟨0, [], []⟩ [0, 1, 2, 3] [undef, undef, undef, undef, .int .i64 5, undef, undef, .int .i64 5] (by kernel_rfl) 472 rfl (by kernel_rfl) ?_ ?_
  ·intro i hi
   have hi2 : i < 8 := hi
   clear hi
   rcases i with _ | _ | _ | _ | _ | _ | _ | _ | i
   · refine kx HUX 16 rfl 342 rfl ?_
     refine fun _ w8 hb8 _ _ => ⟨wanted_free rfl, ?_⟩
     refine ⟨#[.int .i64 (-1)], (by kernel_rfl), (sca_lit (-1) w8).mono ?_⟩
     rintro e wz ⟨p_, rfl, o, b⟩
     exact ⟨_, rfl, b, p_, rfl, o.mono hb8.size⟩
   · refine kx HUX 24 rfl 343 rfl ?_
     intro a8 w8 hb8 ho hn
     obtain ⟨v342, n342, hq342⟩ := hn 0 342 (by kernel_rfl) rfl
     have hv342 := hq342.2 (by decide)
     clear ho hn
     refine ⟨wanted_free rfl, ?_⟩
     obtain ⟨q0_, rfl, o0_⟩ := hv342
     refine ⟨#[.agg (arC ⟨1, [], [-1]⟩ q0_)], (kc1 rfl rfl (by kernel_rfl) (ev_t n342)), (c24 q0_ w8 (o0_.el (by decide) (by decide) (by decide)) (Cap.of o0_)).mono ?_⟩
     rintro e wz ⟨r, rfl, o9, b9⟩
     exact ⟨_, rfl, b9, r, rfl, o9.mono hb8.size⟩
   · refine mx HUX rfl 341 rfl ?_
     intro a8 w8 hb8 ho hn
     obtain ⟨v343, n343, hq343⟩ := hn 1 343 (by kernel_rfl) rfl
     have hv343 := hq343.2 (by decide)
     clear ho hn
     refine ⟨wanted_free rfl, ?_⟩
     exact ⟨v343, w8, (by go_simp), Below.refl _ _, hv343⟩
   · refine mx HUX rfl 344 rfl ?_
     intro a8 w8 hb8 ho hn
     obtain ⟨v341, n341, hq341⟩ := hn 2 341 (by kernel_rfl) rfl
     have hv341 := hq341.2 (by decide)
     clear ho hn
     refine ⟨wanted_free rfl, ?_⟩
     obtain ⟨p_, rfl, o⟩ := hv341
     exact ⟨.agg (arC ⟨0, [], []⟩ p_), w8, (by go_simp), Below.refl _ _, p_, rfl, o⟩
   · refine vx HUX rfl 345 rfl (.int .i64 5) rfl ?_
     intro a8 w8 hb8 ho hn
     obtain ⟨v341, n341, hq341⟩ := hn 2 341 (by kernel_rfl) rfl
     have hv341 := hq341.2 (by decide)
     clear ho hn
     refine ⟨wanted_free rfl, ?_⟩
     obtain ⟨p_, rfl, o⟩ := hv341
     go_simp
   · refine bx_alloc HUX rfl (by decide) (by decide) rfl (.int .i64 0) (.slice none 0 0) (.slice none 0 0) ?_
     intro a8 w8 ho
     have o471 : a8.tmps[471]? = some _ := (ho 471 (by kernel_rfl)).trans rfl
     have hsz : 471 < a8.tmps.size := (Array.getElem?_eq_some_iff.1 o471).1
     refine ⟨by omega, wanted_free rfl, ?_⟩
     go_simp
   · refine bx_store HUX rfl rfl (by decide) (by decide) rfl (by kernel_rfl) rfl ?_
     intro a8 w8 g u0 u1 u2 hg n52 hn
     obtain ⟨v344, n344, hq344⟩ := hn 3 344 (by kernel_rfl) rfl
     have hv344 := hq344.2 (by decide)
     clear hn
     refine ⟨wanted_free rfl, ?_⟩
     obtain ⟨r, rfl, o⟩ := hv344
     have x0 := hg.cell 0
     have x1 := hg.cell 1
     have x2 := hg.cell 2
     have f0 := hg.frozen 0
     have f1 := hg.frozen 1
     have f2 := hg.frozen 2
     refine ⟨r, o, ?_⟩
     rw [show arC ⟨0, [], []⟩ r = #[.int .i64 0, .slice r.A0 0 r.c0, .slice r.A1 0 r.c1] from rfl] at n344
     clear hg o
     go_simp
   · refine vx HUX rfl 53 rfl (.int .i64 5) rfl ?_
     intro a8 w8 hb8 ho hn
     obtain ⟨v345, n345, hq345⟩ := hn 4 345 (by kernel_rfl) rfl
     obtain rfl := hq345.1 (by decide) (by decide)
     clear ho hn
     refine ⟨wanted_free rfl, ?_⟩
     go_simp
   omega
  intro dn fv wb28 hS5 hR5 hall
  obtain ⟨g28, e8, hg8, _, hfin⟩ := hS5.h (hall 5 (by decide))
  have e8 := put_at e8 472 rfl (by decide) rfl
  obtain ⟨r28, hb8, ho8⟩ := hfin (hall 6 (by decide))
  have hbw := hS5.b
  have h48 : fv 53 = .int .i64 5 := (hR5 7 53 rfl).1 (by decide) (by decide)
  clear hS5 hR5 hall hfin
  simp only [putAll, List.foldl_cons, List.foldl_nil, Act.put, List.setIfInBounds_toArray, List.set_cons_succ, List.set_cons_zero]
  rw [e8, h48]
  have HB_wb28 := Lib.hid (bxs_cons (g := g28) (X := ⟨0, [], []⟩) (p := r28) (HB_wb27.out.up hbw) ⟨hb8, ho8.el (by decide) (by decide) (by decide), Cap.of ho8⟩)
  have BW_wb28 := Lib.hid (bon BW_wb27.out hbw)
  generalize fv 342 = u342, fv 343 = u343, fv 341 = u341, fv 344 = u344, fv 345 = u345
  clear hb8 ho8 hbw e8 h48 hg8 HUX HB_wb27 BW_wb27
  go_upto_region 29 with (fail)
  have HUX : BxU wb28 (lookU [(0, xo wb28 ⟨1, [], [9]⟩), (1, xto wb28 ⟨1, [], [1]⟩ 0), (2, xto wb28 ⟨1, [], [1]⟩ 0), (3, xo wb28 ⟨1, [], [1]⟩)]) := lookU_two (by
   intro x hx
   simp only [List.mem_cons, List.not_mem_nil, or_false] at hx
   rcases hx with rfl | rfl | rfl | rfl <;> first | exact xo_stk _ _ | exact slo_stk _ _ _ | exact sio_stk _ _ _ | exact xto_stk _ _ _)
  refine qX HUX 5 6 54 ⟨1, [], [1]⟩ [0, 1, 2, 3] [undef, undef, undef, undef, .int .i64 0, undef, undef, .int .i64 0] (by kernel_rfl) 472 rfl (by kernel_rfl) ?_ ?_
  ·intro i hi
   have hi2 : i < 8 := hi
   clear hi
   rcases i with _ | _ | _ | _ | _ | _ | _ | _ | i
   · refine kx HUX 16 rfl 347 rfl ?_
     refine fun _ w8 hb8 _ _ => ⟨wanted_free rfl, ?_⟩
     refine ⟨#[.int .i64 9], (by kernel_rfl), (sca_lit 9 w8).mono ?_⟩
     rintro e wz ⟨p_, rfl, o, b⟩
     exact ⟨_, rfl, b, p_, rfl, o.mono hb8.size⟩
   · refine kx HUX 25 rfl 348 rfl ?_
     intro a8 w8 hb8 ho hn
     obtain ⟨v347, n347, hq347⟩ := hn 0 347 (by kernel_rfl) rfl
     have hv347 := hq347.2 (by decide)
     clear ho hn
     refine ⟨wanted_free rfl, ?_⟩
     obtain ⟨q0_, rfl, o0_⟩ := hv347
     refine ⟨#[.agg (arC ⟨1, [], [9]⟩ q0_)], (kc1 rfl rfl (by kernel_rfl) (ev_t n347)), (c25 q0_ w8 (o0_.el (by decide) (by decide) (by decide)) (Cap.of o0_)).mono ?_⟩
     rintro e wz ⟨r, rfl, o9, b9⟩
     exact ⟨_, rfl, b9, r, rfl, o9.mono hb8.size⟩
   · refine mx HUX rfl 346 rfl ?_
     intro a8 w8 hb8 ho hn
     obtain ⟨v348, n348, hq348⟩ := hn 1 348 (by kernel_rfl) rfl
     have hv348 := hq348.2 (by decide)
     clear ho hn
     refine ⟨wanted_free rfl, ?_⟩
     exact ⟨v348, w8, (by go_simp), Below.refl _ _, hv348⟩
   · refine mx HUX rfl 349 rfl ?_
     intro a8 w8 hb8 ho hn
     obtain ⟨v346, n346, hq346⟩ := hn 2 346 (by kernel_rfl) rfl
     have hv346 := hq346.2 (by decide)
     clear ho hn
     refine ⟨wanted_free rfl, ?_⟩
     obtain ⟨p_, rfl, o⟩ := hv346
     exact ⟨.agg (arC ⟨1, [], [1]⟩ p_), w8, (by go_simp), Below.refl _ _, p_, rfl, o⟩
   · refine vx HUX rfl 350 rfl (.int .i64 0) rfl ?_
     intro a8 w8 hb8 ho hn
     obtain ⟨v346, n346, hq346⟩ := hn 2 346 (by kernel_rfl) rfl
     have hv346 := hq346.2 (by decide)
     clear ho hn
     refine ⟨wanted_free rfl, ?_⟩
     obtain ⟨p_, rfl, o⟩ := hv346
     go_simp
   · refine bx_alloc HUX rfl (by decide) (by decide) rfl (.int .i64 0) (.slice none 0 0) (.slice none 0 0) ?_
     intro a8 w8 ho
     have o471 : a8.tmps[471]? = some _ := (ho 471 (by kernel_rfl)).trans rfl
     have hsz : 471 < a8.tmps.size := (Array.getElem?_eq_some_iff.1 o471).1
     refine ⟨by omega, wanted_free rfl, ?_⟩
     go_simp
   · refine bx_store HUX rfl rfl (by decide) (by decide) rfl (by kernel_rfl) rfl ?_
     intro a8 w8 g u0 u1 u2 hg n54 hn
     obtain ⟨v349, n349, hq349⟩ := hn 3 349 (by kernel_rfl) rfl
     have hv349 := hq349.2 (by decide)
     clear hn
     refine ⟨wanted_free rfl, ?_⟩
     obtain ⟨r, rfl, o⟩ := hv349
     have x0 := hg.cell 0
     have x1 := hg.cell 1
     have x2 := hg.cell 2
     have f0 := hg.frozen 0
     have f1 := hg.frozen 1
     have f2 := hg.frozen 2
     refine ⟨r, o, ?_⟩
     rw [show arC ⟨1, [], [1]⟩ r = #[.int .i64 1, .slice r.A0 0 r.c0, .slice r.A1 1 r.c1] from rfl] at n349
     clear hg o
     go_simp
   · refine vx HUX rfl 55 rfl (.int .i64 0) rfl ?_
     intro a8 w8 hb8 ho hn
     obtain ⟨v350, n350, hq350⟩ := hn 4 350 (by kernel_rfl) rfl
     obtain rfl := hq350.1 (by decide) (by decide)
     clear ho hn
     refine ⟨wanted_free rfl, ?_⟩
     go_simp
   omega
  intro dn fv wb29 hS5 hR5 hall
  obtain ⟨g29, e8, hg8, _, hfin⟩ := hS5.h (hall 5 (by decide))
  have e8 := put_at e8 472 rfl (by decide) rfl
  obtain ⟨r29, hb8, ho8⟩ := hfin (hall 6 (by decide))
  have hbw := hS5.b
  have h48 : fv 55 = .int .i64 0 := (hR5 7 55 rfl).1 (by decide) (by decide)
  clear hS5 hR5 hall hfin
  simp only [putAll, List.foldl_cons, List.foldl_nil, Act.put, List.setIfInBounds_toArray, List.set_cons_succ, List.set_cons_zero]
  rw [e8, h48]
  have HB_wb29 := Lib.hid (bxs_cons (g := g29) (X := ⟨1, [], [1]⟩) (p := r29) (HB_wb28.out.up hbw) ⟨hb8, ho8.el (by decide) (by decide) (by decide), Cap.of ho8⟩)
  have BW_wb29 := Lib.hid (bon BW_wb28.out hbw)
  generalize fv 347 = u347, fv 348 = u348, fv 346 = u346, fv 349 = u349, fv 350 = u350
  clear hb8 ho8 hbw e8 h48 hg8 HUX HB_wb28 BW_wb28
  go_upto_region 30 with (fail)
  have HUX : BxU wb29 (lookU [(0, xo wb29 ⟨1, [], [9]⟩), (1, xto wb29 ⟨1, [0], []⟩ 0), (2, xto wb29 ⟨1, [0], []⟩ 0), (3, xo wb29 ⟨1, [0], []⟩)]) := lookU_two (by
   intro x hx
   simp only [List.mem_cons, List.not_mem_nil, or_false] at hx
   rcases hx with rfl | rfl | rfl | rfl <;> first | exact xo_stk _ _ | exact slo_stk _ _ _ | exact sio_stk _ _ _ | exact xto_stk _ _ _)
  refine qX HUX 5 6 56 ⟨1, [0], []⟩ [0, 1, 2, 3] [undef, undef, undef, undef, .int .i64 0, undef, undef, .int .i64 0] (by kernel_rfl) 472 rfl (by kernel_rfl) ?_ ?_
  ·intro i hi
   have hi2 : i < 8 := hi
   clear hi
   rcases i with _ | _ | _ | _ | _ | _ | _ | _ | i
   · refine kx HUX 16 rfl 352 rfl ?_
     refine fun _ w8 hb8 _ _ => ⟨wanted_free rfl, ?_⟩
     refine ⟨#[.int .i64 9], (by kernel_rfl), (sca_lit 9 w8).mono ?_⟩
     rintro e wz ⟨p_, rfl, o, b⟩
     exact ⟨_, rfl, b, p_, rfl, o.mono hb8.size⟩
   · refine kx HUX 26 rfl 353 rfl ?_
     intro a8 w8 hb8 ho hn
     obtain ⟨v352, n352, hq352⟩ := hn 0 352 (by kernel_rfl) rfl
     have hv352 := hq352.2 (by decide)
     clear ho hn
     refine ⟨wanted_free rfl, ?_⟩
     obtain ⟨q0_, rfl, o0_⟩ := hv352
     refine ⟨#[.agg (arC ⟨1, [], [9]⟩ q0_)], (kc1 rfl rfl (by kernel_rfl) (ev_t n352)), (c26 q0_ w8 (o0_.el (by decide) (by decide) (by decide)) (Cap.of o0_)).mono ?_⟩
     rintro e wz ⟨r, rfl, o9, b9⟩
     exact ⟨_, rfl, b9, r, rfl, o9.mono hb8.size⟩
   · refine mx HUX rfl 351 rfl ?_
     intro a8 w8 hb8 ho hn
     obtain ⟨v353, n353, hq353⟩ := hn 1 353 (by kernel_rfl) rfl
     have hv353 := hq353.2 (by decide)
     clear ho hn
     refine ⟨wanted_free rfl, ?_⟩
     exact ⟨v353, w8, (by go_simp), Below.refl _ _, hv353⟩
   · refine mx HUX rfl 354 rfl ?_
     intro a8 w8 hb8 ho hn
     obtain ⟨v351, n351, hq351⟩ := hn 2 351 (by kernel_rfl) rfl
     have hv351 := hq351.2 (by decide)
     clear ho hn
     refine ⟨wanted_free rfl, ?_⟩
     obtain ⟨p_, rfl, o⟩ := hv351
     exact ⟨.agg (arC ⟨1, [0], []⟩ p_), w8, (by go_simp), Below.refl _ _, p_, rfl, o⟩
   · refine vx HUX rfl 355 rfl (.int .i64 0) rfl ?_
     intro a8 w8 hb8 ho hn
     obtain ⟨v351, n351, hq351⟩ := hn 2 351 (by kernel_rfl) rfl
     have hv351 := hq351.2 (by decide)
     clear ho hn
     refine ⟨wanted_free rfl, ?_⟩
     obtain ⟨p_, rfl, o⟩ := hv351
     go_simp
   · refine bx_alloc HUX rfl (by decide) (by decide) rfl (.int .i64 0) (.slice none 0 0) (.slice none 0 0) ?_
     intro a8 w8 ho
     have o471 : a8.tmps[471]? = some _ := (ho 471 (by kernel_rfl)).trans rfl
     have hsz : 471 < a8.tmps.size := (Array.getElem?_eq_some_iff.1 o471).1
     refine ⟨by omega, wanted_free rfl, ?_⟩
     go_simp
   · refine bx_store HUX rfl rfl (by decide) (by decide) rfl (by kernel_rfl) rfl ?_
     intro a8 w8 g u0 u1 u2 hg n56 hn
     obtain ⟨v354, n354, hq354⟩ := hn 3 354 (by kernel_rfl) rfl
     have hv354 := hq354.2 (by decide)
     clear hn
     refine ⟨wanted_free rfl, ?_⟩
     obtain ⟨r, rfl, o⟩ := hv354
     have x0 := hg.cell 0
     have x1 := hg.cell 1
     have x2 := hg.cell 2
     have f0 := hg.frozen 0
     have f1 := hg.frozen 1
     have f2 := hg.frozen 2
     refine ⟨r, o, ?_⟩
     rw [show arC ⟨1, [0], []⟩ r = #[.int .i64 1, .slice r.A0 1 r.c0, .slice r.A1 0 r.c1] from rfl] at n354
     clear hg o
     go_simp
   · refine vx HUX rfl 57 rfl (.int .i64 0) rfl ?_
     intro a8 w8 hb8 ho hn
     obtain ⟨v355, n355, hq355⟩ := hn 4 355 (by kernel_rfl) rfl
     obtain rfl := hq355.1 (by decide) (by decide)
     clear ho hn
     refine ⟨wanted_free rfl, ?_⟩
     go_simp
   omega
  intro dn fv wb30 hS5 hR5 hall
  obtain ⟨g30, e8, hg8, _, hfin⟩ := hS5.h (hall 5 (by decide))
  have e8 := put_at e8 472 rfl (by decide) rfl
  obtain ⟨r30, hb8, ho8⟩ := hfin (hall 6 (by decide))
  have hbw := hS5.b
  have h48 : fv 57 = .int .i64 0 := (hR5 7 57 rfl).1 (by decide) (by decide)
  clear hS5 hR5 hall hfin
  simp only [putAll, List.foldl_cons, List.foldl_nil, Act.put, List.setIfInBounds_toArray, List.set_cons_succ, List.set_cons_zero]
  rw [e8, h48]
  have HB_wb30 := Lib.hid (bxs_cons (g := g30) (X := ⟨1, [0], []⟩) (p := r30) (HB_wb29.out.up hbw) ⟨hb8, ho8.el (by decide) (by decide) (by decide), Cap.of ho8⟩)
  have BW_wb30 := Lib.hid (bon BW_wb29.out hbw)
  generalize fv 352 = u352, fv 353 = u353, fv 351 = u351, fv 354 = u354, fv 355 = u355
  clear hb8 ho8 hbw e8 h48 hg8 HUX HB_wb29 BW_wb29
  go_upto_region 31 with (fail)
  have HUX : BxU wb30 (lookU [(0, xo wb30 ⟨0, [], []⟩), (1, xto wb30 ⟨0, [], []⟩ 110), (2, xto wb30 ⟨0, [], []⟩ 110), (3, xo wb30 ⟨0, [], []⟩)]) := lookU_two (by
   intro x hx
   simp only [List.mem_cons, List.not_mem_nil, or_false] at hx
   rcases hx with rfl | rfl | rfl | rfl <;> first | exact xo_stk _ _ | exact slo_stk _ _ _ | exact sio_stk _ _ _ | exact xto_stk _ _ _)
  refine qX HUX 5 6 58 ⟨0, [], []⟩ [0, 1, 2, 3] [undef, undef, undef, undef, .int .i64 110, undef, undef, .int .i64 110] (by kernel_rfl) 472 rfl (by kernel_rfl) ?_ ?_
  ·intro i hi
   have hi2 : i < 8 := hi
   clear hi
   rcases i with _ | _ | _ | _ | _ | _ | _ | _ | i
   · refine mx HUX rfl 357 rfl ?_
     refine fun _ w8 hb8 _ _ => ⟨wanted_free rfl, ?_⟩
     exact ⟨.agg #[.int .i64 0, .slice none 0 0, .slice none 0 0], w8, (by go_simp), Below.refl _ _, ⟨none, 0, none, 0⟩, rfl, own_none _ _⟩
   · refine kx HUX 27 rfl 358 rfl ?_
     intro a8 w8 hb8 ho hn
     obtain ⟨v357, n357, hq357⟩ := hn 0 357 (by kernel_rfl) rfl
     have hv357 := hq357.2 (by decide)
     clear ho hn
     refine ⟨wanted_free rfl, ?_⟩
     obtain ⟨q0_, rfl, o0_⟩ := hv357
     refine ⟨#[.agg (arC ⟨0, [], []⟩ q0_)], (kc1 rfl rfl (by kernel_rfl) (ev_t n357)), (c27 q0_ w8 (o0_.el (by decide) (by decide) (by decide)) (Cap.of o0_)).mono ?_⟩
     rintro e wz ⟨r, rfl, o9, b9⟩
     exact ⟨_, rfl, b9, r, rfl, o9.mono hb8.size⟩
   · refine mx HUX rfl 356 rfl ?_
     intro a8 w8 hb8 ho hn
     obtain ⟨v358, n358, hq358⟩ := hn 1 358 (by kernel_rfl) rfl
     have hv358 := hq358.2 (by decide)
     clear ho hn
     refine ⟨wanted_free rfl, ?_⟩
     exact ⟨v358, w8, (by go_simp), Below.refl _ _, hv358⟩
   · refine mx HUX rfl 359 rfl ?_
     intro a8 w8 hb8 ho hn
     obtain ⟨v356, n356, hq356⟩ := hn 2 356 (by kernel_rfl) rfl
     have hv356 := hq356.2 (by decide)
     clear ho hn
     refine ⟨wanted_free rfl, ?_⟩
     obtain ⟨p_, rfl, o⟩ := hv356
     exact ⟨.agg (arC ⟨0, [], []⟩ p_), w8, (by go_simp), Below.refl _ _, p_, rfl, o⟩
   · refine vx HUX rfl 360 rfl (.int .i64 110) rfl ?_
     intro a8 w8 hb8 ho hn
     obtain ⟨v356, n356, hq356⟩ := hn 2 356 (by kernel_rfl) rfl
     have hv356 := hq356.2 (by decide)
     clear ho hn
     refine ⟨wanted_free rfl, ?_⟩
     obtain ⟨p_, rfl, o⟩ := hv356
     go_simp
   · refine bx_alloc HUX rfl (by decide) (by decide) rfl (.int .i64 0) (.slice none 0 0) (.slice none 0 0) ?_
     intro a8 w8 ho
     have o471 : a8.tmps[471]? = some _ := (ho 471 (by kernel_rfl)).trans rfl
     have hsz : 471 < a8.tmps.size := (Array.getElem?_eq_some_iff.1 o471).1
     refine ⟨by omega, wanted_free rfl, ?_⟩
     go_simp
   · refine bx_store HUX rfl rfl (by decide) (by decide) rfl (by kernel_rfl) rfl ?_
     intro a8 w8 g u0 u1 u2 hg n58 hn
     obtain ⟨v359, n359, hq359⟩ := hn 3 359 (by kernel_rfl) rfl
     have hv359 := hq359.2 (by decide)
     clear hn
     refine ⟨wanted_free rfl, ?_⟩
     obtain ⟨r, rfl, o⟩ := hv359
     have x0 := hg.cell 0
     have x1 := hg.cell 1
     have x2 := hg.cell 2
     have f0 := hg.frozen 0
     have f1 := hg.frozen 1
     have f2 := hg.frozen 2
     refine ⟨r, o, ?_⟩
     rw [show arC ⟨0, [], []⟩ r = #[.int .i64 0, .slice r.A0 0 r.c0, .slice r.A1 0 r.c1] from rfl] at n359
     clear hg o
     go_simp
   · refine vx HUX rfl 59 rfl (.int .i64 110) rfl ?_
     intro a8 w8 hb8 ho hn
     obtain ⟨v360, n360, hq360⟩ := hn 4 360 (by kernel_rfl) rfl
     obtain rfl := hq360.1 (by decide) (by decide)
     clear ho hn
     refine ⟨wanted_free rfl, ?_⟩
     go_simp
   omega
  intro dn fv wb31 hS5 hR5 hall
  obtain ⟨g31, e8, hg8, _, hfin⟩ := hS5.h (hall 5 (by decide))
  have e8 := put_at e8 472 rfl (by decide) rfl
  obtain ⟨r31, hb8, ho8⟩ := hfin (hall 6 (by decide))
  have hbw := hS5.b
  have h48 : fv 59 = .int .i64 110 := (hR5 7 59 rfl).1 (by decide) (by decide)
  clear hS5 hR5 hall hfin
  simp only [putAll, List.foldl_cons, List.foldl_nil, Act.put, List.setIfInBounds_toArray, List.set_cons_succ, List.set_cons_zero]
  rw [e8, h48]
  have HB_wb31 := Lib.hid (bxs_cons (g := g31) (X := ⟨0, [], []⟩) (p := r31) (HB_wb30.out.up hbw) ⟨hb8, ho8.el (by decide) (by decide) (by decide), Cap.of ho8⟩)
  have BW_wb31 := Lib.hid (bon BW_wb30.out hbw)
  generalize fv 357 = u357, fv 358 = u358, fv 356 = u356, fv 359 = u359, fv 360 = u360
  clear hb8 ho8 hbw e8 h48 hg8 HUX HB_wb30 BW_wb30
  go_upto_region 32 with (fail)
  have HU : GU (lookU [(2, slo wb31 3 #[.int .i64 1, .int .i64 2, .int .i64 3]), (3, xo wb31 ⟨1, [3], [1, 2, 3]⟩), (4, xv (.bool true)), (20, xo wb31 ⟨1, [], [1]⟩), (21, xv (.bool true)), (26, xo wb31 ⟨1, [0], []⟩), (27, xv (.bool true))]) := lookU_stay (by
   intro x hx
   simp only [List.mem_cons, List.not_mem_nil, or_false] at hx
   rcases hx with rfl | rfl | rfl | rfl | rfl | rfl | rfl <;> first | exact (slo_stk _ _ _).1 | exact (sio_stk _ _ _).1 | exact (xo_stk _ _).1 | exact xv_stk _)
  refine wp_region_done_on (GS wb31) (GR [2, 3, 4, 20, 21, 26, 27] (lookU [(2, slo wb31 3 #[.int .i64 1, .int .i64 2, .int .i64 3]), (3, xo wb31 ⟨1, [3], [1, 2, 3]⟩), (4, xv (.bool true)), (20, xo wb31 ⟨1, [], [1]⟩), (21, xv (.bool true)), (26, xo wb31 ⟨1, [0], []⟩), (27, xv (.bool true))]) [.agg #[.int .i64 1, .slice r25.A0 1 r25.c0, .slice r25.A1 3 r25.c1], .int .i64 0, undef, undef, undef, .bool true, .int .i64 9, .bool true, .bool true, .bool true, .int .i64 3, .bool true, .bool true, .bool true, .int .i64 5, .bool true, .bool true, .bool true, .agg #[.int .i64 1, .slice r29.A0 0 r29.c0, .slice r29.A1 1 r29.c1], .int .i64 0, undef, undef, .bool true, .bool true, .agg #[.int .i64 1, .slice r30.A0 1 r30.c0, .slice r30.A1 0 r30.c1], .int .i64 0, undef, undef, .bool true, .bool true, .int .i64 110, .bool true, .bool true, .bool true]) (by kernel_rfl) 472 rfl (by kernel_rfl) ((Below.refl _ _).drew) ?_ ?_
  ·intro i hi
   have hi2 : i < 34 := hi
   clear hi
   rcases i with _ | _ | _ | _ | _ | _ | _ | _ | _ | _ | _ | _ | _ | _ | _ | _ | _ | _ | _ | _ | _ | _ | _ | _ | _ | _ | _ | _ | _ | _ | _ | _ | _ | _ | i
   · refine gr_value rfl (by decide) (.agg #[.int .i64 1, .slice r25.A0 1 r25.c0, .slice r25.A1 3 r25.c1]) rfl ?_
     intro a8 w8 hb8 ho hn
     have o46 : a8.tmps[46]? = some _ := (ho 46 (by kernel_rfl)).trans rfl
     clear ho hn
     refine ⟨wanted_free rfl, ?_⟩
     have x := (HB_wb31.out.up hb8) 6 _ _ _ rfl
     have x0 : w8.cell? ⟨g25, 0, none⟩ = some (.int .i64 1) := x.k.cell 0
     have x1 : w8.cell? ⟨g25, 1, none⟩ = some (.slice r25.A0 1 r25.c0) := x.k.cell 1
     have x2 : w8.cell? ⟨g25, 2, none⟩ = some (.slice r25.A1 3 r25.c1) := x.k.cell 2
     clear x
     go_simp
   · refine gr_value rfl (by decide) (.int .i64 0) rfl ?_
     intro a8 w8 hb8 ho hn
     have o47 : a8.tmps[47]? = some _ := (ho 47 (by kernel_rfl)).trans rfl
     clear ho hn
     refine ⟨wanted_free rfl, ?_⟩
     go_simp
   · refine gr_make HU rfl (by decide) ?_
     refine fun _ w8 hb8 _ _ => ⟨wanted_free rfl, ?_⟩
     exact ⟨.slice (some ⟨w8.heap.size, 0, none⟩) 3 3, w8.alloc (.cells #[.int .i64 1, .int .i64 2, .int .i64 3] 2), (by go_simp), albel _ _, w8.heap.size, rfl, hb8.size, Blk.new w8 _ _⟩
   · refine gr_call HU 18 rfl (by decide) ?_
     intro a8 w8 hb8 ho hn
     obtain ⟨v363, n363, hq363⟩ := hn 2 363 (by kernel_rfl) rfl
     have hv363 := hq363.2 (by decide)
     clear ho hn
     refine ⟨wanted_free rfl, ?_⟩
     obtain ⟨g, rfl, _, hg⟩ := hv363
     refine ⟨#[.slice (some ⟨g, 0, none⟩) 3 3], (kc1 rfl rfl (by kernel_rfl) (ev_t n363)), (vec_lit [1, 2, 3] (by decide) _ 3 3 w8 rfl (reads_blk hg rfl)).mono ?_⟩
     rintro e wz ⟨p_, rfl, o, b⟩
     exact ⟨_, rfl, b, p_, rfl, o.mono hb8.size⟩
   · refine gr_call HU 20 rfl (by decide) ?_
     intro a8 w8 hb8 ho hn
     obtain ⟨v361, n361, hq361⟩ := hn 0 361 (by kernel_rfl) rfl
     obtain rfl := hq361.1 (by decide)
     obtain ⟨v362, n362, hq362⟩ := hn 1 362 (by kernel_rfl) rfl
     obtain rfl := hq362.1 (by decide)
     obtain ⟨v364, n364, hq364⟩ := hn 3 364 (by kernel_rfl) rfl
     have hv364 := hq364.2 (by decide)
     clear ho hn
     refine ⟨wanted_free rfl, ?_⟩
     obtain ⟨q_, rfl, o_⟩ := hv364
     refine ⟨#[.agg #[.int .i64 1, .slice r25.A0 1 r25.c0, .slice r25.A1 3 r25.c1], .int .i64 0, .agg (arC ⟨1, [3], [1, 2, 3]⟩ q_)], (kc3 rfl rfl (by kernel_rfl) (ev_t n361) (ev_t n362) (ev_t n364)), (l13is_yes ⟨1, [3], [1, 2, 3]⟩ r25 q_ w8 ((HB_wb31.out.up hb8) 6 _ _ _ rfl).e (o_.el (by decide) (by decide) (by decide))).mono ?_⟩
     rintro e wz ⟨rfl, b9⟩
     exact ⟨_, rfl, b9, rfl⟩
   · refine gr_value rfl (by decide) (.bool true) rfl ?_
     intro a8 w8 hb8 ho hn
     obtain ⟨v365, n365, hq365⟩ := hn 4 365 (by kernel_rfl) rfl
     have hv365 := hq365.2 (by decide)
     clear ho hn
     refine ⟨wanted_free rfl, ?_⟩
     obtain rfl : v365 = .bool true := hv365
     go_simp
   · refine gr_value rfl (by decide) (.int .i64 9) rfl ?_
     intro a8 w8 hb8 ho hn
     have o49 : a8.tmps[49]? = some _ := (ho 49 (by kernel_rfl)).trans rfl
     obtain ⟨v366, n366, hq366⟩ := hn 5 366 (by kernel_rfl) rfl
     obtain rfl := hq366.1 (by decide)
     clear ho hn
     refine ⟨wanted_of 5 366 rfl rfl n366, ?_⟩
     go_simp
   · refine gr_value rfl (by decide) (.bool true) rfl ?_
     intro a8 w8 hb8 ho hn
     obtain ⟨v367, n367, hq367⟩ := hn 6 367 (by kernel_rfl) rfl
     obtain rfl := hq367.1 (by decide)
     obtain ⟨v366, n366, hq366⟩ := hn 5 366 (by kernel_rfl) rfl
     obtain rfl := hq366.1 (by decide)
     clear ho hn
     refine ⟨wanted_of 5 366 rfl rfl n366, ?_⟩
     go_simp
   · refine gr_value rfl (by decide) (.bool true) rfl ?_
     intro a8 w8 hb8 ho hn
     obtain ⟨v366, n366, hq366⟩ := hn 5 366 (by kernel_rfl) rfl
     obtain rfl := hq366.1 (by decide)
     obtain ⟨v368, n368, hq368⟩ := hn 7 368 (by kernel_rfl) rfl
     obtain rfl := hq368.1 (by decide)
     clear ho hn
     refine ⟨wanted_free rfl, ?_⟩
     go_simp
   · refine gr_value rfl (by decide) (.bool true) rfl ?_
     intro a8 w8 hb8 ho hn
     obtain ⟨v369, n369, hq369⟩ := hn 8 369 (by kernel_rfl) rfl
     obtain rfl := hq369.1 (by decide)
     clear ho hn
     refine ⟨wanted_free rfl, ?_⟩
     go_simp
   · refine gr_value rfl (by decide) (.int .i64 3) rfl ?_
     intro a8 w8 hb8 ho hn
     have o51 : a8.tmps[51]? = some _ := (ho 51 (by kernel_rfl)).trans rfl
     obtain ⟨v370, n370, hq370⟩ := hn 9 370 (by kernel_rfl) rfl
     obtain rfl := hq370.1 (by decide)
     clear ho hn
     refine ⟨wanted_of 9 370 rfl rfl n370, ?_⟩
     go_simp
   · refine gr_value rfl (by decide) (.bool true) rfl ?_
     intro a8 w8 hb8 ho hn
     obtain ⟨v371, n371, hq371⟩ := hn 10 371 (by kernel_rfl) rfl
     obtain rfl := hq371.1 (by decide)
     obtain ⟨v370, n370, hq370⟩ := hn 9 370 (by kernel_rfl) rfl
     obtain rfl := hq370.1 (by decide)
     clear ho hn
     refine ⟨wanted_of 9 370 rfl rfl n370, ?_⟩
     go_simp
   · refine gr_value rfl (by decide) (.bool true) rfl ?_
     intro a8 w8 hb8 ho hn
     obtain ⟨v370, n370, hq370⟩ := hn 9 370 (by kernel_rfl) rfl
     obtain rfl := hq370.1 (by decide)
     obtain ⟨v372, n372, hq372⟩ := hn 11 372 (by kernel_rfl) rfl
     obtain rfl := hq372.1 (by decide)
     clear ho hn
     refine ⟨wanted_free rfl, ?_⟩
     go_simp
   · refine gr_value rfl (by decide) (.bool true) rfl ?_
     intro a8 w8 hb8 ho hn
     obtain ⟨v373, n373, hq373⟩ := hn 12 373 (by kernel_rfl) rfl
     obtain rfl := hq373.1 (by decide)
     clear ho hn
     refine ⟨wanted_free rfl, ?_⟩
     go_simp
   · refine gr_value rfl (by decide) (.int .i64 5) rfl ?_
     intro a8 w8 hb8 ho hn
     have o53 : a8.tmps[53]? = some _ := (ho 53 (by kernel_rfl)).trans rfl
     obtain ⟨v374, n374, hq374⟩ := hn 13 374 (by kernel_rfl) rfl
     obtain rfl := hq374.1 (by decide)
     clear ho hn
     refine ⟨wanted_of 13 374 rfl rfl n374, ?_⟩
     go_simp
   · refine gr_value rfl (by decide) (.bool true) rfl ?_
     intro a8 w8 hb8 ho hn
     obtain ⟨v375, n375, hq375⟩ := hn 14 375 (by kernel_rfl) rfl
     obtain rfl := hq375.1 (by decide)
     obtain ⟨v374, n374, hq374⟩ := hn 13 374 (by kernel_rfl) rfl
     obtain rfl := hq374.1 (by decide)
     clear ho hn
     refine ⟨wanted_of 13 374 rfl rfl n374, ?_⟩
     go_simp
   · refine gr_value rfl (by decide) (.bool true) rfl ?_
     intro a8 w8 hb8 ho hn
     obtain ⟨v374, n374, hq374⟩ := hn 13 374 (by kernel_rfl) rfl
     obtain rfl := hq374.1 (by decide)
     obtain ⟨v376, n376, hq376⟩ := hn 15 376 (by kernel_rfl) rfl
     obtain rfl := hq376.1 (by decide)
     clear ho hn
     refine ⟨wanted_free rfl, ?_⟩
     go_simp
   · refine gr_value rfl (by decide) (.bool true) rfl ?_
     intro a8 w8 hb8 ho hn
     obtain ⟨v377, n377, hq377⟩ := hn 16 377 (by kernel_rfl) rfl
     obtain rfl := hq377.1 (by decide)
     clear ho hn
     refine ⟨wanted_free rfl, ?_⟩
     go_simp
   · refine gr_value rfl (by decide) (.agg #[.int .i64 1, .slice r29.A0 0 r29.c0, .slice r29.A1 1 r29.c1]) rfl ?_
     intro a8 w8 hb8 ho hn
     have o54 : a8.tmps[54]? = some _ := (ho 54 (by kernel_rfl)).trans rfl
     obtain ⟨v378, n378, hq378⟩ := hn 17 378 (by kernel_rfl) rfl
     obtain rfl := hq378.1 (by decide)
     clear ho hn
     refine ⟨wanted_of 17 378 rfl rfl n378, ?_⟩
     have x := (HB_wb31.out.up hb8) 2 _ _ _ rfl
     have x0 : w8.cell? ⟨g29, 0, none⟩ = some (.int .i64 1) := x.k.cell 0
     have x1 : w8.cell? ⟨g29, 1, none⟩ = some (.slice r29.A0 0 r29.c0) := x.k.cell 1
     have x2 : w8.cell? ⟨g29, 2, none⟩ = some (.slice r29.A1 1 r29.c1) := x.k.cell 2
     clear x
     go_simp
   · refine gr_value rfl (by decide) (.int .i64 0) rfl ?_
     intro a8 w8 hb8 ho hn
     have o55 : a8.tmps[55]? = some _ := (ho 55 (by kernel_rfl)).trans rfl
     obtain ⟨v378, n378, hq378⟩ := hn 17 378 (by kernel_rfl) rfl
     obtain rfl := hq378.1 (by decide)
     clear ho hn
     refine ⟨wanted_of 17 378 rfl rfl n378, ?_⟩
     go_simp
   · refine gr_call HU 16 rfl (by decide) ?_
     intro a8 w8 hb8 ho hn
     obtain ⟨v378, n378, hq378⟩ := hn 17 378 (by kernel_rfl) rfl
     obtain rfl := hq378.1 (by decide)
     clear ho hn
     refine ⟨wanted_of 17 378 rfl rfl n378, ?_⟩
     refine ⟨#[.int .i64 1], (by kernel_rfl), (sca_lit 1 w8).mono ?_⟩
     rintro e wz ⟨p_, rfl, o, b⟩
     exact ⟨_, rfl, b, p_, rfl, o.mono hb8.size⟩
   · refine gr_call HU 20 rfl (by decide) ?_
     intro a8 w8 hb8 ho hn
     obtain ⟨v379, n379, hq379⟩ := hn 18 379 (by kernel_rfl) rfl
     obtain rfl := hq379.1 (by decide)
     obtain ⟨v380, n380, hq380⟩ := hn 19 380 (by kernel_rfl) rfl
     obtain rfl := hq380.1 (by decide)
     obtain ⟨v381, n381, hq381⟩ := hn 20 381 (by kernel_rfl) rfl
     have hv381 := hq381.2 (by decide)
     obtain ⟨v378, n378, hq378⟩ := hn 17 378 (by kernel_rfl) rfl
     obtain rfl := hq378.1 (by decide)
     clear ho hn
     refine ⟨wanted_of 17 378 rfl rfl n378, ?_⟩
     obtain ⟨q_, rfl, o_⟩ := hv381
     refine ⟨#[.agg #[.int .i64 1, .slice r29.A0 0 r29.c0, .slice r29.A1 1 r29.c1], .int .i64 0, .agg (arC ⟨1, [], [1]⟩ q_)], (kc3 rfl rfl (by kernel_rfl) (ev_t n379) (ev_t n380) (ev_t n381)), (l13is_yes ⟨1, [], [1]⟩ r29 q_ w8 ((HB_wb31.out.up hb8) 2 _ _ _ rfl).e (o_.el (by decide) (by decide) (by decide))).mono ?_⟩
     rintro e wz ⟨rfl, b9⟩
     exact ⟨_, rfl, b9, rfl⟩
   · refine gr_value rfl (by decide) (.bool true) rfl ?_
     intro a8 w8 hb8 ho hn
     obtain ⟨v378, n378, hq378⟩ := hn 17 378 (by kernel_rfl) rfl
     obtain rfl := hq378.1 (by decide)
     obtain ⟨v382, n382, hq382⟩ := hn 21 382 (by kernel_rfl) rfl
     have hv382 := hq382.2 (by decide)
     clear ho hn
     refine ⟨wanted_free rfl, ?_⟩
     obtain rfl : v382 = .bool true := hv382
     go_simp
   · refine gr_value rfl (by decide) (.bool true) rfl ?_
     intro a8 w8 hb8 ho hn
     obtain ⟨v383, n383, hq383⟩ := hn 22 383 (by kernel_rfl) rfl
     obtain rfl := hq383.1 (by decide)
     clear ho hn
     refine ⟨wanted_free rfl, ?_⟩
     go_simp
   · refine gr_value rfl (by decide) (.agg #[.int .i64 1, .slice r30.A0 1 r30.c0, .slice r30.A1 0 r30.c1]) rfl ?_
     intro a8 w8 hb8 ho hn
     have o56 : a8.tmps[56]? = some _ := (ho 56 (by kernel_rfl)).trans rfl
     obtain ⟨v384, n384, hq384⟩ := hn 23 384 (by kernel_rfl) rfl
     obtain rfl := hq384.1 (by decide)
     clear ho hn
     refine ⟨wanted_of 23 384 rfl rfl n384, ?_⟩
     have x := (HB_wb31.out.up hb8) 1 _ _ _ rfl
     have x0 : w8.cell? ⟨g30, 0, none⟩ = some (.int .i64 1) := x.k.cell 0
     have x1 : w8.cell? ⟨g30, 1, none⟩ = some (.slice r30.A0 1 r30.c0) := x.k.cell 1
     have x2 : w8.cell? ⟨g30, 2, none⟩ = some (.slice r30.A1 0 r30.c1) := x.k.cell 2
     clear x
     go_simp
   · refine gr_value rfl (by decide) (.int .i64 0) rfl ?_
     intro a8 w8 hb8 ho hn
     have o57 : a8.tmps[57]? = some _ := (ho 57 (by kernel_rfl)).trans rfl
     obtain ⟨v384, n384, hq384⟩ := hn 23 384 (by kernel_rfl) rfl
     obtain rfl := hq384.1 (by decide)
     clear ho hn
     refine ⟨wanted_of 23 384 rfl rfl n384, ?_⟩
     go_simp
   · refine gr_call HU 18 rfl (by decide) ?_
     intro a8 w8 hb8 ho hn
     obtain ⟨v384, n384, hq384⟩ := hn 23 384 (by kernel_rfl) rfl
     obtain rfl := hq384.1 (by decide)
     clear ho hn
     refine ⟨wanted_of 23 384 rfl rfl n384, ?_⟩
     refine ⟨#[.slice none 0 0], (by kernel_rfl), (vec_lit [] (by decide) _ 0 0 w8 rfl Reads.none_).mono ?_⟩
     rintro e wz ⟨p_, rfl, o, b⟩
     exact ⟨_, rfl, b, p_, rfl, o.mono hb8.size⟩
   · refine gr_call HU 20 rfl (by decide) ?_
     intro a8 w8 hb8 ho hn
     obtain ⟨v385, n385, hq385⟩ := hn 24 385 (by kernel_rfl) rfl
     obtain rfl := hq385.1 (by decide)
     obtain ⟨v386, n386, hq386⟩ := hn 25 386 (by kernel_rfl) rfl
     obtain rfl := hq386.1 (by decide)
     obtain ⟨v387, n387, hq387⟩ := hn 26 387 (by kernel_rfl) rfl
     have hv387 := hq387.2 (by decide)
     obtain ⟨v384, n384, hq384⟩ := hn 23 384 (by kernel_rfl) rfl
     obtain rfl := hq384.1 (by decide)
     clear ho hn
     refine ⟨wanted_of 23 384 rfl rfl n384, ?_⟩
     obtain ⟨q_, rfl, o_⟩ := hv387
     refine ⟨#[.agg #[.int .i64 1, .slice r30.A0 1 r30.c0, .slice r30.A1 0 r30.c1], .int .i64 0, .agg (arC ⟨1, [0], []⟩ q_)], (kc3 rfl rfl (by kernel_rfl) (ev_t n385) (ev_t n386) (ev_t n387)), (l13is_yes ⟨1, [0], []⟩ r30 q_ w8 ((HB_wb31.out.up hb8) 1 _ _ _ rfl).e (o_.el (by decide) (by decide) (by decide))).mono ?_⟩
     rintro e wz ⟨rfl, b9⟩
     exact ⟨_, rfl, b9, rfl⟩
   · refine gr_value rfl (by decide) (.bool true) rfl ?_
     intro a8 w8 hb8 ho hn
     obtain ⟨v384, n384, hq384⟩ := hn 23 384 (by kernel_rfl) rfl
     obtain rfl := hq384.1 (by decide)
     obtain ⟨v388, n388, hq388⟩ := hn 27 388 (by kernel_rfl) rfl
     have hv388 := hq388.2 (by decide)
     clear ho hn
     refine ⟨wanted_free rfl, ?_⟩
     obtain rfl : v388 = .bool true := hv388
     go_simp
   · refine gr_value rfl (by decide) (.bool true) rfl ?_
     intro a8 w8 hb8 ho hn
     obtain ⟨v389, n389, hq389⟩ := hn 28 389 (by kernel_rfl) rfl
     obtain rfl := hq389.1 (by decide)
     clear ho hn
     refine ⟨wanted_free rfl, ?_⟩
     go_simp
   · refine gr_value rfl (by decide) (.int .i64 110) rfl ?_
     intro a8 w8 hb8 ho hn
     have o59 : a8.tmps[59]? = some _ := (ho 59 (by kernel_rfl)).trans rfl
     obtain ⟨v390, n390, hq390⟩ := hn 29 390 (by kernel_rfl) rfl
     obtain rfl := hq390.1 (by decide)
     clear ho hn
     refine ⟨wanted_of 29 390 rfl rfl n390, ?_⟩
     go_simp
   · refine gr_value rfl (by decide) (.bool true) rfl ?_
     intro a8 w8 hb8 ho hn
     obtain ⟨v391, n391, hq391⟩ := hn 30 391 (by kernel_rfl) rfl
     obtain rfl := hq391.1 (by decide)
     obtain ⟨v390, n390, hq390⟩ := hn 29 390 (by kernel_rfl) rfl
     obtain rfl := hq390.1 (by decide)
     clear ho hn
     refine ⟨wanted_of 29 390 rfl rfl n390, ?_⟩
     go_simp
   · refine gr_value rfl (by decide) (.bool true) rfl ?_
     intro a8 w8 hb8 ho hn
     obtain ⟨v390, n390, hq390⟩ := hn 29 390 (by kernel_rfl) rfl
     obtain rfl := hq390.1 (by decide)
     obtain ⟨v392, n392, hq392⟩ := hn 31 392 (by kernel_rfl) rfl
     obtain rfl := hq392.1 (by decide)
     clear ho hn
     refine ⟨wanted_free rfl, ?_⟩
     go_simp
   · refine gr_value rfl (by decide) (.bool true) rfl ?_
     intro a8 w8 hb8 ho hn
     obtain ⟨v393, n393, hq393⟩ := hn 32 393 (by kernel_rfl) rfl
     obtain rfl := hq393.1 (by decide)
     clear ho hn
     refine ⟨wanted_free rfl, ?_⟩
     go_simp
   omega
  intro dn fv wb32 hb_wb32 hR5 hall
  have h60 : fv 60 = _ := (hR5 33 60 rfl).1 (by decide)
  simp only [putAll, List.foldl_cons, List.foldl_nil, Act.put, List.setIfInBounds_toArray, List.set_cons_succ, List.set_cons_zero, h60, List.getD_cons_zero, List.getD_cons_succ]
  clear hR5 hall
  have HB_wb32 := Lib.hid (HB_wb31.out.up hb_wb32)
  have BW_wb32 := Lib.hid (bon BW_wb31.out hb_wb32)
  generalize fv 361 = u361, fv 362 = u362, fv 363 = u363, fv 364 = u364, fv 365 = u365, fv 366 = u366, fv 367 = u367, fv 368 = u368
  generalize fv 369 = u369, fv 370 = u370, fv 371 = u371, fv 372 = u372, fv 373 = u373, fv 374 = u374, fv 375 = u375, fv 376 = u376
  generalize fv 377 = u377, fv 378 = u378, fv 379 = u379, fv 380 = u380, fv 381 = u381, fv 382 = u382, fv 383 = u383, fv 384 = u384
  generalize fv 385 = u385, fv 386 = u386, fv 387 = u387, fv 388 = u388, fv 389 = u389, fv 390 = u390, fv 391 = u391, fv 392 = u392
  generalize fv 393 = u393
  clear hb_wb32 HU h60 HB_wb31 BW_wb31
  go_upto_region 34 with (fail)
  obtain ⟨wb33, hw9⟩ : ∃ W, wb32.alloc (.cells #[.slice none 0 0, .nilFunc] 37) = W := ⟨_, rfl⟩
  obtain ⟨gz, hg9⟩ : ∃ g, wb32.heap.size = g := ⟨_, rfl⟩
  have HZW : Hid (∀ W, Below wb33.heap.size wb33 W → W.cell? ⟨gz, 0, none⟩ = some (.slice none 0 0) ∧ W.cell? ⟨gz, 1, none⟩ = some .nilFunc) := Lib.hid (fun W hb => by
   subst hw9 hg9
   exact ⟨(blk_up (Blk.new _ 37 #[.slice none 0 0, .nilFunc]) hb).cell 0, (blk_up (Blk.new _ 37 #[.slice none 0 0, .nilFunc]) hb).cell 1⟩)
  have b9 : Below wb32.heap.size wb32 wb33 := by rw [← hw9]; exact albel _ _
  have HB_wb33 := Lib.hid (HB_wb32.out.up b9)
  have BW_wb33 := Lib.hid (bon BW_wb32.out b9)
  rw [hw9, hg9]
  clear hw9 hg9 b9 HB_wb32 BW_wb32
  have HUX : BxU wb33 (lookU [(1, xto wb33 ⟨0, [], []⟩ 130), (2, xto wb33 ⟨0, [], []⟩ 130), (3, xo wb33 ⟨0, [], []⟩)]) := lookU_two (by
   intro x hx
   simp only [List.mem_cons, List.not_mem_nil, or_false] at hx
   rcases hx with rfl | rfl | rfl <;> first | exact xo_stk _ _ | exact xto_stk _ _ _)
  refine qX HUX 5 6 62 ⟨0, [], []⟩ [1, 2, 3] [.agg #[.slice none 0 0, .nilFunc], undef, undef, undef, .int .i64 130, undef, undef, .int .i64 130] (by kernel_rfl) 472 rfl (by kernel_rfl) ?_ ?_
  ·intro i hi
   have hi2 : i < 8 := hi
   clear hi
   rcases i with _ | _ | _ | _ | _ | _ | _ | _ | i
   · refine vx HUX rfl 396 rfl (.agg #[.slice none 0 0, .nilFunc]) rfl ?_
     intro a8 w8 hb8 ho hn
     have o61 : a8.tmps[61]? = some _ := (ho 61 (by kernel_rfl)).trans rfl
     clear ho hn
     refine ⟨wanted_free rfl, ?_⟩
     obtain ⟨x0, x1⟩ := HZW.out w8 hb8
     go_simp
   · refine kx HUX 28 rfl 397 rfl ?_
     intro a8 w8 hb8 ho hn
     obtain ⟨v396, n396, hq396⟩ := hn 0 396 (by kernel_rfl) rfl
     obtain rfl := hq396.1 (by decide) (by decide)
     clear ho hn
     refine ⟨wanted_free rfl, ?_⟩
     refine ⟨#[.agg #[.slice none 0 0, .nilFunc], .int .i64 1, .slice none 0 0], (by go_simp), (mogo_nil w8).mono ?_⟩
     rintro e wz ⟨r, rfl, o9, b9⟩
     exact ⟨_, rfl, b9, r, rfl, o9.mono hb8.size⟩
   · refine mx HUX rfl 395 rfl ?_
     intro a8 w8 hb8 ho hn
     obtain ⟨v397, n397, hq397⟩ := hn 1 397 (by kernel_rfl) rfl
     have hv397 := hq397.2 (by decide)
     clear ho hn
     refine ⟨wanted_free rfl, ?_⟩
     exact ⟨v397, w8, (by go_simp), Below.refl _ _, hv397⟩
   · refine mx HUX rfl 398 rfl ?_
     intro a8 w8 hb8 ho hn
     obtain ⟨v395, n395, hq395⟩ := hn 2 395 (by kernel_rfl) rfl
     have hv395 := hq395.2 (by decide)
     clear ho hn
     refine ⟨wanted_free rfl, ?_⟩
     obtain ⟨p_, rfl, o⟩ := hv395
     exact ⟨.agg (arC ⟨0, [], []⟩ p_), w8, (by go_simp), Below.refl _ _, p_, rfl, o⟩
   · refine vx HUX rfl 399 rfl (.int .i64 130) rfl ?_
     intro a8 w8 hb8 ho hn
     obtain ⟨v395, n395, hq395⟩ := hn 2 395 (by kernel_rfl) rfl
     have hv395 := hq395.2 (by decide)
     clear ho hn
     refine ⟨wanted_free rfl, ?_⟩
     obtain ⟨p_, rfl, o⟩ := hv395
     go_simp
   · refine bx_alloc HUX rfl (by decide) (by decide) rfl (.int .i64 0) (.slice none 0 0) (.slice none 0 0) ?_
     intro a8 w8 ho
     have o471 : a8.tmps[471]? = some _ := (ho 471 (by kernel_rfl)).trans rfl
     have hsz : 471 < a8.tmps.size := (Array.getElem?_eq_some_iff.1 o471).1
     refine ⟨by omega, wanted_free rfl, ?_⟩
     go_simp
   · refine bx_store HUX rfl rfl (by decide) (by decide) rfl (by kernel_rfl) rfl ?_
     intro a8 w8 g u0 u1 u2 hg n62 hn
     obtain ⟨v398, n398, hq398⟩ := hn 3 398 (by kernel_rfl) rfl
     have hv398 := hq398.2 (by decide)
     clear hn
     refine ⟨wanted_free rfl, ?_⟩
     obtain ⟨r, rfl, o⟩ := hv398
     have x0 := hg.cell 0
     have x1 := hg.cell 1
     have x2 := hg.cell 2
     have f0 := hg.frozen 0
     have f1 := hg.frozen 1
     have f2 := hg.frozen 2
     refine ⟨r, o, ?_⟩
     rw [show arC ⟨0, [], []⟩ r = #[.int .i64 0, .slice r.A0 0 r.c0, .slice r.A1 0 r.c1] from rfl] at n398
     clear hg o
     go_simp
   · refine vx HUX rfl 63 rfl (.int .i64 130) rfl ?_
     intro a8 w8 hb8 ho hn
     obtain ⟨v399, n399, hq399⟩ := hn 4 399 (by kernel_rfl) rfl
     obtain rfl := hq399.1 (by decide) (by decide)
     clear ho hn
     refine ⟨wanted_free rfl, ?_⟩
     go_simp
   omega
  intro dn fv wb34 hS5 hR5 hall
  obtain ⟨g34, e8, hg8, _, hfin⟩ := hS5.h (hall 5 (by decide))
  have e8 := put_at e8 472 rfl (by decide) rfl
  obtain ⟨r34, hb8, ho8⟩ := hfin (hall 6 (by decide))
  have hbw := hS5.b
  have h48 : fv 63 = .int .i64 130 := (hR5 7 63 rfl).1 (by decide) (by decide)
  clear hS5 hR5 hall hfin
  simp only [putAll, List.foldl_cons, List.foldl_nil, Act.put, List.setIfInBounds_toArray, List.set_cons_succ, List.set_cons_zero]
  rw [e8, h48]
  have HB_wb34 := Lib.hid (bxs_cons (g := g34) (X := ⟨0, [], []⟩) (p := r34) (HB_wb33.out.up hbw) ⟨hb8, ho8.el (by decide) (by decide) (by decide), Cap.of ho8⟩)
  have BW_wb34 := Lib.hid (bon BW_wb33.out hbw)
  clear HZW
  generalize fv 396 = u396, fv 397 = u397, fv 395 = u395, fv 398 = u398, fv 399 = u399
  clear hb8 ho8 hbw e8 h48 hg8 HUX HB_wb33 BW_wb33
  go_upto_region 36 with (fail)
  obtain ⟨wb35, hw9⟩ : ∃ W, (wb34.alloc (.cells #[.int .i64 1] 3)).alloc (.cells #[.slice (some ⟨wb34.heap.size, 0, none⟩) 1 1, .func (.func 29) #[] #[]] 37) = W := ⟨_, rfl⟩
  obtain ⟨gq, hq9⟩ : ∃ g, wb34.heap.size = g := ⟨_, rfl⟩
  have HOU : Hid (∀ W, Below wb35.heap.size wb35 W → (W.cell? ⟨gq + 1, 0, none⟩ = some (.slice (some ⟨gq, 0, none⟩) 1 1) ∧ W.cell? ⟨gq + 1, 1, none⟩ = some (.func (.func 29) #[] #[])) ∧ WayAt gq W (outV gq) [1] outF) := Lib.hid (fun W hb => by
   subst hw9 hq9
   have k1 := blk_up ((Blk.new wb34 3 #[.int .i64 1]).alloc (.cells #[.slice (some ⟨wb34.heap.size, 0, none⟩) 1 1, .func (.func 29) #[] #[]] 37)) hb
   have k2 := blk_up (Blk.new (wb34.alloc (.cells #[.int .i64 1] 3)) 37 #[.slice (some ⟨wb34.heap.size, 0, none⟩) 1 1, .func (.func 29) #[] #[]]) hb
   rw [World.size_alloc] at k2
   exact ⟨⟨k2.cell 0, k2.cell 1⟩, out_way k1 (Nat.le_refl _)⟩)
  have b9 : Below wb34.heap.size wb34 wb35 := by rw [← hw9]; exact mobelow2 _ _
  have HB_wb35 := Lib.hid (HB_wb34.out.up b9)
  have BW_wb35 := Lib.hid (bon BW_wb34.out b9)
  have BO_wb35 := Lib.hid (Below.refl wb35.heap.size wb35)
  rw [hw9, hq9]
  clear hw9 hq9 b9 HB_wb34 BW_wb34
  have HUX : BzU wb35 (lookU [(1, slo wb35 2 #[.int .i64 1, .int .i64 2]), (2, xo wb35 ⟨1, [2], [1, 2]⟩), (3, xe wb35 ⟨1, [2], [1, 2]⟩), (4, xto wb35 ⟨0, [], []⟩ 130), (5, xto wb35 ⟨0, [], []⟩ 130), (6, xo wb35 ⟨0, [], []⟩)]) := lookU_three (by
   intro x hx
   simp only [List.mem_cons, List.not_mem_nil, or_false] at hx
   rcases hx with rfl | rfl | rfl | rfl | rfl | rfl <;> first | exact stk3_of (xo_stk _ _) | exact stk3_of (slo_stk _ _ _) | exact stk3_of (sio_stk _ _ _) | exact xe_stk _ _ (by decide) | exact stk3_of (xto_stk _ _ _))
  refine wp_region_doneT_on (BzS wb35 8 9 65 ⟨0, [], []⟩) (bxR 8 [1, 2, 3, 4, 5, 6] (lookU [(1, slo wb35 2 #[.int .i64 1, .int .i64 2]), (2, xo wb35 ⟨1, [2], [1, 2]⟩), (3, xe wb35 ⟨1, [2], [1, 2]⟩), (4, xto wb35 ⟨0, [], []⟩ 130), (5, xto wb35 ⟨0, [], []⟩ 130), (6, xo wb35 ⟨0, [], []⟩)]) [outV gq, undef, undef, undef, undef, undef, undef, .int .i64 130, undef, undef, .int .i64 130]) (by kernel_rfl) 472 rfl (by kernel_rfl) ⟨(Below.refl _ _).drew, fun e => (by cases e), fun e => (by cases e)⟩ ?_ ?_
  ·intro i hi
   have hi2 : i < 11 := hi
   clear hi
   rcases i with _ | _ | _ | _ | _ | _ | _ | _ | _ | _ | _ | i
   · refine bz_value HUX rfl (by decide) (by decide) (by decide) 403 rfl (by decide) (outV gq) rfl ?_
     intro a8 w8 hb8 ho hn
     have o64 : a8.tmps[64]? = some _ := (ho 64 (by kernel_rfl)).trans rfl
     clear ho hn
     refine ⟨wanted_free rfl, ?_⟩
     obtain ⟨⟨x0, x1⟩, _⟩ := HOU.out w8 (bon BO_wb35.out hb8)
     go_simp
   · refine bz_make HUX rfl (by decide) (by decide) (by decide) 404 rfl (by decide) ?_
     refine fun _ w8 hb8 _ _ => ⟨wanted_free rfl, ?_⟩
     exact ⟨.slice (some ⟨w8.heap.size, 0, none⟩) 2 2, w8.alloc (.cells #[.int .i64 1, .int .i64 2] 2), (by go_simp), albel _ _, w8.heap.size, rfl, hb8.size, Blk.new w8 _ _⟩
   · refine bz_call HUX 18 rfl (by decide) (by decide) (by decide) 405 rfl (by decide) ?_
     intro a8 w8 hb8 ho hn
     obtain ⟨v404, n404, hq404⟩ := hn 1 404 (by kernel_rfl) rfl
     have hv404 := hq404.2 (by decide)
     clear ho hn
     refine ⟨wanted_free rfl, ?_⟩
     obtain ⟨g, rfl, _, hg⟩ := hv404
     refine ⟨#[.slice (some ⟨g, 0, none⟩) 2 2], (kc1 rfl rfl (by kernel_rfl) (ev_t n404)), (vec_lit [1, 2] (by decide) _ 2 2 w8 rfl (reads_blk hg rfl)).mono ?_⟩
     rintro e wz ⟨p_, rfl, o, b⟩
     exact ⟨_, rfl, b, p_, rfl, o.mono hb8.size⟩
   · refine bz_make HUX rfl (by decide) (by decide) (by decide) 406 rfl (by decide) ?_
     intro a8 w8 hb8 ho hn
     obtain ⟨v405, n405, hq405⟩ := hn 2 405 (by kernel_rfl) rfl
     have hv405 := hq405.2 (by decide)
     clear ho hn
     refine ⟨wanted_free rfl, ?_⟩
     obtain ⟨p_, rfl, o⟩ := hv405
     exact ⟨.slice (some ⟨w8.heap.size, 0, none⟩) 1 1, w8.alloc (.cells #[.int .i64 1, .slice p_.A0 1 p_.c0, .slice p_.A1 2 p_.c1] 25), (by rw [show arC ⟨1, [2], [1, 2]⟩ p_ = #[.int .i64 1, .slice p_.A0 1 p_.c0, .slice p_.A1 2 p_.c1] from rfl] at n405; go_simp), albel _ _, w8.heap.size, p_, rfl, Blk.new w8 _ _, o.stay (albel _ _) (Nat.le_refl _)⟩
   · refine bz_call HUX 28 rfl (by decide) (by decide) (by decide) 407 rfl (by decide) ?_
     intro a8 w8 hb8 ho hn
     obtain ⟨v403, n403, hq403⟩ := hn 0 403 (by kernel_rfl) rfl
     obtain rfl := hq403.1 (by decide) (by decide)
     obtain ⟨v406, n406, hq406⟩ := hn 3 406 (by kernel_rfl) rfl
     have hv406 := hq406.2 (by decide)
     clear ho hn
     refine ⟨wanted_free rfl, ?_⟩
     obtain ⟨ge, p_, rfl, hk_, o⟩ := hv406
     refine ⟨#[outV gq, .int .i64 1, .slice (some ⟨ge, 0, none⟩) 1 1], (by first | exact kc3 rfl rfl (by kernel_rfl) (ev_t n403) rfl (ev_t n406) | exact kc3 rfl rfl (by kernel_rfl) (ev_t n403) (ev_t n406) rfl | go_simp), (go_out 1 ⟨1, [2], [1, 2]⟩ ⟨0, [], []⟩ 130 (HOU.out w8 (bon BO_wb35.out hb8)).2 hk_ o (by decide) (by decide) (by decide) (by kernel_rfl) (by kernel_rfl)).mono ?_⟩
     rintro e wz ⟨r, rfl, o9, b9⟩
     exact ⟨_, rfl, b9, r, rfl, o9.mono hb8.size⟩
   · refine bz_make HUX rfl (by decide) (by decide) (by decide) 402 rfl (by decide) ?_
     intro a8 w8 hb8 ho hn
     obtain ⟨v407, n407, hq407⟩ := hn 4 407 (by kernel_rfl) rfl
     have hv407 := hq407.2 (by decide)
     clear ho hn
     refine ⟨wanted_free rfl, ?_⟩
     exact ⟨v407, w8, (by go_simp), Below.refl _ _, hv407⟩
   · refine bz_make HUX rfl (by decide) (by decide) (by decide) 408 rfl (by decide) ?_
     intro a8 w8 hb8 ho hn
     obtain ⟨v402, n402, hq402⟩ := hn 5 402 (by kernel_rfl) rfl
     have hv402 := hq402.2 (by decide)
     clear ho hn
     refine ⟨wanted_free rfl, ?_⟩
     obtain ⟨p_, rfl, o⟩ := hv402
     exact ⟨.agg (arC ⟨0, [], []⟩ p_), w8, (by go_simp), Below.refl _ _, p_, rfl, o⟩
   · refine bz_value HUX rfl (by decide) (by decide) (by decide) 409 rfl (by decide) (.int .i64 130) rfl ?_
     intro a8 w8 hb8 ho hn
     obtain ⟨v402, n402, hq402⟩ := hn 5 402 (by kernel_rfl) rfl
     have hv402 := hq402.2 (by decide)
     clear ho hn
     refine ⟨wanted_free rfl, ?_⟩
     obtain ⟨p_, rfl, o⟩ := hv402
     go_simp
   · refine bz_alloc HUX rfl (by decide) (by decide) rfl ?_
     intro a8 w8 ho
     have o471 : a8.tmps[471]? = some _ := (ho 471 (by kernel_rfl)).trans rfl
     have hsz : 471 < a8.tmps.size := (Array.getElem?_eq_some_iff.1 o471).1
     refine ⟨by omega, wanted_free rfl, ?_⟩
     go_simp
   · refine bz_store HUX rfl rfl (by decide) (by decide) rfl (by kernel_rfl) rfl ?_
     intro a8 w8 g hg n65 hn
     obtain ⟨v408, n408, hq408⟩ := hn 6 408 (by kernel_rfl) rfl
     have hv408 := hq408.2 (by decide)
     clear hn
     refine ⟨wanted_free rfl, ?_⟩
     obtain ⟨r, rfl, o⟩ := hv408
     have x0 := hg.cell 0
     have x1 := hg.cell 1
     have x2 := hg.cell 2
     have f0 := hg.frozen 0
     have f1 := hg.frozen 1
     have f2 := hg.frozen 2
     refine ⟨r, o, ?_⟩
     rw [show arC ⟨0, [], []⟩ r = #[.int .i64 0, .slice r.A0 0 r.c0, .slice r.A1 0 r.c1] from rfl] at n408
     clear hg o
     go_simp
   · refine bz_value HUX rfl (by decide) (by decide) (by decide) 66 rfl (by decide) (.int .i64 130) rfl ?_
     intro a8 w8 hb8 ho hn
     obtain ⟨v409, n409, hq409⟩ := hn 7 409 (by kernel_rfl) rfl
     obtain rfl := hq409.1 (by decide) (by decide)
     clear ho hn
     refine ⟨wanted_free rfl, ?_⟩
     go_simp
   omega
  intro dn fv wb36 hS5 hR5 hall
  obtain ⟨g36, e8, hg8, _, hfin⟩ := hS5.h (hall 8 (by decide))
  have e8 := put_at e8 472 rfl (by decide) rfl
  obtain ⟨r36, hb8, ho8⟩ := hfin (hall 9 (by decide))
  have hbw := hS5.b
  have h48 : fv 66 = .int .i64 130 := (hR5 10 66 rfl).1 (by decide) (by decide)
  clear hS5 hR5 hall hfin
  simp only [putAll, List.foldl_cons, List.foldl_nil, Act.put, List.setIfInBounds_toArray, List.set_cons_succ, List.set_cons_zero]
  rw [e8, h48]
  have HB_wb36 := Lib.hid (bxs_cons (g := g36) (X := ⟨0, [], []⟩) (p := r36) (HB_wb35.out.up hbw) ⟨hb8, ho8.el (by decide) (by decide) (by decide), Cap.of ho8⟩)
  have BW_wb36 := Lib.hid (bon BW_wb35.out hbw)
  have BO_wb36 := Lib.hid (bon BO_wb35.out hbw)
  generalize fv 403 = u403, fv 404 = u404, fv 405 = u405, fv 406 = u406, fv 407 = u407, fv 402 = u402, fv 408 = u408, fv 409 = u409
  clear hb8 ho8 hbw e8 h48 hg8 HUX HB_wb35 BW_wb35
  go_upto_region 37 with (fail)
  have HUX : BzU wb36 (lookU [(1, slo wb36 3 #[.int .i64 1, .int .i64 2, .int .i64 3]), (2, xo wb36 ⟨1, [3], [1, 2, 3]⟩), (3, xe wb36 ⟨1, [3], [1, 2, 3]⟩), (4, xto wb36 ⟨0, [], []⟩ 130), (5, xto wb36 ⟨0, [], []⟩ 130), (6, xo wb36 ⟨0, [], []⟩)]) := lookU_three (by
   intro x hx
   simp only [List.mem_cons, List.not_mem_nil, or_false] at hx
   rcases hx with rfl | rfl | rfl | rfl | rfl | rfl <;> first | exact stk3_of (xo_stk _ _) | exact stk3_of (slo_stk _ _ _) | exact stk3_of (sio_stk _ _ _) | exact xe_stk _ _ (by decide) | exact stk3_of (xto_stk _ _ _))
  refine wp_region_doneT_on (BzS wb36 8 9 67 ⟨0, [], []⟩) (bxR 8 [1, 2, 3, 4, 5, 6] (lookU [(1, slo wb36 3 #[.int .i64 1, .int .i64 2, .int .i64 3]), (2, xo wb36 ⟨1, [3], [1, 2, 3]⟩), (3, xe wb36 ⟨1, [3], [1, 2, 3]⟩), (4, xto wb36 ⟨0, [], []⟩ 130), (5, xto wb36 ⟨0, [], []⟩ 130), (6, xo wb36 ⟨0, [], []⟩)]) [outV gq, undef, undef, undef, undef, undef, undef, .int .i64 130, undef, undef, .int .i64 130]) (by kernel_rfl) 472 rfl (by kernel_rfl) ⟨(Below.refl _ _).drew, fun e => (by cases e), fun e => (by cases e)⟩ ?_ ?_
  ·intro i hi
   have hi2 : i < 11 := hi
   clear hi
   rcases i with _ | _ | _ | _ | _ | _ | _ | _ | _ | _ | _ | i
   · refine bz_value HUX rfl (by decide) (by decide) (by decide) 411 rfl (by decide) (outV gq) rfl ?_
     intro a8 w8 hb8 ho hn
     have o64 : a8.tmps[64]? = some _ := (ho 64 (by kernel_rfl)).trans rfl
     clear ho hn
     refine ⟨wanted_free rfl, ?_⟩
     obtain ⟨⟨x0, x1⟩, _⟩ := HOU.out w8 (bon BO_wb36.out hb8)
     go_simp
   · refine bz_make HUX rfl (by decide) (by decide) (by decide) 412 rfl (by decide) ?_
     refine fun _ w8 hb8 _ _ => ⟨wanted_free rfl, ?_⟩
     exact ⟨.slice (some ⟨w8.heap.size, 0, none⟩) 3 3, w8.alloc (.cells #[.int .i64 1, .int .i64 2, .int .i64 3] 2), (by go_simp), albel _ _, w8.heap.size, rfl, hb8.size, Blk.new w8 _ _⟩
   · refine bz_call HUX 18 rfl (by decide) (by decide) (by decide) 413 rfl (by decide) ?_
     intro a8 w8 hb8 ho hn
     obtain ⟨v412, n412, hq412⟩ := hn 1 412 (by kernel_rfl) rfl
     have hv412 := hq412.2 (by decide)
     clear ho hn
     refine ⟨wanted_free rfl, ?_⟩
     obtain ⟨g, rfl, _, hg⟩ := hv412
     refine ⟨#[.slice (some ⟨g, 0, none⟩) 3 3], (kc1 rfl rfl (by kernel_rfl) (ev_t n412)), (vec_lit [1, 2, 3] (by decide) _ 3 3 w8 rfl (reads_blk hg rfl)).mono ?_⟩
     rintro e wz ⟨p_, rfl, o, b⟩
     exact ⟨_, rfl, b, p_, rfl, o.mono hb8.size⟩
   · refine bz_make HUX rfl (by decide) (by decide) (by decide) 414 rfl (by decide) ?_
     intro a8 w8 hb8 ho hn
     obtain ⟨v413, n413, hq413⟩ := hn 2 413 (by kernel_rfl) rfl
     have hv413 := hq413.2 (by decide)
     clear ho hn
     refine ⟨wanted_free rfl, ?_⟩
     obtain ⟨p_, rfl, o⟩ := hv413
     exact ⟨.slice (some ⟨w8.heap.size, 0, none⟩) 1 1, w8.alloc (.cells #[.int .i64 1, .slice p_.A0 1 p_.c0, .slice p_.A1 3 p_.c1] 25), (by rw [show arC ⟨1, [3], [1, 2, 3]⟩ p_ = #[.int .i64 1, .slice p_.A0 1 p_.c0, .slice p_.A1 3 p_.c1] from rfl] at n413; go_simp), albel _ _, w8.heap.size, p_, rfl, Blk.new w8 _ _, o.stay (albel _ _) (Nat.le_refl _)⟩
   · refine bz_call HUX 28 rfl (by decide) (by decide) (by decide) 415 rfl (by decide) ?_
     intro a8 w8 hb8 ho hn
     obtain ⟨v411, n411, hq411⟩ := hn 0 411 (by kernel_rfl) rfl
     obtain rfl := hq411.1 (by decide) (by decide)
     obtain ⟨v414, n414, hq414⟩ := hn 3 414 (by kernel_rfl) rfl
     have hv414 := hq414.2 (by decide)
     clear ho hn
     refine ⟨wanted_free rfl, ?_⟩
     obtain ⟨ge, p_, rfl, hk_, o⟩ := hv414
     refine ⟨#[outV gq, .int .i64 3, .slice (some ⟨ge, 0, none⟩) 1 1], (by first | exact kc3 rfl rfl (by kernel_rfl) (ev_t n411) rfl (ev_t n414) | exact kc3 rfl rfl (by kernel_rfl) (ev_t n411) (ev_t n414) rfl | go_simp), (go_out 3 ⟨1, [3], [1, 2, 3]⟩ ⟨0, [], []⟩ 130 (HOU.out w8 (bon BO_wb36.out hb8)).2 hk_ o (by decide) (by decide) (by decide) (by kernel_rfl) (by kernel_rfl)).mono ?_⟩
     rintro e wz ⟨r, rfl, o9, b9⟩
     exact ⟨_, rfl, b9, r, rfl, o9.mono hb8.size⟩
   · refine bz_make HUX rfl (by decide) (by decide) (by decide) 410 rfl (by decide) ?_
     intro a8 w8 hb8 ho hn
     obtain ⟨v415, n415, hq415⟩ := hn 4 415 (by kernel_rfl) rfl
     have hv415 := hq415.2 (by decide)
     clear ho hn
     refine ⟨wanted_free rfl, ?_⟩
     exact ⟨v415, w8, (by go_simp), Below.refl _ _, hv415⟩
   · refine bz_make HUX rfl (by decide) (by decide) (by decide) 416 rfl (by decide) ?_
     intro a8 w8 hb8 ho hn
     obtain ⟨v410, n410, hq410⟩ := hn 5 410 (by kernel_rfl) rfl
     have hv410 := hq410.2 (by decide)
     clear ho hn
     refine ⟨wanted_free rfl, ?_⟩
     obtain ⟨p_, rfl, o⟩ := hv410
     exact ⟨.agg (arC ⟨0, [], []⟩ p_), w8, (by go_simp), Below.refl _ _, p_, rfl, o⟩
   · refine bz_value HUX rfl (by decide) (by decide) (by decide) 417 rfl (by decide) (.int .i64 130) rfl ?_
     intro a8 w8 hb8 ho hn
     obtain ⟨v410, n410, hq410⟩ := hn 5 410 (by kernel_rfl) rfl
     have hv410 := hq410.2 (by decide)
     clear ho hn
     refine ⟨wanted_free rfl, ?_⟩
     obtain ⟨p_, rfl, o⟩ := hv410
     go_simp
   · refine bz_alloc HUX rfl (by decide) (by decide) rfl ?_
     intro a8 w8 ho
     have o471 : a8.tmps[471]? = some _ := (ho 471 (by kernel_rfl)).trans rfl
     have hsz : 471 < a8.tmps.size := (Array.getElem?_eq_some_iff.1 o471).1
     refine ⟨by omega, wanted_free rfl, ?_⟩
     go_simp
   · refine bz_store HUX rfl rfl (by decide) (by decide) rfl (by kernel_rfl) rfl ?_
     intro a8 w8 g hg n67 hn
     obtain ⟨v416, n416, hq416⟩ := hn 6 416 (by kernel_rfl) rfl
     have hv416 := hq416.2 (by decide)
     clear hn
     refine ⟨wanted_free rfl, ?_⟩
     obtain ⟨r, rfl, o⟩ := hv416
     have x0 := hg.cell 0
     have x1 := hg.cell 1
     have x2 := hg.cell 2
     have f0 := hg.frozen 0
     have f1 := hg.frozen 1
     have f2 := hg.frozen 2
     refine ⟨r, o, ?_⟩
     rw [show arC ⟨0, [], []⟩ r = #[.int .i64 0, .slice r.A0 0 r.c0, .slice r.A1 0 r.c1] from rfl] at n416
     clear hg o
     go_simp
   · refine bz_value HUX rfl (by decide) (by decide) (by decide) 68 rfl (by decide) (.int .i64 130) rfl ?_
     intro a8 w8 hb8 ho hn
     obtain ⟨v417, n417, hq417⟩ := hn 7 417 (by kernel_rfl) rfl
     obtain rfl := hq417.1 (by decide) (by decide)
     clear ho hn
     refine ⟨wanted_free rfl, ?_⟩
     go_simp
   omega
  intro dn fv wb37 hS5 hR5 hall
  obtain ⟨g37, e8, hg8, _, hfin⟩ := hS5.h (hall 8 (by decide))
  have e8 := put_at e8 472 rfl (by decide) rfl
  obtain ⟨r37, hb8, ho8⟩ := hfin (hall 9 (by decide))
  have hbw := hS5.b
  have h48 : fv 68 = .int .i64 130 := (hR5 10 68 rfl).1 (by decide) (by decide)
  clear hS5 hR5 hall hfin
  simp only [putAll, List.foldl_cons, List.foldl_nil, Act.put, List.setIfInBounds_toArray, List.set_cons_succ, List.set_cons_zero]
  rw [e8, h48]
  have HB_wb37 := Lib.hid (bxs_cons (g := g37) (X := ⟨0, [], []⟩) (p := r37) (HB_wb36.out.up hbw) ⟨hb8, ho8.el (by decide) (by decide) (by decide), Cap.of ho8⟩)
  have BW_wb37 := Lib.hid (bon BW_wb36.out hbw)
  have BO_wb37 := Lib.hid (bon BO_wb36.out hbw)
  generalize fv 411 = u411, fv 412 = u412, fv 413 = u413, fv 414 = u414, fv 415 = u415, fv 410 = u410, fv 416 = u416, fv 417 = u417
  clear hb8 ho8 hbw e8 h48 hg8 HUX HB_wb36 BW_wb36
  go_upto_region 38 with (fail)
  have HUX : BzU wb37 (lookU [(1, slo wb37 3 #[.int .i64 1, .int .i64 2, .int .i64 (-3)]), (2, xo wb37 ⟨1, [3], [1, 2, -3]⟩), (3, xe wb37 ⟨1, [3], [1, 2, -3]⟩), (4, xto wb37 ⟨0, [], []⟩ 110), (5, xto wb37 ⟨0, [], []⟩ 110), (6, xo wb37 ⟨0, [], []⟩)]) := lookU_three (by
   intro x hx
   simp only [List.mem_cons, List.not_mem_nil, or_false] at hx
   rcases hx with rfl | rfl | rfl | rfl | rfl | rfl <;> first | exact stk3_of (xo_stk _ _) | exact stk3_of (slo_stk _ _ _) | exact stk3_of (sio_stk _ _ _) | exact xe_stk _ _ (by decide) | exact stk3_of (xto_stk _ _ _))
  refine wp_region_doneT_on (BzS wb37 8 9 69 ⟨0, [], []⟩) (bxR 8 [1, 2, 3, 4, 5, 6] (lookU [(1, slo wb37 3 #[.int .i64 1, .int .i64 2, .int .i64 (-3)]), (2, xo wb37 ⟨1, [3], [1, 2, -3]⟩), (3, xe wb37 ⟨1, [3], [1, 2, -3]⟩), (4, xto wb37 ⟨0, [], []⟩ 110), (5, xto wb37 ⟨0, [], []⟩ 110), (6, xo wb37 ⟨0, [], []⟩)]) [outV gq, undef, undef, undef, undef, undef, undef, .int .i64 110, undef, undef, .int .i64 110]) (by kernel_rfl) 472 rfl (by kernel_rfl) ⟨(Below.refl _ _).drew, fun e => (by cases e), fun e => (by cases e)⟩ ?_ ?_
  ·intro i hi
   have hi2 : i < 11 := hi
   clear hi
   rcases i with _ | _ | _ | _ | _ | _ | _ | _ | _ | _ | _ | i
   · refine bz_value HUX rfl (by decide) (by decide) (by decide) 419 rfl (by decide) (outV gq) rfl ?_
     intro a8 w8 hb8 ho hn
     have o64 : a8.tmps[64]? = some _ := (ho 64 (by kernel_rfl)).trans rfl
     clear ho hn
     refine ⟨wanted_free rfl, ?_⟩
     obtain ⟨⟨x0, x1⟩, _⟩ := HOU.out w8 (bon BO_wb37.out hb8)
     go_simp
   · refine bz_make HUX rfl (by decide) (by decide) (by decide) 420 rfl (by decide) ?_
     refine fun _ w8 hb8 _ _ => ⟨wanted_free rfl, ?_⟩
     exact ⟨.slice (some ⟨w8.heap.size, 0, none⟩) 3 3, w8.alloc (.cells #[.int .i64 1, .int .i64 2, .int .i64 (-3)] 2), (by go_simp), albel _ _, w8.heap.size, rfl, hb8.size, Blk.new w8 _ _⟩
   · refine bz_call HUX 18 rfl (by decide) (by decide) (by decide) 421 rfl (by decide) ?_
     intro a8 w8 hb8 ho hn
     obtain ⟨v420, n420, hq420⟩ := hn 1 420 (by kernel_rfl) rfl
     have hv420 := hq420.2 (by decide)
     clear ho hn
     refine ⟨wanted_free rfl, ?_⟩
     obtain ⟨g, rfl, _, hg⟩ := hv420
     refine ⟨#[.slice (some ⟨g, 0, none⟩) 3 3], (kc1 rfl rfl (by kernel_rfl) (ev_t n420)), (vec_lit [1, 2, -3] (by decide) _ 3 3 w8 rfl (reads_blk hg rfl)).mono ?_⟩
     rintro e wz ⟨p_, rfl, o, b⟩
     exact ⟨_, rfl, b, p_, rfl, o.mono hb8.size⟩
   · refine bz_make HUX rfl (by decide) (by decide) (by decide) 422 rfl (by decide) ?_
     intro a8 w8 hb8 ho hn
     obtain ⟨v421, n421, hq421⟩ := hn 2 421 (by kernel_rfl) rfl
     have hv421 := hq421.2 (by decide)
     clear ho hn
     refine ⟨wanted_free rfl, ?_⟩
     obtain ⟨p_, rfl, o⟩ := hv421
     exact ⟨.slice (some ⟨w8.heap.size, 0, none⟩) 1 1, w8.alloc (.cells #[.int .i64 1, .slice p_.A0 1 p_.c0, .slice p_.A1 3 p_.c1] 25), (by rw [show arC ⟨1, [3], [1, 2, -3]⟩ p_ = #[.int .i64 1, .slice p_.A0 1 p_.c0, .slice p_.A1 3 p_.c1] from rfl] at n421; go_simp), albel _ _, w8.heap.size, p_, rfl, Blk.new w8 _ _, o.stay (albel _ _) (Nat.le_refl _)⟩
   · refine bz_call HUX 28 rfl (by decide) (by decide) (by decide) 423 rfl (by decide) ?_
     intro a8 w8 hb8 ho hn
     obtain ⟨v419, n419, hq419⟩ := hn 0 419 (by kernel_rfl) rfl
     obtain rfl := hq419.1 (by decide) (by decide)
     obtain ⟨v422, n422, hq422⟩ := hn 3 422 (by kernel_rfl) rfl
     have hv422 := hq422.2 (by decide)
     clear ho hn
     refine ⟨wanted_free rfl, ?_⟩
     obtain ⟨ge, p_, rfl, hk_, o⟩ := hv422
     refine ⟨#[outV gq, .int .i64 2, .slice (some ⟨ge, 0, none⟩) 1 1], (by first | exact kc3 rfl rfl (by kernel_rfl) (ev_t n419) rfl (ev_t n422) | exact kc3 rfl rfl (by kernel_rfl) (ev_t n419) (ev_t n422) rfl | go_simp), (go_out 2 ⟨1, [3], [1, 2, -3]⟩ ⟨0, [], []⟩ 110 (HOU.out w8 (bon BO_wb37.out hb8)).2 hk_ o (by decide) (by decide) (by decide) (by kernel_rfl) (by kernel_rfl)).mono ?_⟩
     rintro e wz ⟨r, rfl, o9, b9⟩
     exact ⟨_, rfl, b9, r, rfl, o9.mono hb8.size⟩
   · refine bz_make HUX rfl (by decide) (by decide) (by decide) 418 rfl (by decide) ?_
     intro a8 w8 hb8 ho hn
     obtain ⟨v423, n423, hq423⟩ := hn 4 423 (by kernel_rfl) rfl
     have hv423 := hq423.2 (by decide)
     clear ho hn
     refine ⟨wanted_free rfl, ?_⟩
     exact ⟨v423, w8, (by go_simp), Below.refl _ _, hv423⟩
   · refine bz_make HUX rfl (by decide) (by decide) (by decide) 424 rfl (by decide) ?_
     intro a8 w8 hb8 ho hn
     obtain ⟨v418, n418, hq418⟩ := hn 5 418 (by kernel_rfl) rfl
     have hv418 := hq418.2 (by decide)
     clear ho hn
     refine ⟨wanted_free rfl, ?_⟩
     obtain ⟨p_, rfl, o⟩ := hv418
     exact ⟨.agg (arC ⟨0, [], []⟩ p_), w8, (by go_simp), Below.refl _ _, p_, rfl, o⟩
   · refine bz_value HUX rfl (by decide) (by decide) (by decide) 425 rfl (by decide) (.int .i64 110) rfl ?_
     intro a8 w8 hb8 ho hn
     obtain ⟨v418, n418, hq418⟩ := hn 5 418 (by kernel_rfl) rfl
     have hv418 := hq418.2 (by decide)
     clear ho hn
     refine ⟨wanted_free rfl, ?_⟩
     obtain ⟨p_, rfl, o⟩ := hv418
     go_simp
   · refine bz_alloc HUX rfl (by decide) (by decide) rfl ?_
     intro a8 w8 ho
     have o471 : a8.tmps[471]? = some _ := (ho 471 (by kernel_rfl)).trans rfl
     have hsz : 471 < a8.tmps.size := (Array.getElem?_eq_some_iff.1 o471).1
     refine ⟨by omega, wanted_free rfl, ?_⟩
     go_simp
   · refine bz_store HUX rfl rfl (by decide) (by decide) rfl (by kernel_rfl) rfl ?_
     intro a8 w8 g hg n69 hn
     obtain ⟨v424, n424, hq424⟩ := hn 6 424 (by kernel_rfl) rfl
     have hv424 := hq424.2 (by decide)
     clear hn
     refine ⟨wanted_free rfl, ?_⟩
     obtain ⟨r, rfl, o⟩ := hv424
     have x0 := hg.cell 0
     have x1 := hg.cell 1
     have x2 := hg.cell 2
     have f0 := hg.frozen 0
     have f1 := hg.frozen 1
     have f2 := hg.frozen 2
     refine ⟨r, o, ?_⟩
     rw [show arC ⟨0, [], []⟩ r = #[.int .i64 0, .slice r.A0 0 r.c0, .slice r.A1 0 r.c1] from rfl] at n424
     clear hg o
     go_simp
   · refine bz_value HUX rfl (by decide) (by decide) (by decide) 70 rfl (by decide) (.int .i64 110) rfl ?_
     intro a8 w8 hb8 ho hn
     obtain ⟨v425, n425, hq425⟩ := hn 7 425 (by kernel_rfl) rfl
     obtain rfl := hq425.1 (by decide) (by decide)
     clear ho hn
     refine ⟨wanted_free rfl, ?_⟩
     go_simp
   omega
  intro dn fv wb38 hS5 hR5 hall
  obtain ⟨g38, e8, hg8, _, hfin⟩ := hS5.h (hall 8 (by decide))
  have e8 := put_at e8 472 rfl (by decide) rfl
  obtain ⟨r38, hb8, ho8⟩ := hfin (hall 9 (by decide))
  have hbw := hS5.b
  have h48 : fv 70 = .int .i64 110 := (hR5 10 70 rfl).1 (by decide) (by decide)
  clear hS5 hR5 hall hfin
  simp only [putAll, List.foldl_cons, List.foldl_nil, Act.put, List.setIfInBounds_toArray, List.set_cons_succ, List.set_cons_zero]
  rw [e8, h48]
  have HB_wb38 := Lib.hid (bxs_cons (g := g38) (X := ⟨0, [], []⟩) (p := r38) (HB_wb37.out.up hbw) ⟨hb8, ho8.el (by decide) (by decide) (by decide), Cap.of ho8⟩)
  have BW_wb38 := Lib.hid (bon BW_wb37.out hbw)
  have BO_wb38 := Lib.hid (bon BO_wb37.out hbw)
  generalize fv 419 = u419, fv 420 = u420, fv 421 = u421, fv 422 = u422, fv 423 = u423, fv 418 = u418, fv 424 = u424, fv 425 = u425
  clear hb8 ho8 hbw e8 h48 hg8 HUX HB_wb37 BW_wb37
  go_upto_region 39 with (fail)
  have HUX : BzU wb38 (lookU [(1, slo wb38 3 #[.int .i64 1, .int .i64 2, .int .i64 (-3)]), (2, xo wb38 ⟨1, [3], [1, 2, -3]⟩), (3, xe wb38 ⟨1, [3], [1, 2, -3]⟩), (4, xto wb38 ⟨1, [1], [-3]⟩ 0), (5, xto wb38 ⟨1, [1], [-3]⟩ 0), (6, xo wb38 ⟨1, [1], [-3]⟩)]) := lookU_three (by
   intro x hx
   simp only [List.mem_cons, List.not_mem_nil, or_false] at hx
   rcases hx with rfl | rfl | rfl | rfl | rfl | rfl <;> first | exact stk3_of (xo_stk _ _) | exact stk3_of (slo_stk _ _ _) | exact stk3_of (sio_stk _ _ _) | exact xe_stk _ _ (by decide) | exact stk3_of (xto_stk _ _ _))
  refine wp_region_doneT_on (BzS wb38 8 9 71 ⟨1, [1], [-3]⟩) (bxR 8 [1, 2, 3, 4, 5, 6] (lookU [(1, slo wb38 3 #[.int .i64 1, .int .i64 2, .int .i64 (-3)]), (2, xo wb38 ⟨1, [3], [1, 2, -3]⟩), (3, xe wb38 ⟨1, [3], [1, 2, -3]⟩), (4, xto wb38 ⟨1, [1], [-3]⟩ 0), (5, xto wb38 ⟨1, [1], [-3]⟩ 0), (6, xo wb38 ⟨1, [1], [-3]⟩)]) [outV gq, undef, undef, undef, undef, undef, undef, .int .i64 0, undef, undef, .int .i64 0]) (by kernel_rfl) 472 rfl (by kernel_rfl) ⟨(Below.refl _ _).drew, fun e => (by cases e), fun e => (by cases e)⟩ ?_ ?_
  ·intro i hi
   have hi2 : i < 11 := hi
   clear hi
   rcases i with _ | _ | _ | _ | _ | _ | _ | _ | _ | _ | _ | i
   · refine bz_value HUX rfl (by decide) (by decide) (by decide) 427 rfl (by decide) (outV gq) rfl ?_
     intro a8 w8 hb8 ho hn
     have o64 : a8.tmps[64]? = some _ := (ho 64 (by kernel_rfl)).trans rfl
     clear ho hn
     refine ⟨wanted_free rfl, ?_⟩
     obtain ⟨⟨x0, x1⟩, _⟩ := HOU.out w8 (bon BO_wb38.out hb8)
     go_simp
   · refine bz_make HUX rfl (by decide) (by decide) (by decide) 428 rfl (by decide) ?_
     refine fun _ w8 hb8 _ _ => ⟨wanted_free rfl, ?_⟩
     exact ⟨.slice (some ⟨w8.heap.size, 0, none⟩) 3 3, w8.alloc (.cells #[.int .i64 1, .int .i64 2, .int .i64 (-3)] 2), (by go_simp), albel _ _, w8.heap.size, rfl, hb8.size, Blk.new w8 _ _⟩
   · refine bz_call HUX 18 rfl (by decide) (by decide) (by decide) 429 rfl (by decide) ?_
     intro a8 w8 hb8 ho hn
     obtain ⟨v428, n428, hq428⟩ := hn 1 428 (by kernel_rfl) rfl
     have hv428 := hq428.2 (by decide)
     clear ho hn
     refine ⟨wanted_free rfl, ?_⟩
     obtain ⟨g, rfl, _, hg⟩ := hv428
     refine ⟨#[.slice (some ⟨g, 0, none⟩) 3 3], (kc1 rfl rfl (by kernel_rfl) (ev_t n428)), (vec_lit [1, 2, -3] (by decide) _ 3 3 w8 rfl (reads_blk hg rfl)).mono ?_⟩
     rintro e wz ⟨p_, rfl, o, b⟩
     exact ⟨_, rfl, b, p_, rfl, o.mono hb8.size⟩
   · refine bz_make HUX rfl (by decide) (by decide) (by decide) 430 rfl (by decide) ?_
     intro a8 w8 hb8 ho hn
     obtain ⟨v429, n429, hq429⟩ := hn 2 429 (by kernel_rfl) rfl
     have hv429 := hq429.2 (by decide)
     clear ho hn
     refine ⟨wanted_free rfl, ?_⟩
     obtain ⟨p_, rfl, o⟩ := hv429
     exact ⟨.slice (some ⟨w8.heap.size, 0, none⟩) 1 1, w8.alloc (.cells #[.int .i64 1, .slice p_.A0 1 p_.c0, .slice p_.A1 3 p_.c1] 25), (by rw [show arC ⟨1, [3], [1, 2, -3]⟩ p_ = #[.int .i64 1, .slice p_.A0 1 p_.c0, .slice p_.A1 3 p_.c1] from rfl] at n429; go_simp), albel _ _, w8.heap.size, p_, rfl, Blk.new w8 _ _, o.stay (albel _ _) (Nat.le_refl _)⟩
   · refine bz_call HUX 28 rfl (by decide) (by decide) (by decide) 431 rfl (by decide) ?_
     intro a8 w8 hb8 ho hn
     obtain ⟨v427, n427, hq427⟩ := hn 0 427 (by kernel_rfl) rfl
     obtain rfl := hq427.1 (by decide) (by decide)
     obtain ⟨v430, n430, hq430⟩ := hn 3 430 (by kernel_rfl) rfl
     have hv430 := hq430.2 (by decide)
     clear ho hn
     refine ⟨wanted_free rfl, ?_⟩
     obtain ⟨ge, p_, rfl, hk_, o⟩ := hv430
     refine ⟨#[outV gq, .int .i64 1, .slice (some ⟨ge, 0, none⟩) 1 1], (by first | exact kc3 rfl rfl (by kernel_rfl) (ev_t n427) rfl (ev_t n430) | exact kc3 rfl rfl (by kernel_rfl) (ev_t n427) (ev_t n430) rfl | go_simp), (go_out 1 ⟨1, [3], [1, 2, -3]⟩ ⟨1, [1], [-3]⟩ 0 (HOU.out w8 (bon BO_wb38.out hb8)).2 hk_ o (by decide) (by decide) (by decide) (by kernel_rfl) (by kernel_rfl)).mono ?_⟩
     rintro e wz ⟨r, rfl, o9, b9⟩
     exact ⟨_, rfl, b9, r, rfl, o9.mono hb8.size⟩
   · refine bz_make HUX rfl (by decide) (by decide) (by decide) 426 rfl (by decide) ?_
     intro a8 w8 hb8 ho hn
     obtain ⟨v431, n431, hq431⟩ := hn 4 431 (by kernel_rfl) rfl
     have hv431 := hq431.2 (by decide)
     clear ho hn
     refine ⟨wanted_free rfl, ?_⟩
     exact ⟨v431, w8, (by go_simp), Below.refl _ _, hv431⟩
   · refine bz_make HUX rfl (by decide) (by decide) (by decide) 432 rfl (by decide) ?_
     intro a8 w8 hb8 ho hn
     obtain ⟨v426, n426, hq426⟩ := hn 5 426 (by kernel_rfl) rfl
     have hv426 := hq426.2 (by decide)
     clear ho hn
     refine ⟨wanted_free rfl, ?_⟩
     obtain ⟨p_, rfl, o⟩ := hv426
     exact ⟨.agg (arC ⟨1, [1], [-3]⟩ p_), w8, (by go_simp), Below.refl _ _, p_, rfl, o⟩
   · refine bz_value HUX rfl (by decide) (by decide) (by decide) 433 rfl (by decide) (.int .i64 0) rfl ?_
     intro a8 w8 hb8 ho hn
     obtain ⟨v426, n426, hq426⟩ := hn 5 426 (by kernel_rfl) rfl
     have hv426 := hq426.2 (by decide)
     clear ho hn
     refine ⟨wanted_free rfl, ?_⟩
     obtain ⟨p_, rfl, o⟩ := hv426
     go_simp
   · refine bz_alloc HUX rfl (by decide) (by decide) rfl ?_
     intro a8 w8 ho
     have o471 : a8.tmps[471]? = some _ := (ho 471 (by kernel_rfl)).trans rfl
     have hsz : 471 < a8.tmps.size := (Array.getElem?_eq_some_iff.1 o471).1
     refine ⟨by omega, wanted_free rfl, ?_⟩
     go_simp
   · refine bz_store HUX rfl rfl (by decide) (by decide) rfl (by kernel_rfl) rfl ?_
     intro a8 w8 g hg n71 hn
     obtain ⟨v432, n432, hq432⟩ := hn 6 432 (by kernel_rfl) rfl
     have hv432 := hq432.2 (by decide)
     clear hn
     refine ⟨wanted_free rfl, ?_⟩
     obtain ⟨r, rfl, o⟩ := hv432
     have x0 := hg.cell 0
     have x1 := hg.cell 1
     have x2 := hg.cell 2
     have f0 := hg.frozen 0
     have f1 := hg.frozen 1
     have f2 := hg.frozen 2
     refine ⟨r, o, ?_⟩
     rw [show arC ⟨1, [1], [-3]⟩ r = #[.int .i64 1, .slice r.A0 1 r.c0, .slice r.A1 1 r.c1] from rfl] at n432
     clear hg o
     go_simp
   · refine bz_value HUX rfl (by decide) (by decide) (by decide) 72 rfl (by decide) (.int .i64 0) rfl ?_
     intro a8 w8 hb8 ho hn
     obtain ⟨v433, n433, hq433⟩ := hn 7 433 (by kernel_rfl) rfl
     obtain rfl := hq433.1 (by decide) (by decide)
     clear ho hn
     refine ⟨wanted_free rfl, ?_⟩
     go_simp
   omega
  intro dn fv wb39 hS5 hR5 hall
  obtain ⟨g39, e8, hg8, _, hfin⟩ := hS5.h (hall 8 (by decide))
  have e8 := put_at e8 472 rfl (by decide) rfl
  obtain ⟨r39, hb8, ho8⟩ := hfin (hall 9 (by decide))
  have hbw := hS5.b
  have h48 : fv 72 = .int .i64 0 := (hR5 10 72 rfl).1 (by decide) (by decide)
  clear hS5 hR5 hall hfin
  simp only [putAll, List.foldl_cons, List.foldl_nil, Act.put, List.setIfInBounds_toArray, List.set_cons_succ, List.set_cons_zero]
  rw [e8, h48]
  have HB_wb39 := Lib.hid (bxs_cons (g := g39) (X := ⟨1, [1], [-3]⟩) (p := r39) (HB_wb38.out.up hbw) ⟨hb8, ho8.el (by decide) (by decide) (by decide), Cap.of ho8⟩)
  have BW_wb39 := Lib.hid (bon BW_wb38.out hbw)
  have BO_wb39 := Lib.hid (bon BO_wb38.out hbw)
  generalize fv 427 = u427, fv 428 = u428, fv 429 = u429, fv 430 = u430, fv 431 = u431, fv 426 = u426, fv 432 = u432, fv 433 = u433
  clear hb8 ho8 hbw e8 h48 hg8 HUX HB_wb38 BW_wb38
  go_upto_region 40 with (fail)
  have HU : GU (lookU [(1, xv (.bool true)), (34, slo wb39 1 #[.int .i64 (-3)]), (35, xo wb39 ⟨1, [1], [-3]⟩), (36, xv (.bool true))]) := lookU_stay (by
   intro x hx
   simp only [List.mem_cons, List.not_mem_nil, or_false] at hx
   rcases hx with rfl | rfl | rfl | rfl <;> first | exact (slo_stk _ _ _).1 | exact (sio_stk _ _ _).1 | exact (xo_stk _ _).1 | exact xv_stk _)
  refine wp_region_done_on (GS wb39) (GR [1, 34, 35, 36] (lookU [(1, xv (.bool true)), (34, slo wb39 1 #[.int .i64 (-3)]), (35, xo wb39 ⟨1, [1], [-3]⟩), (36, xv (.bool true))]) [.bool true, undef, .bool true, .bool true, .bool true, .bool true, .bool true, .bool true, .bool true, .bool true, .bool true, .bool true, .bool true, .bool true, .bool true, .bool true, .int .i64 130, .bool true, .bool true, .bool true, .int .i64 130, .bool true, .bool true, .bool true, .int .i64 130, .bool true, .bool true, .bool true, .int .i64 110, .bool true, .bool true, .bool true, .agg #[.int .i64 1, .slice r39.A0 1 r39.c0, .slice r39.A1 1 r39.c1], .int .i64 0, undef, undef, undef, .bool true, .bool true]) (by kernel_rfl) 472 rfl (by kernel_rfl) ((Below.refl _ _).drew) ?_ ?_
  ·intro i hi
   have hi2 : i < 39 := hi
   clear hi
   rcases i with _ | _ | _ | _ | _ | _ | _ | _ | _ | _ | _ | _ | _ | _ | _ | _ | _ | _ | _ | _ | _ | _ | _ | _ | _ | _ | _ | _ | _ | _ | _ | _ | _ | _ | _ | _ | _ | _ | _ | i
   · refine gr_value rfl (by decide) (.bool true) rfl ?_
     refine fun _ w8 hb8 _ _ => ⟨wanted_free rfl, ?_⟩
     go_simp
   · refine gr_call HU 30 rfl (by decide) ?_
     intro a8 w8 hb8 ho hn
     obtain ⟨v434, n434, hq434⟩ := hn 0 434 (by kernel_rfl) rfl
     obtain rfl := hq434.1 (by decide)
     clear ho hn
     refine ⟨wanted_of 0 434 rfl rfl n434, ?_⟩
     refine ⟨#[], (by kernel_rfl), (l13alive w8).mono ?_⟩
     rintro e wz ⟨rfl, b9⟩
     exact ⟨_, rfl, b9, rfl⟩
   · refine gr_value rfl (by decide) (.bool true) rfl ?_
     intro a8 w8 hb8 ho hn
     obtain ⟨v434, n434, hq434⟩ := hn 0 434 (by kernel_rfl) rfl
     obtain rfl := hq434.1 (by decide)
     obtain ⟨v435, n435, hq435⟩ := hn 1 435 (by kernel_rfl) rfl
     have hv435 := hq435.2 (by decide)
     clear ho hn
     refine ⟨wanted_free rfl, ?_⟩
     obtain rfl : v435 = .bool true := hv435
     go_simp
   · refine gr_value rfl (by decide) (.bool true) rfl ?_
     intro a8 w8 hb8 ho hn
     obtain ⟨v436, n436, hq436⟩ := hn 2 436 (by kernel_rfl) rfl
     obtain rfl := hq436.1 (by decide)
     clear ho hn
     refine ⟨wanted_free rfl, ?_⟩
     go_simp
   · refine gr_value rfl (by decide) (.bool true) rfl ?_
     intro a8 w8 hb8 ho hn
     have o15 : a8.tmps[15]? = some _ := (ho 15 (by kernel_rfl)).trans rfl
     obtain ⟨v437, n437, hq437⟩ := hn 3 437 (by kernel_rfl) rfl
     obtain rfl := hq437.1 (by decide)
     clear ho hn
     refine ⟨wanted_of 3 437 rfl rfl n437, ?_⟩
     go_simp
   · refine gr_value rfl (by decide) (.bool true) rfl ?_
     intro a8 w8 hb8 ho hn
     obtain ⟨v437, n437, hq437⟩ := hn 3 437 (by kernel_rfl) rfl
     obtain rfl := hq437.1 (by decide)
     obtain ⟨v438, n438, hq438⟩ := hn 4 438 (by kernel_rfl) rfl
     obtain rfl := hq438.1 (by decide)
     clear ho hn
     refine ⟨wanted_free rfl, ?_⟩
     go_simp
   · refine gr_value rfl (by decide) (.bool true) rfl ?_
     intro a8 w8 hb8 ho hn
     obtain ⟨v439, n439, hq439⟩ := hn 5 439 (by kernel_rfl) rfl
     obtain rfl := hq439.1 (by decide)
     clear ho hn
     refine ⟨wanted_free rfl, ?_⟩
     go_simp
   · refine gr_value rfl (by decide) (.bool true) rfl ?_
     intro a8 w8 hb8 ho hn
     have o30 : a8.tmps[30]? = some _ := (ho 30 (by kernel_rfl)).trans rfl
     obtain ⟨v440, n440, hq440⟩ := hn 6 440 (by kernel_rfl) rfl
     obtain rfl := hq440.1 (by decide)
     clear ho hn
     refine ⟨wanted_of 6 440 rfl rfl n440, ?_⟩
     go_simp
   · refine gr_value rfl (by decide) (.bool true) rfl ?_
     intro a8 w8 hb8 ho hn
     obtain ⟨v440, n440, hq440⟩ := hn 6 440 (by kernel_rfl) rfl
     obtain rfl := hq440.1 (by decide)
     obtain ⟨v441, n441, hq441⟩ := hn 7 441 (by kernel_rfl) rfl
     obtain rfl := hq441.1 (by decide)
     clear ho hn
     refine ⟨wanted_free rfl, ?_⟩
     go_simp
   · refine gr_value rfl (by decide) (.bool true) rfl ?_
     intro a8 w8 hb8 ho hn
     obtain ⟨v442, n442, hq442⟩ := hn 8 442 (by kernel_rfl) rfl
     obtain rfl := hq442.1 (by decide)
     clear ho hn
     refine ⟨wanted_free rfl, ?_⟩
     go_simp
   · refine gr_value rfl (by decide) (.bool true) rfl ?_
     intro a8 w8 hb8 ho hn
     have o45 : a8.tmps[45]? = some _ := (ho 45 (by kernel_rfl)).trans rfl
     obtain ⟨v443, n443, hq443⟩ := hn 9 443 (by kernel_rfl) rfl
     obtain rfl := hq443.1 (by decide)
     clear ho hn
     refine ⟨wanted_of 9 443 rfl rfl n443, ?_⟩
     go_simp
   · refine gr_value rfl (by decide) (.bool true) rfl ?_
     intro a8 w8 hb8 ho hn
     obtain ⟨v443, n443, hq443⟩ := hn 9 443 (by kernel_rfl) rfl
     obtain rfl := hq443.1 (by decide)
     obtain ⟨v444, n444, hq444⟩ := hn 10 444 (by kernel_rfl) rfl
     obtain rfl := hq444.1 (by decide)
     clear ho hn
     refine ⟨wanted_free rfl, ?_⟩
     go_simp
   · refine gr_value rfl (by decide) (.bool true) rfl ?_
     intro a8 w8 hb8 ho hn
     obtain ⟨v445, n445, hq445⟩ := hn 11 445 (by kernel_rfl) rfl
     obtain rfl := hq445.1 (by decide)
     clear ho hn
     refine ⟨wanted_free rfl, ?_⟩
     go_simp
   · refine gr_value rfl (by decide) (.bool true) rfl ?_
     intro a8 w8 hb8 ho hn
     have o60 : a8.tmps[60]? = some _ := (ho 60 (by kernel_rfl)).trans rfl
     obtain ⟨v446, n446, hq446⟩ := hn 12 446 (by kernel_rfl) rfl
     obtain rfl := hq446.1 (by decide)
     clear ho hn
     refine ⟨wanted_of 12 446 rfl rfl n446, ?_⟩
     go_simp
   · refine gr_value rfl (by decide) (.bool true) rfl ?_
     intro a8 w8 hb8 ho hn
     obtain ⟨v446, n446, hq446⟩ := hn 12 446 (by kernel_rfl) rfl
     obtain rfl := hq446.1 (by decide)
     obtain ⟨v447, n447, hq447⟩ := hn 13 447 (by kernel_rfl) rfl
     obtain rfl := hq447.1 (by decide)
     clear ho hn
     refine ⟨wanted_free rfl, ?_⟩
     go_simp
   · refine gr_value rfl (by decide) (.bool true) rfl ?_
     intro a8 w8 hb8 ho hn
     obtain ⟨v448, n448, hq448⟩ := hn 14 448 (by kernel_rfl) rfl
     obtain rfl := hq448.1 (by decide)
     clear ho hn
     refine ⟨wanted_free rfl, ?_⟩
     go_simp
   · refine gr_value rfl (by decide) (.int .i64 130) rfl ?_
     intro a8 w8 hb8 ho hn
     have o63 : a8.tmps[63]? = some _ := (ho 63 (by kernel_rfl)).trans rfl
     obtain ⟨v449, n449, hq449⟩ := hn 15 449 (by kernel_rfl) rfl
     obtain rfl := hq449.1 (by decide)
     clear ho hn
     refine ⟨wanted_of 15 449 rfl rfl n449, ?_⟩
     go_simp
   · refine gr_value rfl (by decide) (.bool true) rfl ?_
     intro a8 w8 hb8 ho hn
     obtain ⟨v450, n450, hq450⟩ := hn 16 450 (by kernel_rfl) rfl
     obtain rfl := hq450.1 (by decide)
     obtain ⟨v449, n449, hq449⟩ := hn 15 449 (by kernel_rfl) rfl
     obtain rfl := hq449.1 (by decide)
     clear ho hn
     refine ⟨wanted_of 15 449 rfl rfl n449, ?_⟩
     go_simp
   · refine gr_value rfl (by decide) (.bool true) rfl ?_
     intro a8 w8 hb8 ho hn
     obtain ⟨v449, n449, hq449⟩ := hn 15 449 (by kernel_rfl) rfl
     obtain rfl := hq449.1 (by decide)
     obtain ⟨v451, n451, hq451⟩ := hn 17 451 (by kernel_rfl) rfl
     obtain rfl := hq451.1 (by decide)
     clear ho hn
     refine ⟨wanted_free rfl, ?_⟩
     go_simp
   · refine gr_value rfl (by decide) (.bool true) rfl ?_
     intro a8 w8 hb8 ho hn
     obtain ⟨v452, n452, hq452⟩ := hn 18 452 (by kernel_rfl) rfl
     obtain rfl := hq452.1 (by decide)
     clear ho hn
     refine ⟨wanted_free rfl, ?_⟩
     go_simp
   · refine gr_value rfl (by decide) (.int .i64 130) rfl ?_
     intro a8 w8 hb8 ho hn
     have o66 : a8.tmps[66]? = some _ := (ho 66 (by kernel_rfl)).trans rfl
     obtain ⟨v453, n453, hq453⟩ := hn 19 453 (by kernel_rfl) rfl
     obtain rfl := hq453.1 (by decide)
     clear ho hn
     refine ⟨wanted_of 19 453 rfl rfl n453, ?_⟩
     go_simp
   · refine gr_value rfl (by decide) (.bool true) rfl ?_
     intro a8 w8 hb8 ho hn
     obtain ⟨v454, n454, hq454⟩ := hn 20 454 (by kernel_rfl) rfl
     obtain rfl := hq454.1 (by decide)
     obtain ⟨v453, n453, hq453⟩ := hn 19 453 (by kernel_rfl) rfl
     obtain rfl := hq453.1 (by decide)
     clear ho hn
     refine ⟨wanted_of 19 453 rfl rfl n453, ?_⟩
     go_simp
   · refine gr_value rfl (by decide) (.bool true) rfl ?_
     intro a8 w8 hb8 ho hn
     obtain ⟨v453, n453, hq453⟩ := hn 19 453 (by kernel_rfl) rfl
     obtain rfl := hq453.1 (by decide)
     obtain ⟨v455, n455, hq455⟩ := hn 21 455 (by kernel_rfl) rfl
     obtain rfl := hq455.1 (by decide)
     clear ho hn
     refine ⟨wanted_free rfl, ?_⟩
     go_simp
   · refine gr_value rfl (by decide) (.bool true) rfl ?_
     intro a8 w8 hb8 ho hn
     obtain ⟨v456, n456, hq456⟩ := hn 22 456 (by kernel_rfl) rfl
     obtain rfl := hq456.1 (by decide)
     clear ho hn
     refine ⟨wanted_free rfl, ?_⟩
     go_simp
   · refine gr_value rfl (by decide) (.int .i64 130) rfl ?_
     intro a8 w8 hb8 ho hn
     have o68 : a8.tmps[68]? = some _ := (ho 68 (by kernel_rfl)).trans rfl
     obtain ⟨v457, n457, hq457⟩ := hn 23 457 (by kernel_rfl) rfl
     obtain rfl := hq457.1 (by decide)
     clear ho hn
     refine ⟨wanted_of 23 457 rfl rfl n457, ?_⟩
     go_simp
   · refine gr_value rfl (by decide) (.bool true) rfl ?_
     intro a8 w8 hb8 ho hn
     obtain ⟨v458, n458, hq458⟩ := hn 24 458 (by kernel_rfl) rfl
     obtain rfl := hq458.1 (by decide)
     obtain ⟨v457, n457, hq457⟩ := hn 23 457 (by kernel_rfl) rfl
     obtain rfl := hq457.1 (by decide)
     clear ho hn
     refine ⟨wanted_of 23 457 rfl rfl n457, ?_⟩
     go_simp
   · refine gr_value rfl (by decide) (.bool true) rfl ?_
     intro a8 w8 hb8 ho hn
     obtain ⟨v457, n457, hq457⟩ := hn 23 457 (by kernel_rfl) rfl
     obtain rfl := hq457.1 (by decide)
     obtain ⟨v459, n459, hq459⟩ := hn 25 459 (by kernel_rfl) rfl
     obtain rfl := hq459.1 (by decide)
     clear ho hn
     refine ⟨wanted_free rfl, ?_⟩
     go_simp
   · refine gr_value rfl (by decide) (.bool true) rfl ?_
     intro a8 w8 hb8 ho hn
     obtain ⟨v460, n460, hq460⟩ := hn 26 460 (by kernel_rfl) rfl
     obtain rfl := hq460.1 (by decide)
     clear ho hn
     refine ⟨wanted_free rfl, ?_⟩
     go_simp
   · refine gr_value rfl (by decide) (.int .i64 110) rfl ?_
     intro a8 w8 hb8 ho hn
     have o70 : a8.tmps[70]? = some _ := (ho 70 (by kernel_rfl)).trans rfl
     obtain ⟨v461, n461, hq461⟩ := hn 27 461 (by kernel_rfl) rfl
     obtain rfl := hq461.1 (by decide)
     clear ho hn
     refine ⟨wanted_of 27 461 rfl rfl n461, ?_⟩
     go_simp
   · refine gr_value rfl (by decide) (.bool true) rfl ?_
     intro a8 w8 hb8 ho hn
     obtain ⟨v462, n462, hq462⟩ := hn 28 462 (by kernel_rfl) rfl
     obtain rfl := hq462.1 (by decide)
     obtain ⟨v461, n461, hq461⟩ := hn 27 461 (by kernel_rfl) rfl
     obtain rfl := hq461.1 (by decide)
     clear ho hn
     refine ⟨wanted_of 27 461 rfl rfl n461, ?_⟩
     go_simp
   · refine gr_value rfl (by decide) (.bool true) rfl ?_
     intro a8 w8 hb8 ho hn
     obtain ⟨v461, n461, hq461⟩ := hn 27 461 (by kernel_rfl) rfl
     obtain rfl := hq461.1 (by decide)
     obtain ⟨v463, n463, hq463⟩ := hn 29 463 (by kernel_rfl) rfl
     obtain rfl := hq463.1 (by decide)
     clear ho hn
     refine ⟨wanted_free rfl, ?_⟩
     go_simp
   · refine gr_value rfl (by decide) (.bool true) rfl ?_
     intro a8 w8 hb8 ho hn
     obtain ⟨v464, n464, hq464⟩ := hn 30 464 (by kernel_rfl) rfl
     obtain rfl := hq464.1 (by decide)
     clear ho hn
     refine ⟨wanted_free rfl, ?_⟩
     go_simp
   · refine gr_value rfl (by decide) (.agg #[.int .i64 1, .slice r39.A0 1 r39.c0, .slice r39.A1 1 r39.c1]) rfl ?_
     intro a8 w8 hb8 ho hn
     have o71 : a8.tmps[71]? = some _ := (ho 71 (by kernel_rfl)).trans rfl
     obtain ⟨v465, n465, hq465⟩ := hn 31 465 (by kernel_rfl) rfl
     obtain rfl := hq465.1 (by decide)
     clear ho hn
     refine ⟨wanted_of 31 465 rfl rfl n465, ?_⟩
     have x := (HB_wb39.out.up hb8) 0 _ _ _ rfl
     have x0 : w8.cell? ⟨g39, 0, none⟩ = some (.int .i64 1) := x.k.cell 0
     have x1 : w8.cell? ⟨g39, 1, none⟩ = some (.slice r39.A0 1 r39.c0) := x.k.cell 1
     have x2 : w8.cell? ⟨g39, 2, none⟩ = some (.slice r39.A1 1 r39.c1) := x.k.cell 2
     clear x
     go_simp
   · refine gr_value rfl (by decide) (.int .i64 0) rfl ?_
     intro a8 w8 hb8 ho hn
     have o72 : a8.tmps[72]? = some _ := (ho 72 (by kernel_rfl)).trans rfl
     obtain ⟨v465, n465, hq465⟩ := hn 31 465 (by kernel_rfl) rfl
     obtain rfl := hq465.1 (by decide)
     clear ho hn
     refine ⟨wanted_of 31 465 rfl rfl n465, ?_⟩
     go_simp
   · refine gr_make HU rfl (by decide) ?_
     intro a8 w8 hb8 ho hn
     obtain ⟨v465, n465, hq465⟩ := hn 31 465 (by kernel_rfl) rfl
     obtain rfl := hq465.1 (by decide)
     clear ho hn
     refine ⟨wanted_of 31 465 rfl rfl n465, ?_⟩
     exact ⟨.slice (some ⟨w8.heap.size, 0, none⟩) 1 1, w8.alloc (.cells #[.int .i64 (-3)] 2), (by go_simp), albel _ _, w8.heap.size, rfl, hb8.size, Blk.new w8 _ _⟩
   · refine gr_call HU 18 rfl (by decide) ?_
     intro a8 w8 hb8 ho hn
     obtain ⟨v468, n468, hq468⟩ := hn 34 468 (by kernel_rfl) rfl
     have hv468 := hq468.2 (by decide)
     obtain ⟨v465, n465, hq465⟩ := hn 31 465 (by kernel_rfl) rfl
     obtain rfl := hq465.1 (by decide)
     clear ho hn
     refine ⟨wanted_of 31 465 rfl rfl n465, ?_⟩
     obtain ⟨g, rfl, _, hg⟩ := hv468
     refine ⟨#[.slice (some ⟨g, 0, none⟩) 1 1], (kc1 rfl rfl (by kernel_rfl) (ev_t n468)), (vec_lit [-3] (by decide) _ 1 1 w8 rfl (reads_blk hg rfl)).mono ?_⟩
     rintro e wz ⟨p_, rfl, o, b⟩
     exact ⟨_, rfl, b, p_, rfl, o.mono hb8.size⟩
   · refine gr_call HU 20 rfl (by decide) ?_
     intro a8 w8 hb8 ho hn
     obtain ⟨v466, n466, hq466⟩ := hn 32 466 (by kernel_rfl) rfl
     obtain rfl := hq466.1 (by decide)
     obtain ⟨v467, n467, hq467⟩ := hn 33 467 (by kernel_rfl) rfl
     obtain rfl := hq467.1 (by decide)
     obtain ⟨v469, n469, hq469⟩ := hn 35 469 (by kernel_rfl) rfl
     have hv469 := hq469.2 (by decide)
     obtain ⟨v465, n465, hq465⟩ := hn 31 465 (by kernel_rfl) rfl
     obtain rfl := hq465.1 (by decide)
     clear ho hn
     refine ⟨wanted_of 31 465 rfl rfl n465, ?_⟩
     obtain ⟨q_, rfl, o_⟩ := hv469
     refine ⟨#[.agg #[.int .i64 1, .slice r39.A0 1 r39.c0, .slice r39.A1 1 r39.c1], .int .i64 0, .agg (arC ⟨1, [1], [-3]⟩ q_)], (kc3 rfl rfl (by kernel_rfl) (ev_t n466) (ev_t n467) (ev_t n469)), (l13is_yes ⟨1, [1], [-3]⟩ r39 q_ w8 ((HB_wb39.out.up hb8) 0 _ _ _ rfl).e (o_.el (by decide) (by decide) (by decide))).mono ?_⟩
     rintro e wz ⟨rfl, b9⟩
     exact ⟨_, rfl, b9, rfl⟩
   · refine gr_value rfl (by decide) (.bool true) rfl ?_
     intro a8 w8 hb8 ho hn
     obtain ⟨v465, n465, hq465⟩ := hn 31 465 (by kernel_rfl) rfl
     obtain rfl := hq465.1 (by decide)
     obtain ⟨v470, n470, hq470⟩ := hn 36 470 (by kernel_rfl) rfl
     have hv470 := hq470.2 (by decide)
     clear ho hn
     refine ⟨wanted_free rfl, ?_⟩
     obtain rfl : v470 = .bool true := hv470
     go_simp
   · refine gr_value rfl (by decide) (.bool true) rfl ?_
     intro a8 w8 hb8 ho hn
     obtain ⟨v471, n471, hq471⟩ := hn 37 471 (by kernel_rfl) rfl
     obtain rfl := hq471.1 (by decide)
     clear ho hn
     refine ⟨wanted_free rfl, ?_⟩
     go_simp
   omega
  intro dn fv wb40 hb_wb40 hR5 hall
  have h0 : fv 0 = _ := (hR5 38 0 rfl).1 (by decide)
  simp only [putAll, List.foldl_cons, List.foldl_nil, Act.put, List.setIfInBounds_toArray, List.set_cons_succ, List.set_cons_zero, h0, List.getD_cons_zero, List.getD_cons_succ]
  clear hR5 hall
  have HB_wb40 := Lib.hid (HB_wb39.out.up hb_wb40)
  have BW_wb40 := Lib.hid (bon BW_wb39.out hb_wb40)
  generalize fv 434 = u434, fv 435 = u435, fv 436 = u436, fv 437 = u437, fv 438 = u438, fv 439 = u439, fv 440 = u440, fv 441 = u441
  generalize fv 442 = u442, fv 443 = u443, fv 444 = u444, fv 445 = u445, fv 446 = u446, fv 447 = u447, fv 448 = u448, fv 449 = u449
  generalize fv 450 = u450, fv 451 = u451, fv 452 = u452, fv 453 = u453, fv 454 = u454, fv 455 = u455, fv 456 = u456, fv 457 = u457
  generalize fv 458 = u458, fv 459 = u459, fv 460 = u460, fv 461 = u461, fv 462 = u462, fv 463 = u463, fv 464 = u464, fv 465 = u465
  generalize fv 466 = u466, fv 467 = u467, fv 468 = u468, fv 469 = u469, fv 470 = u470, fv 471 = u471
  clear hb_wb40 HU h0 HB_wb39 BW_wb39
  go_wp2
  go_ret
  exact ⟨rfl, BW_wb40.out⟩
end Go.Proofs.Ytenpohnccnlngaa.moldNames

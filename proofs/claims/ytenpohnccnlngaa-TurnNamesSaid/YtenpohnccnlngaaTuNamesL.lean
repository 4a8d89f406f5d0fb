/-
  The walk of the statement TurnNames.
-/
import Derived.Test.YtenpohnccnlngaaNmKit
import Derived.Test.YtenpohnccnlngaaArRef
namespace Go.Proofs.Ytenpohnccnlngaa.turnNames
open Go.RowKit Go.Proofs.Ytenpohnccnlngaa.arr Go.Proofs.Ytenpohnccnlngaa.mo Go.Proofs.Ytenpohnccnlngaa.tu

theorem way1 (p : AP) (A : Option Addr) (c : Nat) (W : World) (h : AEl W ⟨1, [3], [2, 3, 1]⟩ p) (hr : Reads W W.heap.size 1 A 3 [.int .i64 2, .int .i64 3, .int .i64 4]) : Calls Try.prog 41 #[.agg (arC ⟨1, [3], [2, 3, 1]⟩ p), .slice A 3 c] W fun e w' => ∃ B d gf cap, e = .returned (.tuple #[.agg #[.slice B 3 d, .func (.func gf) #[] cap], .int .i64 0]) ∧ Reads w' w'.heap.size 1 B 3 [.int .i64 4, .int .i64 2, .int .i64 3] ∧ Below W.heap.size W w' := by
  refine (tuperway_any A c [2, 3, 4] _ p W hr h (by decide)).mono ?_
  rintro e w' ⟨v, rfl, hb, h0, _⟩
  have e0 : perE ⟨1, [3], [2, 3, 1]⟩ [2, 3, 4] = 0 := by kernel_rfl
  have e1 : shO [2, 3, 4] (tosP ⟨1, [3], [2, 3, 1]⟩) = [4, 2, 3] := by kernel_rfl
  obtain ⟨_, B, d, gf, cap, rfl, ho, _⟩ := h0 e0
  rw [e1] at ho
  rw [e0, e1]
  exact ⟨B, d, gf, cap, rfl, Reads.of_own ho, hb⟩
theorem way2 (A : Option Addr) (c : Nat) (W : World) (hr : Reads W W.heap.size 1 A 1 [.int .i64 (-1)]) : Calls Try.prog 44 #[.slice A 1 c] W fun e w' => e = .returned (.tuple #[.agg #[.slice none 0 0, .nilFunc], .int .i64 110]) ∧ Below W.heap.size W w' := by
  refine (turevway_any A c [-1] W hr (by decide)).mono ?_
  rintro e w' ⟨v, rfl, hb, _, h0⟩
  have e0 : (if okShape [-1] = true then (0 : Int) else 110) = 110 := by kernel_rfl
  rw [e0] at h0 ⊢
  rw [h0 (by decide)]
  exact ⟨rfl, hb⟩
theorem c1 (p0 p1 : AP) (W : World) (h0 : AEl W ⟨1, [], [-1]⟩ p0) (_k0 : Cap ⟨1, [], [-1]⟩ p0) (h1 : AEl W ⟨1, [3], [1, 2, 3]⟩ p1) (k1 : Cap ⟨1, [3], [1, 2, 3]⟩ p1) : Calls Try.prog 38 #[.agg (arC ⟨1, [], [-1]⟩ p0), .agg (arC ⟨1, [3], [1, 2, 3]⟩ p1)] W (GiveE ⟨1, [3], [3, 1, 2]⟩ 0 W) :=
  (turotate_any _ _ p0 p1 W h0 h1 k1.le).mono (fun _ _ g => giveE_to g (by kernel_rfl) (by kernel_rfl))
theorem c2 (p0 p1 : AP) (W : World) (h0 : AEl W ⟨1, [], [-9223372036854775808]⟩ p0) (_k0 : Cap ⟨1, [], [-9223372036854775808]⟩ p0) (h1 : AEl W ⟨1, [3], [1, 2, 3]⟩ p1) (k1 : Cap ⟨1, [3], [1, 2, 3]⟩ p1) : Calls Try.prog 38 #[.agg (arC ⟨1, [], [-9223372036854775808]⟩ p0), .agg (arC ⟨1, [3], [1, 2, 3]⟩ p1)] W (GiveE ⟨1, [3], [2, 3, 1]⟩ 0 W) :=
  (turotate_any _ _ p0 p1 W h0 h1 k1.le).mono (fun _ _ g => giveE_to g (by kernel_rfl) (by kernel_rfl))
theorem c3 (p0 p1 : AP) (W : World) (h0 : AEl W ⟨1, [2], [0, 1]⟩ p0) (_k0 : Cap ⟨1, [2], [0, 1]⟩ p0) (h1 : AEl W ⟨1, [2, 2], [1, 2, 3, 4]⟩ p1) (k1 : Cap ⟨1, [2, 2], [1, 2, 3, 4]⟩ p1) : Calls Try.prog 38 #[.agg (arC ⟨1, [2], [0, 1]⟩ p0), .agg (arC ⟨1, [2, 2], [1, 2, 3, 4]⟩ p1)] W (GiveE ⟨1, [2, 2], [1, 2, 4, 3]⟩ 0 W) :=
  (turotate_any _ _ p0 p1 W h0 h1 k1.le).mono (fun _ _ g => giveE_to g (by kernel_rfl) (by kernel_rfl))
theorem c4 (p0 p1 : AP) (W : World) (h0 : AEl W ⟨1, [3], [1, 2, 3]⟩ p0) (_k0 : Cap ⟨1, [3], [1, 2, 3]⟩ p0) (h1 : AEl W ⟨1, [2, 2], [1, 2, 3, 4]⟩ p1) (k1 : Cap ⟨1, [2, 2], [1, 2, 3, 4]⟩ p1) : Calls Try.prog 38 #[.agg (arC ⟨1, [3], [1, 2, 3]⟩ p0), .agg (arC ⟨1, [2, 2], [1, 2, 3, 4]⟩ p1)] W (GiveE ⟨0, [], []⟩ 4 W) :=
  (turotate_any _ _ p0 p1 W h0 h1 k1.le).mono (fun _ _ g => giveE_to g (by kernel_rfl) (by kernel_rfl))
theorem c5 (p0 p1 : AP) (W : World) (h0 : AEl W ⟨1, [2, 2], [1, 2, 3, 4]⟩ p0) (_k0 : Cap ⟨1, [2, 2], [1, 2, 3, 4]⟩ p0) (h1 : AEl W ⟨1, [2, 2], [1, 2, 3, 4]⟩ p1) (k1 : Cap ⟨1, [2, 2], [1, 2, 3, 4]⟩ p1) : Calls Try.prog 38 #[.agg (arC ⟨1, [2, 2], [1, 2, 3, 4]⟩ p0), .agg (arC ⟨1, [2, 2], [1, 2, 3, 4]⟩ p1)] W (GiveE ⟨0, [], []⟩ 3 W) :=
  (turotate_any _ _ p0 p1 W h0 h1 k1.le).mono (fun _ _ g => giveE_to g (by kernel_rfl) (by kernel_rfl))
theorem c6 (p0 p1 : AP) (W : World) (h0 : AEl W ⟨1, [1], [1]⟩ p0) (_k0 : Cap ⟨1, [1], [1]⟩ p0) (h1 : AEl W ⟨1, [3], [1, 2, 3]⟩ p1) (k1 : Cap ⟨1, [3], [1, 2, 3]⟩ p1) : Calls Try.prog 38 #[.agg (arC ⟨1, [1], [1]⟩ p0), .agg (arC ⟨1, [3], [1, 2, 3]⟩ p1)] W (GiveE ⟨0, [], []⟩ 3 W) :=
  (turotate_any _ _ p0 p1 W h0 h1 k1.le).mono (fun _ _ g => giveE_to g (by kernel_rfl) (by kernel_rfl))
theorem c7 (p0 p1 : AP) (W : World) (h0 : AEl W ⟨2, [], [97]⟩ p0) (_k0 : Cap ⟨2, [], [97]⟩ p0) (h1 : AEl W ⟨1, [3], [1, 2, 3]⟩ p1) (k1 : Cap ⟨1, [3], [1, 2, 3]⟩ p1) : Calls Try.prog 38 #[.agg (arC ⟨2, [], [97]⟩ p0), .agg (arC ⟨1, [3], [1, 2, 3]⟩ p1)] W (GiveE ⟨0, [], []⟩ 5 W) :=
  (turotate_any _ _ p0 p1 W h0 h1 k1.le).mono (fun _ _ g => giveE_to g (by kernel_rfl) (by kernel_rfl))
theorem c8 (p0 p1 : AP) (W : World) (h0 : AEl W ⟨1, [2], [1, 1]⟩ p0) (_k0 : Cap ⟨1, [2], [1, 1]⟩ p0) (h1 : AEl W ⟨1, [2, 2], [1, 2, 3, 4]⟩ p1) (_k1 : Cap ⟨1, [2, 2], [1, 2, 3, 4]⟩ p1) : Calls Try.prog 40 #[.agg (arC ⟨1, [2], [1, 1]⟩ p0), .agg (arC ⟨1, [2, 2], [1, 2, 3, 4]⟩ p1)] W (GiveE ⟨0, [], []⟩ 5 W) :=
  (tupermute_any _ _ p0 p1 W h0 h1).mono (fun _ _ g => giveE_to g (by kernel_rfl) (by kernel_rfl))
theorem c9 (p0 p1 : AP) (W : World) (h0 : AEl W ⟨1, [2], [0, 1]⟩ p0) (_k0 : Cap ⟨1, [2], [0, 1]⟩ p0) (h1 : AEl W ⟨1, [2, 2], [1, 2, 3, 4]⟩ p1) (_k1 : Cap ⟨1, [2, 2], [1, 2, 3, 4]⟩ p1) : Calls Try.prog 40 #[.agg (arC ⟨1, [2], [0, 1]⟩ p0), .agg (arC ⟨1, [2, 2], [1, 2, 3, 4]⟩ p1)] W (GiveE ⟨0, [], []⟩ 5 W) :=
  (tupermute_any _ _ p0 p1 W h0 h1).mono (fun _ _ g => giveE_to g (by kernel_rfl) (by kernel_rfl))
theorem c10 (p0 p1 : AP) (W : World) (h0 : AEl W ⟨1, [], [1]⟩ p0) (_k0 : Cap ⟨1, [], [1]⟩ p0) (h1 : AEl W ⟨1, [2, 2], [1, 2, 3, 4]⟩ p1) (_k1 : Cap ⟨1, [2, 2], [1, 2, 3, 4]⟩ p1) : Calls Try.prog 40 #[.agg (arC ⟨1, [], [1]⟩ p0), .agg (arC ⟨1, [2, 2], [1, 2, 3, 4]⟩ p1)] W (GiveE ⟨0, [], []⟩ 4 W) :=
  (tupermute_any _ _ p0 p1 W h0 h1).mono (fun _ _ g => giveE_to g (by kernel_rfl) (by kernel_rfl))
theorem c11 (p0 p1 : AP) (W : World) (h0 : AEl W ⟨1, [2, 2], [1, 2, 3, 4]⟩ p0) (_k0 : Cap ⟨1, [2, 2], [1, 2, 3, 4]⟩ p0) (h1 : AEl W ⟨1, [2, 2], [1, 2, 3, 4]⟩ p1) (_k1 : Cap ⟨1, [2, 2], [1, 2, 3, 4]⟩ p1) : Calls Try.prog 40 #[.agg (arC ⟨1, [2, 2], [1, 2, 3, 4]⟩ p0), .agg (arC ⟨1, [2, 2], [1, 2, 3, 4]⟩ p1)] W (GiveE ⟨0, [], []⟩ 3 W) :=
  (tupermute_any _ _ p0 p1 W h0 h1).mono (fun _ _ g => giveE_to g (by kernel_rfl) (by kernel_rfl))
theorem c12 (p0 p1 : AP) (W : World) (h0 : AEl W ⟨1, [2], [2, 1]⟩ p0) (_k0 : Cap ⟨1, [2], [2, 1]⟩ p0) (h1 : AEl W ⟨1, [2, 2], [1, 2, 3, 4]⟩ p1) (_k1 : Cap ⟨1, [2, 2], [1, 2, 3, 4]⟩ p1) : Calls Try.prog 40 #[.agg (arC ⟨1, [2], [2, 1]⟩ p0), .agg (arC ⟨1, [2, 2], [1, 2, 3, 4]⟩ p1)] W (GiveE ⟨1, [2, 2], [1, 3, 2, 4]⟩ 0 W) :=
  (tupermute_any _ _ p0 p1 W h0 h1).mono (fun _ _ g => giveE_to g (by kernel_rfl) (by kernel_rfl))
theorem c13 (p0 p1 : AP) (W : World) (h0 : AEl W ⟨1, [0], []⟩ p0) (_k0 : Cap ⟨1, [0], []⟩ p0) (h1 : AEl W ⟨1, [], [9]⟩ p1) (_k1 : Cap ⟨1, [], [9]⟩ p1) : Calls Try.prog 40 #[.agg (arC ⟨1, [0], []⟩ p0), .agg (arC ⟨1, [], [9]⟩ p1)] W (GiveE ⟨1, [], [9]⟩ 0 W) :=
  (tupermute_any _ _ p0 p1 W h0 h1).mono (fun _ _ g => giveE_to g (by kernel_rfl) (by kernel_rfl))
theorem c14 (p0 p1 : AP) (W : World) (h0 : AEl W ⟨1, [], [5]⟩ p0) (_k0 : Cap ⟨1, [], [5]⟩ p0) (h1 : AEl W ⟨1, [0], []⟩ p1) (k1 : Cap ⟨1, [0], []⟩ p1) : Calls Try.prog 38 #[.agg (arC ⟨1, [], [5]⟩ p0), .agg (arC ⟨1, [0], []⟩ p1)] W (GiveE ⟨1, [0], []⟩ 0 W) :=
  (turotate_any _ _ p0 p1 W h0 h1 k1.le).mono (fun _ _ g => giveE_to g (by kernel_rfl) (by kernel_rfl))
theorem c15 (p0 p1 : AP) (W : World) (h0 : AEl W ⟨1, [], [5]⟩ p0) (_k0 : Cap ⟨1, [], [5]⟩ p0) (h1 : AEl W ⟨1, [], [7]⟩ p1) (k1 : Cap ⟨1, [], [7]⟩ p1) : Calls Try.prog 38 #[.agg (arC ⟨1, [], [5]⟩ p0), .agg (arC ⟨1, [], [7]⟩ p1)] W (GiveE ⟨1, [], [7]⟩ 0 W) :=
  (turotate_any _ _ p0 p1 W h0 h1 k1.le).mono (fun _ _ g => giveE_to g (by kernel_rfl) (by kernel_rfl))
theorem c16 (p0 : AP) (W : World) (h0 : AEl W ⟨2, [2], [97, 98]⟩ p0) (_k0 : Cap ⟨2, [2], [97, 98]⟩ p0) : Calls Try.prog 42 #[.agg (arC ⟨2, [2], [97, 98]⟩ p0)] W (GiveE ⟨2, [2], [98, 97]⟩ 0 W) :=
  (tureverse_any _ p0 W h0).mono (fun _ _ g => giveE_to g (by kernel_rfl) (by kernel_rfl))
theorem c17 (p0 : AP) (W : World) (h0 : AEl W ⟨0, [], []⟩ p0) (_k0 : Cap ⟨0, [], []⟩ p0) : Calls Try.prog 43 #[.agg (arC ⟨0, [], []⟩ p0)] W (GiveE ⟨0, [], []⟩ 110 W) :=
  (tutranspose_any _ p0 W h0).mono (fun _ _ g => giveE_to g (by kernel_rfl) (by kernel_rfl))
set_option maxRecDepth 100000 in
set_option maxHeartbeats 16000000 in
theorem walk (wa : World) : Calls Try.prog 6 #[] wa fun e w' => e = .returned (.bool true) ∧ Below wa.heap.size wa w' := by
  have HB_wa : Hid (Bxs wa []) := Lib.hid (Bxs.nil _)
  have BW_wa := Lib.hid (Below.refl wa.heap.size wa)
  go_enter Try.func6, Try.ntmps6
  go_upto_region 1 with (fail)
  have HUX : BxU wa (lookU [(0, slo wa 3 #[.int .i64 1, .int .i64 2, .int .i64 3]), (1, xo wa ⟨1, [3], [1, 2, 3]⟩)]) := lookU_two (by
    intro x hx
    simp only [List.mem_cons, List.not_mem_nil, or_false] at hx
    rcases hx with rfl | rfl <;> first | exact xo_stk _ _ | exact slo_stk _ _ _ | exact sio_stk _ _ _ | exact xto_stk _ _ _)
  refine wp_region_offT_on (BxS wa 2 3 1 ⟨1, [3], [1, 2, 3]⟩) (bxR 2 [0, 1] (lookU [(0, slo wa 3 #[.int .i64 1, .int .i64 2, .int .i64 3]), (1, xo wa ⟨1, [3], [1, 2, 3]⟩)]) [undef, undef, undef, undef]) (by kernel_rfl) 270 rfl (by kernel_rfl) ⟨Below.refl _ _, fun e => (by cases e), fun e => (by cases e)⟩ ?_ ?_
  · intro i hi
    have hi2 : i < 4 := hi
    clear hi
    rcases i with _ | i
    · refine bx_make HUX rfl (by decide) (by decide) (by decide) 43 rfl (by decide) ?_
      intro a8 w8 hb8 ho hn
      clear ho hn
      refine ⟨wanted_free rfl, ?_⟩
      exact ⟨.slice (some ⟨w8.heap.size, 0, none⟩) 3 3, w8.alloc (.cells #[.int .i64 1, .int .i64 2, .int .i64 3] 2), (by go_simp), albel _ _, w8.heap.size, rfl, hb8.size, Blk.new w8 _ _⟩
    rcases i with _ | i
    · refine bx_call HUX 18 rfl (by decide) (by decide) (by decide) 44 rfl (by decide) ?_
      intro a8 w8 hb8 ho hn
      obtain ⟨v43, n43, hq43⟩ := hn 0 43 (by kernel_rfl) rfl
      have hv43 : slo wa 3 #[.int .i64 1, .int .i64 2, .int .i64 3] v43 w8 := hq43.2 (by decide)
      clear ho hn
      refine ⟨wanted_free rfl, ?_⟩
      obtain ⟨g, rfl, _, hg⟩ := hv43
      refine ⟨#[.slice (some ⟨g, 0, none⟩) 3 3], (by go_simp), (vec_lit [1, 2, 3] (by decide) _ 3 3 w8 rfl (reads_blk hg rfl)).mono ?_⟩
      rintro e wz ⟨p_, rfl, o, b⟩
      exact ⟨_, rfl, b, p_, rfl, o.mono hb8.size⟩
    rcases i with _ | i
    · refine bx_alloc HUX rfl (by decide) (by decide) rfl (.int .i64 0) (.slice none 0 0) (.slice none 0 0) ?_
      intro a8 w8 ho
      have o269 : a8.tmps[269]? = some _ := (ho 269 (by kernel_rfl)).trans rfl
      have hsz : 269 < a8.tmps.size := (Array.getElem?_eq_some_iff.1 o269).1
      refine ⟨by omega, wanted_free rfl, ?_⟩
      go_simp
    rcases i with _ | i
    · refine bx_store HUX rfl rfl (by decide) (by decide) rfl (by kernel_rfl) rfl ?_
      intro a8 w8 g u0 u1 u2 hg n1 hn
      obtain ⟨v44, n44, hq44⟩ := hn 1 44 (by kernel_rfl) rfl
      have hv44 : xo wa ⟨1, [3], [1, 2, 3]⟩ v44 w8 := hq44.2 (by decide)
      clear hn
      refine ⟨wanted_free rfl, ?_⟩
      obtain ⟨r, rfl, o⟩ := hv44
      have x0 := hg.cell 0
      have x1 := hg.cell 1
      have x2 := hg.cell 2
      have f0 := hg.frozen 0
      have f1 := hg.frozen 1
      have f2 := hg.frozen 2
      refine ⟨r, o, ?_⟩
      rw [show arC ⟨1, [3], [1, 2, 3]⟩ r = #[.int .i64 1, .slice r.A0 1 r.c0, .slice r.A1 3 r.c1] from rfl] at n44
      clear hg o
      go_simp
    omega
  intro dn fv wb1 hS5 hR5 hall
  obtain ⟨g1, e8, hg8, _, hfin⟩ := hS5.h (hall 2 (by decide))
  obtain ⟨r1, hb8, ho8⟩ := hfin (hall 3 (by decide))
  have hbw := hS5.b
  clear hS5 hR5 hall hfin
  simp only [putAll, List.foldl_cons, List.foldl_nil, Act.put, List.setIfInBounds_toArray, List.set_cons_succ, List.set_cons_zero, List.getElem?_toArray, List.getElem?_cons_succ, List.getElem?_cons_zero, Option.some.injEq] at e8 ⊢
  rw [e8]
  have HB_wb1 : Hid (Bxs wb1 [(g1, ⟨1, [3], [1, 2, 3]⟩, r1)]) := Lib.hid (Bxs.add (HB_wa.out.up hbw) ⟨hb8, ho8.el (by decide) (by decide) (by decide), Cap.of ho8⟩)
  have BW_wb1 := Lib.hid (bon BW_wa.out hbw)
  generalize fv 43 = u43
  generalize fv 44 = u44
  clear hb8 ho8 hbw e8 hg8 HUX HB_wa BW_wa
  go_upto_region 2 with (fail)
  have HUX : BxU wb1 (lookU [(0, slo wb1 4 #[.int .i64 1, .int .i64 2, .int .i64 3, .int .i64 4]), (1, xo wb1 ⟨1, [2, 2], [1, 2, 3, 4]⟩)]) := lookU_two (by
    intro x hx
    simp only [List.mem_cons, List.not_mem_nil, or_false] at hx
    rcases hx with rfl | rfl <;> first | exact xo_stk _ _ | exact slo_stk _ _ _ | exact sio_stk _ _ _ | exact xto_stk _ _ _)
  refine wp_region_offT_on (BxS wb1 2 3 2 ⟨1, [2, 2], [1, 2, 3, 4]⟩) (bxR 2 [0, 1] (lookU [(0, slo wb1 4 #[.int .i64 1, .int .i64 2, .int .i64 3, .int .i64 4]), (1, xo wb1 ⟨1, [2, 2], [1, 2, 3, 4]⟩)]) [undef, undef, undef, undef]) (by kernel_rfl) 270 rfl (by kernel_rfl) ⟨Below.refl _ _, fun e => (by cases e), fun e => (by cases e)⟩ ?_ ?_
  · intro i hi
    have hi2 : i < 4 := hi
    clear hi
    rcases i with _ | i
    · refine bx_make HUX rfl (by decide) (by decide) (by decide) 45 rfl (by decide) ?_
      intro a8 w8 hb8 ho hn
      clear ho hn
      refine ⟨wanted_free rfl, ?_⟩
      exact ⟨.slice (some ⟨w8.heap.size, 0, none⟩) 4 4, w8.alloc (.cells #[.int .i64 1, .int .i64 2, .int .i64 3, .int .i64 4] 2), (by go_simp), albel _ _, w8.heap.size, rfl, hb8.size, Blk.new w8 _ _⟩
    rcases i with _ | i
    · refine bx_call HUX 37 rfl (by decide) (by decide) (by decide) 46 rfl (by decide) ?_
      intro a8 w8 hb8 ho hn
      obtain ⟨v45, n45, hq45⟩ := hn 0 45 (by kernel_rfl) rfl
      have hv45 : slo wb1 4 #[.int .i64 1, .int .i64 2, .int .i64 3, .int .i64 4] v45 w8 := hq45.2 (by decide)
      clear ho hn
      refine ⟨wanted_free rfl, ?_⟩
      obtain ⟨g, rfl, hB, hg⟩ := hv45
      refine ⟨#[.int .i64 2, .slice (some ⟨g, 0, none⟩) 4 4], (by go_simp), (mat14 [1, 2, 3, 4] 2 (by decide) (by decide) (by decide) g 4 w8 rfl _ hB hb8.size hg).mono ?_⟩
      rintro e wz ⟨p_, rfl, o, b⟩
      exact ⟨_, rfl, b, p_, rfl, o⟩
    rcases i with _ | i
    · refine bx_alloc HUX rfl (by decide) (by decide) rfl (.int .i64 0) (.slice none 0 0) (.slice none 0 0) ?_
      intro a8 w8 ho
      have o269 : a8.tmps[269]? = some _ := (ho 269 (by kernel_rfl)).trans rfl
      have hsz : 269 < a8.tmps.size := (Array.getElem?_eq_some_iff.1 o269).1
      refine ⟨by omega, wanted_free rfl, ?_⟩
      go_simp
    rcases i with _ | i
    · refine bx_store HUX rfl rfl (by decide) (by decide) rfl (by kernel_rfl) rfl ?_
      intro a8 w8 g u0 u1 u2 hg n2 hn
      obtain ⟨v46, n46, hq46⟩ := hn 1 46 (by kernel_rfl) rfl
      have hv46 : xo wb1 ⟨1, [2, 2], [1, 2, 3, 4]⟩ v46 w8 := hq46.2 (by decide)
      clear hn
      refine ⟨wanted_free rfl, ?_⟩
      obtain ⟨r, rfl, o⟩ := hv46
      have x0 := hg.cell 0
      have x1 := hg.cell 1
      have x2 := hg.cell 2
      have f0 := hg.frozen 0
      have f1 := hg.frozen 1
      have f2 := hg.frozen 2
      refine ⟨r, o, ?_⟩
      rw [show arC ⟨1, [2, 2], [1, 2, 3, 4]⟩ r = #[.int .i64 1, .slice r.A0 2 r.c0, .slice r.A1 4 r.c1] from rfl] at n46
      clear hg o
      go_simp
    omega
  intro dn fv wb2 hS5 hR5 hall
  obtain ⟨g2, e8, hg8, _, hfin⟩ := hS5.h (hall 2 (by decide))
  obtain ⟨r2, hb8, ho8⟩ := hfin (hall 3 (by decide))
  have hbw := hS5.b
  clear hS5 hR5 hall hfin
  simp only [putAll, List.foldl_cons, List.foldl_nil, Act.put, List.setIfInBounds_toArray, List.set_cons_succ, List.set_cons_zero, List.getElem?_toArray, List.getElem?_cons_succ, List.getElem?_cons_zero, Option.some.injEq] at e8 ⊢
  rw [e8]
  have HB_wb2 : Hid (Bxs wb2 [(g1, ⟨1, [3], [1, 2, 3]⟩, r1), (g2, ⟨1, [2, 2], [1, 2, 3, 4]⟩, r2)]) := Lib.hid (Bxs.add (HB_wb1.out.up hbw) ⟨hb8, ho8.el (by decide) (by decide) (by decide), Cap.of ho8⟩)
  have BW_wb2 := Lib.hid (bon BW_wb1.out hbw)
  generalize fv 45 = u45
  generalize fv 46 = u46
  clear hb8 ho8 hbw e8 hg8 HUX HB_wb1 BW_wb1
  go_upto_region 3 with (fail)
  have HUX : BxU wb2 (lookU [(0, xo wb2 ⟨1, [], [-1]⟩), (2, xto wb2 ⟨1, [3], [3, 1, 2]⟩ 0), (3, xto wb2 ⟨1, [3], [3, 1, 2]⟩ 0), (4, xo wb2 ⟨1, [3], [3, 1, 2]⟩)]) := lookU_two (by
    intro x hx
    simp only [List.mem_cons, List.not_mem_nil, or_false] at hx
    rcases hx with rfl | rfl | rfl | rfl <;> first | exact xo_stk _ _ | exact slo_stk _ _ _ | exact sio_stk _ _ _ | exact xto_stk _ _ _)
  refine wp_region_doneT_on (BxS wb2 6 7 3 ⟨1, [3], [3, 1, 2]⟩) (bxR 6 [0, 2, 3, 4] (lookU [(0, xo wb2 ⟨1, [], [-1]⟩), (2, xto wb2 ⟨1, [3], [3, 1, 2]⟩ 0), (3, xto wb2 ⟨1, [3], [3, 1, 2]⟩ 0), (4, xo wb2 ⟨1, [3], [3, 1, 2]⟩)]) [undef, .agg #[.int .i64 1, .slice r1.A0 1 r1.c0, .slice r1.A1 3 r1.c1], undef, undef, undef, .int .i64 0, undef, undef, .int .i64 0]) (by kernel_rfl) 270 rfl (by kernel_rfl) ⟨(Below.refl _ _).drew, fun e => (by cases e), fun e => (by cases e)⟩ ?_ ?_
  · intro i hi
    have hi2 : i < 9 := hi
    clear hi
    rcases i with _ | i
    · refine bx_call HUX 16 rfl (by decide) (by decide) (by decide) 48 rfl (by decide) ?_
      intro a8 w8 hb8 ho hn
      clear ho hn
      refine ⟨wanted_free rfl, ?_⟩
      refine ⟨#[.int .i64 (-1)], (by go_simp), (sca_lit (-1) w8).mono ?_⟩
      rintro e wz ⟨p_, rfl, o, b⟩
      exact ⟨_, rfl, b, p_, rfl, o.mono hb8.size⟩
    rcases i with _ | i
    · refine bx_value HUX rfl (by decide) (by decide) (by decide) 49 rfl (by decide) (.agg #[.int .i64 1, .slice r1.A0 1 r1.c0, .slice r1.A1 3 r1.c1]) rfl ?_
      intro a8 w8 hb8 ho hn
      have o1 : a8.tmps[1]? = some _ := (ho 1 (by kernel_rfl)).trans rfl
      clear ho hn
      refine ⟨wanted_free rfl, ?_⟩
      have x := (HB_wb2.out.up hb8) 0 _ _ _ rfl
      have x0 : w8.cell? ⟨g1, 0, none⟩ = some (.int .i64 1) := x.k.cell 0
      have x1 : w8.cell? ⟨g1, 1, none⟩ = some (.slice r1.A0 1 r1.c0) := x.k.cell 1
      have x2 : w8.cell? ⟨g1, 2, none⟩ = some (.slice r1.A1 3 r1.c1) := x.k.cell 2
      clear x
      go_simp
    rcases i with _ | i
    · refine bx_call HUX 38 rfl (by decide) (by decide) (by decide) 50 rfl (by decide) ?_
      intro a8 w8 hb8 ho hn
      obtain ⟨v48, n48, hq48⟩ := hn 0 48 (by kernel_rfl) rfl
      have hv48 : xo wb2 ⟨1, [], [-1]⟩ v48 w8 := hq48.2 (by decide)
      obtain ⟨v49, n49, hq49⟩ := hn 1 49 (by kernel_rfl) rfl
      obtain rfl := hq49.1 (by decide) (by decide)
      clear ho hn
      refine ⟨wanted_free rfl, ?_⟩
      obtain ⟨q0_, rfl, o0_⟩ := hv48
      refine ⟨#[.agg (arC ⟨1, [], [-1]⟩ q0_), .agg #[.int .i64 1, .slice r1.A0 1 r1.c0, .slice r1.A1 3 r1.c1]], (by go_simp), (c1 q0_ r1 w8 (o0_.el (by decide) (by decide) (by decide)) (Cap.of o0_) ((HB_wb2.out.up hb8) 0 _ _ _ rfl).e ((HB_wb2.out.up hb8) 0 _ _ _ rfl).c).mono ?_⟩
      rintro e wz ⟨r, rfl, o9, b9⟩
      exact ⟨_, rfl, b9, r, rfl, o9.mono hb8.size⟩
    rcases i with _ | i
    · refine bx_make HUX rfl (by decide) (by decide) (by decide) 47 rfl (by decide) ?_
      intro a8 w8 hb8 ho hn
      obtain ⟨v50, n50, hq50⟩ := hn 2 50 (by kernel_rfl) rfl
      have hv50 : xto wb2 ⟨1, [3], [3, 1, 2]⟩ 0 v50 w8 := hq50.2 (by decide)
      clear ho hn
      refine ⟨wanted_free rfl, ?_⟩
      exact ⟨v50, w8, (by go_simp), Below.refl _ _, hv50⟩
    rcases i with _ | i
    · refine bx_make HUX rfl (by decide) (by decide) (by decide) 51 rfl (by decide) ?_
      intro a8 w8 hb8 ho hn
      obtain ⟨v47, n47, hq47⟩ := hn 3 47 (by kernel_rfl) rfl
      have hv47 : xto wb2 ⟨1, [3], [3, 1, 2]⟩ 0 v47 w8 := hq47.2 (by decide)
      clear ho hn
      refine ⟨wanted_free rfl, ?_⟩
      obtain ⟨p_, rfl, o⟩ := hv47
      exact ⟨.agg (arC ⟨1, [3], [3, 1, 2]⟩ p_), w8, (by go_simp), Below.refl _ _, p_, rfl, o⟩
    rcases i with _ | i
    · refine bx_value HUX rfl (by decide) (by decide) (by decide) 52 rfl (by decide) (.int .i64 0) rfl ?_
      intro a8 w8 hb8 ho hn
      obtain ⟨v47, n47, hq47⟩ := hn 3 47 (by kernel_rfl) rfl
      have hv47 : xto wb2 ⟨1, [3], [3, 1, 2]⟩ 0 v47 w8 := hq47.2 (by decide)
      clear ho hn
      refine ⟨wanted_free rfl, ?_⟩
      obtain ⟨p_, rfl, o⟩ := hv47
      go_simp
    rcases i with _ | i
    · refine bx_alloc HUX rfl (by decide) (by decide) rfl (.int .i64 0) (.slice none 0 0) (.slice none 0 0) ?_
      intro a8 w8 ho
      have o269 : a8.tmps[269]? = some _ := (ho 269 (by kernel_rfl)).trans rfl
      have hsz : 269 < a8.tmps.size := (Array.getElem?_eq_some_iff.1 o269).1
      refine ⟨by omega, wanted_free rfl, ?_⟩
      go_simp
    rcases i with _ | i
    · refine bx_store HUX rfl rfl (by decide) (by decide) rfl (by kernel_rfl) rfl ?_
      intro a8 w8 g u0 u1 u2 hg n3 hn
      obtain ⟨v51, n51, hq51⟩ := hn 4 51 (by kernel_rfl) rfl
      have hv51 : xo wb2 ⟨1, [3], [3, 1, 2]⟩ v51 w8 := hq51.2 (by decide)
      clear hn
      refine ⟨wanted_free rfl, ?_⟩
      obtain ⟨r, rfl, o⟩ := hv51
      have x0 := hg.cell 0
      have x1 := hg.cell 1
      have x2 := hg.cell 2
      have f0 := hg.frozen 0
      have f1 := hg.frozen 1
      have f2 := hg.frozen 2
      refine ⟨r, o, ?_⟩
      rw [show arC ⟨1, [3], [3, 1, 2]⟩ r = #[.int .i64 1, .slice r.A0 1 r.c0, .slice r.A1 3 r.c1] from rfl] at n51
      clear hg o
      go_simp
    rcases i with _ | i
    · refine bx_value HUX rfl (by decide) (by decide) (by decide) 4 rfl (by decide) (.int .i64 0) rfl ?_
      intro a8 w8 hb8 ho hn
      obtain ⟨v52, n52, hq52⟩ := hn 5 52 (by kernel_rfl) rfl
      obtain rfl := hq52.1 (by decide) (by decide)
      clear ho hn
      refine ⟨wanted_free rfl, ?_⟩
      go_simp
    omega
  intro dn fv wb3 hS5 hR5 hall
  obtain ⟨g3, e8, hg8, _, hfin⟩ := hS5.h (hall 6 (by decide))
  obtain ⟨r3, hb8, ho8⟩ := hfin (hall 7 (by decide))
  have hbw := hS5.b
  have h48 : fv 4 = .int .i64 0 := (hR5 8 4 rfl).1 (by decide) (by decide)
  clear hS5 hR5 hall hfin
  simp only [putAll, List.foldl_cons, List.foldl_nil, Act.put, List.setIfInBounds_toArray, List.set_cons_succ, List.set_cons_zero, List.getElem?_toArray, List.getElem?_cons_succ, List.getElem?_cons_zero, Option.some.injEq] at e8 ⊢
  rw [e8, h48]
  have HB_wb3 : Hid (Bxs wb3 [(g1, ⟨1, [3], [1, 2, 3]⟩, r1), (g2, ⟨1, [2, 2], [1, 2, 3, 4]⟩, r2), (g3, ⟨1, [3], [3, 1, 2]⟩, r3)]) := Lib.hid (Bxs.add (HB_wb2.out.up hbw) ⟨hb8, ho8.el (by decide) (by decide) (by decide), Cap.of ho8⟩)
  have BW_wb3 := Lib.hid (bon BW_wb2.out hbw)
  generalize fv 48 = u48
  generalize fv 49 = u49
  generalize fv 50 = u50
  generalize fv 47 = u47
  generalize fv 51 = u51
  generalize fv 52 = u52
  clear hb8 ho8 hbw e8 h48 hg8 HUX HB_wb2 BW_wb2
  go_upto_region 4 with (fail)
  have HUX : BxU wb3 (lookU [(0, xo wb3 ⟨1, [], [-9223372036854775808]⟩), (2, xto wb3 ⟨1, [3], [2, 3, 1]⟩ 0), (3, xto wb3 ⟨1, [3], [2, 3, 1]⟩ 0), (4, xo wb3 ⟨1, [3], [2, 3, 1]⟩)]) := lookU_two (by
    intro x hx
    simp only [List.mem_cons, List.not_mem_nil, or_false] at hx
    rcases hx with rfl | rfl | rfl | rfl <;> first | exact xo_stk _ _ | exact slo_stk _ _ _ | exact sio_stk _ _ _ | exact xto_stk _ _ _)
  refine wp_region_doneT_on (BxS wb3 6 7 5 ⟨1, [3], [2, 3, 1]⟩) (bxR 6 [0, 2, 3, 4] (lookU [(0, xo wb3 ⟨1, [], [-9223372036854775808]⟩), (2, xto wb3 ⟨1, [3], [2, 3, 1]⟩ 0), (3, xto wb3 ⟨1, [3], [2, 3, 1]⟩ 0), (4, xo wb3 ⟨1, [3], [2, 3, 1]⟩)]) [undef, .agg #[.int .i64 1, .slice r1.A0 1 r1.c0, .slice r1.A1 3 r1.c1], undef, undef, undef, .int .i64 0, undef, undef, .int .i64 0]) (by kernel_rfl) 270 rfl (by kernel_rfl) ⟨(Below.refl _ _).drew, fun e => (by cases e), fun e => (by cases e)⟩ ?_ ?_
  · intro i hi
    have hi2 : i < 9 := hi
    clear hi
    rcases i with _ | i
    · refine bx_call HUX 16 rfl (by decide) (by decide) (by decide) 54 rfl (by decide) ?_
      intro a8 w8 hb8 ho hn
      clear ho hn
      refine ⟨wanted_free rfl, ?_⟩
      refine ⟨#[.int .i64 (-9223372036854775808)], (by go_simp), (sca_lit (-9223372036854775808) w8).mono ?_⟩
      rintro e wz ⟨p_, rfl, o, b⟩
      exact ⟨_, rfl, b, p_, rfl, o.mono hb8.size⟩
    rcases i with _ | i
    · refine bx_value HUX rfl (by decide) (by decide) (by decide) 55 rfl (by decide) (.agg #[.int .i64 1, .slice r1.A0 1 r1.c0, .slice r1.A1 3 r1.c1]) rfl ?_
      intro a8 w8 hb8 ho hn
      have o1 : a8.tmps[1]? = some _ := (ho 1 (by kernel_rfl)).trans rfl
      clear ho hn
      refine ⟨wanted_free rfl, ?_⟩
      have x := (HB_wb3.out.up hb8) 0 _ _ _ rfl
      have x0 : w8.cell? ⟨g1, 0, none⟩ = some (.int .i64 1) := x.k.cell 0
      have x1 : w8.cell? ⟨g1, 1, none⟩ = some (.slice r1.A0 1 r1.c0) := x.k.cell 1
      have x2 : w8.cell? ⟨g1, 2, none⟩ = some (.slice r1.A1 3 r1.c1) := x.k.cell 2
      clear x
      go_simp
    rcases i with _ | i
    · refine bx_call HUX 38 rfl (by decide) (by decide) (by decide) 56 rfl (by decide) ?_
      intro a8 w8 hb8 ho hn
      obtain ⟨v54, n54, hq54⟩ := hn 0 54 (by kernel_rfl) rfl
      have hv54 : xo wb3 ⟨1, [], [-9223372036854775808]⟩ v54 w8 := hq54.2 (by decide)
      obtain ⟨v55, n55, hq55⟩ := hn 1 55 (by kernel_rfl) rfl
      obtain rfl := hq55.1 (by decide) (by decide)
      clear ho hn
      refine ⟨wanted_free rfl, ?_⟩
      obtain ⟨q0_, rfl, o0_⟩ := hv54
      refine ⟨#[.agg (arC ⟨1, [], [-9223372036854775808]⟩ q0_), .agg #[.int .i64 1, .slice r1.A0 1 r1.c0, .slice r1.A1 3 r1.c1]], (by go_simp), (c2 q0_ r1 w8 (o0_.el (by decide) (by decide) (by decide)) (Cap.of o0_) ((HB_wb3.out.up hb8) 0 _ _ _ rfl).e ((HB_wb3.out.up hb8) 0 _ _ _ rfl).c).mono ?_⟩
      rintro e wz ⟨r, rfl, o9, b9⟩
      exact ⟨_, rfl, b9, r, rfl, o9.mono hb8.size⟩
    rcases i with _ | i
    · refine bx_make HUX rfl (by decide) (by decide) (by decide) 53 rfl (by decide) ?_
      intro a8 w8 hb8 ho hn
      obtain ⟨v56, n56, hq56⟩ := hn 2 56 (by kernel_rfl) rfl
      have hv56 : xto wb3 ⟨1, [3], [2, 3, 1]⟩ 0 v56 w8 := hq56.2 (by decide)
      clear ho hn
      refine ⟨wanted_free rfl, ?_⟩
      exact ⟨v56, w8, (by go_simp), Below.refl _ _, hv56⟩
    rcases i with _ | i
    · refine bx_make HUX rfl (by decide) (by decide) (by decide) 57 rfl (by decide) ?_
      intro a8 w8 hb8 ho hn
      obtain ⟨v53, n53, hq53⟩ := hn 3 53 (by kernel_rfl) rfl
      have hv53 : xto wb3 ⟨1, [3], [2, 3, 1]⟩ 0 v53 w8 := hq53.2 (by decide)
      clear ho hn
      refine ⟨wanted_free rfl, ?_⟩
      obtain ⟨p_, rfl, o⟩ := hv53
      exact ⟨.agg (arC ⟨1, [3], [2, 3, 1]⟩ p_), w8, (by go_simp), Below.refl _ _, p_, rfl, o⟩
    rcases i with _ | i
    · refine bx_value HUX rfl (by decide) (by decide) (by decide) 58 rfl (by decide) (.int .i64 0) rfl ?_
      intro a8 w8 hb8 ho hn
      obtain ⟨v53, n53, hq53⟩ := hn 3 53 (by kernel_rfl) rfl
      have hv53 : xto wb3 ⟨1, [3], [2, 3, 1]⟩ 0 v53 w8 := hq53.2 (by decide)
      clear ho hn
      refine ⟨wanted_free rfl, ?_⟩
      obtain ⟨p_, rfl, o⟩ := hv53
      go_simp
    rcases i with _ | i
    · refine bx_alloc HUX rfl (by decide) (by decide) rfl (.int .i64 0) (.slice none 0 0) (.slice none 0 0) ?_
      intro a8 w8 ho
      have o269 : a8.tmps[269]? = some _ := (ho 269 (by kernel_rfl)).trans rfl
      have hsz : 269 < a8.tmps.size := (Array.getElem?_eq_some_iff.1 o269).1
      refine ⟨by omega, wanted_free rfl, ?_⟩
      go_simp
    rcases i with _ | i
    · refine bx_store HUX rfl rfl (by decide) (by decide) rfl (by kernel_rfl) rfl ?_
      intro a8 w8 g u0 u1 u2 hg n5 hn
      obtain ⟨v57, n57, hq57⟩ := hn 4 57 (by kernel_rfl) rfl
      have hv57 : xo wb3 ⟨1, [3], [2, 3, 1]⟩ v57 w8 := hq57.2 (by decide)
      clear hn
      refine ⟨wanted_free rfl, ?_⟩
      obtain ⟨r, rfl, o⟩ := hv57
      have x0 := hg.cell 0
      have x1 := hg.cell 1
      have x2 := hg.cell 2
      have f0 := hg.frozen 0
      have f1 := hg.frozen 1
      have f2 := hg.frozen 2
      refine ⟨r, o, ?_⟩
      rw [show arC ⟨1, [3], [2, 3, 1]⟩ r = #[.int .i64 1, .slice r.A0 1 r.c0, .slice r.A1 3 r.c1] from rfl] at n57
      clear hg o
      go_simp
    rcases i with _ | i
    · refine bx_value HUX rfl (by decide) (by decide) (by decide) 6 rfl (by decide) (.int .i64 0) rfl ?_
      intro a8 w8 hb8 ho hn
      obtain ⟨v58, n58, hq58⟩ := hn 5 58 (by kernel_rfl) rfl
      obtain rfl := hq58.1 (by decide) (by decide)
      clear ho hn
      refine ⟨wanted_free rfl, ?_⟩
      go_simp
    omega
  intro dn fv wb4 hS5 hR5 hall
  obtain ⟨g4, e8, hg8, _, hfin⟩ := hS5.h (hall 6 (by decide))
  obtain ⟨r4, hb8, ho8⟩ := hfin (hall 7 (by decide))
  have hbw := hS5.b
  have h48 : fv 6 = .int .i64 0 := (hR5 8 6 rfl).1 (by decide) (by decide)
  clear hS5 hR5 hall hfin
  simp only [putAll, List.foldl_cons, List.foldl_nil, Act.put, List.setIfInBounds_toArray, List.set_cons_succ, List.set_cons_zero, List.getElem?_toArray, List.getElem?_cons_succ, List.getElem?_cons_zero, Option.some.injEq] at e8 ⊢
  rw [e8, h48]
  have HB_wb4 : Hid (Bxs wb4 [(g1, ⟨1, [3], [1, 2, 3]⟩, r1), (g2, ⟨1, [2, 2], [1, 2, 3, 4]⟩, r2), (g3, ⟨1, [3], [3, 1, 2]⟩, r3), (g4, ⟨1, [3], [2, 3, 1]⟩, r4)]) := Lib.hid (Bxs.add (HB_wb3.out.up hbw) ⟨hb8, ho8.el (by decide) (by decide) (by decide), Cap.of ho8⟩)
  have BW_wb4 := Lib.hid (bon BW_wb3.out hbw)
  generalize fv 54 = u54
  generalize fv 55 = u55
  generalize fv 56 = u56
  generalize fv 53 = u53
  generalize fv 57 = u57
  generalize fv 58 = u58
  clear hb8 ho8 hbw e8 h48 hg8 HUX HB_wb3 BW_wb3
  go_upto_region 5 with (fail)
  have HUX : BxU wb4 (lookU [(0, slo wb4 2 #[.int .i64 0, .int .i64 1]), (1, xo wb4 ⟨1, [2], [0, 1]⟩), (3, xto wb4 ⟨1, [2, 2], [1, 2, 4, 3]⟩ 0), (4, xto wb4 ⟨1, [2, 2], [1, 2, 4, 3]⟩ 0), (5, xo wb4 ⟨1, [2, 2], [1, 2, 4, 3]⟩)]) := lookU_two (by
    intro x hx
    simp only [List.mem_cons, List.not_mem_nil, or_false] at hx
    rcases hx with rfl | rfl | rfl | rfl | rfl <;> first | exact xo_stk _ _ | exact slo_stk _ _ _ | exact sio_stk _ _ _ | exact xto_stk _ _ _)
  refine wp_region_doneT_on (BxS wb4 7 8 7 ⟨1, [2, 2], [1, 2, 4, 3]⟩) (bxR 7 [0, 1, 3, 4, 5] (lookU [(0, slo wb4 2 #[.int .i64 0, .int .i64 1]), (1, xo wb4 ⟨1, [2], [0, 1]⟩), (3, xto wb4 ⟨1, [2, 2], [1, 2, 4, 3]⟩ 0), (4, xto wb4 ⟨1, [2, 2], [1, 2, 4, 3]⟩ 0), (5, xo wb4 ⟨1, [2, 2], [1, 2, 4, 3]⟩)]) [undef, undef, .agg #[.int .i64 1, .slice r2.A0 2 r2.c0, .slice r2.A1 4 r2.c1], undef, undef, undef, .int .i64 0, undef, undef, .int .i64 0]) (by kernel_rfl) 270 rfl (by kernel_rfl) ⟨(Below.refl _ _).drew, fun e => (by cases e), fun e => (by cases e)⟩ ?_ ?_
  · intro i hi
    have hi2 : i < 10 := hi
    clear hi
    rcases i with _ | i
    · refine bx_make HUX rfl (by decide) (by decide) (by decide) 60 rfl (by decide) ?_
      intro a8 w8 hb8 ho hn
      clear ho hn
      refine ⟨wanted_free rfl, ?_⟩
      exact ⟨.slice (some ⟨w8.heap.size, 0, none⟩) 2 2, w8.alloc (.cells #[.int .i64 0, .int .i64 1] 2), (by go_simp), albel _ _, w8.heap.size, rfl, hb8.size, Blk.new w8 _ _⟩
    rcases i with _ | i
    · refine bx_call HUX 18 rfl (by decide) (by decide) (by decide) 61 rfl (by decide) ?_
      intro a8 w8 hb8 ho hn
      obtain ⟨v60, n60, hq60⟩ := hn 0 60 (by kernel_rfl) rfl
      have hv60 : slo wb4 2 #[.int .i64 0, .int .i64 1] v60 w8 := hq60.2 (by decide)
      clear ho hn
      refine ⟨wanted_free rfl, ?_⟩
      obtain ⟨g, rfl, _, hg⟩ := hv60
      refine ⟨#[.slice (some ⟨g, 0, none⟩) 2 2], (by go_simp), (vec_lit [0, 1] (by decide) _ 2 2 w8 rfl (reads_blk hg rfl)).mono ?_⟩
      rintro e wz ⟨p_, rfl, o, b⟩
      exact ⟨_, rfl, b, p_, rfl, o.mono hb8.size⟩
    rcases i with _ | i
    · refine bx_value HUX rfl (by decide) (by decide) (by decide) 62 rfl (by decide) (.agg #[.int .i64 1, .slice r2.A0 2 r2.c0, .slice r2.A1 4 r2.c1]) rfl ?_
      intro a8 w8 hb8 ho hn
      have o2 : a8.tmps[2]? = some _ := (ho 2 (by kernel_rfl)).trans rfl
      clear ho hn
      refine ⟨wanted_free rfl, ?_⟩
      have x := (HB_wb4.out.up hb8) 1 _ _ _ rfl
      have x0 : w8.cell? ⟨g2, 0, none⟩ = some (.int .i64 1) := x.k.cell 0
      have x1 : w8.cell? ⟨g2, 1, none⟩ = some (.slice r2.A0 2 r2.c0) := x.k.cell 1
      have x2 : w8.cell? ⟨g2, 2, none⟩ = some (.slice r2.A1 4 r2.c1) := x.k.cell 2
      clear x
      go_simp
    rcases i with _ | i
    · refine bx_call HUX 38 rfl (by decide) (by decide) (by decide) 63 rfl (by decide) ?_
      intro a8 w8 hb8 ho hn
      obtain ⟨v61, n61, hq61⟩ := hn 1 61 (by kernel_rfl) rfl
      have hv61 : xo wb4 ⟨1, [2], [0, 1]⟩ v61 w8 := hq61.2 (by decide)
      obtain ⟨v62, n62, hq62⟩ := hn 2 62 (by kernel_rfl) rfl
      obtain rfl := hq62.1 (by decide) (by decide)
      clear ho hn
      refine ⟨wanted_free rfl, ?_⟩
      obtain ⟨q0_, rfl, o0_⟩ := hv61
      refine ⟨#[.agg (arC ⟨1, [2], [0, 1]⟩ q0_), .agg #[.int .i64 1, .slice r2.A0 2 r2.c0, .slice r2.A1 4 r2.c1]], (by go_simp), (c3 q0_ r2 w8 (o0_.el (by decide) (by decide) (by decide)) (Cap.of o0_) ((HB_wb4.out.up hb8) 1 _ _ _ rfl).e ((HB_wb4.out.up hb8) 1 _ _ _ rfl).c).mono ?_⟩
      rintro e wz ⟨r, rfl, o9, b9⟩
      exact ⟨_, rfl, b9, r, rfl, o9.mono hb8.size⟩
    rcases i with _ | i
    · refine bx_make HUX rfl (by decide) (by decide) (by decide) 59 rfl (by decide) ?_
      intro a8 w8 hb8 ho hn
      obtain ⟨v63, n63, hq63⟩ := hn 3 63 (by kernel_rfl) rfl
      have hv63 : xto wb4 ⟨1, [2, 2], [1, 2, 4, 3]⟩ 0 v63 w8 := hq63.2 (by decide)
      clear ho hn
      refine ⟨wanted_free rfl, ?_⟩
      exact ⟨v63, w8, (by go_simp), Below.refl _ _, hv63⟩
    rcases i with _ | i
    · refine bx_make HUX rfl (by decide) (by decide) (by decide) 64 rfl (by decide) ?_
      intro a8 w8 hb8 ho hn
      obtain ⟨v59, n59, hq59⟩ := hn 4 59 (by kernel_rfl) rfl
      have hv59 : xto wb4 ⟨1, [2, 2], [1, 2, 4, 3]⟩ 0 v59 w8 := hq59.2 (by decide)
      clear ho hn
      refine ⟨wanted_free rfl, ?_⟩
      obtain ⟨p_, rfl, o⟩ := hv59
      exact ⟨.agg (arC ⟨1, [2, 2], [1, 2, 4, 3]⟩ p_), w8, (by go_simp), Below.refl _ _, p_, rfl, o⟩
    rcases i with _ | i
    · refine bx_value HUX rfl (by decide) (by decide) (by decide) 65 rfl (by decide) (.int .i64 0) rfl ?_
      intro a8 w8 hb8 ho hn
      obtain ⟨v59, n59, hq59⟩ := hn 4 59 (by kernel_rfl) rfl
      have hv59 : xto wb4 ⟨1, [2, 2], [1, 2, 4, 3]⟩ 0 v59 w8 := hq59.2 (by decide)
      clear ho hn
      refine ⟨wanted_free rfl, ?_⟩
      obtain ⟨p_, rfl, o⟩ := hv59
      go_simp
    rcases i with _ | i
    · refine bx_alloc HUX rfl (by decide) (by decide) rfl (.int .i64 0) (.slice none 0 0) (.slice none 0 0) ?_
      intro a8 w8 ho
      have o269 : a8.tmps[269]? = some _ := (ho 269 (by kernel_rfl)).trans rfl
      have hsz : 269 < a8.tmps.size := (Array.getElem?_eq_some_iff.1 o269).1
      refine ⟨by omega, wanted_free rfl, ?_⟩
      go_simp
    rcases i with _ | i
    · refine bx_store HUX rfl rfl (by decide) (by decide) rfl (by kernel_rfl) rfl ?_
      intro a8 w8 g u0 u1 u2 hg n7 hn
      obtain ⟨v64, n64, hq64⟩ := hn 5 64 (by kernel_rfl) rfl
      have hv64 : xo wb4 ⟨1, [2, 2], [1, 2, 4, 3]⟩ v64 w8 := hq64.2 (by decide)
      clear hn
      refine ⟨wanted_free rfl, ?_⟩
      obtain ⟨r, rfl, o⟩ := hv64
      have x0 := hg.cell 0
      have x1 := hg.cell 1
      have x2 := hg.cell 2
      have f0 := hg.frozen 0
      have f1 := hg.frozen 1
      have f2 := hg.frozen 2
      refine ⟨r, o, ?_⟩
      rw [show arC ⟨1, [2, 2], [1, 2, 4, 3]⟩ r = #[.int .i64 1, .slice r.A0 2 r.c0, .slice r.A1 4 r.c1] from rfl] at n64
      clear hg o
      go_simp
    rcases i with _ | i
    · refine bx_value HUX rfl (by decide) (by decide) (by decide) 8 rfl (by decide) (.int .i64 0) rfl ?_
      intro a8 w8 hb8 ho hn
      obtain ⟨v65, n65, hq65⟩ := hn 6 65 (by kernel_rfl) rfl
      obtain rfl := hq65.1 (by decide) (by decide)
      clear ho hn
      refine ⟨wanted_free rfl, ?_⟩
      go_simp
    omega
  intro dn fv wb5 hS5 hR5 hall
  obtain ⟨g5, e8, hg8, _, hfin⟩ := hS5.h (hall 7 (by decide))
  obtain ⟨r5, hb8, ho8⟩ := hfin (hall 8 (by decide))
  have hbw := hS5.b
  have h48 : fv 8 = .int .i64 0 := (hR5 9 8 rfl).1 (by decide) (by decide)
  clear hS5 hR5 hall hfin
  simp only [putAll, List.foldl_cons, List.foldl_nil, Act.put, List.setIfInBounds_toArray, List.set_cons_succ, List.set_cons_zero, List.getElem?_toArray, List.getElem?_cons_succ, List.getElem?_cons_zero, Option.some.injEq] at e8 ⊢
  rw [e8, h48]
  have HB_wb5 : Hid (Bxs wb5 [(g1, ⟨1, [3], [1, 2, 3]⟩, r1), (g2, ⟨1, [2, 2], [1, 2, 3, 4]⟩, r2), (g3, ⟨1, [3], [3, 1, 2]⟩, r3), (g4, ⟨1, [3], [2, 3, 1]⟩, r4), (g5, ⟨1, [2, 2], [1, 2, 4, 3]⟩, r5)]) := Lib.hid (Bxs.add (HB_wb4.out.up hbw) ⟨hb8, ho8.el (by decide) (by decide) (by decide), Cap.of ho8⟩)
  have BW_wb5 := Lib.hid (bon BW_wb4.out hbw)
  generalize fv 60 = u60
  generalize fv 61 = u61
  generalize fv 62 = u62
  generalize fv 63 = u63
  generalize fv 59 = u59
  generalize fv 64 = u64
  generalize fv 65 = u65
  clear hb8 ho8 hbw e8 h48 hg8 HUX HB_wb4 BW_wb4
  go_upto_region 6 with (fail)
  have HUX : BxU wb5 (lookU [(2, xto wb5 ⟨0, [], []⟩ 4), (3, xto wb5 ⟨0, [], []⟩ 4), (4, xo wb5 ⟨0, [], []⟩)]) := lookU_two (by
    intro x hx
    simp only [List.mem_cons, List.not_mem_nil, or_false] at hx
    rcases hx with rfl | rfl | rfl <;> first | exact xo_stk _ _ | exact slo_stk _ _ _ | exact sio_stk _ _ _ | exact xto_stk _ _ _)
  refine wp_region_offT_on (BxS wb5 6 7 9 ⟨0, [], []⟩) (bxR 6 [2, 3, 4] (lookU [(2, xto wb5 ⟨0, [], []⟩ 4), (3, xto wb5 ⟨0, [], []⟩ 4), (4, xo wb5 ⟨0, [], []⟩)]) [.agg #[.int .i64 1, .slice r1.A0 1 r1.c0, .slice r1.A1 3 r1.c1], .agg #[.int .i64 1, .slice r2.A0 2 r2.c0, .slice r2.A1 4 r2.c1], undef, undef, undef, .int .i64 4, undef, undef, .int .i64 4]) (by kernel_rfl) 270 rfl (by kernel_rfl) ⟨Below.refl _ _, fun e => (by cases e), fun e => (by cases e)⟩ ?_ ?_
  · intro i hi
    have hi2 : i < 9 := hi
    clear hi
    rcases i with _ | i
    · refine bx_value HUX rfl (by decide) (by decide) (by decide) 67 rfl (by decide) (.agg #[.int .i64 1, .slice r1.A0 1 r1.c0, .slice r1.A1 3 r1.c1]) rfl ?_
      intro a8 w8 hb8 ho hn
      have o1 : a8.tmps[1]? = some _ := (ho 1 (by kernel_rfl)).trans rfl
      clear ho hn
      refine ⟨wanted_free rfl, ?_⟩
      have x := (HB_wb5.out.up hb8) 0 _ _ _ rfl
      have x0 : w8.cell? ⟨g1, 0, none⟩ = some (.int .i64 1) := x.k.cell 0
      have x1 : w8.cell? ⟨g1, 1, none⟩ = some (.slice r1.A0 1 r1.c0) := x.k.cell 1
      have x2 : w8.cell? ⟨g1, 2, none⟩ = some (.slice r1.A1 3 r1.c1) := x.k.cell 2
      clear x
      go_simp
    rcases i with _ | i
    · refine bx_value HUX rfl (by decide) (by decide) (by decide) 68 rfl (by decide) (.agg #[.int .i64 1, .slice r2.A0 2 r2.c0, .slice r2.A1 4 r2.c1]) rfl ?_
      intro a8 w8 hb8 ho hn
      have o2 : a8.tmps[2]? = some _ := (ho 2 (by kernel_rfl)).trans rfl
      clear ho hn
      refine ⟨wanted_free rfl, ?_⟩
      have x := (HB_wb5.out.up hb8) 1 _ _ _ rfl
      have x0 : w8.cell? ⟨g2, 0, none⟩ = some (.int .i64 1) := x.k.cell 0
      have x1 : w8.cell? ⟨g2, 1, none⟩ = some (.slice r2.A0 2 r2.c0) := x.k.cell 1
      have x2 : w8.cell? ⟨g2, 2, none⟩ = some (.slice r2.A1 4 r2.c1) := x.k.cell 2
      clear x
      go_simp
    rcases i with _ | i
    · refine bx_call HUX 38 rfl (by decide) (by decide) (by decide) 69 rfl (by decide) ?_
      intro a8 w8 hb8 ho hn
      obtain ⟨v67, n67, hq67⟩ := hn 0 67 (by kernel_rfl) rfl
      obtain rfl := hq67.1 (by decide) (by decide)
      obtain ⟨v68, n68, hq68⟩ := hn 1 68 (by kernel_rfl) rfl
      obtain rfl := hq68.1 (by decide) (by decide)
      clear ho hn
      refine ⟨wanted_free rfl, ?_⟩
      refine ⟨#[.agg #[.int .i64 1, .slice r1.A0 1 r1.c0, .slice r1.A1 3 r1.c1], .agg #[.int .i64 1, .slice r2.A0 2 r2.c0, .slice r2.A1 4 r2.c1]], (by go_simp), (c4 r1 r2 w8 ((HB_wb5.out.up hb8) 0 _ _ _ rfl).e ((HB_wb5.out.up hb8) 0 _ _ _ rfl).c ((HB_wb5.out.up hb8) 1 _ _ _ rfl).e ((HB_wb5.out.up hb8) 1 _ _ _ rfl).c).mono ?_⟩
      rintro e wz ⟨r, rfl, o9, b9⟩
      exact ⟨_, rfl, b9, r, rfl, o9.mono hb8.size⟩
    rcases i with _ | i
    · refine bx_make HUX rfl (by decide) (by decide) (by decide) 66 rfl (by decide) ?_
      intro a8 w8 hb8 ho hn
      obtain ⟨v69, n69, hq69⟩ := hn 2 69 (by kernel_rfl) rfl
      have hv69 : xto wb5 ⟨0, [], []⟩ 4 v69 w8 := hq69.2 (by decide)
      clear ho hn
      refine ⟨wanted_free rfl, ?_⟩
      exact ⟨v69, w8, (by go_simp), Below.refl _ _, hv69⟩
    rcases i with _ | i
    · refine bx_make HUX rfl (by decide) (by decide) (by decide) 70 rfl (by decide) ?_
      intro a8 w8 hb8 ho hn
      obtain ⟨v66, n66, hq66⟩ := hn 3 66 (by kernel_rfl) rfl
      have hv66 : xto wb5 ⟨0, [], []⟩ 4 v66 w8 := hq66.2 (by decide)
      clear ho hn
      refine ⟨wanted_free rfl, ?_⟩
      obtain ⟨p_, rfl, o⟩ := hv66
      exact ⟨.agg (arC ⟨0, [], []⟩ p_), w8, (by go_simp), Below.refl _ _, p_, rfl, o⟩
    rcases i with _ | i
    · refine bx_value HUX rfl (by decide) (by decide) (by decide) 71 rfl (by decide) (.int .i64 4) rfl ?_
      intro a8 w8 hb8 ho hn
      obtain ⟨v66, n66, hq66⟩ := hn 3 66 (by kernel_rfl) rfl
      have hv66 : xto wb5 ⟨0, [], []⟩ 4 v66 w8 := hq66.2 (by decide)
      clear ho hn
      refine ⟨wanted_free rfl, ?_⟩
      obtain ⟨p_, rfl, o⟩ := hv66
      go_simp
    rcases i with _ | i
    · refine bx_alloc HUX rfl (by decide) (by decide) rfl (.int .i64 0) (.slice none 0 0) (.slice none 0 0) ?_
      intro a8 w8 ho
      have o269 : a8.tmps[269]? = some _ := (ho 269 (by kernel_rfl)).trans rfl
      have hsz : 269 < a8.tmps.size := (Array.getElem?_eq_some_iff.1 o269).1
      refine ⟨by omega, wanted_free rfl, ?_⟩
      go_simp
    rcases i with _ | i
    · refine bx_store HUX rfl rfl (by decide) (by decide) rfl (by kernel_rfl) rfl ?_
      intro a8 w8 g u0 u1 u2 hg n9 hn
      obtain ⟨v70, n70, hq70⟩ := hn 4 70 (by kernel_rfl) rfl
      have hv70 : xo wb5 ⟨0, [], []⟩ v70 w8 := hq70.2 (by decide)
      clear hn
      refine ⟨wanted_free rfl, ?_⟩
      obtain ⟨r, rfl, o⟩ := hv70
      have x0 := hg.cell 0
      have x1 := hg.cell 1
      have x2 := hg.cell 2
      have f0 := hg.frozen 0
      have f1 := hg.frozen 1
      have f2 := hg.frozen 2
      refine ⟨r, o, ?_⟩
      rw [show arC ⟨0, [], []⟩ r = #[.int .i64 0, .slice r.A0 0 r.c0, .slice r.A1 0 r.c1] from rfl] at n70
      clear hg o
      go_simp
    rcases i with _ | i
    · refine bx_value HUX rfl (by decide) (by decide) (by decide) 10 rfl (by decide) (.int .i64 4) rfl ?_
      intro a8 w8 hb8 ho hn
      obtain ⟨v71, n71, hq71⟩ := hn 5 71 (by kernel_rfl) rfl
      obtain rfl := hq71.1 (by decide) (by decide)
      clear ho hn
      refine ⟨wanted_free rfl, ?_⟩
      go_simp
    omega
  intro dn fv wb6 hS5 hR5 hall
  obtain ⟨g6, e8, hg8, _, hfin⟩ := hS5.h (hall 6 (by decide))
  obtain ⟨r6, hb8, ho8⟩ := hfin (hall 7 (by decide))
  have hbw := hS5.b
  have h48 : fv 10 = .int .i64 4 := (hR5 8 10 rfl).1 (by decide) (by decide)
  clear hS5 hR5 hall hfin
  simp only [putAll, List.foldl_cons, List.foldl_nil, Act.put, List.setIfInBounds_toArray, List.set_cons_succ, List.set_cons_zero, List.getElem?_toArray, List.getElem?_cons_succ, List.getElem?_cons_zero, Option.some.injEq] at e8 ⊢
  rw [e8, h48]
  have HB_wb6 : Hid (Bxs wb6 [(g1, ⟨1, [3], [1, 2, 3]⟩, r1), (g2, ⟨1, [2, 2], [1, 2, 3, 4]⟩, r2), (g3, ⟨1, [3], [3, 1, 2]⟩, r3), (g4, ⟨1, [3], [2, 3, 1]⟩, r4), (g5, ⟨1, [2, 2], [1, 2, 4, 3]⟩, r5), (g6, ⟨0, [], []⟩, r6)]) := Lib.hid (Bxs.add (HB_wb5.out.up hbw) ⟨hb8, ho8.el (by decide) (by decide) (by decide), Cap.of ho8⟩)
  have BW_wb6 := Lib.hid (bon BW_wb5.out hbw)
  generalize fv 67 = u67
  generalize fv 68 = u68
  generalize fv 69 = u69
  generalize fv 66 = u66
  generalize fv 70 = u70
  generalize fv 71 = u71
  clear hb8 ho8 hbw e8 h48 hg8 HUX HB_wb5 BW_wb5
  go_upto_region 7 with (fail)
  have HUX : BxU wb6 (lookU [(2, xto wb6 ⟨0, [], []⟩ 3), (3, xto wb6 ⟨0, [], []⟩ 3), (4, xo wb6 ⟨0, [], []⟩)]) := lookU_two (by
    intro x hx
    simp only [List.mem_cons, List.not_mem_nil, or_false] at hx
    rcases hx with rfl | rfl | rfl <;> first | exact xo_stk _ _ | exact slo_stk _ _ _ | exact sio_stk _ _ _ | exact xto_stk _ _ _)
  refine wp_region_offT_on (BxS wb6 6 7 11 ⟨0, [], []⟩) (bxR 6 [2, 3, 4] (lookU [(2, xto wb6 ⟨0, [], []⟩ 3), (3, xto wb6 ⟨0, [], []⟩ 3), (4, xo wb6 ⟨0, [], []⟩)]) [.agg #[.int .i64 1, .slice r2.A0 2 r2.c0, .slice r2.A1 4 r2.c1], .agg #[.int .i64 1, .slice r2.A0 2 r2.c0, .slice r2.A1 4 r2.c1], undef, undef, undef, .int .i64 3, undef, undef, .int .i64 3]) (by kernel_rfl) 270 rfl (by kernel_rfl) ⟨Below.refl _ _, fun e => (by cases e), fun e => (by cases e)⟩ ?_ ?_
  · intro i hi
    have hi2 : i < 9 := hi
    clear hi
    rcases i with _ | i
    · refine bx_value HUX rfl (by decide) (by decide) (by decide) 73 rfl (by decide) (.agg #[.int .i64 1, .slice r2.A0 2 r2.c0, .slice r2.A1 4 r2.c1]) rfl ?_
      intro a8 w8 hb8 ho hn
      have o2 : a8.tmps[2]? = some _ := (ho 2 (by kernel_rfl)).trans rfl
      clear ho hn
      refine ⟨wanted_free rfl, ?_⟩
      have x := (HB_wb6.out.up hb8) 1 _ _ _ rfl
      have x0 : w8.cell? ⟨g2, 0, none⟩ = some (.int .i64 1) := x.k.cell 0
      have x1 : w8.cell? ⟨g2, 1, none⟩ = some (.slice r2.A0 2 r2.c0) := x.k.cell 1
      have x2 : w8.cell? ⟨g2, 2, none⟩ = some (.slice r2.A1 4 r2.c1) := x.k.cell 2
      clear x
      go_simp
    rcases i with _ | i
    · refine bx_value HUX rfl (by decide) (by decide) (by decide) 74 rfl (by decide) (.agg #[.int .i64 1, .slice r2.A0 2 r2.c0, .slice r2.A1 4 r2.c1]) rfl ?_
      intro a8 w8 hb8 ho hn
      have o2 : a8.tmps[2]? = some _ := (ho 2 (by kernel_rfl)).trans rfl
      clear ho hn
      refine ⟨wanted_free rfl, ?_⟩
      have x := (HB_wb6.out.up hb8) 1 _ _ _ rfl
      have x0 : w8.cell? ⟨g2, 0, none⟩ = some (.int .i64 1) := x.k.cell 0
      have x1 : w8.cell? ⟨g2, 1, none⟩ = some (.slice r2.A0 2 r2.c0) := x.k.cell 1
      have x2 : w8.cell? ⟨g2, 2, none⟩ = some (.slice r2.A1 4 r2.c1) := x.k.cell 2
      clear x
      go_simp
    rcases i with _ | i
    · refine bx_call HUX 38 rfl (by decide) (by decide) (by decide) 75 rfl (by decide) ?_
      intro a8 w8 hb8 ho hn
      obtain ⟨v73, n73, hq73⟩ := hn 0 73 (by kernel_rfl) rfl
      obtain rfl := hq73.1 (by decide) (by decide)
      obtain ⟨v74, n74, hq74⟩ := hn 1 74 (by kernel_rfl) rfl
      obtain rfl := hq74.1 (by decide) (by decide)
      clear ho hn
      refine ⟨wanted_free rfl, ?_⟩
      refine ⟨#[.agg #[.int .i64 1, .slice r2.A0 2 r2.c0, .slice r2.A1 4 r2.c1], .agg #[.int .i64 1, .slice r2.A0 2 r2.c0, .slice r2.A1 4 r2.c1]], (by go_simp), (c5 r2 r2 w8 ((HB_wb6.out.up hb8) 1 _ _ _ rfl).e ((HB_wb6.out.up hb8) 1 _ _ _ rfl).c ((HB_wb6.out.up hb8) 1 _ _ _ rfl).e ((HB_wb6.out.up hb8) 1 _ _ _ rfl).c).mono ?_⟩
      rintro e wz ⟨r, rfl, o9, b9⟩
      exact ⟨_, rfl, b9, r, rfl, o9.mono hb8.size⟩
    rcases i with _ | i
    · refine bx_make HUX rfl (by decide) (by decide) (by decide) 72 rfl (by decide) ?_
      intro a8 w8 hb8 ho hn
      obtain ⟨v75, n75, hq75⟩ := hn 2 75 (by kernel_rfl) rfl
      have hv75 : xto wb6 ⟨0, [], []⟩ 3 v75 w8 := hq75.2 (by decide)
      clear ho hn
      refine ⟨wanted_free rfl, ?_⟩
      exact ⟨v75, w8, (by go_simp), Below.refl _ _, hv75⟩
    rcases i with _ | i
    · refine bx_make HUX rfl (by decide) (by decide) (by decide) 76 rfl (by decide) ?_
      intro a8 w8 hb8 ho hn
      obtain ⟨v72, n72, hq72⟩ := hn 3 72 (by kernel_rfl) rfl
      have hv72 : xto wb6 ⟨0, [], []⟩ 3 v72 w8 := hq72.2 (by decide)
      clear ho hn
      refine ⟨wanted_free rfl, ?_⟩
      obtain ⟨p_, rfl, o⟩ := hv72
      exact ⟨.agg (arC ⟨0, [], []⟩ p_), w8, (by go_simp), Below.refl _ _, p_, rfl, o⟩
    rcases i with _ | i
    · refine bx_value HUX rfl (by decide) (by decide) (by decide) 77 rfl (by decide) (.int .i64 3) rfl ?_
      intro a8 w8 hb8 ho hn
      obtain ⟨v72, n72, hq72⟩ := hn 3 72 (by kernel_rfl) rfl
      have hv72 : xto wb6 ⟨0, [], []⟩ 3 v72 w8 := hq72.2 (by decide)
      clear ho hn
      refine ⟨wanted_free rfl, ?_⟩
      obtain ⟨p_, rfl, o⟩ := hv72
      go_simp
    rcases i with _ | i
    · refine bx_alloc HUX rfl (by decide) (by decide) rfl (.int .i64 0) (.slice none 0 0) (.slice none 0 0) ?_
      intro a8 w8 ho
      have o269 : a8.tmps[269]? = some _ := (ho 269 (by kernel_rfl)).trans rfl
      have hsz : 269 < a8.tmps.size := (Array.getElem?_eq_some_iff.1 o269).1
      refine ⟨by omega, wanted_free rfl, ?_⟩
      go_simp
    rcases i with _ | i
    · refine bx_store HUX rfl rfl (by decide) (by decide) rfl (by kernel_rfl) rfl ?_
      intro a8 w8 g u0 u1 u2 hg n11 hn
      obtain ⟨v76, n76, hq76⟩ := hn 4 76 (by kernel_rfl) rfl
      have hv76 : xo wb6 ⟨0, [], []⟩ v76 w8 := hq76.2 (by decide)
      clear hn
      refine ⟨wanted_free rfl, ?_⟩
      obtain ⟨r, rfl, o⟩ := hv76
      have x0 := hg.cell 0
      have x1 := hg.cell 1
      have x2 := hg.cell 2
      have f0 := hg.frozen 0
      have f1 := hg.frozen 1
      have f2 := hg.frozen 2
      refine ⟨r, o, ?_⟩
      rw [show arC ⟨0, [], []⟩ r = #[.int .i64 0, .slice r.A0 0 r.c0, .slice r.A1 0 r.c1] from rfl] at n76
      clear hg o
      go_simp
    rcases i with _ | i
    · refine bx_value HUX rfl (by decide) (by decide) (by decide) 12 rfl (by decide) (.int .i64 3) rfl ?_
      intro a8 w8 hb8 ho hn
      obtain ⟨v77, n77, hq77⟩ := hn 5 77 (by kernel_rfl) rfl
      obtain rfl := hq77.1 (by decide) (by decide)
      clear ho hn
      refine ⟨wanted_free rfl, ?_⟩
      go_simp
    omega
  intro dn fv wb7 hS5 hR5 hall
  obtain ⟨g7, e8, hg8, _, hfin⟩ := hS5.h (hall 6 (by decide))
  obtain ⟨r7, hb8, ho8⟩ := hfin (hall 7 (by decide))
  have hbw := hS5.b
  have h48 : fv 12 = .int .i64 3 := (hR5 8 12 rfl).1 (by decide) (by decide)
  clear hS5 hR5 hall hfin
  simp only [putAll, List.foldl_cons, List.foldl_nil, Act.put, List.setIfInBounds_toArray, List.set_cons_succ, List.set_cons_zero, List.getElem?_toArray, List.getElem?_cons_succ, List.getElem?_cons_zero, Option.some.injEq] at e8 ⊢
  rw [e8, h48]
  have HB_wb7 : Hid (Bxs wb7 [(g1, ⟨1, [3], [1, 2, 3]⟩, r1), (g2, ⟨1, [2, 2], [1, 2, 3, 4]⟩, r2), (g3, ⟨1, [3], [3, 1, 2]⟩, r3), (g4, ⟨1, [3], [2, 3, 1]⟩, r4), (g5, ⟨1, [2, 2], [1, 2, 4, 3]⟩, r5), (g6, ⟨0, [], []⟩, r6), (g7, ⟨0, [], []⟩, r7)]) := Lib.hid (Bxs.add (HB_wb6.out.up hbw) ⟨hb8, ho8.el (by decide) (by decide) (by decide), Cap.of ho8⟩)
  have BW_wb7 := Lib.hid (bon BW_wb6.out hbw)
  generalize fv 73 = u73
  generalize fv 74 = u74
  generalize fv 75 = u75
  generalize fv 72 = u72
  generalize fv 76 = u76
  generalize fv 77 = u77
  clear hb8 ho8 hbw e8 h48 hg8 HUX HB_wb6 BW_wb6
  go_upto_region 8 with (fail)
  have HUX : BxU wb7 (lookU [(0, slo wb7 1 #[.int .i64 1]), (1, xo wb7 ⟨1, [1], [1]⟩), (3, xto wb7 ⟨0, [], []⟩ 3), (4, xto wb7 ⟨0, [], []⟩ 3), (5, xo wb7 ⟨0, [], []⟩)]) := lookU_two (by
    intro x hx
    simp only [List.mem_cons, List.not_mem_nil, or_false] at hx
    rcases hx with rfl | rfl | rfl | rfl | rfl <;> first | exact xo_stk _ _ | exact slo_stk _ _ _ | exact sio_stk _ _ _ | exact xto_stk _ _ _)
  refine wp_region_doneT_on (BxS wb7 7 8 13 ⟨0, [], []⟩) (bxR 7 [0, 1, 3, 4, 5] (lookU [(0, slo wb7 1 #[.int .i64 1]), (1, xo wb7 ⟨1, [1], [1]⟩), (3, xto wb7 ⟨0, [], []⟩ 3), (4, xto wb7 ⟨0, [], []⟩ 3), (5, xo wb7 ⟨0, [], []⟩)]) [undef, undef, .agg #[.int .i64 1, .slice r1.A0 1 r1.c0, .slice r1.A1 3 r1.c1], undef, undef, undef, .int .i64 3, undef, undef, .int .i64 3]) (by kernel_rfl) 270 rfl (by kernel_rfl) ⟨(Below.refl _ _).drew, fun e => (by cases e), fun e => (by cases e)⟩ ?_ ?_
  · intro i hi
    have hi2 : i < 10 := hi
    clear hi
    rcases i with _ | i
    · refine bx_make HUX rfl (by decide) (by decide) (by decide) 79 rfl (by decide) ?_
      intro a8 w8 hb8 ho hn
      clear ho hn
      refine ⟨wanted_free rfl, ?_⟩
      exact ⟨.slice (some ⟨w8.heap.size, 0, none⟩) 1 1, w8.alloc (.cells #[.int .i64 1] 2), (by go_simp), albel _ _, w8.heap.size, rfl, hb8.size, Blk.new w8 _ _⟩
    rcases i with _ | i
    · refine bx_call HUX 18 rfl (by decide) (by decide) (by decide) 80 rfl (by decide) ?_
      intro a8 w8 hb8 ho hn
      obtain ⟨v79, n79, hq79⟩ := hn 0 79 (by kernel_rfl) rfl
      have hv79 : slo wb7 1 #[.int .i64 1] v79 w8 := hq79.2 (by decide)
      clear ho hn
      refine ⟨wanted_free rfl, ?_⟩
      obtain ⟨g, rfl, _, hg⟩ := hv79
      refine ⟨#[.slice (some ⟨g, 0, none⟩) 1 1], (by go_simp), (vec_lit [1] (by decide) _ 1 1 w8 rfl (reads_blk hg rfl)).mono ?_⟩
      rintro e wz ⟨p_, rfl, o, b⟩
      exact ⟨_, rfl, b, p_, rfl, o.mono hb8.size⟩
    rcases i with _ | i
    · refine bx_value HUX rfl (by decide) (by decide) (by decide) 81 rfl (by decide) (.agg #[.int .i64 1, .slice r1.A0 1 r1.c0, .slice r1.A1 3 r1.c1]) rfl ?_
      intro a8 w8 hb8 ho hn
      have o1 : a8.tmps[1]? = some _ := (ho 1 (by kernel_rfl)).trans rfl
      clear ho hn
      refine ⟨wanted_free rfl, ?_⟩
      have x := (HB_wb7.out.up hb8) 0 _ _ _ rfl
      have x0 : w8.cell? ⟨g1, 0, none⟩ = some (.int .i64 1) := x.k.cell 0
      have x1 : w8.cell? ⟨g1, 1, none⟩ = some (.slice r1.A0 1 r1.c0) := x.k.cell 1
      have x2 : w8.cell? ⟨g1, 2, none⟩ = some (.slice r1.A1 3 r1.c1) := x.k.cell 2
      clear x
      go_simp
    rcases i with _ | i
    · refine bx_call HUX 38 rfl (by decide) (by decide) (by decide) 82 rfl (by decide) ?_
      intro a8 w8 hb8 ho hn
      obtain ⟨v80, n80, hq80⟩ := hn 1 80 (by kernel_rfl) rfl
      have hv80 : xo wb7 ⟨1, [1], [1]⟩ v80 w8 := hq80.2 (by decide)
      obtain ⟨v81, n81, hq81⟩ := hn 2 81 (by kernel_rfl) rfl
      obtain rfl := hq81.1 (by decide) (by decide)
      clear ho hn
      refine ⟨wanted_free rfl, ?_⟩
      obtain ⟨q0_, rfl, o0_⟩ := hv80
      refine ⟨#[.agg (arC ⟨1, [1], [1]⟩ q0_), .agg #[.int .i64 1, .slice r1.A0 1 r1.c0, .slice r1.A1 3 r1.c1]], (by go_simp), (c6 q0_ r1 w8 (o0_.el (by decide) (by decide) (by decide)) (Cap.of o0_) ((HB_wb7.out.up hb8) 0 _ _ _ rfl).e ((HB_wb7.out.up hb8) 0 _ _ _ rfl).c).mono ?_⟩
      rintro e wz ⟨r, rfl, o9, b9⟩
      exact ⟨_, rfl, b9, r, rfl, o9.mono hb8.size⟩
    rcases i with _ | i
    · refine bx_make HUX rfl (by decide) (by decide) (by decide) 78 rfl (by decide) ?_
      intro a8 w8 hb8 ho hn
      obtain ⟨v82, n82, hq82⟩ := hn 3 82 (by kernel_rfl) rfl
      have hv82 : xto wb7 ⟨0, [], []⟩ 3 v82 w8 := hq82.2 (by decide)
      clear ho hn
      refine ⟨wanted_free rfl, ?_⟩
      exact ⟨v82, w8, (by go_simp), Below.refl _ _, hv82⟩
    rcases i with _ | i
    · refine bx_make HUX rfl (by decide) (by decide) (by decide) 83 rfl (by decide) ?_
      intro a8 w8 hb8 ho hn
      obtain ⟨v78, n78, hq78⟩ := hn 4 78 (by kernel_rfl) rfl
      have hv78 : xto wb7 ⟨0, [], []⟩ 3 v78 w8 := hq78.2 (by decide)
      clear ho hn
      refine ⟨wanted_free rfl, ?_⟩
      obtain ⟨p_, rfl, o⟩ := hv78
      exact ⟨.agg (arC ⟨0, [], []⟩ p_), w8, (by go_simp), Below.refl _ _, p_, rfl, o⟩
    rcases i with _ | i
    · refine bx_value HUX rfl (by decide) (by decide) (by decide) 84 rfl (by decide) (.int .i64 3) rfl ?_
      intro a8 w8 hb8 ho hn
      obtain ⟨v78, n78, hq78⟩ := hn 4 78 (by kernel_rfl) rfl
      have hv78 : xto wb7 ⟨0, [], []⟩ 3 v78 w8 := hq78.2 (by decide)
      clear ho hn
      refine ⟨wanted_free rfl, ?_⟩
      obtain ⟨p_, rfl, o⟩ := hv78
      go_simp
    rcases i with _ | i
    · refine bx_alloc HUX rfl (by decide) (by decide) rfl (.int .i64 0) (.slice none 0 0) (.slice none 0 0) ?_
      intro a8 w8 ho
      have o269 : a8.tmps[269]? = some _ := (ho 269 (by kernel_rfl)).trans rfl
      have hsz : 269 < a8.tmps.size := (Array.getElem?_eq_some_iff.1 o269).1
      refine ⟨by omega, wanted_free rfl, ?_⟩
      go_simp
    rcases i with _ | i
    · refine bx_store HUX rfl rfl (by decide) (by decide) rfl (by kernel_rfl) rfl ?_
      intro a8 w8 g u0 u1 u2 hg n13 hn
      obtain ⟨v83, n83, hq83⟩ := hn 5 83 (by kernel_rfl) rfl
      have hv83 : xo wb7 ⟨0, [], []⟩ v83 w8 := hq83.2 (by decide)
      clear hn
      refine ⟨wanted_free rfl, ?_⟩
      obtain ⟨r, rfl, o⟩ := hv83
      have x0 := hg.cell 0
      have x1 := hg.cell 1
      have x2 := hg.cell 2
      have f0 := hg.frozen 0
      have f1 := hg.frozen 1
      have f2 := hg.frozen 2
      refine ⟨r, o, ?_⟩
      rw [show arC ⟨0, [], []⟩ r = #[.int .i64 0, .slice r.A0 0 r.c0, .slice r.A1 0 r.c1] from rfl] at n83
      clear hg o
      go_simp
    rcases i with _ | i
    · refine bx_value HUX rfl (by decide) (by decide) (by decide) 14 rfl (by decide) (.int .i64 3) rfl ?_
      intro a8 w8 hb8 ho hn
      obtain ⟨v84, n84, hq84⟩ := hn 6 84 (by kernel_rfl) rfl
      obtain rfl := hq84.1 (by decide) (by decide)
      clear ho hn
      refine ⟨wanted_free rfl, ?_⟩
      go_simp
    omega
  intro dn fv wb8 hS5 hR5 hall
  obtain ⟨g8, e8, hg8, _, hfin⟩ := hS5.h (hall 7 (by decide))
  obtain ⟨r8, hb8, ho8⟩ := hfin (hall 8 (by decide))
  have hbw := hS5.b
  have h48 : fv 14 = .int .i64 3 := (hR5 9 14 rfl).1 (by decide) (by decide)
  clear hS5 hR5 hall hfin
  simp only [putAll, List.foldl_cons, List.foldl_nil, Act.put, List.setIfInBounds_toArray, List.set_cons_succ, List.set_cons_zero, List.getElem?_toArray, List.getElem?_cons_succ, List.getElem?_cons_zero, Option.some.injEq] at e8 ⊢
  rw [e8, h48]
  have HB_wb8 : Hid (Bxs wb8 [(g1, ⟨1, [3], [1, 2, 3]⟩, r1), (g2, ⟨1, [2, 2], [1, 2, 3, 4]⟩, r2), (g3, ⟨1, [3], [3, 1, 2]⟩, r3), (g4, ⟨1, [3], [2, 3, 1]⟩, r4), (g5, ⟨1, [2, 2], [1, 2, 4, 3]⟩, r5), (g6, ⟨0, [], []⟩, r6), (g7, ⟨0, [], []⟩, r7), (g8, ⟨0, [], []⟩, r8)]) := Lib.hid (Bxs.add (HB_wb7.out.up hbw) ⟨hb8, ho8.el (by decide) (by decide) (by decide), Cap.of ho8⟩)
  have BW_wb8 := Lib.hid (bon BW_wb7.out hbw)
  generalize fv 79 = u79
  generalize fv 80 = u80
  generalize fv 81 = u81
  generalize fv 82 = u82
  generalize fv 78 = u78
  generalize fv 83 = u83
  generalize fv 84 = u84
  clear hb8 ho8 hbw e8 h48 hg8 HUX HB_wb7 BW_wb7
  go_upto_region 9 with (fail)
  have HUX : BxU wb8 (lookU [(0, slo wb8 1 #[.int .i64 97]), (1, xo wb8 ⟨2, [], [97]⟩), (3, xto wb8 ⟨0, [], []⟩ 5), (4, xto wb8 ⟨0, [], []⟩ 5), (5, xo wb8 ⟨0, [], []⟩)]) := lookU_two (by
    intro x hx
    simp only [List.mem_cons, List.not_mem_nil, or_false] at hx
    rcases hx with rfl | rfl | rfl | rfl | rfl <;> first | exact xo_stk _ _ | exact slo_stk _ _ _ | exact sio_stk _ _ _ | exact xto_stk _ _ _)
  refine wp_region_offT_on (BxS wb8 7 8 15 ⟨0, [], []⟩) (bxR 7 [0, 1, 3, 4, 5] (lookU [(0, slo wb8 1 #[.int .i64 97]), (1, xo wb8 ⟨2, [], [97]⟩), (3, xto wb8 ⟨0, [], []⟩ 5), (4, xto wb8 ⟨0, [], []⟩ 5), (5, xo wb8 ⟨0, [], []⟩)]) [undef, undef, .agg #[.int .i64 1, .slice r1.A0 1 r1.c0, .slice r1.A1 3 r1.c1], undef, undef, undef, .int .i64 5, undef, undef, .int .i64 5]) (by kernel_rfl) 270 rfl (by kernel_rfl) ⟨Below.refl _ _, fun e => (by cases e), fun e => (by cases e)⟩ ?_ ?_
  · intro i hi
    have hi2 : i < 10 := hi
    clear hi
    rcases i with _ | i
    · refine bx_make HUX rfl (by decide) (by decide) (by decide) 86 rfl (by decide) ?_
      intro a8 w8 hb8 ho hn
      clear ho hn
      refine ⟨wanted_free rfl, ?_⟩
      exact ⟨.slice (some ⟨w8.heap.size, 0, none⟩) 1 1, w8.alloc (.cells #[.int .i64 97] 2), (by go_simp), albel _ _, w8.heap.size, rfl, hb8.size, Blk.new w8 _ _⟩
    rcases i with _ | i
    · refine bx_make HUX rfl (by decide) (by decide) (by decide) 87 rfl (by decide) ?_
      intro a8 w8 hb8 ho hn
      obtain ⟨v86, n86, hq86⟩ := hn 0 86 (by kernel_rfl) rfl
      have hv86 : slo wb8 1 #[.int .i64 97] v86 w8 := hq86.2 (by decide)
      clear ho hn
      refine ⟨wanted_free rfl, ?_⟩
      obtain ⟨ge, rfl, hBe, hge⟩ := hv86
      exact ⟨.agg #[.int .i64 2, .slice none 0 0, .slice (some ⟨ge, 0, none⟩) 1 1], w8, (by go_simp), Below.refl _ _, ⟨none, 0, some ⟨ge, 0, none⟩, 1⟩, rfl, own_lit 2 [97] ge 1 _ w8 rfl hBe (by decide) hge⟩
    rcases i with _ | i
    · refine bx_value HUX rfl (by decide) (by decide) (by decide) 88 rfl (by decide) (.agg #[.int .i64 1, .slice r1.A0 1 r1.c0, .slice r1.A1 3 r1.c1]) rfl ?_
      intro a8 w8 hb8 ho hn
      have o1 : a8.tmps[1]? = some _ := (ho 1 (by kernel_rfl)).trans rfl
      clear ho hn
      refine ⟨wanted_free rfl, ?_⟩
      have x := (HB_wb8.out.up hb8) 0 _ _ _ rfl
      have x0 : w8.cell? ⟨g1, 0, none⟩ = some (.int .i64 1) := x.k.cell 0
      have x1 : w8.cell? ⟨g1, 1, none⟩ = some (.slice r1.A0 1 r1.c0) := x.k.cell 1
      have x2 : w8.cell? ⟨g1, 2, none⟩ = some (.slice r1.A1 3 r1.c1) := x.k.cell 2
      clear x
      go_simp
    rcases i with _ | i
    · refine bx_call HUX 38 rfl (by decide) (by decide) (by decide) 89 rfl (by decide) ?_
      intro a8 w8 hb8 ho hn
      obtain ⟨v87, n87, hq87⟩ := hn 1 87 (by kernel_rfl) rfl
      have hv87 : xo wb8 ⟨2, [], [97]⟩ v87 w8 := hq87.2 (by decide)
      obtain ⟨v88, n88, hq88⟩ := hn 2 88 (by kernel_rfl) rfl
      obtain rfl := hq88.1 (by decide) (by decide)
      clear ho hn
      refine ⟨wanted_free rfl, ?_⟩
      obtain ⟨q0_, rfl, o0_⟩ := hv87
      refine ⟨#[.agg (arC ⟨2, [], [97]⟩ q0_), .agg #[.int .i64 1, .slice r1.A0 1 r1.c0, .slice r1.A1 3 r1.c1]], (by go_simp), (c7 q0_ r1 w8 (o0_.el (by decide) (by decide) (by decide)) (Cap.of o0_) ((HB_wb8.out.up hb8) 0 _ _ _ rfl).e ((HB_wb8.out.up hb8) 0 _ _ _ rfl).c).mono ?_⟩
      rintro e wz ⟨r, rfl, o9, b9⟩
      exact ⟨_, rfl, b9, r, rfl, o9.mono hb8.size⟩
    rcases i with _ | i
    · refine bx_make HUX rfl (by decide) (by decide) (by decide) 85 rfl (by decide) ?_
      intro a8 w8 hb8 ho hn
      obtain ⟨v89, n89, hq89⟩ := hn 3 89 (by kernel_rfl) rfl
      have hv89 : xto wb8 ⟨0, [], []⟩ 5 v89 w8 := hq89.2 (by decide)
      clear ho hn
      refine ⟨wanted_free rfl, ?_⟩
      exact ⟨v89, w8, (by go_simp), Below.refl _ _, hv89⟩
    rcases i with _ | i
    · refine bx_make HUX rfl (by decide) (by decide) (by decide) 90 rfl (by decide) ?_
      intro a8 w8 hb8 ho hn
      obtain ⟨v85, n85, hq85⟩ := hn 4 85 (by kernel_rfl) rfl
      have hv85 : xto wb8 ⟨0, [], []⟩ 5 v85 w8 := hq85.2 (by decide)
      clear ho hn
      refine ⟨wanted_free rfl, ?_⟩
      obtain ⟨p_, rfl, o⟩ := hv85
      exact ⟨.agg (arC ⟨0, [], []⟩ p_), w8, (by go_simp), Below.refl _ _, p_, rfl, o⟩
    rcases i with _ | i
    · refine bx_value HUX rfl (by decide) (by decide) (by decide) 91 rfl (by decide) (.int .i64 5) rfl ?_
      intro a8 w8 hb8 ho hn
      obtain ⟨v85, n85, hq85⟩ := hn 4 85 (by kernel_rfl) rfl
      have hv85 : xto wb8 ⟨0, [], []⟩ 5 v85 w8 := hq85.2 (by decide)
      clear ho hn
      refine ⟨wanted_free rfl, ?_⟩
      obtain ⟨p_, rfl, o⟩ := hv85
      go_simp
    rcases i with _ | i
    · refine bx_alloc HUX rfl (by decide) (by decide) rfl (.int .i64 0) (.slice none 0 0) (.slice none 0 0) ?_
      intro a8 w8 ho
      have o269 : a8.tmps[269]? = some _ := (ho 269 (by kernel_rfl)).trans rfl
      have hsz : 269 < a8.tmps.size := (Array.getElem?_eq_some_iff.1 o269).1
      refine ⟨by omega, wanted_free rfl, ?_⟩
      go_simp
    rcases i with _ | i
    · refine bx_store HUX rfl rfl (by decide) (by decide) rfl (by kernel_rfl) rfl ?_
      intro a8 w8 g u0 u1 u2 hg n15 hn
      obtain ⟨v90, n90, hq90⟩ := hn 5 90 (by kernel_rfl) rfl
      have hv90 : xo wb8 ⟨0, [], []⟩ v90 w8 := hq90.2 (by decide)
      clear hn
      refine ⟨wanted_free rfl, ?_⟩
      obtain ⟨r, rfl, o⟩ := hv90
      have x0 := hg.cell 0
      have x1 := hg.cell 1
      have x2 := hg.cell 2
      have f0 := hg.frozen 0
      have f1 := hg.frozen 1
      have f2 := hg.frozen 2
      refine ⟨r, o, ?_⟩
      rw [show arC ⟨0, [], []⟩ r = #[.int .i64 0, .slice r.A0 0 r.c0, .slice r.A1 0 r.c1] from rfl] at n90
      clear hg o
      go_simp
    rcases i with _ | i
    · refine bx_value HUX rfl (by decide) (by decide) (by decide) 16 rfl (by decide) (.int .i64 5) rfl ?_
      intro a8 w8 hb8 ho hn
      obtain ⟨v91, n91, hq91⟩ := hn 6 91 (by kernel_rfl) rfl
      obtain rfl := hq91.1 (by decide) (by decide)
      clear ho hn
      refine ⟨wanted_free rfl, ?_⟩
      go_simp
    omega
  intro dn fv wb9 hS5 hR5 hall
  obtain ⟨g9, e8, hg8, _, hfin⟩ := hS5.h (hall 7 (by decide))
  obtain ⟨r9, hb8, ho8⟩ := hfin (hall 8 (by decide))
  have hbw := hS5.b
  have h48 : fv 16 = .int .i64 5 := (hR5 9 16 rfl).1 (by decide) (by decide)
  clear hS5 hR5 hall hfin
  simp only [putAll, List.foldl_cons, List.foldl_nil, Act.put, List.setIfInBounds_toArray, List.set_cons_succ, List.set_cons_zero, List.getElem?_toArray, List.getElem?_cons_succ, List.getElem?_cons_zero, Option.some.injEq] at e8 ⊢
  rw [e8, h48]
  have HB_wb9 : Hid (Bxs wb9 [(g1, ⟨1, [3], [1, 2, 3]⟩, r1), (g2, ⟨1, [2, 2], [1, 2, 3, 4]⟩, r2), (g3, ⟨1, [3], [3, 1, 2]⟩, r3), (g4, ⟨1, [3], [2, 3, 1]⟩, r4), (g5, ⟨1, [2, 2], [1, 2, 4, 3]⟩, r5), (g6, ⟨0, [], []⟩, r6), (g7, ⟨0, [], []⟩, r7), (g8, ⟨0, [], []⟩, r8), (g9, ⟨0, [], []⟩, r9)]) := Lib.hid (Bxs.add (HB_wb8.out.up hbw) ⟨hb8, ho8.el (by decide) (by decide) (by decide), Cap.of ho8⟩)
  have BW_wb9 := Lib.hid (bon BW_wb8.out hbw)
  generalize fv 86 = u86
  generalize fv 87 = u87
  generalize fv 88 = u88
  generalize fv 89 = u89
  generalize fv 85 = u85
  generalize fv 90 = u90
  generalize fv 91 = u91
  clear hb8 ho8 hbw e8 h48 hg8 HUX HB_wb8 BW_wb8
  go_upto_region 10 with (fail)
  have HU : GU (lookU [(2, slo wb9 3 #[.int .i64 3, .int .i64 1, .int .i64 2]), (3, xo wb9 ⟨1, [3], [3, 1, 2]⟩), (4, xv (.bool true)), (8, slo wb9 3 #[.int .i64 2, .int .i64 3, .int .i64 1]), (9, xo wb9 ⟨1, [3], [2, 3, 1]⟩), (10, xv (.bool true)), (15, slo wb9 4 #[.int .i64 1, .int .i64 2, .int .i64 4, .int .i64 3]), (16, xo wb9 ⟨1, [2, 2], [1, 2, 4, 3]⟩), (17, xv (.bool true))]) := lookU_stay (by
    intro x hx
    simp only [List.mem_cons, List.not_mem_nil, or_false] at hx
    rcases hx with rfl | rfl | rfl | rfl | rfl | rfl | rfl | rfl | rfl <;> first | exact (slo_stk _ _ _).1 | exact (sio_stk _ _ _).1 | exact (xo_stk _ _).1 | exact xv_stk _)
  refine wp_region_done_on (GS wb9) (GR [2, 3, 4, 8, 9, 10, 15, 16, 17] (lookU [(2, slo wb9 3 #[.int .i64 3, .int .i64 1, .int .i64 2]), (3, xo wb9 ⟨1, [3], [3, 1, 2]⟩), (4, xv (.bool true)), (8, slo wb9 3 #[.int .i64 2, .int .i64 3, .int .i64 1]), (9, xo wb9 ⟨1, [3], [2, 3, 1]⟩), (10, xv (.bool true)), (15, slo wb9 4 #[.int .i64 1, .int .i64 2, .int .i64 4, .int .i64 3]), (16, xo wb9 ⟨1, [2, 2], [1, 2, 4, 3]⟩), (17, xv (.bool true))]) [.agg #[.int .i64 1, .slice r3.A0 1 r3.c0, .slice r3.A1 3 r3.c1], .int .i64 0, undef, undef, undef, .bool true, .agg #[.int .i64 1, .slice r4.A0 1 r4.c0, .slice r4.A1 3 r4.c1], .int .i64 0, undef, undef, undef, .bool true, .bool true, .agg #[.int .i64 1, .slice r5.A0 2 r5.c0, .slice r5.A1 4 r5.c1], .int .i64 0, undef, undef, undef, .bool true, .bool true, .int .i64 4, .bool true, .bool true, .bool true, .int .i64 3, .bool true, .bool true, .bool true, .int .i64 3, .bool true, .bool true, .bool true, .int .i64 5, .bool true, .bool true, .bool true]) (by kernel_rfl) 270 rfl (by kernel_rfl) ((Below.refl _ _).drew) ?_ ?_
  · intro i hi
    have hi2 : i < 36 := hi
    clear hi
    rcases i with _ | i
    · refine gr_value rfl (by decide) (.agg #[.int .i64 1, .slice r3.A0 1 r3.c0, .slice r3.A1 3 r3.c1]) rfl ?_
      intro a8 w8 hb8 ho hn
      have o3 : a8.tmps[3]? = some _ := (ho 3 (by kernel_rfl)).trans rfl
      clear ho hn
      refine ⟨wanted_free rfl, ?_⟩
      have x := (HB_wb9.out.up hb8) 2 _ _ _ rfl
      have x0 : w8.cell? ⟨g3, 0, none⟩ = some (.int .i64 1) := x.k.cell 0
      have x1 : w8.cell? ⟨g3, 1, none⟩ = some (.slice r3.A0 1 r3.c0) := x.k.cell 1
      have x2 : w8.cell? ⟨g3, 2, none⟩ = some (.slice r3.A1 3 r3.c1) := x.k.cell 2
      clear x
      go_simp
    rcases i with _ | i
    · refine gr_value rfl (by decide) (.int .i64 0) rfl ?_
      intro a8 w8 hb8 ho hn
      have o4 : a8.tmps[4]? = some _ := (ho 4 (by kernel_rfl)).trans rfl
      clear ho hn
      refine ⟨wanted_free rfl, ?_⟩
      go_simp
    rcases i with _ | i
    · refine gr_make HU rfl (by decide) ?_
      intro a8 w8 hb8 ho hn
      clear ho hn
      refine ⟨wanted_free rfl, ?_⟩
      exact ⟨.slice (some ⟨w8.heap.size, 0, none⟩) 3 3, w8.alloc (.cells #[.int .i64 3, .int .i64 1, .int .i64 2] 2), (by go_simp), albel _ _, w8.heap.size, rfl, hb8.size, Blk.new w8 _ _⟩
    rcases i with _ | i
    · refine gr_call HU 18 rfl (by decide) ?_
      intro a8 w8 hb8 ho hn
      obtain ⟨v94, n94, hq94⟩ := hn 2 94 (by kernel_rfl) rfl
      have hv94 : slo wb9 3 #[.int .i64 3, .int .i64 1, .int .i64 2] v94 w8 := hq94.2 (by decide)
      clear ho hn
      refine ⟨wanted_free rfl, ?_⟩
      obtain ⟨g, rfl, _, hg⟩ := hv94
      refine ⟨#[.slice (some ⟨g, 0, none⟩) 3 3], (by go_simp), (vec_lit [3, 1, 2] (by decide) _ 3 3 w8 rfl (reads_blk hg rfl)).mono ?_⟩
      rintro e wz ⟨p_, rfl, o, b⟩
      exact ⟨_, rfl, b, p_, rfl, o.mono hb8.size⟩
    rcases i with _ | i
    · refine gr_call HU 39 rfl (by decide) ?_
      intro a8 w8 hb8 ho hn
      obtain ⟨v92, n92, hq92⟩ := hn 0 92 (by kernel_rfl) rfl
      obtain rfl := hq92.1 (by decide)
      obtain ⟨v93, n93, hq93⟩ := hn 1 93 (by kernel_rfl) rfl
      obtain rfl := hq93.1 (by decide)
      obtain ⟨v95, n95, hq95⟩ := hn 3 95 (by kernel_rfl) rfl
      have hv95 : xo wb9 ⟨1, [3], [3, 1, 2]⟩ v95 w8 := hq95.2 (by decide)
      clear ho hn
      refine ⟨wanted_free rfl, ?_⟩
      obtain ⟨q_, rfl, o_⟩ := hv95
      refine ⟨#[.agg #[.int .i64 1, .slice r3.A0 1 r3.c0, .slice r3.A1 3 r3.c1], .int .i64 0, .agg (arC ⟨1, [3], [3, 1, 2]⟩ q_)], (by go_simp), (l14is_yes ⟨1, [3], [3, 1, 2]⟩ r3 q_ w8 ((HB_wb9.out.up hb8) 2 _ _ _ rfl).e (o_.el (by decide) (by decide) (by decide))).mono ?_⟩
      rintro e wz ⟨rfl, b9⟩
      exact ⟨_, rfl, b9, rfl⟩
    rcases i with _ | i
    · refine gr_value rfl (by decide) (.bool true) rfl ?_
      intro a8 w8 hb8 ho hn
      obtain ⟨v96, n96, hq96⟩ := hn 4 96 (by kernel_rfl) rfl
      have hv96 : xv (.bool true) v96 w8 := hq96.2 (by decide)
      clear ho hn
      refine ⟨wanted_free rfl, ?_⟩
      obtain rfl : v96 = .bool true := hv96
      go_simp
    rcases i with _ | i
    · refine gr_value rfl (by decide) (.agg #[.int .i64 1, .slice r4.A0 1 r4.c0, .slice r4.A1 3 r4.c1]) rfl ?_
      intro a8 w8 hb8 ho hn
      have o5 : a8.tmps[5]? = some _ := (ho 5 (by kernel_rfl)).trans rfl
      obtain ⟨v97, n97, hq97⟩ := hn 5 97 (by kernel_rfl) rfl
      obtain rfl := hq97.1 (by decide)
      clear ho hn
      refine ⟨wanted_of 5 97 rfl rfl n97, ?_⟩
      have x := (HB_wb9.out.up hb8) 3 _ _ _ rfl
      have x0 : w8.cell? ⟨g4, 0, none⟩ = some (.int .i64 1) := x.k.cell 0
      have x1 : w8.cell? ⟨g4, 1, none⟩ = some (.slice r4.A0 1 r4.c0) := x.k.cell 1
      have x2 : w8.cell? ⟨g4, 2, none⟩ = some (.slice r4.A1 3 r4.c1) := x.k.cell 2
      clear x
      go_simp
    rcases i with _ | i
    · refine gr_value rfl (by decide) (.int .i64 0) rfl ?_
      intro a8 w8 hb8 ho hn
      have o6 : a8.tmps[6]? = some _ := (ho 6 (by kernel_rfl)).trans rfl
      obtain ⟨v97, n97, hq97⟩ := hn 5 97 (by kernel_rfl) rfl
      obtain rfl := hq97.1 (by decide)
      clear ho hn
      refine ⟨wanted_of 5 97 rfl rfl n97, ?_⟩
      go_simp
    rcases i with _ | i
    · refine gr_make HU rfl (by decide) ?_
      intro a8 w8 hb8 ho hn
      obtain ⟨v97, n97, hq97⟩ := hn 5 97 (by kernel_rfl) rfl
      obtain rfl := hq97.1 (by decide)
      clear ho hn
      refine ⟨wanted_of 5 97 rfl rfl n97, ?_⟩
      exact ⟨.slice (some ⟨w8.heap.size, 0, none⟩) 3 3, w8.alloc (.cells #[.int .i64 2, .int .i64 3, .int .i64 1] 2), (by go_simp), albel _ _, w8.heap.size, rfl, hb8.size, Blk.new w8 _ _⟩
    rcases i with _ | i
    · refine gr_call HU 18 rfl (by decide) ?_
      intro a8 w8 hb8 ho hn
      obtain ⟨v100, n100, hq100⟩ := hn 8 100 (by kernel_rfl) rfl
      have hv100 : slo wb9 3 #[.int .i64 2, .int .i64 3, .int .i64 1] v100 w8 := hq100.2 (by decide)
      obtain ⟨v97, n97, hq97⟩ := hn 5 97 (by kernel_rfl) rfl
      obtain rfl := hq97.1 (by decide)
      clear ho hn
      refine ⟨wanted_of 5 97 rfl rfl n97, ?_⟩
      obtain ⟨g, rfl, _, hg⟩ := hv100
      refine ⟨#[.slice (some ⟨g, 0, none⟩) 3 3], (by go_simp), (vec_lit [2, 3, 1] (by decide) _ 3 3 w8 rfl (reads_blk hg rfl)).mono ?_⟩
      rintro e wz ⟨p_, rfl, o, b⟩
      exact ⟨_, rfl, b, p_, rfl, o.mono hb8.size⟩
    rcases i with _ | i
    · refine gr_call HU 39 rfl (by decide) ?_
      intro a8 w8 hb8 ho hn
      obtain ⟨v98, n98, hq98⟩ := hn 6 98 (by kernel_rfl) rfl
      obtain rfl := hq98.1 (by decide)
      obtain ⟨v99, n99, hq99⟩ := hn 7 99 (by kernel_rfl) rfl
      obtain rfl := hq99.1 (by decide)
      obtain ⟨v101, n101, hq101⟩ := hn 9 101 (by kernel_rfl) rfl
      have hv101 : xo wb9 ⟨1, [3], [2, 3, 1]⟩ v101 w8 := hq101.2 (by decide)
      obtain ⟨v97, n97, hq97⟩ := hn 5 97 (by kernel_rfl) rfl
      obtain rfl := hq97.1 (by decide)
      clear ho hn
      refine ⟨wanted_of 5 97 rfl rfl n97, ?_⟩
      obtain ⟨q_, rfl, o_⟩ := hv101
      refine ⟨#[.agg #[.int .i64 1, .slice r4.A0 1 r4.c0, .slice r4.A1 3 r4.c1], .int .i64 0, .agg (arC ⟨1, [3], [2, 3, 1]⟩ q_)], (by go_simp), (l14is_yes ⟨1, [3], [2, 3, 1]⟩ r4 q_ w8 ((HB_wb9.out.up hb8) 3 _ _ _ rfl).e (o_.el (by decide) (by decide) (by decide))).mono ?_⟩
      rintro e wz ⟨rfl, b9⟩
      exact ⟨_, rfl, b9, rfl⟩
    rcases i with _ | i
    · refine gr_value rfl (by decide) (.bool true) rfl ?_
      intro a8 w8 hb8 ho hn
      obtain ⟨v97, n97, hq97⟩ := hn 5 97 (by kernel_rfl) rfl
      obtain rfl := hq97.1 (by decide)
      obtain ⟨v102, n102, hq102⟩ := hn 10 102 (by kernel_rfl) rfl
      have hv102 : xv (.bool true) v102 w8 := hq102.2 (by decide)
      clear ho hn
      refine ⟨wanted_free rfl, ?_⟩
      obtain rfl : v102 = .bool true := hv102
      go_simp
    rcases i with _ | i
    · refine gr_value rfl (by decide) (.bool true) rfl ?_
      intro a8 w8 hb8 ho hn
      obtain ⟨v103, n103, hq103⟩ := hn 11 103 (by kernel_rfl) rfl
      obtain rfl := hq103.1 (by decide)
      clear ho hn
      refine ⟨wanted_free rfl, ?_⟩
      go_simp
    rcases i with _ | i
    · refine gr_value rfl (by decide) (.agg #[.int .i64 1, .slice r5.A0 2 r5.c0, .slice r5.A1 4 r5.c1]) rfl ?_
      intro a8 w8 hb8 ho hn
      have o7 : a8.tmps[7]? = some _ := (ho 7 (by kernel_rfl)).trans rfl
      obtain ⟨v104, n104, hq104⟩ := hn 12 104 (by kernel_rfl) rfl
      obtain rfl := hq104.1 (by decide)
      clear ho hn
      refine ⟨wanted_of 12 104 rfl rfl n104, ?_⟩
      have x := (HB_wb9.out.up hb8) 4 _ _ _ rfl
      have x0 : w8.cell? ⟨g5, 0, none⟩ = some (.int .i64 1) := x.k.cell 0
      have x1 : w8.cell? ⟨g5, 1, none⟩ = some (.slice r5.A0 2 r5.c0) := x.k.cell 1
      have x2 : w8.cell? ⟨g5, 2, none⟩ = some (.slice r5.A1 4 r5.c1) := x.k.cell 2
      clear x
      go_simp
    rcases i with _ | i
    · refine gr_value rfl (by decide) (.int .i64 0) rfl ?_
      intro a8 w8 hb8 ho hn
      have o8 : a8.tmps[8]? = some _ := (ho 8 (by kernel_rfl)).trans rfl
      obtain ⟨v104, n104, hq104⟩ := hn 12 104 (by kernel_rfl) rfl
      obtain rfl := hq104.1 (by decide)
      clear ho hn
      refine ⟨wanted_of 12 104 rfl rfl n104, ?_⟩
      go_simp
    rcases i with _ | i
    · refine gr_make HU rfl (by decide) ?_
      intro a8 w8 hb8 ho hn
      obtain ⟨v104, n104, hq104⟩ := hn 12 104 (by kernel_rfl) rfl
      obtain rfl := hq104.1 (by decide)
      clear ho hn
      refine ⟨wanted_of 12 104 rfl rfl n104, ?_⟩
      exact ⟨.slice (some ⟨w8.heap.size, 0, none⟩) 4 4, w8.alloc (.cells #[.int .i64 1, .int .i64 2, .int .i64 4, .int .i64 3] 2), (by go_simp), albel _ _, w8.heap.size, rfl, hb8.size, Blk.new w8 _ _⟩
    rcases i with _ | i
    · refine gr_call HU 37 rfl (by decide) ?_
      intro a8 w8 hb8 ho hn
      obtain ⟨v107, n107, hq107⟩ := hn 15 107 (by kernel_rfl) rfl
      have hv107 : slo wb9 4 #[.int .i64 1, .int .i64 2, .int .i64 4, .int .i64 3] v107 w8 := hq107.2 (by decide)
      obtain ⟨v104, n104, hq104⟩ := hn 12 104 (by kernel_rfl) rfl
      obtain rfl := hq104.1 (by decide)
      clear ho hn
      refine ⟨wanted_of 12 104 rfl rfl n104, ?_⟩
      obtain ⟨g, rfl, hB, hg⟩ := hv107
      refine ⟨#[.int .i64 2, .slice (some ⟨g, 0, none⟩) 4 4], (by go_simp), (mat14 [1, 2, 4, 3] 2 (by decide) (by decide) (by decide) g 4 w8 rfl _ hB hb8.size hg).mono ?_⟩
      rintro e wz ⟨p_, rfl, o, b⟩
      exact ⟨_, rfl, b, p_, rfl, o⟩
    rcases i with _ | i
    · refine gr_call HU 39 rfl (by decide) ?_
      intro a8 w8 hb8 ho hn
      obtain ⟨v105, n105, hq105⟩ := hn 13 105 (by kernel_rfl) rfl
      obtain rfl := hq105.1 (by decide)
      obtain ⟨v106, n106, hq106⟩ := hn 14 106 (by kernel_rfl) rfl
      obtain rfl := hq106.1 (by decide)
      obtain ⟨v108, n108, hq108⟩ := hn 16 108 (by kernel_rfl) rfl
      have hv108 : xo wb9 ⟨1, [2, 2], [1, 2, 4, 3]⟩ v108 w8 := hq108.2 (by decide)
      obtain ⟨v104, n104, hq104⟩ := hn 12 104 (by kernel_rfl) rfl
      obtain rfl := hq104.1 (by decide)
      clear ho hn
      refine ⟨wanted_of 12 104 rfl rfl n104, ?_⟩
      obtain ⟨q_, rfl, o_⟩ := hv108
      refine ⟨#[.agg #[.int .i64 1, .slice r5.A0 2 r5.c0, .slice r5.A1 4 r5.c1], .int .i64 0, .agg (arC ⟨1, [2, 2], [1, 2, 4, 3]⟩ q_)], (by go_simp), (l14is_yes ⟨1, [2, 2], [1, 2, 4, 3]⟩ r5 q_ w8 ((HB_wb9.out.up hb8) 4 _ _ _ rfl).e (o_.el (by decide) (by decide) (by decide))).mono ?_⟩
      rintro e wz ⟨rfl, b9⟩
      exact ⟨_, rfl, b9, rfl⟩
    rcases i with _ | i
    · refine gr_value rfl (by decide) (.bool true) rfl ?_
      intro a8 w8 hb8 ho hn
      obtain ⟨v104, n104, hq104⟩ := hn 12 104 (by kernel_rfl) rfl
      obtain rfl := hq104.1 (by decide)
      obtain ⟨v109, n109, hq109⟩ := hn 17 109 (by kernel_rfl) rfl
      have hv109 : xv (.bool true) v109 w8 := hq109.2 (by decide)
      clear ho hn
      refine ⟨wanted_free rfl, ?_⟩
      obtain rfl : v109 = .bool true := hv109
      go_simp
    rcases i with _ | i
    · refine gr_value rfl (by decide) (.bool true) rfl ?_
      intro a8 w8 hb8 ho hn
      obtain ⟨v110, n110, hq110⟩ := hn 18 110 (by kernel_rfl) rfl
      obtain rfl := hq110.1 (by decide)
      clear ho hn
      refine ⟨wanted_free rfl, ?_⟩
      go_simp
    rcases i with _ | i
    · refine gr_value rfl (by decide) (.int .i64 4) rfl ?_
      intro a8 w8 hb8 ho hn
      have o10 : a8.tmps[10]? = some _ := (ho 10 (by kernel_rfl)).trans rfl
      obtain ⟨v111, n111, hq111⟩ := hn 19 111 (by kernel_rfl) rfl
      obtain rfl := hq111.1 (by decide)
      clear ho hn
      refine ⟨wanted_of 19 111 rfl rfl n111, ?_⟩
      go_simp
    rcases i with _ | i
    · refine gr_value rfl (by decide) (.bool true) rfl ?_
      intro a8 w8 hb8 ho hn
      obtain ⟨v112, n112, hq112⟩ := hn 20 112 (by kernel_rfl) rfl
      obtain rfl := hq112.1 (by decide)
      obtain ⟨v111, n111, hq111⟩ := hn 19 111 (by kernel_rfl) rfl
      obtain rfl := hq111.1 (by decide)
      clear ho hn
      refine ⟨wanted_of 19 111 rfl rfl n111, ?_⟩
      go_simp
    rcases i with _ | i
    · refine gr_value rfl (by decide) (.bool true) rfl ?_
      intro a8 w8 hb8 ho hn
      obtain ⟨v111, n111, hq111⟩ := hn 19 111 (by kernel_rfl) rfl
      obtain rfl := hq111.1 (by decide)
      obtain ⟨v113, n113, hq113⟩ := hn 21 113 (by kernel_rfl) rfl
      obtain rfl := hq113.1 (by decide)
      clear ho hn
      refine ⟨wanted_free rfl, ?_⟩
      go_simp
    rcases i with _ | i
    · refine gr_value rfl (by decide) (.bool true) rfl ?_
      intro a8 w8 hb8 ho hn
      obtain ⟨v114, n114, hq114⟩ := hn 22 114 (by kernel_rfl) rfl
      obtain rfl := hq114.1 (by decide)
      clear ho hn
      refine ⟨wanted_free rfl, ?_⟩
      go_simp
    rcases i with _ | i
    · refine gr_value rfl (by decide) (.int .i64 3) rfl ?_
      intro a8 w8 hb8 ho hn
      have o12 : a8.tmps[12]? = some _ := (ho 12 (by kernel_rfl)).trans rfl
      obtain ⟨v115, n115, hq115⟩ := hn 23 115 (by kernel_rfl) rfl
      obtain rfl := hq115.1 (by decide)
      clear ho hn
      refine ⟨wanted_of 23 115 rfl rfl n115, ?_⟩
      go_simp
    rcases i with _ | i
    · refine gr_value rfl (by decide) (.bool true) rfl ?_
      intro a8 w8 hb8 ho hn
      obtain ⟨v116, n116, hq116⟩ := hn 24 116 (by kernel_rfl) rfl
      obtain rfl := hq116.1 (by decide)
      obtain ⟨v115, n115, hq115⟩ := hn 23 115 (by kernel_rfl) rfl
      obtain rfl := hq115.1 (by decide)
      clear ho hn
      refine ⟨wanted_of 23 115 rfl rfl n115, ?_⟩
      go_simp
    rcases i with _ | i
    · refine gr_value rfl (by decide) (.bool true) rfl ?_
      intro a8 w8 hb8 ho hn
      obtain ⟨v115, n115, hq115⟩ := hn 23 115 (by kernel_rfl) rfl
      obtain rfl := hq115.1 (by decide)
      obtain ⟨v117, n117, hq117⟩ := hn 25 117 (by kernel_rfl) rfl
      obtain rfl := hq117.1 (by decide)
      clear ho hn
      refine ⟨wanted_free rfl, ?_⟩
      go_simp
    rcases i with _ | i
    · refine gr_value rfl (by decide) (.bool true) rfl ?_
      intro a8 w8 hb8 ho hn
      obtain ⟨v118, n118, hq118⟩ := hn 26 118 (by kernel_rfl) rfl
      obtain rfl := hq118.1 (by decide)
      clear ho hn
      refine ⟨wanted_free rfl, ?_⟩
      go_simp
    rcases i with _ | i
    · refine gr_value rfl (by decide) (.int .i64 3) rfl ?_
      intro a8 w8 hb8 ho hn
      have o14 : a8.tmps[14]? = some _ := (ho 14 (by kernel_rfl)).trans rfl
      obtain ⟨v119, n119, hq119⟩ := hn 27 119 (by kernel_rfl) rfl
      obtain rfl := hq119.1 (by decide)
      clear ho hn
      refine ⟨wanted_of 27 119 rfl rfl n119, ?_⟩
      go_simp
    rcases i with _ | i
    · refine gr_value rfl (by decide) (.bool true) rfl ?_
      intro a8 w8 hb8 ho hn
      obtain ⟨v120, n120, hq120⟩ := hn 28 120 (by kernel_rfl) rfl
      obtain rfl := hq120.1 (by decide)
      obtain ⟨v119, n119, hq119⟩ := hn 27 119 (by kernel_rfl) rfl
      obtain rfl := hq119.1 (by decide)
      clear ho hn
      refine ⟨wanted_of 27 119 rfl rfl n119, ?_⟩
      go_simp
    rcases i with _ | i
    · refine gr_value rfl (by decide) (.bool true) rfl ?_
      intro a8 w8 hb8 ho hn
      obtain ⟨v119, n119, hq119⟩ := hn 27 119 (by kernel_rfl) rfl
      obtain rfl := hq119.1 (by decide)
      obtain ⟨v121, n121, hq121⟩ := hn 29 121 (by kernel_rfl) rfl
      obtain rfl := hq121.1 (by decide)
      clear ho hn
      refine ⟨wanted_free rfl, ?_⟩
      go_simp
    rcases i with _ | i
    · refine gr_value rfl (by decide) (.bool true) rfl ?_
      intro a8 w8 hb8 ho hn
      obtain ⟨v122, n122, hq122⟩ := hn 30 122 (by kernel_rfl) rfl
      obtain rfl := hq122.1 (by decide)
      clear ho hn
      refine ⟨wanted_free rfl, ?_⟩
      go_simp
    rcases i with _ | i
    · refine gr_value rfl (by decide) (.int .i64 5) rfl ?_
      intro a8 w8 hb8 ho hn
      have o16 : a8.tmps[16]? = some _ := (ho 16 (by kernel_rfl)).trans rfl
      obtain ⟨v123, n123, hq123⟩ := hn 31 123 (by kernel_rfl) rfl
      obtain rfl := hq123.1 (by decide)
      clear ho hn
      refine ⟨wanted_of 31 123 rfl rfl n123, ?_⟩
      go_simp
    rcases i with _ | i
    · refine gr_value rfl (by decide) (.bool true) rfl ?_
      intro a8 w8 hb8 ho hn
      obtain ⟨v124, n124, hq124⟩ := hn 32 124 (by kernel_rfl) rfl
      obtain rfl := hq124.1 (by decide)
      obtain ⟨v123, n123, hq123⟩ := hn 31 123 (by kernel_rfl) rfl
      obtain rfl := hq123.1 (by decide)
      clear ho hn
      refine ⟨wanted_of 31 123 rfl rfl n123, ?_⟩
      go_simp
    rcases i with _ | i
    · refine gr_value rfl (by decide) (.bool true) rfl ?_
      intro a8 w8 hb8 ho hn
      obtain ⟨v123, n123, hq123⟩ := hn 31 123 (by kernel_rfl) rfl
      obtain rfl := hq123.1 (by decide)
      obtain ⟨v125, n125, hq125⟩ := hn 33 125 (by kernel_rfl) rfl
      obtain rfl := hq125.1 (by decide)
      clear ho hn
      refine ⟨wanted_free rfl, ?_⟩
      go_simp
    rcases i with _ | i
    · refine gr_value rfl (by decide) (.bool true) rfl ?_
      intro a8 w8 hb8 ho hn
      obtain ⟨v126, n126, hq126⟩ := hn 34 126 (by kernel_rfl) rfl
      obtain rfl := hq126.1 (by decide)
      clear ho hn
      refine ⟨wanted_free rfl, ?_⟩
      go_simp
    omega
  intro dn fv wb10 hb_wb10 hR5 hall
  have h17 : fv 17 = _ := (hR5 35 17 rfl).1 (by decide)
  simp only [putAll, List.foldl_cons, List.foldl_nil, Act.put, List.setIfInBounds_toArray, List.set_cons_succ, List.set_cons_zero, h17, List.getD_cons_zero, List.getD_cons_succ]
  clear hR5 hall
  have HB_wb10 := Lib.hid (HB_wb9.out.up hb_wb10)
  have BW_wb10 := Lib.hid (bon BW_wb9.out hb_wb10)
  generalize fv 92 = u92
  generalize fv 93 = u93
  generalize fv 94 = u94
  generalize fv 95 = u95
  generalize fv 96 = u96
  generalize fv 97 = u97
  generalize fv 98 = u98
  generalize fv 99 = u99
  generalize fv 100 = u100
  generalize fv 101 = u101
  generalize fv 102 = u102
  generalize fv 103 = u103
  generalize fv 104 = u104
  generalize fv 105 = u105
  generalize fv 106 = u106
  generalize fv 107 = u107
  generalize fv 108 = u108
  generalize fv 109 = u109
  generalize fv 110 = u110
  generalize fv 111 = u111
  generalize fv 112 = u112
  generalize fv 113 = u113
  generalize fv 114 = u114
  generalize fv 115 = u115
  generalize fv 116 = u116
  generalize fv 117 = u117
  generalize fv 118 = u118
  generalize fv 119 = u119
  generalize fv 120 = u120
  generalize fv 121 = u121
  generalize fv 122 = u122
  generalize fv 123 = u123
  generalize fv 124 = u124
  generalize fv 125 = u125
  generalize fv 126 = u126
  clear hb_wb10 HU h17 HB_wb9 BW_wb9
  go_upto_region 11 with (fail)
  have HUX : BxU wb10 (lookU [(0, slo wb10 2 #[.int .i64 1, .int .i64 1]), (1, xo wb10 ⟨1, [2], [1, 1]⟩), (3, xto wb10 ⟨0, [], []⟩ 5), (4, xto wb10 ⟨0, [], []⟩ 5), (5, xo wb10 ⟨0, [], []⟩)]) := lookU_two (by
    intro x hx
    simp only [List.mem_cons, List.not_mem_nil, or_false] at hx
    rcases hx with rfl | rfl | rfl | rfl | rfl <;> first | exact xo_stk _ _ | exact slo_stk _ _ _ | exact sio_stk _ _ _ | exact xto_stk _ _ _)
  refine wp_region_doneT_on (BxS wb10 7 8 18 ⟨0, [], []⟩) (bxR 7 [0, 1, 3, 4, 5] (lookU [(0, slo wb10 2 #[.int .i64 1, .int .i64 1]), (1, xo wb10 ⟨1, [2], [1, 1]⟩), (3, xto wb10 ⟨0, [], []⟩ 5), (4, xto wb10 ⟨0, [], []⟩ 5), (5, xo wb10 ⟨0, [], []⟩)]) [undef, undef, .agg #[.int .i64 1, .slice r2.A0 2 r2.c0, .slice r2.A1 4 r2.c1], undef, undef, undef, .int .i64 5, undef, undef, .int .i64 5]) (by kernel_rfl) 270 rfl (by kernel_rfl) ⟨(Below.refl _ _).drew, fun e => (by cases e), fun e => (by cases e)⟩ ?_ ?_
  · intro i hi
    have hi2 : i < 10 := hi
    clear hi
    rcases i with _ | i
    · refine bx_make HUX rfl (by decide) (by decide) (by decide) 128 rfl (by decide) ?_
      intro a8 w8 hb8 ho hn
      clear ho hn
      refine ⟨wanted_free rfl, ?_⟩
      exact ⟨.slice (some ⟨w8.heap.size, 0, none⟩) 2 2, w8.alloc (.cells #[.int .i64 1, .int .i64 1] 2), (by go_simp), albel _ _, w8.heap.size, rfl, hb8.size, Blk.new w8 _ _⟩
    rcases i with _ | i
    · refine bx_call HUX 18 rfl (by decide) (by decide) (by decide) 129 rfl (by decide) ?_
      intro a8 w8 hb8 ho hn
      obtain ⟨v128, n128, hq128⟩ := hn 0 128 (by kernel_rfl) rfl
      have hv128 : slo wb10 2 #[.int .i64 1, .int .i64 1] v128 w8 := hq128.2 (by decide)
      clear ho hn
      refine ⟨wanted_free rfl, ?_⟩
      obtain ⟨g, rfl, _, hg⟩ := hv128
      refine ⟨#[.slice (some ⟨g, 0, none⟩) 2 2], (by go_simp), (vec_lit [1, 1] (by decide) _ 2 2 w8 rfl (reads_blk hg rfl)).mono ?_⟩
      rintro e wz ⟨p_, rfl, o, b⟩
      exact ⟨_, rfl, b, p_, rfl, o.mono hb8.size⟩
    rcases i with _ | i
    · refine bx_value HUX rfl (by decide) (by decide) (by decide) 130 rfl (by decide) (.agg #[.int .i64 1, .slice r2.A0 2 r2.c0, .slice r2.A1 4 r2.c1]) rfl ?_
      intro a8 w8 hb8 ho hn
      have o2 : a8.tmps[2]? = some _ := (ho 2 (by kernel_rfl)).trans rfl
      clear ho hn
      refine ⟨wanted_free rfl, ?_⟩
      have x := (HB_wb10.out.up hb8) 1 _ _ _ rfl
      have x0 : w8.cell? ⟨g2, 0, none⟩ = some (.int .i64 1) := x.k.cell 0
      have x1 : w8.cell? ⟨g2, 1, none⟩ = some (.slice r2.A0 2 r2.c0) := x.k.cell 1
      have x2 : w8.cell? ⟨g2, 2, none⟩ = some (.slice r2.A1 4 r2.c1) := x.k.cell 2
      clear x
      go_simp
    rcases i with _ | i
    · refine bx_call HUX 40 rfl (by decide) (by decide) (by decide) 131 rfl (by decide) ?_
      intro a8 w8 hb8 ho hn
      obtain ⟨v129, n129, hq129⟩ := hn 1 129 (by kernel_rfl) rfl
      have hv129 : xo wb10 ⟨1, [2], [1, 1]⟩ v129 w8 := hq129.2 (by decide)
      obtain ⟨v130, n130, hq130⟩ := hn 2 130 (by kernel_rfl) rfl
      obtain rfl := hq130.1 (by decide) (by decide)
      clear ho hn
      refine ⟨wanted_free rfl, ?_⟩
      obtain ⟨q0_, rfl, o0_⟩ := hv129
      refine ⟨#[.agg (arC ⟨1, [2], [1, 1]⟩ q0_), .agg #[.int .i64 1, .slice r2.A0 2 r2.c0, .slice r2.A1 4 r2.c1]], (by go_simp), (c8 q0_ r2 w8 (o0_.el (by decide) (by decide) (by decide)) (Cap.of o0_) ((HB_wb10.out.up hb8) 1 _ _ _ rfl).e ((HB_wb10.out.up hb8) 1 _ _ _ rfl).c).mono ?_⟩
      rintro e wz ⟨r, rfl, o9, b9⟩
      exact ⟨_, rfl, b9, r, rfl, o9.mono hb8.size⟩
    rcases i with _ | i
    · refine bx_make HUX rfl (by decide) (by decide) (by decide) 127 rfl (by decide) ?_
      intro a8 w8 hb8 ho hn
      obtain ⟨v131, n131, hq131⟩ := hn 3 131 (by kernel_rfl) rfl
      have hv131 : xto wb10 ⟨0, [], []⟩ 5 v131 w8 := hq131.2 (by decide)
      clear ho hn
      refine ⟨wanted_free rfl, ?_⟩
      exact ⟨v131, w8, (by go_simp), Below.refl _ _, hv131⟩
    rcases i with _ | i
    · refine bx_make HUX rfl (by decide) (by decide) (by decide) 132 rfl (by decide) ?_
      intro a8 w8 hb8 ho hn
      obtain ⟨v127, n127, hq127⟩ := hn 4 127 (by kernel_rfl) rfl
      have hv127 : xto wb10 ⟨0, [], []⟩ 5 v127 w8 := hq127.2 (by decide)
      clear ho hn
      refine ⟨wanted_free rfl, ?_⟩
      obtain ⟨p_, rfl, o⟩ := hv127
      exact ⟨.agg (arC ⟨0, [], []⟩ p_), w8, (by go_simp), Below.refl _ _, p_, rfl, o⟩
    rcases i with _ | i
    · refine bx_value HUX rfl (by decide) (by decide) (by decide) 133 rfl (by decide) (.int .i64 5) rfl ?_
      intro a8 w8 hb8 ho hn
      obtain ⟨v127, n127, hq127⟩ := hn 4 127 (by kernel_rfl) rfl
      have hv127 : xto wb10 ⟨0, [], []⟩ 5 v127 w8 := hq127.2 (by decide)
      clear ho hn
      refine ⟨wanted_free rfl, ?_⟩
      obtain ⟨p_, rfl, o⟩ := hv127
      go_simp
    rcases i with _ | i
    · refine bx_alloc HUX rfl (by decide) (by decide) rfl (.int .i64 0) (.slice none 0 0) (.slice none 0 0) ?_
      intro a8 w8 ho
      have o269 : a8.tmps[269]? = some _ := (ho 269 (by kernel_rfl)).trans rfl
      have hsz : 269 < a8.tmps.size := (Array.getElem?_eq_some_iff.1 o269).1
      refine ⟨by omega, wanted_free rfl, ?_⟩
      go_simp
    rcases i with _ | i
    · refine bx_store HUX rfl rfl (by decide) (by decide) rfl (by kernel_rfl) rfl ?_
      intro a8 w8 g u0 u1 u2 hg n18 hn
      obtain ⟨v132, n132, hq132⟩ := hn 5 132 (by kernel_rfl) rfl
      have hv132 : xo wb10 ⟨0, [], []⟩ v132 w8 := hq132.2 (by decide)
      clear hn
      refine ⟨wanted_free rfl, ?_⟩
      obtain ⟨r, rfl, o⟩ := hv132
      have x0 := hg.cell 0
      have x1 := hg.cell 1
      have x2 := hg.cell 2
      have f0 := hg.frozen 0
      have f1 := hg.frozen 1
      have f2 := hg.frozen 2
      refine ⟨r, o, ?_⟩
      rw [show arC ⟨0, [], []⟩ r = #[.int .i64 0, .slice r.A0 0 r.c0, .slice r.A1 0 r.c1] from rfl] at n132
      clear hg o
      go_simp
    rcases i with _ | i
    · refine bx_value HUX rfl (by decide) (by decide) (by decide) 19 rfl (by decide) (.int .i64 5) rfl ?_
      intro a8 w8 hb8 ho hn
      obtain ⟨v133, n133, hq133⟩ := hn 6 133 (by kernel_rfl) rfl
      obtain rfl := hq133.1 (by decide) (by decide)
      clear ho hn
      refine ⟨wanted_free rfl, ?_⟩
      go_simp
    omega
  intro dn fv wb11 hS5 hR5 hall
  obtain ⟨g11, e8, hg8, _, hfin⟩ := hS5.h (hall 7 (by decide))
  obtain ⟨r11, hb8, ho8⟩ := hfin (hall 8 (by decide))
  have hbw := hS5.b
  have h48 : fv 19 = .int .i64 5 := (hR5 9 19 rfl).1 (by decide) (by decide)
  clear hS5 hR5 hall hfin
  simp only [putAll, List.foldl_cons, List.foldl_nil, Act.put, List.setIfInBounds_toArray, List.set_cons_succ, List.set_cons_zero, List.getElem?_toArray, List.getElem?_cons_succ, List.getElem?_cons_zero, Option.some.injEq] at e8 ⊢
  rw [e8, h48]
  have HB_wb11 : Hid (Bxs wb11 [(g1, ⟨1, [3], [1, 2, 3]⟩, r1), (g2, ⟨1, [2, 2], [1, 2, 3, 4]⟩, r2), (g3, ⟨1, [3], [3, 1, 2]⟩, r3), (g4, ⟨1, [3], [2, 3, 1]⟩, r4), (g5, ⟨1, [2, 2], [1, 2, 4, 3]⟩, r5), (g6, ⟨0, [], []⟩, r6), (g7, ⟨0, [], []⟩, r7), (g8, ⟨0, [], []⟩, r8), (g9, ⟨0, [], []⟩, r9), (g11, ⟨0, [], []⟩, r11)]) := Lib.hid (Bxs.add (HB_wb10.out.up hbw) ⟨hb8, ho8.el (by decide) (by decide) (by decide), Cap.of ho8⟩)
  have BW_wb11 := Lib.hid (bon BW_wb10.out hbw)
  generalize fv 128 = u128
  generalize fv 129 = u129
  generalize fv 130 = u130
  generalize fv 131 = u131
  generalize fv 127 = u127
  generalize fv 132 = u132
  generalize fv 133 = u133
  clear hb8 ho8 hbw e8 h48 hg8 HUX HB_wb10 BW_wb10
  go_upto_region 12 with (fail)
  have HUX : BxU wb11 (lookU [(0, slo wb11 2 #[.int .i64 0, .int .i64 1]), (1, xo wb11 ⟨1, [2], [0, 1]⟩), (3, xto wb11 ⟨0, [], []⟩ 5), (4, xto wb11 ⟨0, [], []⟩ 5), (5, xo wb11 ⟨0, [], []⟩)]) := lookU_two (by
    intro x hx
    simp only [List.mem_cons, List.not_mem_nil, or_false] at hx
    rcases hx with rfl | rfl | rfl | rfl | rfl <;> first | exact xo_stk _ _ | exact slo_stk _ _ _ | exact sio_stk _ _ _ | exact xto_stk _ _ _)
  refine wp_region_doneT_on (BxS wb11 7 8 20 ⟨0, [], []⟩) (bxR 7 [0, 1, 3, 4, 5] (lookU [(0, slo wb11 2 #[.int .i64 0, .int .i64 1]), (1, xo wb11 ⟨1, [2], [0, 1]⟩), (3, xto wb11 ⟨0, [], []⟩ 5), (4, xto wb11 ⟨0, [], []⟩ 5), (5, xo wb11 ⟨0, [], []⟩)]) [undef, undef, .agg #[.int .i64 1, .slice r2.A0 2 r2.c0, .slice r2.A1 4 r2.c1], undef, undef, undef, .int .i64 5, undef, undef, .int .i64 5]) (by kernel_rfl) 270 rfl (by kernel_rfl) ⟨(Below.refl _ _).drew, fun e => (by cases e), fun e => (by cases e)⟩ ?_ ?_
  · intro i hi
    have hi2 : i < 10 := hi
    clear hi
    rcases i with _ | i
    · refine bx_make HUX rfl (by decide) (by decide) (by decide) 135 rfl (by decide) ?_
      intro a8 w8 hb8 ho hn
      clear ho hn
      refine ⟨wanted_free rfl, ?_⟩
      exact ⟨.slice (some ⟨w8.heap.size, 0, none⟩) 2 2, w8.alloc (.cells #[.int .i64 0, .int .i64 1] 2), (by go_simp), albel _ _, w8.heap.size, rfl, hb8.size, Blk.new w8 _ _⟩
    rcases i with _ | i
    · refine bx_call HUX 18 rfl (by decide) (by decide) (by decide) 136 rfl (by decide) ?_
      intro a8 w8 hb8 ho hn
      obtain ⟨v135, n135, hq135⟩ := hn 0 135 (by kernel_rfl) rfl
      have hv135 : slo wb11 2 #[.int .i64 0, .int .i64 1] v135 w8 := hq135.2 (by decide)
      clear ho hn
      refine ⟨wanted_free rfl, ?_⟩
      obtain ⟨g, rfl, _, hg⟩ := hv135
      refine ⟨#[.slice (some ⟨g, 0, none⟩) 2 2], (by go_simp), (vec_lit [0, 1] (by decide) _ 2 2 w8 rfl (reads_blk hg rfl)).mono ?_⟩
      rintro e wz ⟨p_, rfl, o, b⟩
      exact ⟨_, rfl, b, p_, rfl, o.mono hb8.size⟩
    rcases i with _ | i
    · refine bx_value HUX rfl (by decide) (by decide) (by decide) 137 rfl (by decide) (.agg #[.int .i64 1, .slice r2.A0 2 r2.c0, .slice r2.A1 4 r2.c1]) rfl ?_
      intro a8 w8 hb8 ho hn
      have o2 : a8.tmps[2]? = some _ := (ho 2 (by kernel_rfl)).trans rfl
      clear ho hn
      refine ⟨wanted_free rfl, ?_⟩
      have x := (HB_wb11.out.up hb8) 1 _ _ _ rfl
      have x0 : w8.cell? ⟨g2, 0, none⟩ = some (.int .i64 1) := x.k.cell 0
      have x1 : w8.cell? ⟨g2, 1, none⟩ = some (.slice r2.A0 2 r2.c0) := x.k.cell 1
      have x2 : w8.cell? ⟨g2, 2, none⟩ = some (.slice r2.A1 4 r2.c1) := x.k.cell 2
      clear x
      go_simp
    rcases i with _ | i
    · refine bx_call HUX 40 rfl (by decide) (by decide) (by decide) 138 rfl (by decide) ?_
      intro a8 w8 hb8 ho hn
      obtain ⟨v136, n136, hq136⟩ := hn 1 136 (by kernel_rfl) rfl
      have hv136 : xo wb11 ⟨1, [2], [0, 1]⟩ v136 w8 := hq136.2 (by decide)
      obtain ⟨v137, n137, hq137⟩ := hn 2 137 (by kernel_rfl) rfl
      obtain rfl := hq137.1 (by decide) (by decide)
      clear ho hn
      refine ⟨wanted_free rfl, ?_⟩
      obtain ⟨q0_, rfl, o0_⟩ := hv136
      refine ⟨#[.agg (arC ⟨1, [2], [0, 1]⟩ q0_), .agg #[.int .i64 1, .slice r2.A0 2 r2.c0, .slice r2.A1 4 r2.c1]], (by go_simp), (c9 q0_ r2 w8 (o0_.el (by decide) (by decide) (by decide)) (Cap.of o0_) ((HB_wb11.out.up hb8) 1 _ _ _ rfl).e ((HB_wb11.out.up hb8) 1 _ _ _ rfl).c).mono ?_⟩
      rintro e wz ⟨r, rfl, o9, b9⟩
      exact ⟨_, rfl, b9, r, rfl, o9.mono hb8.size⟩
    rcases i with _ | i
    · refine bx_make HUX rfl (by decide) (by decide) (by decide) 134 rfl (by decide) ?_
      intro a8 w8 hb8 ho hn
      obtain ⟨v138, n138, hq138⟩ := hn 3 138 (by kernel_rfl) rfl
      have hv138 : xto wb11 ⟨0, [], []⟩ 5 v138 w8 := hq138.2 (by decide)
      clear ho hn
      refine ⟨wanted_free rfl, ?_⟩
      exact ⟨v138, w8, (by go_simp), Below.refl _ _, hv138⟩
    rcases i with _ | i
    · refine bx_make HUX rfl (by decide) (by decide) (by decide) 139 rfl (by decide) ?_
      intro a8 w8 hb8 ho hn
      obtain ⟨v134, n134, hq134⟩ := hn 4 134 (by kernel_rfl) rfl
      have hv134 : xto wb11 ⟨0, [], []⟩ 5 v134 w8 := hq134.2 (by decide)
      clear ho hn
      refine ⟨wanted_free rfl, ?_⟩
      obtain ⟨p_, rfl, o⟩ := hv134
      exact ⟨.agg (arC ⟨0, [], []⟩ p_), w8, (by go_simp), Below.refl _ _, p_, rfl, o⟩
    rcases i with _ | i
    · refine bx_value HUX rfl (by decide) (by decide) (by decide) 140 rfl (by decide) (.int .i64 5) rfl ?_
      intro a8 w8 hb8 ho hn
      obtain ⟨v134, n134, hq134⟩ := hn 4 134 (by kernel_rfl) rfl
      have hv134 : xto wb11 ⟨0, [], []⟩ 5 v134 w8 := hq134.2 (by decide)
      clear ho hn
      refine ⟨wanted_free rfl, ?_⟩
      obtain ⟨p_, rfl, o⟩ := hv134
      go_simp
    rcases i with _ | i
    · refine bx_alloc HUX rfl (by decide) (by decide) rfl (.int .i64 0) (.slice none 0 0) (.slice none 0 0) ?_
      intro a8 w8 ho
      have o269 : a8.tmps[269]? = some _ := (ho 269 (by kernel_rfl)).trans rfl
      have hsz : 269 < a8.tmps.size := (Array.getElem?_eq_some_iff.1 o269).1
      refine ⟨by omega, wanted_free rfl, ?_⟩
      go_simp
    rcases i with _ | i
    · refine bx_store HUX rfl rfl (by decide) (by decide) rfl (by kernel_rfl) rfl ?_
      intro a8 w8 g u0 u1 u2 hg n20 hn
      obtain ⟨v139, n139, hq139⟩ := hn 5 139 (by kernel_rfl) rfl
      have hv139 : xo wb11 ⟨0, [], []⟩ v139 w8 := hq139.2 (by decide)
      clear hn
      refine ⟨wanted_free rfl, ?_⟩
      obtain ⟨r, rfl, o⟩ := hv139
      have x0 := hg.cell 0
      have x1 := hg.cell 1
      have x2 := hg.cell 2
      have f0 := hg.frozen 0
      have f1 := hg.frozen 1
      have f2 := hg.frozen 2
      refine ⟨r, o, ?_⟩
      rw [show arC ⟨0, [], []⟩ r = #[.int .i64 0, .slice r.A0 0 r.c0, .slice r.A1 0 r.c1] from rfl] at n139
      clear hg o
      go_simp
    rcases i with _ | i
    · refine bx_value HUX rfl (by decide) (by decide) (by decide) 21 rfl (by decide) (.int .i64 5) rfl ?_
      intro a8 w8 hb8 ho hn
      obtain ⟨v140, n140, hq140⟩ := hn 6 140 (by kernel_rfl) rfl
      obtain rfl := hq140.1 (by decide) (by decide)
      clear ho hn
      refine ⟨wanted_free rfl, ?_⟩
      go_simp
    omega
  intro dn fv wb12 hS5 hR5 hall
  obtain ⟨g12, e8, hg8, _, hfin⟩ := hS5.h (hall 7 (by decide))
  obtain ⟨r12, hb8, ho8⟩ := hfin (hall 8 (by decide))
  have hbw := hS5.b
  have h48 : fv 21 = .int .i64 5 := (hR5 9 21 rfl).1 (by decide) (by decide)
  clear hS5 hR5 hall hfin
  simp only [putAll, List.foldl_cons, List.foldl_nil, Act.put, List.setIfInBounds_toArray, List.set_cons_succ, List.set_cons_zero, List.getElem?_toArray, List.getElem?_cons_succ, List.getElem?_cons_zero, Option.some.injEq] at e8 ⊢
  rw [e8, h48]
  have HB_wb12 : Hid (Bxs wb12 [(g1, ⟨1, [3], [1, 2, 3]⟩, r1), (g2, ⟨1, [2, 2], [1, 2, 3, 4]⟩, r2), (g3, ⟨1, [3], [3, 1, 2]⟩, r3), (g4, ⟨1, [3], [2, 3, 1]⟩, r4), (g5, ⟨1, [2, 2], [1, 2, 4, 3]⟩, r5), (g6, ⟨0, [], []⟩, r6), (g7, ⟨0, [], []⟩, r7), (g8, ⟨0, [], []⟩, r8), (g9, ⟨0, [], []⟩, r9), (g11, ⟨0, [], []⟩, r11), (g12, ⟨0, [], []⟩, r12)]) := Lib.hid (Bxs.add (HB_wb11.out.up hbw) ⟨hb8, ho8.el (by decide) (by decide) (by decide), Cap.of ho8⟩)
  have BW_wb12 := Lib.hid (bon BW_wb11.out hbw)
  generalize fv 135 = u135
  generalize fv 136 = u136
  generalize fv 137 = u137
  generalize fv 138 = u138
  generalize fv 134 = u134
  generalize fv 139 = u139
  generalize fv 140 = u140
  clear hb8 ho8 hbw e8 h48 hg8 HUX HB_wb11 BW_wb11
  go_upto_region 13 with (fail)
  have HUX : BxU wb12 (lookU [(0, xo wb12 ⟨1, [], [1]⟩), (2, xto wb12 ⟨0, [], []⟩ 4), (3, xto wb12 ⟨0, [], []⟩ 4), (4, xo wb12 ⟨0, [], []⟩)]) := lookU_two (by
    intro x hx
    simp only [List.mem_cons, List.not_mem_nil, or_false] at hx
    rcases hx with rfl | rfl | rfl | rfl <;> first | exact xo_stk _ _ | exact slo_stk _ _ _ | exact sio_stk _ _ _ | exact xto_stk _ _ _)
  refine wp_region_doneT_on (BxS wb12 6 7 22 ⟨0, [], []⟩) (bxR 6 [0, 2, 3, 4] (lookU [(0, xo wb12 ⟨1, [], [1]⟩), (2, xto wb12 ⟨0, [], []⟩ 4), (3, xto wb12 ⟨0, [], []⟩ 4), (4, xo wb12 ⟨0, [], []⟩)]) [undef, .agg #[.int .i64 1, .slice r2.A0 2 r2.c0, .slice r2.A1 4 r2.c1], undef, undef, undef, .int .i64 4, undef, undef, .int .i64 4]) (by kernel_rfl) 270 rfl (by kernel_rfl) ⟨(Below.refl _ _).drew, fun e => (by cases e), fun e => (by cases e)⟩ ?_ ?_
  · intro i hi
    have hi2 : i < 9 := hi
    clear hi
    rcases i with _ | i
    · refine bx_call HUX 16 rfl (by decide) (by decide) (by decide) 142 rfl (by decide) ?_
      intro a8 w8 hb8 ho hn
      clear ho hn
      refine ⟨wanted_free rfl, ?_⟩
      refine ⟨#[.int .i64 1], (by go_simp), (sca_lit 1 w8).mono ?_⟩
      rintro e wz ⟨p_, rfl, o, b⟩
      exact ⟨_, rfl, b, p_, rfl, o.mono hb8.size⟩
    rcases i with _ | i
    · refine bx_value HUX rfl (by decide) (by decide) (by decide) 143 rfl (by decide) (.agg #[.int .i64 1, .slice r2.A0 2 r2.c0, .slice r2.A1 4 r2.c1]) rfl ?_
      intro a8 w8 hb8 ho hn
      have o2 : a8.tmps[2]? = some _ := (ho 2 (by kernel_rfl)).trans rfl
      clear ho hn
      refine ⟨wanted_free rfl, ?_⟩
      have x := (HB_wb12.out.up hb8) 1 _ _ _ rfl
      have x0 : w8.cell? ⟨g2, 0, none⟩ = some (.int .i64 1) := x.k.cell 0
      have x1 : w8.cell? ⟨g2, 1, none⟩ = some (.slice r2.A0 2 r2.c0) := x.k.cell 1
      have x2 : w8.cell? ⟨g2, 2, none⟩ = some (.slice r2.A1 4 r2.c1) := x.k.cell 2
      clear x
      go_simp
    rcases i with _ | i
    · refine bx_call HUX 40 rfl (by decide) (by decide) (by decide) 144 rfl (by decide) ?_
      intro a8 w8 hb8 ho hn
      obtain ⟨v142, n142, hq142⟩ := hn 0 142 (by kernel_rfl) rfl
      have hv142 : xo wb12 ⟨1, [], [1]⟩ v142 w8 := hq142.2 (by decide)
      obtain ⟨v143, n143, hq143⟩ := hn 1 143 (by kernel_rfl) rfl
      obtain rfl := hq143.1 (by decide) (by decide)
      clear ho hn
      refine ⟨wanted_free rfl, ?_⟩
      obtain ⟨q0_, rfl, o0_⟩ := hv142
      refine ⟨#[.agg (arC ⟨1, [], [1]⟩ q0_), .agg #[.int .i64 1, .slice r2.A0 2 r2.c0, .slice r2.A1 4 r2.c1]], (by go_simp), (c10 q0_ r2 w8 (o0_.el (by decide) (by decide) (by decide)) (Cap.of o0_) ((HB_wb12.out.up hb8) 1 _ _ _ rfl).e ((HB_wb12.out.up hb8) 1 _ _ _ rfl).c).mono ?_⟩
      rintro e wz ⟨r, rfl, o9, b9⟩
      exact ⟨_, rfl, b9, r, rfl, o9.mono hb8.size⟩
    rcases i with _ | i
    · refine bx_make HUX rfl (by decide) (by decide) (by decide) 141 rfl (by decide) ?_
      intro a8 w8 hb8 ho hn
      obtain ⟨v144, n144, hq144⟩ := hn 2 144 (by kernel_rfl) rfl
      have hv144 : xto wb12 ⟨0, [], []⟩ 4 v144 w8 := hq144.2 (by decide)
      clear ho hn
      refine ⟨wanted_free rfl, ?_⟩
      exact ⟨v144, w8, (by go_simp), Below.refl _ _, hv144⟩
    rcases i with _ | i
    · refine bx_make HUX rfl (by decide) (by decide) (by decide) 145 rfl (by decide) ?_
      intro a8 w8 hb8 ho hn
      obtain ⟨v141, n141, hq141⟩ := hn 3 141 (by kernel_rfl) rfl
      have hv141 : xto wb12 ⟨0, [], []⟩ 4 v141 w8 := hq141.2 (by decide)
      clear ho hn
      refine ⟨wanted_free rfl, ?_⟩
      obtain ⟨p_, rfl, o⟩ := hv141
      exact ⟨.agg (arC ⟨0, [], []⟩ p_), w8, (by go_simp), Below.refl _ _, p_, rfl, o⟩
    rcases i with _ | i
    · refine bx_value HUX rfl (by decide) (by decide) (by decide) 146 rfl (by decide) (.int .i64 4) rfl ?_
      intro a8 w8 hb8 ho hn
      obtain ⟨v141, n141, hq141⟩ := hn 3 141 (by kernel_rfl) rfl
      have hv141 : xto wb12 ⟨0, [], []⟩ 4 v141 w8 := hq141.2 (by decide)
      clear ho hn
      refine ⟨wanted_free rfl, ?_⟩
      obtain ⟨p_, rfl, o⟩ := hv141
      go_simp
    rcases i with _ | i
    · refine bx_alloc HUX rfl (by decide) (by decide) rfl (.int .i64 0) (.slice none 0 0) (.slice none 0 0) ?_
      intro a8 w8 ho
      have o269 : a8.tmps[269]? = some _ := (ho 269 (by kernel_rfl)).trans rfl
      have hsz : 269 < a8.tmps.size := (Array.getElem?_eq_some_iff.1 o269).1
      refine ⟨by omega, wanted_free rfl, ?_⟩
      go_simp
    rcases i with _ | i
    · refine bx_store HUX rfl rfl (by decide) (by decide) rfl (by kernel_rfl) rfl ?_
      intro a8 w8 g u0 u1 u2 hg n22 hn
      obtain ⟨v145, n145, hq145⟩ := hn 4 145 (by kernel_rfl) rfl
      have hv145 : xo wb12 ⟨0, [], []⟩ v145 w8 := hq145.2 (by decide)
      clear hn
      refine ⟨wanted_free rfl, ?_⟩
      obtain ⟨r, rfl, o⟩ := hv145
      have x0 := hg.cell 0
      have x1 := hg.cell 1
      have x2 := hg.cell 2
      have f0 := hg.frozen 0
      have f1 := hg.frozen 1
      have f2 := hg.frozen 2
      refine ⟨r, o, ?_⟩
      rw [show arC ⟨0, [], []⟩ r = #[.int .i64 0, .slice r.A0 0 r.c0, .slice r.A1 0 r.c1] from rfl] at n145
      clear hg o
      go_simp
    rcases i with _ | i
    · refine bx_value HUX rfl (by decide) (by decide) (by decide) 23 rfl (by decide) (.int .i64 4) rfl ?_
      intro a8 w8 hb8 ho hn
      obtain ⟨v146, n146, hq146⟩ := hn 5 146 (by kernel_rfl) rfl
      obtain rfl := hq146.1 (by decide) (by decide)
      clear ho hn
      refine ⟨wanted_free rfl, ?_⟩
      go_simp
    omega
  intro dn fv wb13 hS5 hR5 hall
  obtain ⟨g13, e8, hg8, _, hfin⟩ := hS5.h (hall 6 (by decide))
  obtain ⟨r13, hb8, ho8⟩ := hfin (hall 7 (by decide))
  have hbw := hS5.b
  have h48 : fv 23 = .int .i64 4 := (hR5 8 23 rfl).1 (by decide) (by decide)
  clear hS5 hR5 hall hfin
  simp only [putAll, List.foldl_cons, List.foldl_nil, Act.put, List.setIfInBounds_toArray, List.set_cons_succ, List.set_cons_zero, List.getElem?_toArray, List.getElem?_cons_succ, List.getElem?_cons_zero, Option.some.injEq] at e8 ⊢
  rw [e8, h48]
  have HB_wb13 : Hid (Bxs wb13 [(g1, ⟨1, [3], [1, 2, 3]⟩, r1), (g2, ⟨1, [2, 2], [1, 2, 3, 4]⟩, r2), (g3, ⟨1, [3], [3, 1, 2]⟩, r3), (g4, ⟨1, [3], [2, 3, 1]⟩, r4), (g5, ⟨1, [2, 2], [1, 2, 4, 3]⟩, r5), (g6, ⟨0, [], []⟩, r6), (g7, ⟨0, [], []⟩, r7), (g8, ⟨0, [], []⟩, r8), (g9, ⟨0, [], []⟩, r9), (g11, ⟨0, [], []⟩, r11), (g12, ⟨0, [], []⟩, r12), (g13, ⟨0, [], []⟩, r13)]) := Lib.hid (Bxs.add (HB_wb12.out.up hbw) ⟨hb8, ho8.el (by decide) (by decide) (by decide), Cap.of ho8⟩)
  have BW_wb13 := Lib.hid (bon BW_wb12.out hbw)
  generalize fv 142 = u142
  generalize fv 143 = u143
  generalize fv 144 = u144
  generalize fv 141 = u141
  generalize fv 145 = u145
  generalize fv 146 = u146
  clear hb8 ho8 hbw e8 h48 hg8 HUX HB_wb12 BW_wb12
  go_upto_region 14 with (fail)
  have HUX : BxU wb13 (lookU [(2, xto wb13 ⟨0, [], []⟩ 3), (3, xto wb13 ⟨0, [], []⟩ 3), (4, xo wb13 ⟨0, [], []⟩)]) := lookU_two (by
    intro x hx
    simp only [List.mem_cons, List.not_mem_nil, or_false] at hx
    rcases hx with rfl | rfl | rfl <;> first | exact xo_stk _ _ | exact slo_stk _ _ _ | exact sio_stk _ _ _ | exact xto_stk _ _ _)
  refine wp_region_offT_on (BxS wb13 6 7 24 ⟨0, [], []⟩) (bxR 6 [2, 3, 4] (lookU [(2, xto wb13 ⟨0, [], []⟩ 3), (3, xto wb13 ⟨0, [], []⟩ 3), (4, xo wb13 ⟨0, [], []⟩)]) [.agg #[.int .i64 1, .slice r2.A0 2 r2.c0, .slice r2.A1 4 r2.c1], .agg #[.int .i64 1, .slice r2.A0 2 r2.c0, .slice r2.A1 4 r2.c1], undef, undef, undef, .int .i64 3, undef, undef, .int .i64 3]) (by kernel_rfl) 270 rfl (by kernel_rfl) ⟨Below.refl _ _, fun e => (by cases e), fun e => (by cases e)⟩ ?_ ?_
  · intro i hi
    have hi2 : i < 9 := hi
    clear hi
    rcases i with _ | i
    · refine bx_value HUX rfl (by decide) (by decide) (by decide) 148 rfl (by decide) (.agg #[.int .i64 1, .slice r2.A0 2 r2.c0, .slice r2.A1 4 r2.c1]) rfl ?_
      intro a8 w8 hb8 ho hn
      have o2 : a8.tmps[2]? = some _ := (ho 2 (by kernel_rfl)).trans rfl
      clear ho hn
      refine ⟨wanted_free rfl, ?_⟩
      have x := (HB_wb13.out.up hb8) 1 _ _ _ rfl
      have x0 : w8.cell? ⟨g2, 0, none⟩ = some (.int .i64 1) := x.k.cell 0
      have x1 : w8.cell? ⟨g2, 1, none⟩ = some (.slice r2.A0 2 r2.c0) := x.k.cell 1
      have x2 : w8.cell? ⟨g2, 2, none⟩ = some (.slice r2.A1 4 r2.c1) := x.k.cell 2
      clear x
      go_simp
    rcases i with _ | i
    · refine bx_value HUX rfl (by decide) (by decide) (by decide) 149 rfl (by decide) (.agg #[.int .i64 1, .slice r2.A0 2 r2.c0, .slice r2.A1 4 r2.c1]) rfl ?_
      intro a8 w8 hb8 ho hn
      have o2 : a8.tmps[2]? = some _ := (ho 2 (by kernel_rfl)).trans rfl
      clear ho hn
      refine ⟨wanted_free rfl, ?_⟩
      have x := (HB_wb13.out.up hb8) 1 _ _ _ rfl
      have x0 : w8.cell? ⟨g2, 0, none⟩ = some (.int .i64 1) := x.k.cell 0
      have x1 : w8.cell? ⟨g2, 1, none⟩ = some (.slice r2.A0 2 r2.c0) := x.k.cell 1
      have x2 : w8.cell? ⟨g2, 2, none⟩ = some (.slice r2.A1 4 r2.c1) := x.k.cell 2
      clear x
      go_simp
    rcases i with _ | i
    · refine bx_call HUX 40 rfl (by decide) (by decide) (by decide) 150 rfl (by decide) ?_
      intro a8 w8 hb8 ho hn
      obtain ⟨v148, n148, hq148⟩ := hn 0 148 (by kernel_rfl) rfl
      obtain rfl := hq148.1 (by decide) (by decide)
      obtain ⟨v149, n149, hq149⟩ := hn 1 149 (by kernel_rfl) rfl
      obtain rfl := hq149.1 (by decide) (by decide)
      clear ho hn
      refine ⟨wanted_free rfl, ?_⟩
      refine ⟨#[.agg #[.int .i64 1, .slice r2.A0 2 r2.c0, .slice r2.A1 4 r2.c1], .agg #[.int .i64 1, .slice r2.A0 2 r2.c0, .slice r2.A1 4 r2.c1]], (by go_simp), (c11 r2 r2 w8 ((HB_wb13.out.up hb8) 1 _ _ _ rfl).e ((HB_wb13.out.up hb8) 1 _ _ _ rfl).c ((HB_wb13.out.up hb8) 1 _ _ _ rfl).e ((HB_wb13.out.up hb8) 1 _ _ _ rfl).c).mono ?_⟩
      rintro e wz ⟨r, rfl, o9, b9⟩
      exact ⟨_, rfl, b9, r, rfl, o9.mono hb8.size⟩
    rcases i with _ | i
    · refine bx_make HUX rfl (by decide) (by decide) (by decide) 147 rfl (by decide) ?_
      intro a8 w8 hb8 ho hn
      obtain ⟨v150, n150, hq150⟩ := hn 2 150 (by kernel_rfl) rfl
      have hv150 : xto wb13 ⟨0, [], []⟩ 3 v150 w8 := hq150.2 (by decide)
      clear ho hn
      refine ⟨wanted_free rfl, ?_⟩
      exact ⟨v150, w8, (by go_simp), Below.refl _ _, hv150⟩
    rcases i with _ | i
    · refine bx_make HUX rfl (by decide) (by decide) (by decide) 151 rfl (by decide) ?_
      intro a8 w8 hb8 ho hn
      obtain ⟨v147, n147, hq147⟩ := hn 3 147 (by kernel_rfl) rfl
      have hv147 : xto wb13 ⟨0, [], []⟩ 3 v147 w8 := hq147.2 (by decide)
      clear ho hn
      refine ⟨wanted_free rfl, ?_⟩
      obtain ⟨p_, rfl, o⟩ := hv147
      exact ⟨.agg (arC ⟨0, [], []⟩ p_), w8, (by go_simp), Below.refl _ _, p_, rfl, o⟩
    rcases i with _ | i
    · refine bx_value HUX rfl (by decide) (by decide) (by decide) 152 rfl (by decide) (.int .i64 3) rfl ?_
      intro a8 w8 hb8 ho hn
      obtain ⟨v147, n147, hq147⟩ := hn 3 147 (by kernel_rfl) rfl
      have hv147 : xto wb13 ⟨0, [], []⟩ 3 v147 w8 := hq147.2 (by decide)
      clear ho hn
      refine ⟨wanted_free rfl, ?_⟩
      obtain ⟨p_, rfl, o⟩ := hv147
      go_simp
    rcases i with _ | i
    · refine bx_alloc HUX rfl (by decide) (by decide) rfl (.int .i64 0) (.slice none 0 0) (.slice none 0 0) ?_
      intro a8 w8 ho
      have o269 : a8.tmps[269]? = some _ := (ho 269 (by kernel_rfl)).trans rfl
      have hsz : 269 < a8.tmps.size := (Array.getElem?_eq_some_iff.1 o269).1
      refine ⟨by omega, wanted_free rfl, ?_⟩
      go_simp
    rcases i with _ | i
    · refine bx_store HUX rfl rfl (by decide) (by decide) rfl (by kernel_rfl) rfl ?_
      intro a8 w8 g u0 u1 u2 hg n24 hn
      obtain ⟨v151, n151, hq151⟩ := hn 4 151 (by kernel_rfl) rfl
      have hv151 : xo wb13 ⟨0, [], []⟩ v151 w8 := hq151.2 (by decide)
      clear hn
      refine ⟨wanted_free rfl, ?_⟩
      obtain ⟨r, rfl, o⟩ := hv151
      have x0 := hg.cell 0
      have x1 := hg.cell 1
      have x2 := hg.cell 2
      have f0 := hg.frozen 0
      have f1 := hg.frozen 1
      have f2 := hg.frozen 2
      refine ⟨r, o, ?_⟩
      rw [show arC ⟨0, [], []⟩ r = #[.int .i64 0, .slice r.A0 0 r.c0, .slice r.A1 0 r.c1] from rfl] at n151
      clear hg o
      go_simp
    rcases i with _ | i
    · refine bx_value HUX rfl (by decide) (by decide) (by decide) 25 rfl (by decide) (.int .i64 3) rfl ?_
      intro a8 w8 hb8 ho hn
      obtain ⟨v152, n152, hq152⟩ := hn 5 152 (by kernel_rfl) rfl
      obtain rfl := hq152.1 (by decide) (by decide)
      clear ho hn
      refine ⟨wanted_free rfl, ?_⟩
      go_simp
    omega
  intro dn fv wb14 hS5 hR5 hall
  obtain ⟨g14, e8, hg8, _, hfin⟩ := hS5.h (hall 6 (by decide))
  obtain ⟨r14, hb8, ho8⟩ := hfin (hall 7 (by decide))
  have hbw := hS5.b
  have h48 : fv 25 = .int .i64 3 := (hR5 8 25 rfl).1 (by decide) (by decide)
  clear hS5 hR5 hall hfin
  simp only [putAll, List.foldl_cons, List.foldl_nil, Act.put, List.setIfInBounds_toArray, List.set_cons_succ, List.set_cons_zero, List.getElem?_toArray, List.getElem?_cons_succ, List.getElem?_cons_zero, Option.some.injEq] at e8 ⊢
  rw [e8, h48]
  have HB_wb14 : Hid (Bxs wb14 [(g1, ⟨1, [3], [1, 2, 3]⟩, r1), (g2, ⟨1, [2, 2], [1, 2, 3, 4]⟩, r2), (g3, ⟨1, [3], [3, 1, 2]⟩, r3), (g4, ⟨1, [3], [2, 3, 1]⟩, r4), (g5, ⟨1, [2, 2], [1, 2, 4, 3]⟩, r5), (g6, ⟨0, [], []⟩, r6), (g7, ⟨0, [], []⟩, r7), (g8, ⟨0, [], []⟩, r8), (g9, ⟨0, [], []⟩, r9), (g11, ⟨0, [], []⟩, r11), (g12, ⟨0, [], []⟩, r12), (g13, ⟨0, [], []⟩, r13), (g14, ⟨0, [], []⟩, r14)]) := Lib.hid (Bxs.add (HB_wb13.out.up hbw) ⟨hb8, ho8.el (by decide) (by decide) (by decide), Cap.of ho8⟩)
  have BW_wb14 := Lib.hid (bon BW_wb13.out hbw)
  generalize fv 148 = u148
  generalize fv 149 = u149
  generalize fv 150 = u150
  generalize fv 147 = u147
  generalize fv 151 = u151
  generalize fv 152 = u152
  clear hb8 ho8 hbw e8 h48 hg8 HUX HB_wb13 BW_wb13
  go_upto_region 15 with (fail)
  have HUX : BxU wb14 (lookU [(0, slo wb14 2 #[.int .i64 2, .int .i64 1]), (1, xo wb14 ⟨1, [2], [2, 1]⟩), (3, xto wb14 ⟨1, [2, 2], [1, 3, 2, 4]⟩ 0), (4, xto wb14 ⟨1, [2, 2], [1, 3, 2, 4]⟩ 0), (5, xo wb14 ⟨1, [2, 2], [1, 3, 2, 4]⟩)]) := lookU_two (by
    intro x hx
    simp only [List.mem_cons, List.not_mem_nil, or_false] at hx
    rcases hx with rfl | rfl | rfl | rfl | rfl <;> first | exact xo_stk _ _ | exact slo_stk _ _ _ | exact sio_stk _ _ _ | exact xto_stk _ _ _)
  refine wp_region_doneT_on (BxS wb14 7 8 26 ⟨1, [2, 2], [1, 3, 2, 4]⟩) (bxR 7 [0, 1, 3, 4, 5] (lookU [(0, slo wb14 2 #[.int .i64 2, .int .i64 1]), (1, xo wb14 ⟨1, [2], [2, 1]⟩), (3, xto wb14 ⟨1, [2, 2], [1, 3, 2, 4]⟩ 0), (4, xto wb14 ⟨1, [2, 2], [1, 3, 2, 4]⟩ 0), (5, xo wb14 ⟨1, [2, 2], [1, 3, 2, 4]⟩)]) [undef, undef, .agg #[.int .i64 1, .slice r2.A0 2 r2.c0, .slice r2.A1 4 r2.c1], undef, undef, undef, .int .i64 0, undef, undef, .int .i64 0]) (by kernel_rfl) 270 rfl (by kernel_rfl) ⟨(Below.refl _ _).drew, fun e => (by cases e), fun e => (by cases e)⟩ ?_ ?_
  · intro i hi
    have hi2 : i < 10 := hi
    clear hi
    rcases i with _ | i
    · refine bx_make HUX rfl (by decide) (by decide) (by decide) 154 rfl (by decide) ?_
      intro a8 w8 hb8 ho hn
      clear ho hn
      refine ⟨wanted_free rfl, ?_⟩
      exact ⟨.slice (some ⟨w8.heap.size, 0, none⟩) 2 2, w8.alloc (.cells #[.int .i64 2, .int .i64 1] 2), (by go_simp), albel _ _, w8.heap.size, rfl, hb8.size, Blk.new w8 _ _⟩
    rcases i with _ | i
    · refine bx_call HUX 18 rfl (by decide) (by decide) (by decide) 155 rfl (by decide) ?_
      intro a8 w8 hb8 ho hn
      obtain ⟨v154, n154, hq154⟩ := hn 0 154 (by kernel_rfl) rfl
      have hv154 : slo wb14 2 #[.int .i64 2, .int .i64 1] v154 w8 := hq154.2 (by decide)
      clear ho hn
      refine ⟨wanted_free rfl, ?_⟩
      obtain ⟨g, rfl, _, hg⟩ := hv154
      refine ⟨#[.slice (some ⟨g, 0, none⟩) 2 2], (by go_simp), (vec_lit [2, 1] (by decide) _ 2 2 w8 rfl (reads_blk hg rfl)).mono ?_⟩
      rintro e wz ⟨p_, rfl, o, b⟩
      exact ⟨_, rfl, b, p_, rfl, o.mono hb8.size⟩
    rcases i with _ | i
    · refine bx_value HUX rfl (by decide) (by decide) (by decide) 156 rfl (by decide) (.agg #[.int .i64 1, .slice r2.A0 2 r2.c0, .slice r2.A1 4 r2.c1]) rfl ?_
      intro a8 w8 hb8 ho hn
      have o2 : a8.tmps[2]? = some _ := (ho 2 (by kernel_rfl)).trans rfl
      clear ho hn
      refine ⟨wanted_free rfl, ?_⟩
      have x := (HB_wb14.out.up hb8) 1 _ _ _ rfl
      have x0 : w8.cell? ⟨g2, 0, none⟩ = some (.int .i64 1) := x.k.cell 0
      have x1 : w8.cell? ⟨g2, 1, none⟩ = some (.slice r2.A0 2 r2.c0) := x.k.cell 1
      have x2 : w8.cell? ⟨g2, 2, none⟩ = some (.slice r2.A1 4 r2.c1) := x.k.cell 2
      clear x
      go_simp
    rcases i with _ | i
    · refine bx_call HUX 40 rfl (by decide) (by decide) (by decide) 157 rfl (by decide) ?_
      intro a8 w8 hb8 ho hn
      obtain ⟨v155, n155, hq155⟩ := hn 1 155 (by kernel_rfl) rfl
      have hv155 : xo wb14 ⟨1, [2], [2, 1]⟩ v155 w8 := hq155.2 (by decide)
      obtain ⟨v156, n156, hq156⟩ := hn 2 156 (by kernel_rfl) rfl
      obtain rfl := hq156.1 (by decide) (by decide)
      clear ho hn
      refine ⟨wanted_free rfl, ?_⟩
      obtain ⟨q0_, rfl, o0_⟩ := hv155
      refine ⟨#[.agg (arC ⟨1, [2], [2, 1]⟩ q0_), .agg #[.int .i64 1, .slice r2.A0 2 r2.c0, .slice r2.A1 4 r2.c1]], (by go_simp), (c12 q0_ r2 w8 (o0_.el (by decide) (by decide) (by decide)) (Cap.of o0_) ((HB_wb14.out.up hb8) 1 _ _ _ rfl).e ((HB_wb14.out.up hb8) 1 _ _ _ rfl).c).mono ?_⟩
      rintro e wz ⟨r, rfl, o9, b9⟩
      exact ⟨_, rfl, b9, r, rfl, o9.mono hb8.size⟩
    rcases i with _ | i
    · refine bx_make HUX rfl (by decide) (by decide) (by decide) 153 rfl (by decide) ?_
      intro a8 w8 hb8 ho hn
      obtain ⟨v157, n157, hq157⟩ := hn 3 157 (by kernel_rfl) rfl
      have hv157 : xto wb14 ⟨1, [2, 2], [1, 3, 2, 4]⟩ 0 v157 w8 := hq157.2 (by decide)
      clear ho hn
      refine ⟨wanted_free rfl, ?_⟩
      exact ⟨v157, w8, (by go_simp), Below.refl _ _, hv157⟩
    rcases i with _ | i
    · refine bx_make HUX rfl (by decide) (by decide) (by decide) 158 rfl (by decide) ?_
      intro a8 w8 hb8 ho hn
      obtain ⟨v153, n153, hq153⟩ := hn 4 153 (by kernel_rfl) rfl
      have hv153 : xto wb14 ⟨1, [2, 2], [1, 3, 2, 4]⟩ 0 v153 w8 := hq153.2 (by decide)
      clear ho hn
      refine ⟨wanted_free rfl, ?_⟩
      obtain ⟨p_, rfl, o⟩ := hv153
      exact ⟨.agg (arC ⟨1, [2, 2], [1, 3, 2, 4]⟩ p_), w8, (by go_simp), Below.refl _ _, p_, rfl, o⟩
    rcases i with _ | i
    · refine bx_value HUX rfl (by decide) (by decide) (by decide) 159 rfl (by decide) (.int .i64 0) rfl ?_
      intro a8 w8 hb8 ho hn
      obtain ⟨v153, n153, hq153⟩ := hn 4 153 (by kernel_rfl) rfl
      have hv153 : xto wb14 ⟨1, [2, 2], [1, 3, 2, 4]⟩ 0 v153 w8 := hq153.2 (by decide)
      clear ho hn
      refine ⟨wanted_free rfl, ?_⟩
      obtain ⟨p_, rfl, o⟩ := hv153
      go_simp
    rcases i with _ | i
    · refine bx_alloc HUX rfl (by decide) (by decide) rfl (.int .i64 0) (.slice none 0 0) (.slice none 0 0) ?_
      intro a8 w8 ho
      have o269 : a8.tmps[269]? = some _ := (ho 269 (by kernel_rfl)).trans rfl
      have hsz : 269 < a8.tmps.size := (Array.getElem?_eq_some_iff.1 o269).1
      refine ⟨by omega, wanted_free rfl, ?_⟩
      go_simp
    rcases i with _ | i
    · refine bx_store HUX rfl rfl (by decide) (by decide) rfl (by kernel_rfl) rfl ?_
      intro a8 w8 g u0 u1 u2 hg n26 hn
      obtain ⟨v158, n158, hq158⟩ := hn 5 158 (by kernel_rfl) rfl
      have hv158 : xo wb14 ⟨1, [2, 2], [1, 3, 2, 4]⟩ v158 w8 := hq158.2 (by decide)
      clear hn
      refine ⟨wanted_free rfl, ?_⟩
      obtain ⟨r, rfl, o⟩ := hv158
      have x0 := hg.cell 0
      have x1 := hg.cell 1
      have x2 := hg.cell 2
      have f0 := hg.frozen 0
      have f1 := hg.frozen 1
      have f2 := hg.frozen 2
      refine ⟨r, o, ?_⟩
      rw [show arC ⟨1, [2, 2], [1, 3, 2, 4]⟩ r = #[.int .i64 1, .slice r.A0 2 r.c0, .slice r.A1 4 r.c1] from rfl] at n158
      clear hg o
      go_simp
    rcases i with _ | i
    · refine bx_value HUX rfl (by decide) (by decide) (by decide) 27 rfl (by decide) (.int .i64 0) rfl ?_
      intro a8 w8 hb8 ho hn
      obtain ⟨v159, n159, hq159⟩ := hn 6 159 (by kernel_rfl) rfl
      obtain rfl := hq159.1 (by decide) (by decide)
      clear ho hn
      refine ⟨wanted_free rfl, ?_⟩
      go_simp
    omega
  intro dn fv wb15 hS5 hR5 hall
  obtain ⟨g15, e8, hg8, _, hfin⟩ := hS5.h (hall 7 (by decide))
  obtain ⟨r15, hb8, ho8⟩ := hfin (hall 8 (by decide))
  have hbw := hS5.b
  have h48 : fv 27 = .int .i64 0 := (hR5 9 27 rfl).1 (by decide) (by decide)
  clear hS5 hR5 hall hfin
  simp only [putAll, List.foldl_cons, List.foldl_nil, Act.put, List.setIfInBounds_toArray, List.set_cons_succ, List.set_cons_zero, List.getElem?_toArray, List.getElem?_cons_succ, List.getElem?_cons_zero, Option.some.injEq] at e8 ⊢
  rw [e8, h48]
  have HB_wb15 : Hid (Bxs wb15 [(g1, ⟨1, [3], [1, 2, 3]⟩, r1), (g2, ⟨1, [2, 2], [1, 2, 3, 4]⟩, r2), (g3, ⟨1, [3], [3, 1, 2]⟩, r3), (g4, ⟨1, [3], [2, 3, 1]⟩, r4), (g5, ⟨1, [2, 2], [1, 2, 4, 3]⟩, r5), (g6, ⟨0, [], []⟩, r6), (g7, ⟨0, [], []⟩, r7), (g8, ⟨0, [], []⟩, r8), (g9, ⟨0, [], []⟩, r9), (g11, ⟨0, [], []⟩, r11), (g12, ⟨0, [], []⟩, r12), (g13, ⟨0, [], []⟩, r13), (g14, ⟨0, [], []⟩, r14), (g15, ⟨1, [2, 2], [1, 3, 2, 4]⟩, r15)]) := Lib.hid (Bxs.add (HB_wb14.out.up hbw) ⟨hb8, ho8.el (by decide) (by decide) (by decide), Cap.of ho8⟩)
  have BW_wb15 := Lib.hid (bon BW_wb14.out hbw)
  generalize fv 154 = u154
  generalize fv 155 = u155
  generalize fv 156 = u156
  generalize fv 157 = u157
  generalize fv 153 = u153
  generalize fv 158 = u158
  generalize fv 159 = u159
  clear hb8 ho8 hbw e8 h48 hg8 HUX HB_wb14 BW_wb14
  go_upto_region 16 with (fail)
  have HUX : BxU wb15 (lookU [(0, xo wb15 ⟨1, [0], []⟩), (1, xo wb15 ⟨1, [], [9]⟩), (2, xto wb15 ⟨1, [], [9]⟩ 0), (3, xto wb15 ⟨1, [], [9]⟩ 0), (4, xo wb15 ⟨1, [], [9]⟩)]) := lookU_two (by
    intro x hx
    simp only [List.mem_cons, List.not_mem_nil, or_false] at hx
    rcases hx with rfl | rfl | rfl | rfl | rfl <;> first | exact xo_stk _ _ | exact slo_stk _ _ _ | exact sio_stk _ _ _ | exact xto_stk _ _ _)
  refine wp_region_offT_on (BxS wb15 6 7 28 ⟨1, [], [9]⟩) (bxR 6 [0, 1, 2, 3, 4] (lookU [(0, xo wb15 ⟨1, [0], []⟩), (1, xo wb15 ⟨1, [], [9]⟩), (2, xto wb15 ⟨1, [], [9]⟩ 0), (3, xto wb15 ⟨1, [], [9]⟩ 0), (4, xo wb15 ⟨1, [], [9]⟩)]) [undef, undef, undef, undef, undef, .int .i64 0, undef, undef, .int .i64 0]) (by kernel_rfl) 270 rfl (by kernel_rfl) ⟨Below.refl _ _, fun e => (by cases e), fun e => (by cases e)⟩ ?_ ?_
  · intro i hi
    have hi2 : i < 9 := hi
    clear hi
    rcases i with _ | i
    · refine bx_call HUX 18 rfl (by decide) (by decide) (by decide) 161 rfl (by decide) ?_
      intro a8 w8 hb8 ho hn
      clear ho hn
      refine ⟨wanted_free rfl, ?_⟩
      refine ⟨#[.slice none 0 0], (by go_simp), (vec_lit [] (by decide) _ 0 0 w8 rfl Reads.none_).mono ?_⟩
      rintro e wz ⟨p_, rfl, o, b⟩
      exact ⟨_, rfl, b, p_, rfl, o.mono hb8.size⟩
    rcases i with _ | i
    · refine bx_call HUX 16 rfl (by decide) (by decide) (by decide) 162 rfl (by decide) ?_
      intro a8 w8 hb8 ho hn
      clear ho hn
      refine ⟨wanted_free rfl, ?_⟩
      refine ⟨#[.int .i64 9], (by go_simp), (sca_lit 9 w8).mono ?_⟩
      rintro e wz ⟨p_, rfl, o, b⟩
      exact ⟨_, rfl, b, p_, rfl, o.mono hb8.size⟩
    rcases i with _ | i
    · refine bx_call HUX 40 rfl (by decide) (by decide) (by decide) 163 rfl (by decide) ?_
      intro a8 w8 hb8 ho hn
      obtain ⟨v161, n161, hq161⟩ := hn 0 161 (by kernel_rfl) rfl
      have hv161 : xo wb15 ⟨1, [0], []⟩ v161 w8 := hq161.2 (by decide)
      obtain ⟨v162, n162, hq162⟩ := hn 1 162 (by kernel_rfl) rfl
      have hv162 : xo wb15 ⟨1, [], [9]⟩ v162 w8 := hq162.2 (by decide)
      clear ho hn
      refine ⟨wanted_free rfl, ?_⟩
      obtain ⟨q0_, rfl, o0_⟩ := hv161
      obtain ⟨q1_, rfl, o1_⟩ := hv162
      refine ⟨#[.agg (arC ⟨1, [0], []⟩ q0_), .agg (arC ⟨1, [], [9]⟩ q1_)], (by go_simp), (c13 q0_ q1_ w8 (o0_.el (by decide) (by decide) (by decide)) (Cap.of o0_) (o1_.el (by decide) (by decide) (by decide)) (Cap.of o1_)).mono ?_⟩
      rintro e wz ⟨r, rfl, o9, b9⟩
      exact ⟨_, rfl, b9, r, rfl, o9.mono hb8.size⟩
    rcases i with _ | i
    · refine bx_make HUX rfl (by decide) (by decide) (by decide) 160 rfl (by decide) ?_
      intro a8 w8 hb8 ho hn
      obtain ⟨v163, n163, hq163⟩ := hn 2 163 (by kernel_rfl) rfl
      have hv163 : xto wb15 ⟨1, [], [9]⟩ 0 v163 w8 := hq163.2 (by decide)
      clear ho hn
      refine ⟨wanted_free rfl, ?_⟩
      exact ⟨v163, w8, (by go_simp), Below.refl _ _, hv163⟩
    rcases i with _ | i
    · refine bx_make HUX rfl (by decide) (by decide) (by decide) 164 rfl (by decide) ?_
      intro a8 w8 hb8 ho hn
      obtain ⟨v160, n160, hq160⟩ := hn 3 160 (by kernel_rfl) rfl
      have hv160 : xto wb15 ⟨1, [], [9]⟩ 0 v160 w8 := hq160.2 (by decide)
      clear ho hn
      refine ⟨wanted_free rfl, ?_⟩
      obtain ⟨p_, rfl, o⟩ := hv160
      exact ⟨.agg (arC ⟨1, [], [9]⟩ p_), w8, (by go_simp), Below.refl _ _, p_, rfl, o⟩
    rcases i with _ | i
    · refine bx_value HUX rfl (by decide) (by decide) (by decide) 165 rfl (by decide) (.int .i64 0) rfl ?_
      intro a8 w8 hb8 ho hn
      obtain ⟨v160, n160, hq160⟩ := hn 3 160 (by kernel_rfl) rfl
      have hv160 : xto wb15 ⟨1, [], [9]⟩ 0 v160 w8 := hq160.2 (by decide)
      clear ho hn
      refine ⟨wanted_free rfl, ?_⟩
      obtain ⟨p_, rfl, o⟩ := hv160
      go_simp
    rcases i with _ | i
    · refine bx_alloc HUX rfl (by decide) (by decide) rfl (.int .i64 0) (.slice none 0 0) (.slice none 0 0) ?_
      intro a8 w8 ho
      have o269 : a8.tmps[269]? = some _ := (ho 269 (by kernel_rfl)).trans rfl
      have hsz : 269 < a8.tmps.size := (Array.getElem?_eq_some_iff.1 o269).1
      refine ⟨by omega, wanted_free rfl, ?_⟩
      go_simp
    rcases i with _ | i
    · refine bx_store HUX rfl rfl (by decide) (by decide) rfl (by kernel_rfl) rfl ?_
      intro a8 w8 g u0 u1 u2 hg n28 hn
      obtain ⟨v164, n164, hq164⟩ := hn 4 164 (by kernel_rfl) rfl
      have hv164 : xo wb15 ⟨1, [], [9]⟩ v164 w8 := hq164.2 (by decide)
      clear hn
      refine ⟨wanted_free rfl, ?_⟩
      obtain ⟨r, rfl, o⟩ := hv164
      have x0 := hg.cell 0
      have x1 := hg.cell 1
      have x2 := hg.cell 2
      have f0 := hg.frozen 0
      have f1 := hg.frozen 1
      have f2 := hg.frozen 2
      refine ⟨r, o, ?_⟩
      rw [show arC ⟨1, [], [9]⟩ r = #[.int .i64 1, .slice r.A0 0 r.c0, .slice r.A1 1 r.c1] from rfl] at n164
      clear hg o
      go_simp
    rcases i with _ | i
    · refine bx_value HUX rfl (by decide) (by decide) (by decide) 29 rfl (by decide) (.int .i64 0) rfl ?_
      intro a8 w8 hb8 ho hn
      obtain ⟨v165, n165, hq165⟩ := hn 5 165 (by kernel_rfl) rfl
      obtain rfl := hq165.1 (by decide) (by decide)
      clear ho hn
      refine ⟨wanted_free rfl, ?_⟩
      go_simp
    omega
  intro dn fv wb16 hS5 hR5 hall
  obtain ⟨g16, e8, hg8, _, hfin⟩ := hS5.h (hall 6 (by decide))
  obtain ⟨r16, hb8, ho8⟩ := hfin (hall 7 (by decide))
  have hbw := hS5.b
  have h48 : fv 29 = .int .i64 0 := (hR5 8 29 rfl).1 (by decide) (by decide)
  clear hS5 hR5 hall hfin
  simp only [putAll, List.foldl_cons, List.foldl_nil, Act.put, List.setIfInBounds_toArray, List.set_cons_succ, List.set_cons_zero, List.getElem?_toArray, List.getElem?_cons_succ, List.getElem?_cons_zero, Option.some.injEq] at e8 ⊢
  rw [e8, h48]
  have HB_wb16 : Hid (Bxs wb16 [(g1, ⟨1, [3], [1, 2, 3]⟩, r1), (g2, ⟨1, [2, 2], [1, 2, 3, 4]⟩, r2), (g3, ⟨1, [3], [3, 1, 2]⟩, r3), (g4, ⟨1, [3], [2, 3, 1]⟩, r4), (g5, ⟨1, [2, 2], [1, 2, 4, 3]⟩, r5), (g6, ⟨0, [], []⟩, r6), (g7, ⟨0, [], []⟩, r7), (g8, ⟨0, [], []⟩, r8), (g9, ⟨0, [], []⟩, r9), (g11, ⟨0, [], []⟩, r11), (g12, ⟨0, [], []⟩, r12), (g13, ⟨0, [], []⟩, r13), (g14, ⟨0, [], []⟩, r14), (g15, ⟨1, [2, 2], [1, 3, 2, 4]⟩, r15), (g16, ⟨1, [], [9]⟩, r16)]) := Lib.hid (Bxs.add (HB_wb15.out.up hbw) ⟨hb8, ho8.el (by decide) (by decide) (by decide), Cap.of ho8⟩)
  have BW_wb16 := Lib.hid (bon BW_wb15.out hbw)
  generalize fv 161 = u161
  generalize fv 162 = u162
  generalize fv 163 = u163
  generalize fv 160 = u160
  generalize fv 164 = u164
  generalize fv 165 = u165
  clear hb8 ho8 hbw e8 h48 hg8 HUX HB_wb15 BW_wb15
  go_upto_region 18 with (first
    | (go_at_call 41; refine (way1 pv _ 3 _ (HV.out.below (albel wv _)) (lit_at (xs := [.int .i64 2, .int .i64 3, .int .i64 4]) rfl (by simp))).mono ?_; rintro e wy ⟨A_y, c_y, gf_y, cap_y, rfl, hy, by_⟩; have HYR := Lib.hid hy; have BY := Lib.hid (bon BV.out (bon (albel wv _) by_)); clear hy by_)
    | (go_at_call 18; refine (vec_lit [2, 3, 1] (by decide) _ 3 3 _ rfl (lit_at (xs := [.int .i64 2, .int .i64 3, .int .i64 1]) rfl (by simp))).mono ?_; rintro e wv ⟨pv, rfl, ov, bv⟩; have HV : Hid (AEl wv ⟨1, [3], [2, 3, 1]⟩ pv) := Lib.hid (ov.el (by decide) (by decide) (by decide)); have BV := Lib.hid (bon (albel wb16 _) bv); clear ov bv))
  obtain ⟨wb17, hw9⟩ : ∃ W, wy.alloc (.cells #[.slice A_y 3 c_y, .func (.func gf_y) #[] cap_y] 37) = W := ⟨_, rfl⟩
  obtain ⟨g_y, hg9⟩ : ∃ g, wy.heap.size = g := ⟨_, rfl⟩
  have HWY_y : Hid (∀ W, Below wb17.heap.size wb17 W → W.cell? ⟨g_y, 0, none⟩ = some (.slice A_y 3 c_y) ∧ Reads W W.heap.size 1 A_y 3 ([4, 2, 3].map iv)) := Lib.hid (fun W hb => by
    subst hw9 hg9
    exact ⟨(blk_up (Blk.new wy 37 _) hb).cell 0, ((HYR.out.below (bon (albel wy _) hb)).more (bon (albel wy _) hb).size)⟩)
  have b9 : Below wb16.heap.size wb16 wb17 := by rw [← hw9]; exact bon BY.out (albel _ _)
  have BB_wb17 : Hid (∀ {W : World}, Below wb17.heap.size wb17 W → Below wb17.heap.size wb17 W) := Lib.hid (fun h => h)
  have HB_wb17 := Lib.hid (HB_wb16.out.up b9)
  have BW_wb17 := Lib.hid (bon BW_wb16.out b9)
  rw [hw9, hg9]
  clear hw9 hg9 b9 HYR BY HV BV HB_wb16 BW_wb16
  go_upto_region 18 with (fail)
  have HUX : BxU wb17 (lookU [(0, xo wb17 ⟨1, [], [5]⟩), (1, xo wb17 ⟨1, [0], []⟩), (2, xto wb17 ⟨1, [0], []⟩ 0), (3, xto wb17 ⟨1, [0], []⟩ 0), (4, xo wb17 ⟨1, [0], []⟩)]) := lookU_two (by
    intro x hx
    simp only [List.mem_cons, List.not_mem_nil, or_false] at hx
    rcases hx with rfl | rfl | rfl | rfl | rfl <;> first | exact xo_stk _ _ | exact slo_stk _ _ _ | exact sio_stk _ _ _ | exact xto_stk _ _ _)
  refine wp_region_offT_on (BxS wb17 6 7 32 ⟨1, [0], []⟩) (bxR 6 [0, 1, 2, 3, 4] (lookU [(0, xo wb17 ⟨1, [], [5]⟩), (1, xo wb17 ⟨1, [0], []⟩), (2, xto wb17 ⟨1, [0], []⟩ 0), (3, xto wb17 ⟨1, [0], []⟩ 0), (4, xo wb17 ⟨1, [0], []⟩)]) [undef, undef, undef, undef, undef, .int .i64 0, undef, undef, .int .i64 0]) (by kernel_rfl) 270 rfl (by kernel_rfl) ⟨Below.refl _ _, fun e => (by cases e), fun e => (by cases e)⟩ ?_ ?_
  · intro i hi
    have hi2 : i < 9 := hi
    clear hi
    rcases i with _ | i
    · refine bx_call HUX 16 rfl (by decide) (by decide) (by decide) 174 rfl (by decide) ?_
      intro a8 w8 hb8 ho hn
      clear ho hn
      refine ⟨wanted_free rfl, ?_⟩
      refine ⟨#[.int .i64 5], (by go_simp), (sca_lit 5 w8).mono ?_⟩
      rintro e wz ⟨p_, rfl, o, b⟩
      exact ⟨_, rfl, b, p_, rfl, o.mono hb8.size⟩
    rcases i with _ | i
    · refine bx_call HUX 18 rfl (by decide) (by decide) (by decide) 175 rfl (by decide) ?_
      intro a8 w8 hb8 ho hn
      clear ho hn
      refine ⟨wanted_free rfl, ?_⟩
      refine ⟨#[.slice none 0 0], (by go_simp), (vec_lit [] (by decide) _ 0 0 w8 rfl Reads.none_).mono ?_⟩
      rintro e wz ⟨p_, rfl, o, b⟩
      exact ⟨_, rfl, b, p_, rfl, o.mono hb8.size⟩
    rcases i with _ | i
    · refine bx_call HUX 38 rfl (by decide) (by decide) (by decide) 176 rfl (by decide) ?_
      intro a8 w8 hb8 ho hn
      obtain ⟨v174, n174, hq174⟩ := hn 0 174 (by kernel_rfl) rfl
      have hv174 : xo wb17 ⟨1, [], [5]⟩ v174 w8 := hq174.2 (by decide)
      obtain ⟨v175, n175, hq175⟩ := hn 1 175 (by kernel_rfl) rfl
      have hv175 : xo wb17 ⟨1, [0], []⟩ v175 w8 := hq175.2 (by decide)
      clear ho hn
      refine ⟨wanted_free rfl, ?_⟩
      obtain ⟨q0_, rfl, o0_⟩ := hv174
      obtain ⟨q1_, rfl, o1_⟩ := hv175
      refine ⟨#[.agg (arC ⟨1, [], [5]⟩ q0_), .agg (arC ⟨1, [0], []⟩ q1_)], (by go_simp), (c14 q0_ q1_ w8 (o0_.el (by decide) (by decide) (by decide)) (Cap.of o0_) (o1_.el (by decide) (by decide) (by decide)) (Cap.of o1_)).mono ?_⟩
      rintro e wz ⟨r, rfl, o9, b9⟩
      exact ⟨_, rfl, b9, r, rfl, o9.mono hb8.size⟩
    rcases i with _ | i
    · refine bx_make HUX rfl (by decide) (by decide) (by decide) 173 rfl (by decide) ?_
      intro a8 w8 hb8 ho hn
      obtain ⟨v176, n176, hq176⟩ := hn 2 176 (by kernel_rfl) rfl
      have hv176 : xto wb17 ⟨1, [0], []⟩ 0 v176 w8 := hq176.2 (by decide)
      clear ho hn
      refine ⟨wanted_free rfl, ?_⟩
      exact ⟨v176, w8, (by go_simp), Below.refl _ _, hv176⟩
    rcases i with _ | i
    · refine bx_make HUX rfl (by decide) (by decide) (by decide) 177 rfl (by decide) ?_
      intro a8 w8 hb8 ho hn
      obtain ⟨v173, n173, hq173⟩ := hn 3 173 (by kernel_rfl) rfl
      have hv173 : xto wb17 ⟨1, [0], []⟩ 0 v173 w8 := hq173.2 (by decide)
      clear ho hn
      refine ⟨wanted_free rfl, ?_⟩
      obtain ⟨p_, rfl, o⟩ := hv173
      exact ⟨.agg (arC ⟨1, [0], []⟩ p_), w8, (by go_simp), Below.refl _ _, p_, rfl, o⟩
    rcases i with _ | i
    · refine bx_value HUX rfl (by decide) (by decide) (by decide) 178 rfl (by decide) (.int .i64 0) rfl ?_
      intro a8 w8 hb8 ho hn
      obtain ⟨v173, n173, hq173⟩ := hn 3 173 (by kernel_rfl) rfl
      have hv173 : xto wb17 ⟨1, [0], []⟩ 0 v173 w8 := hq173.2 (by decide)
      clear ho hn
      refine ⟨wanted_free rfl, ?_⟩
      obtain ⟨p_, rfl, o⟩ := hv173
      go_simp
    rcases i with _ | i
    · refine bx_alloc HUX rfl (by decide) (by decide) rfl (.int .i64 0) (.slice none 0 0) (.slice none 0 0) ?_
      intro a8 w8 ho
      have o269 : a8.tmps[269]? = some _ := (ho 269 (by kernel_rfl)).trans rfl
      have hsz : 269 < a8.tmps.size := (Array.getElem?_eq_some_iff.1 o269).1
      refine ⟨by omega, wanted_free rfl, ?_⟩
      go_simp
    rcases i with _ | i
    · refine bx_store HUX rfl rfl (by decide) (by decide) rfl (by kernel_rfl) rfl ?_
      intro a8 w8 g u0 u1 u2 hg n32 hn
      obtain ⟨v177, n177, hq177⟩ := hn 4 177 (by kernel_rfl) rfl
      have hv177 : xo wb17 ⟨1, [0], []⟩ v177 w8 := hq177.2 (by decide)
      clear hn
      refine ⟨wanted_free rfl, ?_⟩
      obtain ⟨r, rfl, o⟩ := hv177
      have x0 := hg.cell 0
      have x1 := hg.cell 1
      have x2 := hg.cell 2
      have f0 := hg.frozen 0
      have f1 := hg.frozen 1
      have f2 := hg.frozen 2
      refine ⟨r, o, ?_⟩
      rw [show arC ⟨1, [0], []⟩ r = #[.int .i64 1, .slice r.A0 1 r.c0, .slice r.A1 0 r.c1] from rfl] at n177
      clear hg o
      go_simp
    rcases i with _ | i
    · refine bx_value HUX rfl (by decide) (by decide) (by decide) 33 rfl (by decide) (.int .i64 0) rfl ?_
      intro a8 w8 hb8 ho hn
      obtain ⟨v178, n178, hq178⟩ := hn 5 178 (by kernel_rfl) rfl
      obtain rfl := hq178.1 (by decide) (by decide)
      clear ho hn
      refine ⟨wanted_free rfl, ?_⟩
      go_simp
    omega
  intro dn fv wb18 hS5 hR5 hall
  obtain ⟨g18, e8, hg8, _, hfin⟩ := hS5.h (hall 6 (by decide))
  obtain ⟨r18, hb8, ho8⟩ := hfin (hall 7 (by decide))
  have hbw := hS5.b
  have h48 : fv 33 = .int .i64 0 := (hR5 8 33 rfl).1 (by decide) (by decide)
  clear hS5 hR5 hall hfin
  simp only [putAll, List.foldl_cons, List.foldl_nil, Act.put, List.setIfInBounds_toArray, List.set_cons_succ, List.set_cons_zero, List.getElem?_toArray, List.getElem?_cons_succ, List.getElem?_cons_zero, Option.some.injEq] at e8 ⊢
  rw [e8, h48]
  have HB_wb18 : Hid (Bxs wb18 [(g1, ⟨1, [3], [1, 2, 3]⟩, r1), (g2, ⟨1, [2, 2], [1, 2, 3, 4]⟩, r2), (g3, ⟨1, [3], [3, 1, 2]⟩, r3), (g4, ⟨1, [3], [2, 3, 1]⟩, r4), (g5, ⟨1, [2, 2], [1, 2, 4, 3]⟩, r5), (g6, ⟨0, [], []⟩, r6), (g7, ⟨0, [], []⟩, r7), (g8, ⟨0, [], []⟩, r8), (g9, ⟨0, [], []⟩, r9), (g11, ⟨0, [], []⟩, r11), (g12, ⟨0, [], []⟩, r12), (g13, ⟨0, [], []⟩, r13), (g14, ⟨0, [], []⟩, r14), (g15, ⟨1, [2, 2], [1, 3, 2, 4]⟩, r15), (g16, ⟨1, [], [9]⟩, r16), (g18, ⟨1, [0], []⟩, r18)]) := Lib.hid (Bxs.add (HB_wb17.out.up hbw) ⟨hb8, ho8.el (by decide) (by decide) (by decide), Cap.of ho8⟩)
  have BW_wb18 := Lib.hid (bon BW_wb17.out hbw)
  generalize fv 174 = u174
  generalize fv 175 = u175
  generalize fv 176 = u176
  generalize fv 173 = u173
  generalize fv 177 = u177
  generalize fv 178 = u178
  have BYW_wb18 : Hid (Below wb17.heap.size wb17 wb18) := Lib.hid (bon (Below.refl _ _) hbw)
  clear hb8 ho8 hbw e8 h48 hg8 HUX HB_wb17 BW_wb17
  go_upto_region 19 with (fail)
  have HUX : BxU wb18 (lookU [(0, xo wb18 ⟨1, [], [5]⟩), (1, xo wb18 ⟨1, [], [7]⟩), (2, xto wb18 ⟨1, [], [7]⟩ 0), (3, xto wb18 ⟨1, [], [7]⟩ 0), (4, xo wb18 ⟨1, [], [7]⟩)]) := lookU_two (by
    intro x hx
    simp only [List.mem_cons, List.not_mem_nil, or_false] at hx
    rcases hx with rfl | rfl | rfl | rfl | rfl <;> first | exact xo_stk _ _ | exact slo_stk _ _ _ | exact sio_stk _ _ _ | exact xto_stk _ _ _)
  refine wp_region_offT_on (BxS wb18 6 7 34 ⟨1, [], [7]⟩) (bxR 6 [0, 1, 2, 3, 4] (lookU [(0, xo wb18 ⟨1, [], [5]⟩), (1, xo wb18 ⟨1, [], [7]⟩), (2, xto wb18 ⟨1, [], [7]⟩ 0), (3, xto wb18 ⟨1, [], [7]⟩ 0), (4, xo wb18 ⟨1, [], [7]⟩)]) [undef, undef, undef, undef, undef, .int .i64 0, undef, undef, .int .i64 0]) (by kernel_rfl) 270 rfl (by kernel_rfl) ⟨Below.refl _ _, fun e => (by cases e), fun e => (by cases e)⟩ ?_ ?_
  · intro i hi
    have hi2 : i < 9 := hi
    clear hi
    rcases i with _ | i
    · refine bx_call HUX 16 rfl (by decide) (by decide) (by decide) 180 rfl (by decide) ?_
      intro a8 w8 hb8 ho hn
      clear ho hn
      refine ⟨wanted_free rfl, ?_⟩
      refine ⟨#[.int .i64 5], (by go_simp), (sca_lit 5 w8).mono ?_⟩
      rintro e wz ⟨p_, rfl, o, b⟩
      exact ⟨_, rfl, b, p_, rfl, o.mono hb8.size⟩
    rcases i with _ | i
    · refine bx_call HUX 16 rfl (by decide) (by decide) (by decide) 181 rfl (by decide) ?_
      intro a8 w8 hb8 ho hn
      clear ho hn
      refine ⟨wanted_free rfl, ?_⟩
      refine ⟨#[.int .i64 7], (by go_simp), (sca_lit 7 w8).mono ?_⟩
      rintro e wz ⟨p_, rfl, o, b⟩
      exact ⟨_, rfl, b, p_, rfl, o.mono hb8.size⟩
    rcases i with _ | i
    · refine bx_call HUX 38 rfl (by decide) (by decide) (by decide) 182 rfl (by decide) ?_
      intro a8 w8 hb8 ho hn
      obtain ⟨v180, n180, hq180⟩ := hn 0 180 (by kernel_rfl) rfl
      have hv180 : xo wb18 ⟨1, [], [5]⟩ v180 w8 := hq180.2 (by decide)
      obtain ⟨v181, n181, hq181⟩ := hn 1 181 (by kernel_rfl) rfl
      have hv181 : xo wb18 ⟨1, [], [7]⟩ v181 w8 := hq181.2 (by decide)
      clear ho hn
      refine ⟨wanted_free rfl, ?_⟩
      obtain ⟨q0_, rfl, o0_⟩ := hv180
      obtain ⟨q1_, rfl, o1_⟩ := hv181
      refine ⟨#[.agg (arC ⟨1, [], [5]⟩ q0_), .agg (arC ⟨1, [], [7]⟩ q1_)], (by go_simp), (c15 q0_ q1_ w8 (o0_.el (by decide) (by decide) (by decide)) (Cap.of o0_) (o1_.el (by decide) (by decide) (by decide)) (Cap.of o1_)).mono ?_⟩
      rintro e wz ⟨r, rfl, o9, b9⟩
      exact ⟨_, rfl, b9, r, rfl, o9.mono hb8.size⟩
    rcases i with _ | i
    · refine bx_make HUX rfl (by decide) (by decide) (by decide) 179 rfl (by decide) ?_
      intro a8 w8 hb8 ho hn
      obtain ⟨v182, n182, hq182⟩ := hn 2 182 (by kernel_rfl) rfl
      have hv182 : xto wb18 ⟨1, [], [7]⟩ 0 v182 w8 := hq182.2 (by decide)
      clear ho hn
      refine ⟨wanted_free rfl, ?_⟩
      exact ⟨v182, w8, (by go_simp), Below.refl _ _, hv182⟩
    rcases i with _ | i
    · refine bx_make HUX rfl (by decide) (by decide) (by decide) 183 rfl (by decide) ?_
      intro a8 w8 hb8 ho hn
      obtain ⟨v179, n179, hq179⟩ := hn 3 179 (by kernel_rfl) rfl
      have hv179 : xto wb18 ⟨1, [], [7]⟩ 0 v179 w8 := hq179.2 (by decide)
      clear ho hn
      refine ⟨wanted_free rfl, ?_⟩
      obtain ⟨p_, rfl, o⟩ := hv179
      exact ⟨.agg (arC ⟨1, [], [7]⟩ p_), w8, (by go_simp), Below.refl _ _, p_, rfl, o⟩
    rcases i with _ | i
    · refine bx_value HUX rfl (by decide) (by decide) (by decide) 184 rfl (by decide) (.int .i64 0) rfl ?_
      intro a8 w8 hb8 ho hn
      obtain ⟨v179, n179, hq179⟩ := hn 3 179 (by kernel_rfl) rfl
      have hv179 : xto wb18 ⟨1, [], [7]⟩ 0 v179 w8 := hq179.2 (by decide)
      clear ho hn
      refine ⟨wanted_free rfl, ?_⟩
      obtain ⟨p_, rfl, o⟩ := hv179
      go_simp
    rcases i with _ | i
    · refine bx_alloc HUX rfl (by decide) (by decide) rfl (.int .i64 0) (.slice none 0 0) (.slice none 0 0) ?_
      intro a8 w8 ho
      have o269 : a8.tmps[269]? = some _ := (ho 269 (by kernel_rfl)).trans rfl
      have hsz : 269 < a8.tmps.size := (Array.getElem?_eq_some_iff.1 o269).1
      refine ⟨by omega, wanted_free rfl, ?_⟩
      go_simp
    rcases i with _ | i
    · refine bx_store HUX rfl rfl (by decide) (by decide) rfl (by kernel_rfl) rfl ?_
      intro a8 w8 g u0 u1 u2 hg n34 hn
      obtain ⟨v183, n183, hq183⟩ := hn 4 183 (by kernel_rfl) rfl
      have hv183 : xo wb18 ⟨1, [], [7]⟩ v183 w8 := hq183.2 (by decide)
      clear hn
      refine ⟨wanted_free rfl, ?_⟩
      obtain ⟨r, rfl, o⟩ := hv183
      have x0 := hg.cell 0
      have x1 := hg.cell 1
      have x2 := hg.cell 2
      have f0 := hg.frozen 0
      have f1 := hg.frozen 1
      have f2 := hg.frozen 2
      refine ⟨r, o, ?_⟩
      rw [show arC ⟨1, [], [7]⟩ r = #[.int .i64 1, .slice r.A0 0 r.c0, .slice r.A1 1 r.c1] from rfl] at n183
      clear hg o
      go_simp
    rcases i with _ | i
    · refine bx_value HUX rfl (by decide) (by decide) (by decide) 35 rfl (by decide) (.int .i64 0) rfl ?_
      intro a8 w8 hb8 ho hn
      obtain ⟨v184, n184, hq184⟩ := hn 5 184 (by kernel_rfl) rfl
      obtain rfl := hq184.1 (by decide) (by decide)
      clear ho hn
      refine ⟨wanted_free rfl, ?_⟩
      go_simp
    omega
  intro dn fv wb19 hS5 hR5 hall
  obtain ⟨g19, e8, hg8, _, hfin⟩ := hS5.h (hall 6 (by decide))
  obtain ⟨r19, hb8, ho8⟩ := hfin (hall 7 (by decide))
  have hbw := hS5.b
  have h48 : fv 35 = .int .i64 0 := (hR5 8 35 rfl).1 (by decide) (by decide)
  clear hS5 hR5 hall hfin
  simp only [putAll, List.foldl_cons, List.foldl_nil, Act.put, List.setIfInBounds_toArray, List.set_cons_succ, List.set_cons_zero, List.getElem?_toArray, List.getElem?_cons_succ, List.getElem?_cons_zero, Option.some.injEq] at e8 ⊢
  rw [e8, h48]
  have HB_wb19 : Hid (Bxs wb19 [(g1, ⟨1, [3], [1, 2, 3]⟩, r1), (g2, ⟨1, [2, 2], [1, 2, 3, 4]⟩, r2), (g3, ⟨1, [3], [3, 1, 2]⟩, r3), (g4, ⟨1, [3], [2, 3, 1]⟩, r4), (g5, ⟨1, [2, 2], [1, 2, 4, 3]⟩, r5), (g6, ⟨0, [], []⟩, r6), (g7, ⟨0, [], []⟩, r7), (g8, ⟨0, [], []⟩, r8), (g9, ⟨0, [], []⟩, r9), (g11, ⟨0, [], []⟩, r11), (g12, ⟨0, [], []⟩, r12), (g13, ⟨0, [], []⟩, r13), (g14, ⟨0, [], []⟩, r14), (g15, ⟨1, [2, 2], [1, 3, 2, 4]⟩, r15), (g16, ⟨1, [], [9]⟩, r16), (g18, ⟨1, [0], []⟩, r18), (g19, ⟨1, [], [7]⟩, r19)]) := Lib.hid (Bxs.add (HB_wb18.out.up hbw) ⟨hb8, ho8.el (by decide) (by decide) (by decide), Cap.of ho8⟩)
  have BW_wb19 := Lib.hid (bon BW_wb18.out hbw)
  generalize fv 180 = u180
  generalize fv 181 = u181
  generalize fv 182 = u182
  generalize fv 179 = u179
  generalize fv 183 = u183
  generalize fv 184 = u184
  have BYW_wb19 : Hid (Below wb17.heap.size wb17 wb19) := Lib.hid (bon BYW_wb18.out hbw)
  clear hb8 ho8 hbw e8 h48 hg8 HUX HB_wb18 BW_wb18
  go_upto_region 20 with (fail)
  have HUX : BxU wb19 (lookU [(0, xo wb19 ⟨2, [2], [97, 98]⟩), (1, xto wb19 ⟨2, [2], [98, 97]⟩ 0), (2, xto wb19 ⟨2, [2], [98, 97]⟩ 0), (3, xo wb19 ⟨2, [2], [98, 97]⟩)]) := lookU_two (by
    intro x hx
    simp only [List.mem_cons, List.not_mem_nil, or_false] at hx
    rcases hx with rfl | rfl | rfl | rfl <;> first | exact xo_stk _ _ | exact slo_stk _ _ _ | exact sio_stk _ _ _ | exact xto_stk _ _ _)
  refine wp_region_offT_on (BxS wb19 5 6 36 ⟨2, [2], [98, 97]⟩) (bxR 5 [0, 1, 2, 3] (lookU [(0, xo wb19 ⟨2, [2], [97, 98]⟩), (1, xto wb19 ⟨2, [2], [98, 97]⟩ 0), (2, xto wb19 ⟨2, [2], [98, 97]⟩ 0), (3, xo wb19 ⟨2, [2], [98, 97]⟩)]) [undef, undef, undef, undef, .int .i64 0, undef, undef, .int .i64 0]) (by kernel_rfl) 270 rfl (by kernel_rfl) ⟨Below.refl _ _, fun e => (by cases e), fun e => (by cases e)⟩ ?_ ?_
  · intro i hi
    have hi2 : i < 8 := hi
    clear hi
    rcases i with _ | i
    · refine bx_call HUX 17 rfl (by decide) (by decide) (by decide) 186 rfl (by decide) ?_
      intro a8 w8 hb8 ho hn
      clear ho hn
      refine ⟨wanted_free rfl, ?_⟩
      refine ⟨#[.string { data := #[97, 98] }], (by go_simp), (chr_lit { data := #[97, 98] } [97, 98] (by decide) (by decide +kernel) 2 (by decide) w8).mono ?_⟩
      rintro e wz ⟨p_, rfl, o, b⟩
      exact ⟨_, rfl, b, p_, rfl, o.mono hb8.size⟩
    rcases i with _ | i
    · refine bx_call HUX 42 rfl (by decide) (by decide) (by decide) 187 rfl (by decide) ?_
      intro a8 w8 hb8 ho hn
      obtain ⟨v186, n186, hq186⟩ := hn 0 186 (by kernel_rfl) rfl
      have hv186 : xo wb19 ⟨2, [2], [97, 98]⟩ v186 w8 := hq186.2 (by decide)
      clear ho hn
      refine ⟨wanted_free rfl, ?_⟩
      obtain ⟨q0_, rfl, o0_⟩ := hv186
      refine ⟨#[.agg (arC ⟨2, [2], [97, 98]⟩ q0_)], (by go_simp), (c16 q0_ w8 (o0_.el (by decide) (by decide) (by decide)) (Cap.of o0_)).mono ?_⟩
      rintro e wz ⟨r, rfl, o9, b9⟩
      exact ⟨_, rfl, b9, r, rfl, o9.mono hb8.size⟩
    rcases i with _ | i
    · refine bx_make HUX rfl (by decide) (by decide) (by decide) 185 rfl (by decide) ?_
      intro a8 w8 hb8 ho hn
      obtain ⟨v187, n187, hq187⟩ := hn 1 187 (by kernel_rfl) rfl
      have hv187 : xto wb19 ⟨2, [2], [98, 97]⟩ 0 v187 w8 := hq187.2 (by decide)
      clear ho hn
      refine ⟨wanted_free rfl, ?_⟩
      exact ⟨v187, w8, (by go_simp), Below.refl _ _, hv187⟩
    rcases i with _ | i
    · refine bx_make HUX rfl (by decide) (by decide) (by decide) 188 rfl (by decide) ?_
      intro a8 w8 hb8 ho hn
      obtain ⟨v185, n185, hq185⟩ := hn 2 185 (by kernel_rfl) rfl
      have hv185 : xto wb19 ⟨2, [2], [98, 97]⟩ 0 v185 w8 := hq185.2 (by decide)
      clear ho hn
      refine ⟨wanted_free rfl, ?_⟩
      obtain ⟨p_, rfl, o⟩ := hv185
      exact ⟨.agg (arC ⟨2, [2], [98, 97]⟩ p_), w8, (by go_simp), Below.refl _ _, p_, rfl, o⟩
    rcases i with _ | i
    · refine bx_value HUX rfl (by decide) (by decide) (by decide) 189 rfl (by decide) (.int .i64 0) rfl ?_
      intro a8 w8 hb8 ho hn
      obtain ⟨v185, n185, hq185⟩ := hn 2 185 (by kernel_rfl) rfl
      have hv185 : xto wb19 ⟨2, [2], [98, 97]⟩ 0 v185 w8 := hq185.2 (by decide)
      clear ho hn
      refine ⟨wanted_free rfl, ?_⟩
      obtain ⟨p_, rfl, o⟩ := hv185
      go_simp
    rcases i with _ | i
    · refine bx_alloc HUX rfl (by decide) (by decide) rfl (.int .i64 0) (.slice none 0 0) (.slice none 0 0) ?_
      intro a8 w8 ho
      have o269 : a8.tmps[269]? = some _ := (ho 269 (by kernel_rfl)).trans rfl
      have hsz : 269 < a8.tmps.size := (Array.getElem?_eq_some_iff.1 o269).1
      refine ⟨by omega, wanted_free rfl, ?_⟩
      go_simp
    rcases i with _ | i
    · refine bx_store HUX rfl rfl (by decide) (by decide) rfl (by kernel_rfl) rfl ?_
      intro a8 w8 g u0 u1 u2 hg n36 hn
      obtain ⟨v188, n188, hq188⟩ := hn 3 188 (by kernel_rfl) rfl
      have hv188 : xo wb19 ⟨2, [2], [98, 97]⟩ v188 w8 := hq188.2 (by decide)
      clear hn
      refine ⟨wanted_free rfl, ?_⟩
      obtain ⟨r, rfl, o⟩ := hv188
      have x0 := hg.cell 0
      have x1 := hg.cell 1
      have x2 := hg.cell 2
      have f0 := hg.frozen 0
      have f1 := hg.frozen 1
      have f2 := hg.frozen 2
      refine ⟨r, o, ?_⟩
      rw [show arC ⟨2, [2], [98, 97]⟩ r = #[.int .i64 2, .slice r.A0 1 r.c0, .slice r.A1 2 r.c1] from rfl] at n188
      clear hg o
      go_simp
    rcases i with _ | i
    · refine bx_value HUX rfl (by decide) (by decide) (by decide) 37 rfl (by decide) (.int .i64 0) rfl ?_
      intro a8 w8 hb8 ho hn
      obtain ⟨v189, n189, hq189⟩ := hn 4 189 (by kernel_rfl) rfl
      obtain rfl := hq189.1 (by decide) (by decide)
      clear ho hn
      refine ⟨wanted_free rfl, ?_⟩
      go_simp
    omega
  intro dn fv wb20 hS5 hR5 hall
  obtain ⟨g20, e8, hg8, _, hfin⟩ := hS5.h (hall 5 (by decide))
  obtain ⟨r20, hb8, ho8⟩ := hfin (hall 6 (by decide))
  have hbw := hS5.b
  have h48 : fv 37 = .int .i64 0 := (hR5 7 37 rfl).1 (by decide) (by decide)
  clear hS5 hR5 hall hfin
  simp only [putAll, List.foldl_cons, List.foldl_nil, Act.put, List.setIfInBounds_toArray, List.set_cons_succ, List.set_cons_zero, List.getElem?_toArray, List.getElem?_cons_succ, List.getElem?_cons_zero, Option.some.injEq] at e8 ⊢
  rw [e8, h48]
  have HB_wb20 : Hid (Bxs wb20 [(g1, ⟨1, [3], [1, 2, 3]⟩, r1), (g2, ⟨1, [2, 2], [1, 2, 3, 4]⟩, r2), (g3, ⟨1, [3], [3, 1, 2]⟩, r3), (g4, ⟨1, [3], [2, 3, 1]⟩, r4), (g5, ⟨1, [2, 2], [1, 2, 4, 3]⟩, r5), (g6, ⟨0, [], []⟩, r6), (g7, ⟨0, [], []⟩, r7), (g8, ⟨0, [], []⟩, r8), (g9, ⟨0, [], []⟩, r9), (g11, ⟨0, [], []⟩, r11), (g12, ⟨0, [], []⟩, r12), (g13, ⟨0, [], []⟩, r13), (g14, ⟨0, [], []⟩, r14), (g15, ⟨1, [2, 2], [1, 3, 2, 4]⟩, r15), (g16, ⟨1, [], [9]⟩, r16), (g18, ⟨1, [0], []⟩, r18), (g19, ⟨1, [], [7]⟩, r19), (g20, ⟨2, [2], [98, 97]⟩, r20)]) := Lib.hid (Bxs.add (HB_wb19.out.up hbw) ⟨hb8, ho8.el (by decide) (by decide) (by decide), Cap.of ho8⟩)
  have BW_wb20 := Lib.hid (bon BW_wb19.out hbw)
  generalize fv 186 = u186
  generalize fv 187 = u187
  generalize fv 185 = u185
  generalize fv 188 = u188
  generalize fv 189 = u189
  have BYW_wb20 : Hid (Below wb17.heap.size wb17 wb20) := Lib.hid (bon BYW_wb19.out hbw)
  clear hb8 ho8 hbw e8 h48 hg8 HUX HB_wb19 BW_wb19
  go_upto_region 21 with (fail)
  have HUX : BxU wb20 (lookU [(0, xo wb20 ⟨0, [], []⟩), (1, xto wb20 ⟨0, [], []⟩ 110), (2, xto wb20 ⟨0, [], []⟩ 110), (3, xo wb20 ⟨0, [], []⟩)]) := lookU_two (by
    intro x hx
    simp only [List.mem_cons, List.not_mem_nil, or_false] at hx
    rcases hx with rfl | rfl | rfl | rfl <;> first | exact xo_stk _ _ | exact slo_stk _ _ _ | exact sio_stk _ _ _ | exact xto_stk _ _ _)
  refine wp_region_offT_on (BxS wb20 5 6 38 ⟨0, [], []⟩) (bxR 5 [0, 1, 2, 3] (lookU [(0, xo wb20 ⟨0, [], []⟩), (1, xto wb20 ⟨0, [], []⟩ 110), (2, xto wb20 ⟨0, [], []⟩ 110), (3, xo wb20 ⟨0, [], []⟩)]) [undef, undef, undef, undef, .int .i64 110, undef, undef, .int .i64 110]) (by kernel_rfl) 270 rfl (by kernel_rfl) ⟨Below.refl _ _, fun e => (by cases e), fun e => (by cases e)⟩ ?_ ?_
  · intro i hi
    have hi2 : i < 8 := hi
    clear hi
    rcases i with _ | i
    · refine bx_make HUX rfl (by decide) (by decide) (by decide) 191 rfl (by decide) ?_
      intro a8 w8 hb8 ho hn
      clear ho hn
      refine ⟨wanted_free rfl, ?_⟩
      exact ⟨.agg #[.int .i64 0, .slice none 0 0, .slice none 0 0], w8, (by go_simp), Below.refl _ _, ⟨none, 0, none, 0⟩, rfl, own_none _ _⟩
    rcases i with _ | i
    · refine bx_call HUX 43 rfl (by decide) (by decide) (by decide) 192 rfl (by decide) ?_
      intro a8 w8 hb8 ho hn
      obtain ⟨v191, n191, hq191⟩ := hn 0 191 (by kernel_rfl) rfl
      have hv191 : xo wb20 ⟨0, [], []⟩ v191 w8 := hq191.2 (by decide)
      clear ho hn
      refine ⟨wanted_free rfl, ?_⟩
      obtain ⟨q0_, rfl, o0_⟩ := hv191
      refine ⟨#[.agg (arC ⟨0, [], []⟩ q0_)], (by go_simp), (c17 q0_ w8 (o0_.el (by decide) (by decide) (by decide)) (Cap.of o0_)).mono ?_⟩
      rintro e wz ⟨r, rfl, o9, b9⟩
      exact ⟨_, rfl, b9, r, rfl, o9.mono hb8.size⟩
    rcases i with _ | i
    · refine bx_make HUX rfl (by decide) (by decide) (by decide) 190 rfl (by decide) ?_
      intro a8 w8 hb8 ho hn
      obtain ⟨v192, n192, hq192⟩ := hn 1 192 (by kernel_rfl) rfl
      have hv192 : xto wb20 ⟨0, [], []⟩ 110 v192 w8 := hq192.2 (by decide)
      clear ho hn
      refine ⟨wanted_free rfl, ?_⟩
      exact ⟨v192, w8, (by go_simp), Below.refl _ _, hv192⟩
    rcases i with _ | i
    · refine bx_make HUX rfl (by decide) (by decide) (by decide) 193 rfl (by decide) ?_
      intro a8 w8 hb8 ho hn
      obtain ⟨v190, n190, hq190⟩ := hn 2 190 (by kernel_rfl) rfl
      have hv190 : xto wb20 ⟨0, [], []⟩ 110 v190 w8 := hq190.2 (by decide)
      clear ho hn
      refine ⟨wanted_free rfl, ?_⟩
      obtain ⟨p_, rfl, o⟩ := hv190
      exact ⟨.agg (arC ⟨0, [], []⟩ p_), w8, (by go_simp), Below.refl _ _, p_, rfl, o⟩
    rcases i with _ | i
    · refine bx_value HUX rfl (by decide) (by decide) (by decide) 194 rfl (by decide) (.int .i64 110) rfl ?_
      intro a8 w8 hb8 ho hn
      obtain ⟨v190, n190, hq190⟩ := hn 2 190 (by kernel_rfl) rfl
      have hv190 : xto wb20 ⟨0, [], []⟩ 110 v190 w8 := hq190.2 (by decide)
      clear ho hn
      refine ⟨wanted_free rfl, ?_⟩
      obtain ⟨p_, rfl, o⟩ := hv190
      go_simp
    rcases i with _ | i
    · refine bx_alloc HUX rfl (by decide) (by decide) rfl (.int .i64 0) (.slice none 0 0) (.slice none 0 0) ?_
      intro a8 w8 ho
      have o269 : a8.tmps[269]? = some _ := (ho 269 (by kernel_rfl)).trans rfl
      have hsz : 269 < a8.tmps.size := (Array.getElem?_eq_some_iff.1 o269).1
      refine ⟨by omega, wanted_free rfl, ?_⟩
      go_simp
    rcases i with _ | i
    · refine bx_store HUX rfl rfl (by decide) (by decide) rfl (by kernel_rfl) rfl ?_
      intro a8 w8 g u0 u1 u2 hg n38 hn
      obtain ⟨v193, n193, hq193⟩ := hn 3 193 (by kernel_rfl) rfl
      have hv193 : xo wb20 ⟨0, [], []⟩ v193 w8 := hq193.2 (by decide)
      clear hn
      refine ⟨wanted_free rfl, ?_⟩
      obtain ⟨r, rfl, o⟩ := hv193
      have x0 := hg.cell 0
      have x1 := hg.cell 1
      have x2 := hg.cell 2
      have f0 := hg.frozen 0
      have f1 := hg.frozen 1
      have f2 := hg.frozen 2
      refine ⟨r, o, ?_⟩
      rw [show arC ⟨0, [], []⟩ r = #[.int .i64 0, .slice r.A0 0 r.c0, .slice r.A1 0 r.c1] from rfl] at n193
      clear hg o
      go_simp
    rcases i with _ | i
    · refine bx_value HUX rfl (by decide) (by decide) (by decide) 39 rfl (by decide) (.int .i64 110) rfl ?_
      intro a8 w8 hb8 ho hn
      obtain ⟨v194, n194, hq194⟩ := hn 4 194 (by kernel_rfl) rfl
      obtain rfl := hq194.1 (by decide) (by decide)
      clear ho hn
      refine ⟨wanted_free rfl, ?_⟩
      go_simp
    omega
  intro dn fv wb21 hS5 hR5 hall
  obtain ⟨g21, e8, hg8, _, hfin⟩ := hS5.h (hall 5 (by decide))
  obtain ⟨r21, hb8, ho8⟩ := hfin (hall 6 (by decide))
  have hbw := hS5.b
  have h48 : fv 39 = .int .i64 110 := (hR5 7 39 rfl).1 (by decide) (by decide)
  clear hS5 hR5 hall hfin
  simp only [putAll, List.foldl_cons, List.foldl_nil, Act.put, List.setIfInBounds_toArray, List.set_cons_succ, List.set_cons_zero, List.getElem?_toArray, List.getElem?_cons_succ, List.getElem?_cons_zero, Option.some.injEq] at e8 ⊢
  rw [e8, h48]
  have HB_wb21 : Hid (Bxs wb21 [(g1, ⟨1, [3], [1, 2, 3]⟩, r1), (g2, ⟨1, [2, 2], [1, 2, 3, 4]⟩, r2), (g3, ⟨1, [3], [3, 1, 2]⟩, r3), (g4, ⟨1, [3], [2, 3, 1]⟩, r4), (g5, ⟨1, [2, 2], [1, 2, 4, 3]⟩, r5), (g6, ⟨0, [], []⟩, r6), (g7, ⟨0, [], []⟩, r7), (g8, ⟨0, [], []⟩, r8), (g9, ⟨0, [], []⟩, r9), (g11, ⟨0, [], []⟩, r11), (g12, ⟨0, [], []⟩, r12), (g13, ⟨0, [], []⟩, r13), (g14, ⟨0, [], []⟩, r14), (g15, ⟨1, [2, 2], [1, 3, 2, 4]⟩, r15), (g16, ⟨1, [], [9]⟩, r16), (g18, ⟨1, [0], []⟩, r18), (g19, ⟨1, [], [7]⟩, r19), (g20, ⟨2, [2], [98, 97]⟩, r20), (g21, ⟨0, [], []⟩, r21)]) := Lib.hid (Bxs.add (HB_wb20.out.up hbw) ⟨hb8, ho8.el (by decide) (by decide) (by decide), Cap.of ho8⟩)
  have BW_wb21 := Lib.hid (bon BW_wb20.out hbw)
  generalize fv 191 = u191
  generalize fv 192 = u192
  generalize fv 190 = u190
  generalize fv 193 = u193
  generalize fv 194 = u194
  have BYW_wb21 : Hid (Below wb17.heap.size wb17 wb21) := Lib.hid (bon BYW_wb20.out hbw)
  clear hb8 ho8 hbw e8 h48 hg8 HUX HB_wb20 BW_wb20
  go_upto_region 23 with (go_at_call 44; refine (way2 _ 1 _ (lit_at (xs := [.int .i64 (-1)]) rfl (by simp))).mono ?_; rintro e wy2 ⟨rfl, by_⟩; have BY := Lib.hid (bon (albel wb21 _) by_); clear by_)
  obtain ⟨wb22, hw9⟩ : ∃ W, wy2.alloc (.cells #[.slice none 0 0, .nilFunc] 37) = W := ⟨_, rfl⟩
  obtain ⟨g_z, hg9⟩ : ∃ g, wy2.heap.size = g := ⟨_, rfl⟩
  have b9 : Below wb21.heap.size wb21 wb22 := by rw [← hw9]; exact bon BY.out (albel _ _)
  have HB_wb22 := Lib.hid (HB_wb21.out.up b9)
  have BW_wb22 := Lib.hid (bon BW_wb21.out b9)
  have BY_wb22 : Hid (Below wb17.heap.size wb17 wb22) := Lib.hid (bon BYW_wb21.out b9)
  have BB_wb22 : Hid (∀ {W : World}, Below wb22.heap.size wb22 W → Below wb17.heap.size wb17 W) := Lib.hid (fun h => bon BY_wb22.out h)
  rw [hw9, hg9]
  clear hw9 hg9 b9 BY HB_wb21 BW_wb21
  go_upto_region 23 with (fail)
  have HU : GU (lookU [(17, slo wb22 4 #[.int .i64 1, .int .i64 3, .int .i64 2, .int .i64 4]), (18, xo wb22 ⟨1, [2, 2], [1, 3, 2, 4]⟩), (19, xv (.bool true)), (24, xo wb22 ⟨1, [], [9]⟩), (25, xv (.bool true)), (34, sio wb22 3 #[.int .i64 4, .int .i64 2, .int .i64 3]), (35, xv (.bool true)), (40, xo wb22 ⟨1, [0], []⟩), (41, xv (.bool true)), (46, xo wb22 ⟨1, [], [7]⟩), (47, xv (.bool true)), (52, xo wb22 ⟨2, [2], [98, 97]⟩), (53, xv (.bool true))]) := lookU_stay (by
    intro x hx
    simp only [List.mem_cons, List.not_mem_nil, or_false] at hx
    rcases hx with rfl | rfl | rfl | rfl | rfl | rfl | rfl | rfl | rfl | rfl | rfl | rfl | rfl <;> first | exact (slo_stk _ _ _).1 | exact (sio_stk _ _ _).1 | exact (xo_stk _ _).1 | exact xv_stk _)
  refine wp_region_done_on (GS wb22) (GR [17, 18, 19, 24, 25, 34, 35, 40, 41, 46, 47, 52, 53] (lookU [(17, slo wb22 4 #[.int .i64 1, .int .i64 3, .int .i64 2, .int .i64 4]), (18, xo wb22 ⟨1, [2, 2], [1, 3, 2, 4]⟩), (19, xv (.bool true)), (24, xo wb22 ⟨1, [], [9]⟩), (25, xv (.bool true)), (34, sio wb22 3 #[.int .i64 4, .int .i64 2, .int .i64 3]), (35, xv (.bool true)), (40, xo wb22 ⟨1, [0], []⟩), (41, xv (.bool true)), (46, xo wb22 ⟨1, [], [7]⟩), (47, xv (.bool true)), (52, xo wb22 ⟨2, [2], [98, 97]⟩), (53, xv (.bool true))]) [.int .i64 5, .bool true, .bool true, .int .i64 5, .bool true, .bool true, .bool true, .int .i64 4, .bool true, .bool true, .bool true, .int .i64 3, .bool true, .bool true, .bool true, .agg #[.int .i64 1, .slice r15.A0 2 r15.c0, .slice r15.A1 4 r15.c1], .int .i64 0, undef, undef, undef, .bool true, .bool true, .agg #[.int .i64 1, .slice r16.A0 0 r16.c0, .slice r16.A1 1 r16.c1], .int .i64 0, undef, undef, .bool true, .bool true, .int .i64 0, .bool true, .bool true, .bool true, .pointer (some ⟨g_y, 0, none⟩), .slice A_y 3 c_y, undef, undef, .bool true, .bool true, .agg #[.int .i64 1, .slice r18.A0 1 r18.c0, .slice r18.A1 0 r18.c1], .int .i64 0, undef, undef, .bool true, .bool true, .agg #[.int .i64 1, .slice r19.A0 0 r19.c0, .slice r19.A1 1 r19.c1], .int .i64 0, undef, undef, .bool true, .bool true, .agg #[.int .i64 2, .slice r20.A0 1 r20.c0, .slice r20.A1 2 r20.c1], .int .i64 0, undef, undef, .bool true, .bool true, .int .i64 110, .bool true, .bool true, .bool true, .int .i64 110, .bool true, .bool true, .bool true]) (by kernel_rfl) 270 rfl (by kernel_rfl) ((Below.refl _ _).drew) ?_ ?_
  · intro i hi
    have hi2 : i < 64 := hi
    clear hi
    rcases i with _ | i
    · refine gr_value rfl (by decide) (.int .i64 5) rfl ?_
      intro a8 w8 hb8 ho hn
      have o19 : a8.tmps[19]? = some _ := (ho 19 (by kernel_rfl)).trans rfl
      clear ho hn
      refine ⟨wanted_free rfl, ?_⟩
      go_simp
    rcases i with _ | i
    · refine gr_value rfl (by decide) (.bool true) rfl ?_
      intro a8 w8 hb8 ho hn
      obtain ⟨v200, n200, hq200⟩ := hn 0 200 (by kernel_rfl) rfl
      obtain rfl := hq200.1 (by decide)
      clear ho hn
      refine ⟨wanted_free rfl, ?_⟩
      go_simp
    rcases i with _ | i
    · refine gr_value rfl (by decide) (.bool true) rfl ?_
      intro a8 w8 hb8 ho hn
      obtain ⟨v201, n201, hq201⟩ := hn 1 201 (by kernel_rfl) rfl
      obtain rfl := hq201.1 (by decide)
      clear ho hn
      refine ⟨wanted_free rfl, ?_⟩
      go_simp
    rcases i with _ | i
    · refine gr_value rfl (by decide) (.int .i64 5) rfl ?_
      intro a8 w8 hb8 ho hn
      have o21 : a8.tmps[21]? = some _ := (ho 21 (by kernel_rfl)).trans rfl
      obtain ⟨v202, n202, hq202⟩ := hn 2 202 (by kernel_rfl) rfl
      obtain rfl := hq202.1 (by decide)
      clear ho hn
      refine ⟨wanted_of 2 202 rfl rfl n202, ?_⟩
      go_simp
    rcases i with _ | i
    · refine gr_value rfl (by decide) (.bool true) rfl ?_
      intro a8 w8 hb8 ho hn
      obtain ⟨v203, n203, hq203⟩ := hn 3 203 (by kernel_rfl) rfl
      obtain rfl := hq203.1 (by decide)
      obtain ⟨v202, n202, hq202⟩ := hn 2 202 (by kernel_rfl) rfl
      obtain rfl := hq202.1 (by decide)
      clear ho hn
      refine ⟨wanted_of 2 202 rfl rfl n202, ?_⟩
      go_simp
    rcases i with _ | i
    · refine gr_value rfl (by decide) (.bool true) rfl ?_
      intro a8 w8 hb8 ho hn
      obtain ⟨v202, n202, hq202⟩ := hn 2 202 (by kernel_rfl) rfl
      obtain rfl := hq202.1 (by decide)
      obtain ⟨v204, n204, hq204⟩ := hn 4 204 (by kernel_rfl) rfl
      obtain rfl := hq204.1 (by decide)
      clear ho hn
      refine ⟨wanted_free rfl, ?_⟩
      go_simp
    rcases i with _ | i
    · refine gr_value rfl (by decide) (.bool true) rfl ?_
      intro a8 w8 hb8 ho hn
      obtain ⟨v205, n205, hq205⟩ := hn 5 205 (by kernel_rfl) rfl
      obtain rfl := hq205.1 (by decide)
      clear ho hn
      refine ⟨wanted_free rfl, ?_⟩
      go_simp
    rcases i with _ | i
    · refine gr_value rfl (by decide) (.int .i64 4) rfl ?_
      intro a8 w8 hb8 ho hn
      have o23 : a8.tmps[23]? = some _ := (ho 23 (by kernel_rfl)).trans rfl
      obtain ⟨v206, n206, hq206⟩ := hn 6 206 (by kernel_rfl) rfl
      obtain rfl := hq206.1 (by decide)
      clear ho hn
      refine ⟨wanted_of 6 206 rfl rfl n206, ?_⟩
      go_simp
    rcases i with _ | i
    · refine gr_value rfl (by decide) (.bool true) rfl ?_
      intro a8 w8 hb8 ho hn
      obtain ⟨v207, n207, hq207⟩ := hn 7 207 (by kernel_rfl) rfl
      obtain rfl := hq207.1 (by decide)
      obtain ⟨v206, n206, hq206⟩ := hn 6 206 (by kernel_rfl) rfl
      obtain rfl := hq206.1 (by decide)
      clear ho hn
      refine ⟨wanted_of 6 206 rfl rfl n206, ?_⟩
      go_simp
    rcases i with _ | i
    · refine gr_value rfl (by decide) (.bool true) rfl ?_
      intro a8 w8 hb8 ho hn
      obtain ⟨v206, n206, hq206⟩ := hn 6 206 (by kernel_rfl) rfl
      obtain rfl := hq206.1 (by decide)
      obtain ⟨v208, n208, hq208⟩ := hn 8 208 (by kernel_rfl) rfl
      obtain rfl := hq208.1 (by decide)
      clear ho hn
      refine ⟨wanted_free rfl, ?_⟩
      go_simp
    rcases i with _ | i
    · refine gr_value rfl (by decide) (.bool true) rfl ?_
      intro a8 w8 hb8 ho hn
      obtain ⟨v209, n209, hq209⟩ := hn 9 209 (by kernel_rfl) rfl
      obtain rfl := hq209.1 (by decide)
      clear ho hn
      refine ⟨wanted_free rfl, ?_⟩
      go_simp
    rcases i with _ | i
    · refine gr_value rfl (by decide) (.int .i64 3) rfl ?_
      intro a8 w8 hb8 ho hn
      have o25 : a8.tmps[25]? = some _ := (ho 25 (by kernel_rfl)).trans rfl
      obtain ⟨v210, n210, hq210⟩ := hn 10 210 (by kernel_rfl) rfl
      obtain rfl := hq210.1 (by decide)
      clear ho hn
      refine ⟨wanted_of 10 210 rfl rfl n210, ?_⟩
      go_simp
    rcases i with _ | i
    · refine gr_value rfl (by decide) (.bool true) rfl ?_
      intro a8 w8 hb8 ho hn
      obtain ⟨v211, n211, hq211⟩ := hn 11 211 (by kernel_rfl) rfl
      obtain rfl := hq211.1 (by decide)
      obtain ⟨v210, n210, hq210⟩ := hn 10 210 (by kernel_rfl) rfl
      obtain rfl := hq210.1 (by decide)
      clear ho hn
      refine ⟨wanted_of 10 210 rfl rfl n210, ?_⟩
      go_simp
    rcases i with _ | i
    · refine gr_value rfl (by decide) (.bool true) rfl ?_
      intro a8 w8 hb8 ho hn
      obtain ⟨v210, n210, hq210⟩ := hn 10 210 (by kernel_rfl) rfl
      obtain rfl := hq210.1 (by decide)
      obtain ⟨v212, n212, hq212⟩ := hn 12 212 (by kernel_rfl) rfl
      obtain rfl := hq212.1 (by decide)
      clear ho hn
      refine ⟨wanted_free rfl, ?_⟩
      go_simp
    rcases i with _ | i
    · refine gr_value rfl (by decide) (.bool true) rfl ?_
      intro a8 w8 hb8 ho hn
      obtain ⟨v213, n213, hq213⟩ := hn 13 213 (by kernel_rfl) rfl
      obtain rfl := hq213.1 (by decide)
      clear ho hn
      refine ⟨wanted_free rfl, ?_⟩
      go_simp
    rcases i with _ | i
    · refine gr_value rfl (by decide) (.agg #[.int .i64 1, .slice r15.A0 2 r15.c0, .slice r15.A1 4 r15.c1]) rfl ?_
      intro a8 w8 hb8 ho hn
      have o26 : a8.tmps[26]? = some _ := (ho 26 (by kernel_rfl)).trans rfl
      obtain ⟨v214, n214, hq214⟩ := hn 14 214 (by kernel_rfl) rfl
      obtain rfl := hq214.1 (by decide)
      clear ho hn
      refine ⟨wanted_of 14 214 rfl rfl n214, ?_⟩
      have x := (HB_wb22.out.up hb8) 13 _ _ _ rfl
      have x0 : w8.cell? ⟨g15, 0, none⟩ = some (.int .i64 1) := x.k.cell 0
      have x1 : w8.cell? ⟨g15, 1, none⟩ = some (.slice r15.A0 2 r15.c0) := x.k.cell 1
      have x2 : w8.cell? ⟨g15, 2, none⟩ = some (.slice r15.A1 4 r15.c1) := x.k.cell 2
      clear x
      go_simp
    rcases i with _ | i
    · refine gr_value rfl (by decide) (.int .i64 0) rfl ?_
      intro a8 w8 hb8 ho hn
      have o27 : a8.tmps[27]? = some _ := (ho 27 (by kernel_rfl)).trans rfl
      obtain ⟨v214, n214, hq214⟩ := hn 14 214 (by kernel_rfl) rfl
      obtain rfl := hq214.1 (by decide)
      clear ho hn
      refine ⟨wanted_of 14 214 rfl rfl n214, ?_⟩
      go_simp
    rcases i with _ | i
    · refine gr_make HU rfl (by decide) ?_
      intro a8 w8 hb8 ho hn
      obtain ⟨v214, n214, hq214⟩ := hn 14 214 (by kernel_rfl) rfl
      obtain rfl := hq214.1 (by decide)
      clear ho hn
      refine ⟨wanted_of 14 214 rfl rfl n214, ?_⟩
      exact ⟨.slice (some ⟨w8.heap.size, 0, none⟩) 4 4, w8.alloc (.cells #[.int .i64 1, .int .i64 3, .int .i64 2, .int .i64 4] 2), (by go_simp), albel _ _, w8.heap.size, rfl, hb8.size, Blk.new w8 _ _⟩
    rcases i with _ | i
    · refine gr_call HU 37 rfl (by decide) ?_
      intro a8 w8 hb8 ho hn
      obtain ⟨v217, n217, hq217⟩ := hn 17 217 (by kernel_rfl) rfl
      have hv217 : slo wb22 4 #[.int .i64 1, .int .i64 3, .int .i64 2, .int .i64 4] v217 w8 := hq217.2 (by decide)
      obtain ⟨v214, n214, hq214⟩ := hn 14 214 (by kernel_rfl) rfl
      obtain rfl := hq214.1 (by decide)
      clear ho hn
      refine ⟨wanted_of 14 214 rfl rfl n214, ?_⟩
      obtain ⟨g, rfl, hB, hg⟩ := hv217
      refine ⟨#[.int .i64 2, .slice (some ⟨g, 0, none⟩) 4 4], (by go_simp), (mat14 [1, 3, 2, 4] 2 (by decide) (by decide) (by decide) g 4 w8 rfl _ hB hb8.size hg).mono ?_⟩
      rintro e wz ⟨p_, rfl, o, b⟩
      exact ⟨_, rfl, b, p_, rfl, o⟩
    rcases i with _ | i
    · refine gr_call HU 39 rfl (by decide) ?_
      intro a8 w8 hb8 ho hn
      obtain ⟨v215, n215, hq215⟩ := hn 15 215 (by kernel_rfl) rfl
      obtain rfl := hq215.1 (by decide)
      obtain ⟨v216, n216, hq216⟩ := hn 16 216 (by kernel_rfl) rfl
      obtain rfl := hq216.1 (by decide)
      obtain ⟨v218, n218, hq218⟩ := hn 18 218 (by kernel_rfl) rfl
      have hv218 : xo wb22 ⟨1, [2, 2], [1, 3, 2, 4]⟩ v218 w8 := hq218.2 (by decide)
      obtain ⟨v214, n214, hq214⟩ := hn 14 214 (by kernel_rfl) rfl
      obtain rfl := hq214.1 (by decide)
      clear ho hn
      refine ⟨wanted_of 14 214 rfl rfl n214, ?_⟩
      obtain ⟨q_, rfl, o_⟩ := hv218
      refine ⟨#[.agg #[.int .i64 1, .slice r15.A0 2 r15.c0, .slice r15.A1 4 r15.c1], .int .i64 0, .agg (arC ⟨1, [2, 2], [1, 3, 2, 4]⟩ q_)], (by go_simp), (l14is_yes ⟨1, [2, 2], [1, 3, 2, 4]⟩ r15 q_ w8 ((HB_wb22.out.up hb8) 13 _ _ _ rfl).e (o_.el (by decide) (by decide) (by decide))).mono ?_⟩
      rintro e wz ⟨rfl, b9⟩
      exact ⟨_, rfl, b9, rfl⟩
    rcases i with _ | i
    · refine gr_value rfl (by decide) (.bool true) rfl ?_
      intro a8 w8 hb8 ho hn
      obtain ⟨v214, n214, hq214⟩ := hn 14 214 (by kernel_rfl) rfl
      obtain rfl := hq214.1 (by decide)
      obtain ⟨v219, n219, hq219⟩ := hn 19 219 (by kernel_rfl) rfl
      have hv219 : xv (.bool true) v219 w8 := hq219.2 (by decide)
      clear ho hn
      refine ⟨wanted_free rfl, ?_⟩
      obtain rfl : v219 = .bool true := hv219
      go_simp
    rcases i with _ | i
    · refine gr_value rfl (by decide) (.bool true) rfl ?_
      intro a8 w8 hb8 ho hn
      obtain ⟨v220, n220, hq220⟩ := hn 20 220 (by kernel_rfl) rfl
      obtain rfl := hq220.1 (by decide)
      clear ho hn
      refine ⟨wanted_free rfl, ?_⟩
      go_simp
    rcases i with _ | i
    · refine gr_value rfl (by decide) (.agg #[.int .i64 1, .slice r16.A0 0 r16.c0, .slice r16.A1 1 r16.c1]) rfl ?_
      intro a8 w8 hb8 ho hn
      have o28 : a8.tmps[28]? = some _ := (ho 28 (by kernel_rfl)).trans rfl
      obtain ⟨v221, n221, hq221⟩ := hn 21 221 (by kernel_rfl) rfl
      obtain rfl := hq221.1 (by decide)
      clear ho hn
      refine ⟨wanted_of 21 221 rfl rfl n221, ?_⟩
      have x := (HB_wb22.out.up hb8) 14 _ _ _ rfl
      have x0 : w8.cell? ⟨g16, 0, none⟩ = some (.int .i64 1) := x.k.cell 0
      have x1 : w8.cell? ⟨g16, 1, none⟩ = some (.slice r16.A0 0 r16.c0) := x.k.cell 1
      have x2 : w8.cell? ⟨g16, 2, none⟩ = some (.slice r16.A1 1 r16.c1) := x.k.cell 2
      clear x
      go_simp
    rcases i with _ | i
    · refine gr_value rfl (by decide) (.int .i64 0) rfl ?_
      intro a8 w8 hb8 ho hn
      have o29 : a8.tmps[29]? = some _ := (ho 29 (by kernel_rfl)).trans rfl
      obtain ⟨v221, n221, hq221⟩ := hn 21 221 (by kernel_rfl) rfl
      obtain rfl := hq221.1 (by decide)
      clear ho hn
      refine ⟨wanted_of 21 221 rfl rfl n221, ?_⟩
      go_simp
    rcases i with _ | i
    · refine gr_call HU 16 rfl (by decide) ?_
      intro a8 w8 hb8 ho hn
      obtain ⟨v221, n221, hq221⟩ := hn 21 221 (by kernel_rfl) rfl
      obtain rfl := hq221.1 (by decide)
      clear ho hn
      refine ⟨wanted_of 21 221 rfl rfl n221, ?_⟩
      refine ⟨#[.int .i64 9], (by go_simp), (sca_lit 9 w8).mono ?_⟩
      rintro e wz ⟨p_, rfl, o, b⟩
      exact ⟨_, rfl, b, p_, rfl, o.mono hb8.size⟩
    rcases i with _ | i
    · refine gr_call HU 39 rfl (by decide) ?_
      intro a8 w8 hb8 ho hn
      obtain ⟨v222, n222, hq222⟩ := hn 22 222 (by kernel_rfl) rfl
      obtain rfl := hq222.1 (by decide)
      obtain ⟨v223, n223, hq223⟩ := hn 23 223 (by kernel_rfl) rfl
      obtain rfl := hq223.1 (by decide)
      obtain ⟨v224, n224, hq224⟩ := hn 24 224 (by kernel_rfl) rfl
      have hv224 : xo wb22 ⟨1, [], [9]⟩ v224 w8 := hq224.2 (by decide)
      obtain ⟨v221, n221, hq221⟩ := hn 21 221 (by kernel_rfl) rfl
      obtain rfl := hq221.1 (by decide)
      clear ho hn
      refine ⟨wanted_of 21 221 rfl rfl n221, ?_⟩
      obtain ⟨q_, rfl, o_⟩ := hv224
      refine ⟨#[.agg #[.int .i64 1, .slice r16.A0 0 r16.c0, .slice r16.A1 1 r16.c1], .int .i64 0, .agg (arC ⟨1, [], [9]⟩ q_)], (by go_simp), (l14is_yes ⟨1, [], [9]⟩ r16 q_ w8 ((HB_wb22.out.up hb8) 14 _ _ _ rfl).e (o_.el (by decide) (by decide) (by decide))).mono ?_⟩
      rintro e wz ⟨rfl, b9⟩
      exact ⟨_, rfl, b9, rfl⟩
    rcases i with _ | i
    · refine gr_value rfl (by decide) (.bool true) rfl ?_
      intro a8 w8 hb8 ho hn
      obtain ⟨v221, n221, hq221⟩ := hn 21 221 (by kernel_rfl) rfl
      obtain rfl := hq221.1 (by decide)
      obtain ⟨v225, n225, hq225⟩ := hn 25 225 (by kernel_rfl) rfl
      have hv225 : xv (.bool true) v225 w8 := hq225.2 (by decide)
      clear ho hn
      refine ⟨wanted_free rfl, ?_⟩
      obtain rfl : v225 = .bool true := hv225
      go_simp
    rcases i with _ | i
    · refine gr_value rfl (by decide) (.bool true) rfl ?_
      intro a8 w8 hb8 ho hn
      obtain ⟨v226, n226, hq226⟩ := hn 26 226 (by kernel_rfl) rfl
      obtain rfl := hq226.1 (by decide)
      clear ho hn
      refine ⟨wanted_free rfl, ?_⟩
      go_simp
    rcases i with _ | i
    · refine gr_value rfl (by decide) (.int .i64 0) rfl ?_
      intro a8 w8 hb8 ho hn
      have o31 : a8.tmps[31]? = some _ := (ho 31 (by kernel_rfl)).trans rfl
      obtain ⟨v227, n227, hq227⟩ := hn 27 227 (by kernel_rfl) rfl
      obtain rfl := hq227.1 (by decide)
      clear ho hn
      refine ⟨wanted_of 27 227 rfl rfl n227, ?_⟩
      go_simp
    rcases i with _ | i
    · refine gr_value rfl (by decide) (.bool true) rfl ?_
      intro a8 w8 hb8 ho hn
      obtain ⟨v228, n228, hq228⟩ := hn 28 228 (by kernel_rfl) rfl
      obtain rfl := hq228.1 (by decide)
      obtain ⟨v227, n227, hq227⟩ := hn 27 227 (by kernel_rfl) rfl
      obtain rfl := hq227.1 (by decide)
      clear ho hn
      refine ⟨wanted_of 27 227 rfl rfl n227, ?_⟩
      go_simp
    rcases i with _ | i
    · refine gr_value rfl (by decide) (.bool true) rfl ?_
      intro a8 w8 hb8 ho hn
      obtain ⟨v227, n227, hq227⟩ := hn 27 227 (by kernel_rfl) rfl
      obtain rfl := hq227.1 (by decide)
      obtain ⟨v229, n229, hq229⟩ := hn 29 229 (by kernel_rfl) rfl
      obtain rfl := hq229.1 (by decide)
      clear ho hn
      refine ⟨wanted_free rfl, ?_⟩
      go_simp
    rcases i with _ | i
    · refine gr_value rfl (by decide) (.bool true) rfl ?_
      intro a8 w8 hb8 ho hn
      obtain ⟨v230, n230, hq230⟩ := hn 30 230 (by kernel_rfl) rfl
      obtain rfl := hq230.1 (by decide)
      clear ho hn
      refine ⟨wanted_free rfl, ?_⟩
      go_simp
    rcases i with _ | i
    · refine gr_value rfl (by decide) (.pointer (some ⟨g_y, 0, none⟩)) rfl ?_
      intro a8 w8 hb8 ho hn
      have o30 : a8.tmps[30]? = some _ := (ho 30 (by kernel_rfl)).trans rfl
      obtain ⟨v231, n231, hq231⟩ := hn 31 231 (by kernel_rfl) rfl
      obtain rfl := hq231.1 (by decide)
      clear ho hn
      refine ⟨wanted_of 31 231 rfl rfl n231, ?_⟩
      go_simp
    rcases i with _ | i
    · refine gr_value rfl (by decide) (.slice A_y 3 c_y) rfl ?_
      intro a8 w8 hb8 ho hn
      obtain ⟨v232, n232, hq232⟩ := hn 32 232 (by kernel_rfl) rfl
      obtain rfl := hq232.1 (by decide)
      obtain ⟨v231, n231, hq231⟩ := hn 31 231 (by kernel_rfl) rfl
      obtain rfl := hq231.1 (by decide)
      clear ho hn
      refine ⟨wanted_of 31 231 rfl rfl n231, ?_⟩
      have x0 := (HWY_y.out w8 (BB_wb22.out hb8)).1
      go_simp
    rcases i with _ | i
    · refine gr_make HU rfl (by decide) ?_
      intro a8 w8 hb8 ho hn
      obtain ⟨v231, n231, hq231⟩ := hn 31 231 (by kernel_rfl) rfl
      obtain rfl := hq231.1 (by decide)
      clear ho hn
      refine ⟨wanted_of 31 231 rfl rfl n231, ?_⟩
      exact ⟨.slice (some ⟨w8.heap.size, 0, none⟩) 3 3, w8.alloc (.cells #[.int .i64 4, .int .i64 2, .int .i64 3] 3), (by go_simp), albel _ _, w8.heap.size, rfl, hb8.size, Blk.new w8 _ _⟩
    rcases i with _ | i
    · refine gr_call HU 45 rfl (by decide) ?_
      intro a8 w8 hb8 ho hn
      obtain ⟨v233, n233, hq233⟩ := hn 33 233 (by kernel_rfl) rfl
      obtain rfl := hq233.1 (by decide)
      obtain ⟨v234, n234, hq234⟩ := hn 34 234 (by kernel_rfl) rfl
      have hv234 : sio wb22 3 #[.int .i64 4, .int .i64 2, .int .i64 3] v234 w8 := hq234.2 (by decide)
      obtain ⟨v231, n231, hq231⟩ := hn 31 231 (by kernel_rfl) rfl
      obtain rfl := hq231.1 (by decide)
      clear ho hn
      refine ⟨wanted_of 31 231 rfl rfl n231, ?_⟩
      obtain ⟨g, rfl, _, hg⟩ := hv234
      refine ⟨#[.slice A_y 3 c_y, .slice (some ⟨g, 0, none⟩) 3 3], (by go_simp), (r11shapes_any A_y (some ⟨g, 0, none⟩) c_y 3 3 3 [4, 2, 3] [4, 2, 3] w8 rfl rfl ((HWY_y.out w8 (BB_wb22.out hb8)).2) (reads_blk hg rfl) (by decide) (by decide)).mono ?_⟩
      rintro e wz ⟨rfl, b9⟩
      exact ⟨_, rfl, b9, congrArg Value.bool (show decide (([4, 2, 3] : List Int) = [4, 2, 3]) = true by decide)⟩
    rcases i with _ | i
    · refine gr_value rfl (by decide) (.bool true) rfl ?_
      intro a8 w8 hb8 ho hn
      obtain ⟨v231, n231, hq231⟩ := hn 31 231 (by kernel_rfl) rfl
      obtain rfl := hq231.1 (by decide)
      obtain ⟨v235, n235, hq235⟩ := hn 35 235 (by kernel_rfl) rfl
      have hv235 : xv (.bool true) v235 w8 := hq235.2 (by decide)
      clear ho hn
      refine ⟨wanted_free rfl, ?_⟩
      obtain rfl : v235 = .bool true := hv235
      go_simp
    rcases i with _ | i
    · refine gr_value rfl (by decide) (.bool true) rfl ?_
      intro a8 w8 hb8 ho hn
      obtain ⟨v236, n236, hq236⟩ := hn 36 236 (by kernel_rfl) rfl
      obtain rfl := hq236.1 (by decide)
      clear ho hn
      refine ⟨wanted_free rfl, ?_⟩
      go_simp
    rcases i with _ | i
    · refine gr_value rfl (by decide) (.agg #[.int .i64 1, .slice r18.A0 1 r18.c0, .slice r18.A1 0 r18.c1]) rfl ?_
      intro a8 w8 hb8 ho hn
      have o32 : a8.tmps[32]? = some _ := (ho 32 (by kernel_rfl)).trans rfl
      obtain ⟨v237, n237, hq237⟩ := hn 37 237 (by kernel_rfl) rfl
      obtain rfl := hq237.1 (by decide)
      clear ho hn
      refine ⟨wanted_of 37 237 rfl rfl n237, ?_⟩
      have x := (HB_wb22.out.up hb8) 15 _ _ _ rfl
      have x0 : w8.cell? ⟨g18, 0, none⟩ = some (.int .i64 1) := x.k.cell 0
      have x1 : w8.cell? ⟨g18, 1, none⟩ = some (.slice r18.A0 1 r18.c0) := x.k.cell 1
      have x2 : w8.cell? ⟨g18, 2, none⟩ = some (.slice r18.A1 0 r18.c1) := x.k.cell 2
      clear x
      go_simp
    rcases i with _ | i
    · refine gr_value rfl (by decide) (.int .i64 0) rfl ?_
      intro a8 w8 hb8 ho hn
      have o33 : a8.tmps[33]? = some _ := (ho 33 (by kernel_rfl)).trans rfl
      obtain ⟨v237, n237, hq237⟩ := hn 37 237 (by kernel_rfl) rfl
      obtain rfl := hq237.1 (by decide)
      clear ho hn
      refine ⟨wanted_of 37 237 rfl rfl n237, ?_⟩
      go_simp
    rcases i with _ | i
    · refine gr_call HU 18 rfl (by decide) ?_
      intro a8 w8 hb8 ho hn
      obtain ⟨v237, n237, hq237⟩ := hn 37 237 (by kernel_rfl) rfl
      obtain rfl := hq237.1 (by decide)
      clear ho hn
      refine ⟨wanted_of 37 237 rfl rfl n237, ?_⟩
      refine ⟨#[.slice none 0 0], (by go_simp), (vec_lit [] (by decide) _ 0 0 w8 rfl Reads.none_).mono ?_⟩
      rintro e wz ⟨p_, rfl, o, b⟩
      exact ⟨_, rfl, b, p_, rfl, o.mono hb8.size⟩
    rcases i with _ | i
    · refine gr_call HU 39 rfl (by decide) ?_
      intro a8 w8 hb8 ho hn
      obtain ⟨v238, n238, hq238⟩ := hn 38 238 (by kernel_rfl) rfl
      obtain rfl := hq238.1 (by decide)
      obtain ⟨v239, n239, hq239⟩ := hn 39 239 (by kernel_rfl) rfl
      obtain rfl := hq239.1 (by decide)
      obtain ⟨v240, n240, hq240⟩ := hn 40 240 (by kernel_rfl) rfl
      have hv240 : xo wb22 ⟨1, [0], []⟩ v240 w8 := hq240.2 (by decide)
      obtain ⟨v237, n237, hq237⟩ := hn 37 237 (by kernel_rfl) rfl
      obtain rfl := hq237.1 (by decide)
      clear ho hn
      refine ⟨wanted_of 37 237 rfl rfl n237, ?_⟩
      obtain ⟨q_, rfl, o_⟩ := hv240
      refine ⟨#[.agg #[.int .i64 1, .slice r18.A0 1 r18.c0, .slice r18.A1 0 r18.c1], .int .i64 0, .agg (arC ⟨1, [0], []⟩ q_)], (by go_simp), (l14is_yes ⟨1, [0], []⟩ r18 q_ w8 ((HB_wb22.out.up hb8) 15 _ _ _ rfl).e (o_.el (by decide) (by decide) (by decide))).mono ?_⟩
      rintro e wz ⟨rfl, b9⟩
      exact ⟨_, rfl, b9, rfl⟩
    rcases i with _ | i
    · refine gr_value rfl (by decide) (.bool true) rfl ?_
      intro a8 w8 hb8 ho hn
      obtain ⟨v237, n237, hq237⟩ := hn 37 237 (by kernel_rfl) rfl
      obtain rfl := hq237.1 (by decide)
      obtain ⟨v241, n241, hq241⟩ := hn 41 241 (by kernel_rfl) rfl
      have hv241 : xv (.bool true) v241 w8 := hq241.2 (by decide)
      clear ho hn
      refine ⟨wanted_free rfl, ?_⟩
      obtain rfl : v241 = .bool true := hv241
      go_simp
    rcases i with _ | i
    · refine gr_value rfl (by decide) (.bool true) rfl ?_
      intro a8 w8 hb8 ho hn
      obtain ⟨v242, n242, hq242⟩ := hn 42 242 (by kernel_rfl) rfl
      obtain rfl := hq242.1 (by decide)
      clear ho hn
      refine ⟨wanted_free rfl, ?_⟩
      go_simp
    rcases i with _ | i
    · refine gr_value rfl (by decide) (.agg #[.int .i64 1, .slice r19.A0 0 r19.c0, .slice r19.A1 1 r19.c1]) rfl ?_
      intro a8 w8 hb8 ho hn
      have o34 : a8.tmps[34]? = some _ := (ho 34 (by kernel_rfl)).trans rfl
      obtain ⟨v243, n243, hq243⟩ := hn 43 243 (by kernel_rfl) rfl
      obtain rfl := hq243.1 (by decide)
      clear ho hn
      refine ⟨wanted_of 43 243 rfl rfl n243, ?_⟩
      have x := (HB_wb22.out.up hb8) 16 _ _ _ rfl
      have x0 : w8.cell? ⟨g19, 0, none⟩ = some (.int .i64 1) := x.k.cell 0
      have x1 : w8.cell? ⟨g19, 1, none⟩ = some (.slice r19.A0 0 r19.c0) := x.k.cell 1
      have x2 : w8.cell? ⟨g19, 2, none⟩ = some (.slice r19.A1 1 r19.c1) := x.k.cell 2
      clear x
      go_simp
    rcases i with _ | i
    · refine gr_value rfl (by decide) (.int .i64 0) rfl ?_
      intro a8 w8 hb8 ho hn
      have o35 : a8.tmps[35]? = some _ := (ho 35 (by kernel_rfl)).trans rfl
      obtain ⟨v243, n243, hq243⟩ := hn 43 243 (by kernel_rfl) rfl
      obtain rfl := hq243.1 (by decide)
      clear ho hn
      refine ⟨wanted_of 43 243 rfl rfl n243, ?_⟩
      go_simp
    rcases i with _ | i
    · refine gr_call HU 16 rfl (by decide) ?_
      intro a8 w8 hb8 ho hn
      obtain ⟨v243, n243, hq243⟩ := hn 43 243 (by kernel_rfl) rfl
      obtain rfl := hq243.1 (by decide)
      clear ho hn
      refine ⟨wanted_of 43 243 rfl rfl n243, ?_⟩
      refine ⟨#[.int .i64 7], (by go_simp), (sca_lit 7 w8).mono ?_⟩
      rintro e wz ⟨p_, rfl, o, b⟩
      exact ⟨_, rfl, b, p_, rfl, o.mono hb8.size⟩
    rcases i with _ | i
    · refine gr_call HU 39 rfl (by decide) ?_
      intro a8 w8 hb8 ho hn
      obtain ⟨v244, n244, hq244⟩ := hn 44 244 (by kernel_rfl) rfl
      obtain rfl := hq244.1 (by decide)
      obtain ⟨v245, n245, hq245⟩ := hn 45 245 (by kernel_rfl) rfl
      obtain rfl := hq245.1 (by decide)
      obtain ⟨v246, n246, hq246⟩ := hn 46 246 (by kernel_rfl) rfl
      have hv246 : xo wb22 ⟨1, [], [7]⟩ v246 w8 := hq246.2 (by decide)
      obtain ⟨v243, n243, hq243⟩ := hn 43 243 (by kernel_rfl) rfl
      obtain rfl := hq243.1 (by decide)
      clear ho hn
      refine ⟨wanted_of 43 243 rfl rfl n243, ?_⟩
      obtain ⟨q_, rfl, o_⟩ := hv246
      refine ⟨#[.agg #[.int .i64 1, .slice r19.A0 0 r19.c0, .slice r19.A1 1 r19.c1], .int .i64 0, .agg (arC ⟨1, [], [7]⟩ q_)], (by go_simp), (l14is_yes ⟨1, [], [7]⟩ r19 q_ w8 ((HB_wb22.out.up hb8) 16 _ _ _ rfl).e (o_.el (by decide) (by decide) (by decide))).mono ?_⟩
      rintro e wz ⟨rfl, b9⟩
      exact ⟨_, rfl, b9, rfl⟩
    rcases i with _ | i
    · refine gr_value rfl (by decide) (.bool true) rfl ?_
      intro a8 w8 hb8 ho hn
      obtain ⟨v243, n243, hq243⟩ := hn 43 243 (by kernel_rfl) rfl
      obtain rfl := hq243.1 (by decide)
      obtain ⟨v247, n247, hq247⟩ := hn 47 247 (by kernel_rfl) rfl
      have hv247 : xv (.bool true) v247 w8 := hq247.2 (by decide)
      clear ho hn
      refine ⟨wanted_free rfl, ?_⟩
      obtain rfl : v247 = .bool true := hv247
      go_simp
    rcases i with _ | i
    · refine gr_value rfl (by decide) (.bool true) rfl ?_
      intro a8 w8 hb8 ho hn
      obtain ⟨v248, n248, hq248⟩ := hn 48 248 (by kernel_rfl) rfl
      obtain rfl := hq248.1 (by decide)
      clear ho hn
      refine ⟨wanted_free rfl, ?_⟩
      go_simp
    rcases i with _ | i
    · refine gr_value rfl (by decide) (.agg #[.int .i64 2, .slice r20.A0 1 r20.c0, .slice r20.A1 2 r20.c1]) rfl ?_
      intro a8 w8 hb8 ho hn
      have o36 : a8.tmps[36]? = some _ := (ho 36 (by kernel_rfl)).trans rfl
      obtain ⟨v249, n249, hq249⟩ := hn 49 249 (by kernel_rfl) rfl
      obtain rfl := hq249.1 (by decide)
      clear ho hn
      refine ⟨wanted_of 49 249 rfl rfl n249, ?_⟩
      have x := (HB_wb22.out.up hb8) 17 _ _ _ rfl
      have x0 : w8.cell? ⟨g20, 0, none⟩ = some (.int .i64 2) := x.k.cell 0
      have x1 : w8.cell? ⟨g20, 1, none⟩ = some (.slice r20.A0 1 r20.c0) := x.k.cell 1
      have x2 : w8.cell? ⟨g20, 2, none⟩ = some (.slice r20.A1 2 r20.c1) := x.k.cell 2
      clear x
      go_simp
    rcases i with _ | i
    · refine gr_value rfl (by decide) (.int .i64 0) rfl ?_
      intro a8 w8 hb8 ho hn
      have o37 : a8.tmps[37]? = some _ := (ho 37 (by kernel_rfl)).trans rfl
      obtain ⟨v249, n249, hq249⟩ := hn 49 249 (by kernel_rfl) rfl
      obtain rfl := hq249.1 (by decide)
      clear ho hn
      refine ⟨wanted_of 49 249 rfl rfl n249, ?_⟩
      go_simp
    rcases i with _ | i
    · refine gr_call HU 17 rfl (by decide) ?_
      intro a8 w8 hb8 ho hn
      obtain ⟨v249, n249, hq249⟩ := hn 49 249 (by kernel_rfl) rfl
      obtain rfl := hq249.1 (by decide)
      clear ho hn
      refine ⟨wanted_of 49 249 rfl rfl n249, ?_⟩
      refine ⟨#[.string { data := #[98, 97] }], (by go_simp), (chr_lit { data := #[98, 97] } [98, 97] (by decide) (by decide +kernel) 2 (by decide) w8).mono ?_⟩
      rintro e wz ⟨p_, rfl, o, b⟩
      exact ⟨_, rfl, b, p_, rfl, o.mono hb8.size⟩
    rcases i with _ | i
    · refine gr_call HU 39 rfl (by decide) ?_
      intro a8 w8 hb8 ho hn
      obtain ⟨v250, n250, hq250⟩ := hn 50 250 (by kernel_rfl) rfl
      obtain rfl := hq250.1 (by decide)
      obtain ⟨v251, n251, hq251⟩ := hn 51 251 (by kernel_rfl) rfl
      obtain rfl := hq251.1 (by decide)
      obtain ⟨v252, n252, hq252⟩ := hn 52 252 (by kernel_rfl) rfl
      have hv252 : xo wb22 ⟨2, [2], [98, 97]⟩ v252 w8 := hq252.2 (by decide)
      obtain ⟨v249, n249, hq249⟩ := hn 49 249 (by kernel_rfl) rfl
      obtain rfl := hq249.1 (by decide)
      clear ho hn
      refine ⟨wanted_of 49 249 rfl rfl n249, ?_⟩
      obtain ⟨q_, rfl, o_⟩ := hv252
      refine ⟨#[.agg #[.int .i64 2, .slice r20.A0 1 r20.c0, .slice r20.A1 2 r20.c1], .int .i64 0, .agg (arC ⟨2, [2], [98, 97]⟩ q_)], (by go_simp), (l14is_yes ⟨2, [2], [98, 97]⟩ r20 q_ w8 ((HB_wb22.out.up hb8) 17 _ _ _ rfl).e (o_.el (by decide) (by decide) (by decide))).mono ?_⟩
      rintro e wz ⟨rfl, b9⟩
      exact ⟨_, rfl, b9, rfl⟩
    rcases i with _ | i
    · refine gr_value rfl (by decide) (.bool true) rfl ?_
      intro a8 w8 hb8 ho hn
      obtain ⟨v249, n249, hq249⟩ := hn 49 249 (by kernel_rfl) rfl
      obtain rfl := hq249.1 (by decide)
      obtain ⟨v253, n253, hq253⟩ := hn 53 253 (by kernel_rfl) rfl
      have hv253 : xv (.bool true) v253 w8 := hq253.2 (by decide)
      clear ho hn
      refine ⟨wanted_free rfl, ?_⟩
      obtain rfl : v253 = .bool true := hv253
      go_simp
    rcases i with _ | i
    · refine gr_value rfl (by decide) (.bool true) rfl ?_
      intro a8 w8 hb8 ho hn
      obtain ⟨v254, n254, hq254⟩ := hn 54 254 (by kernel_rfl) rfl
      obtain rfl := hq254.1 (by decide)
      clear ho hn
      refine ⟨wanted_free rfl, ?_⟩
      go_simp
    rcases i with _ | i
    · refine gr_value rfl (by decide) (.int .i64 110) rfl ?_
      intro a8 w8 hb8 ho hn
      have o39 : a8.tmps[39]? = some _ := (ho 39 (by kernel_rfl)).trans rfl
      obtain ⟨v255, n255, hq255⟩ := hn 55 255 (by kernel_rfl) rfl
      obtain rfl := hq255.1 (by decide)
      clear ho hn
      refine ⟨wanted_of 55 255 rfl rfl n255, ?_⟩
      go_simp
    rcases i with _ | i
    · refine gr_value rfl (by decide) (.bool true) rfl ?_
      intro a8 w8 hb8 ho hn
      obtain ⟨v256, n256, hq256⟩ := hn 56 256 (by kernel_rfl) rfl
      obtain rfl := hq256.1 (by decide)
      obtain ⟨v255, n255, hq255⟩ := hn 55 255 (by kernel_rfl) rfl
      obtain rfl := hq255.1 (by decide)
      clear ho hn
      refine ⟨wanted_of 55 255 rfl rfl n255, ?_⟩
      go_simp
    rcases i with _ | i
    · refine gr_value rfl (by decide) (.bool true) rfl ?_
      intro a8 w8 hb8 ho hn
      obtain ⟨v255, n255, hq255⟩ := hn 55 255 (by kernel_rfl) rfl
      obtain rfl := hq255.1 (by decide)
      obtain ⟨v257, n257, hq257⟩ := hn 57 257 (by kernel_rfl) rfl
      obtain rfl := hq257.1 (by decide)
      clear ho hn
      refine ⟨wanted_free rfl, ?_⟩
      go_simp
    rcases i with _ | i
    · refine gr_value rfl (by decide) (.bool true) rfl ?_
      intro a8 w8 hb8 ho hn
      obtain ⟨v258, n258, hq258⟩ := hn 58 258 (by kernel_rfl) rfl
      obtain rfl := hq258.1 (by decide)
      clear ho hn
      refine ⟨wanted_free rfl, ?_⟩
      go_simp
    rcases i with _ | i
    · refine gr_value rfl (by decide) (.int .i64 110) rfl ?_
      intro a8 w8 hb8 ho hn
      have o41 : a8.tmps[41]? = some _ := (ho 41 (by kernel_rfl)).trans rfl
      obtain ⟨v259, n259, hq259⟩ := hn 59 259 (by kernel_rfl) rfl
      obtain rfl := hq259.1 (by decide)
      clear ho hn
      refine ⟨wanted_of 59 259 rfl rfl n259, ?_⟩
      go_simp
    rcases i with _ | i
    · refine gr_value rfl (by decide) (.bool true) rfl ?_
      intro a8 w8 hb8 ho hn
      obtain ⟨v260, n260, hq260⟩ := hn 60 260 (by kernel_rfl) rfl
      obtain rfl := hq260.1 (by decide)
      obtain ⟨v259, n259, hq259⟩ := hn 59 259 (by kernel_rfl) rfl
      obtain rfl := hq259.1 (by decide)
      clear ho hn
      refine ⟨wanted_of 59 259 rfl rfl n259, ?_⟩
      go_simp
    rcases i with _ | i
    · refine gr_value rfl (by decide) (.bool true) rfl ?_
      intro a8 w8 hb8 ho hn
      obtain ⟨v259, n259, hq259⟩ := hn 59 259 (by kernel_rfl) rfl
      obtain rfl := hq259.1 (by decide)
      obtain ⟨v261, n261, hq261⟩ := hn 61 261 (by kernel_rfl) rfl
      obtain rfl := hq261.1 (by decide)
      clear ho hn
      refine ⟨wanted_free rfl, ?_⟩
      go_simp
    rcases i with _ | i
    · refine gr_value rfl (by decide) (.bool true) rfl ?_
      intro a8 w8 hb8 ho hn
      obtain ⟨v262, n262, hq262⟩ := hn 62 262 (by kernel_rfl) rfl
      obtain rfl := hq262.1 (by decide)
      clear ho hn
      refine ⟨wanted_free rfl, ?_⟩
      go_simp
    omega
  intro dn fv wb23 hb_wb23 hR5 hall
  have h42 : fv 42 = _ := (hR5 63 42 rfl).1 (by decide)
  simp only [putAll, List.foldl_cons, List.foldl_nil, Act.put, List.setIfInBounds_toArray, List.set_cons_succ, List.set_cons_zero, h42, List.getD_cons_zero, List.getD_cons_succ]
  clear hR5 hall
  have HB_wb23 := Lib.hid (HB_wb22.out.up hb_wb23)
  have BW_wb23 := Lib.hid (bon BW_wb22.out hb_wb23)
  generalize fv 200 = u200
  generalize fv 201 = u201
  generalize fv 202 = u202
  generalize fv 203 = u203
  generalize fv 204 = u204
  generalize fv 205 = u205
  generalize fv 206 = u206
  generalize fv 207 = u207
  generalize fv 208 = u208
  generalize fv 209 = u209
  generalize fv 210 = u210
  generalize fv 211 = u211
  generalize fv 212 = u212
  generalize fv 213 = u213
  generalize fv 214 = u214
  generalize fv 215 = u215
  generalize fv 216 = u216
  generalize fv 217 = u217
  generalize fv 218 = u218
  generalize fv 219 = u219
  generalize fv 220 = u220
  generalize fv 221 = u221
  generalize fv 222 = u222
  generalize fv 223 = u223
  generalize fv 224 = u224
  generalize fv 225 = u225
  generalize fv 226 = u226
  generalize fv 227 = u227
  generalize fv 228 = u228
  generalize fv 229 = u229
  generalize fv 230 = u230
  generalize fv 231 = u231
  generalize fv 232 = u232
  generalize fv 233 = u233
  generalize fv 234 = u234
  generalize fv 235 = u235
  generalize fv 236 = u236
  generalize fv 237 = u237
  generalize fv 238 = u238
  generalize fv 239 = u239
  generalize fv 240 = u240
  generalize fv 241 = u241
  generalize fv 242 = u242
  generalize fv 243 = u243
  generalize fv 244 = u244
  generalize fv 245 = u245
  generalize fv 246 = u246
  generalize fv 247 = u247
  generalize fv 248 = u248
  generalize fv 249 = u249
  generalize fv 250 = u250
  generalize fv 251 = u251
  generalize fv 252 = u252
  generalize fv 253 = u253
  generalize fv 254 = u254
  generalize fv 255 = u255
  generalize fv 256 = u256
  generalize fv 257 = u257
  generalize fv 258 = u258
  generalize fv 259 = u259
  generalize fv 260 = u260
  generalize fv 261 = u261
  generalize fv 262 = u262
  clear hb_wb23 HU h42 HB_wb22 BW_wb22
  go_wp2_with (go_at_call 46; refine (l14alive _).mono ?_; rintro e wz ⟨rfl, b9⟩; have BW_z := Lib.hid (bon BW_wb23.out b9); clear b9)
  go_ret
  exact ⟨rfl, BW_z.out⟩
end Go.Proofs.Ytenpohnccnlngaa.turnNames

/-
  Layer 16 (fold): the statements' own calls: is, row, alive.
-/
import Derived.Test.YtkabdkblcgklmaaFoScan
namespace Go.Proofs.Ytkabdkblcgklmaa.fo
open Go.RowKit Go.Proofs.Ytkabdkblcgklmaa.arr Go.Proofs.Ytkabdkblcgklmaa.sc

def sl (n : Nat) (xs : Array Value) : Value → World → Prop := fun v W => ∃ g, v = .slice (some ⟨g, 0, none⟩) n n ∧ Blk W g 2 xs
def xw (a : AV) : Value → World → Prop := fun v W => ∃ p, v = .agg (arC a p) ∧ AEl W a p
def xv (x : Value) : Value → World → Prop := fun v _ => v = x
theorem sl_stk (n : Nat) (xs : Array Value) : stk (sl n xs) := fun v W W' hb h => by
  obtain ⟨g, h1, h2⟩ := h
  exact ⟨g, h1, blk_up h2 hb⟩
theorem xw_stk (a : AV) : stk (xw a) := fun v W W' hb h => by
  obtain ⟨p, h1, h2⟩ := h
  exact ⟨p, h1, h2.below hb⟩
theorem xv_stk (x : Value) : stk (xv x) := fun _ _ _ _ h => h
theorem lit_rd {W : World} {g : Nat} {t : TypeId} {l : List Int} (h : Blk W g t (l.map iv).toArray) : Reads W W.heap.size 1 (some ⟨g, 0, none⟩) l.length (l.map iv) := by
  refine ⟨by rw [List.length_map, Nat.mul_one], fun _ => ⟨_, rfl, h.lt, fun j u hu => ?_⟩⟩
  rw [Addr.add_mid, Nat.zero_add, h.cell j, List.getElem?_toArray]
  exact hu
theorem l16is_any (a b : AV) (p q : AP) (e : Int) (w : World) (ha : AEl w a p) (hb : AEl w b q) :
    Calls Try.prog 44 #[.agg (arC a p), .int .i64 e, .agg (arC b q)] w fun r w' => r = .returned (.bool (decide (e = 0) && sameA a b)) ∧ Below w.heap.size w w' := by
  have hx := (Blk.new w 25 (arC a p)).alloc (.cells (arC b q) 25)
  have hy := Blk.new (w.alloc (.cells (arC a p) 25)) 25 (arC b q)
  have hb2 := below_n2 w (.cells (arC a p) 25) (.cells (arC b q) 25)
  have hS := arsame_any a b p q _ (ha.below hb2) (hb.below hb2)
  rw [World.size_alloc] at hy
  have hLC : arC a p = #[.int .i64 a.kind, .slice p.A0 a.sh.length p.c0, .slice p.A1 a.el.length p.c1] := rfl
  have hAC : arC b q = #[.int .i64 b.kind, .slice q.A0 b.sh.length q.c0, .slice q.A1 b.el.length q.c1] := rfl
  obtain ⟨w1, hw1⟩ : ∃ w1, (w.alloc (.cells (arC a p) 25)).alloc (.cells (arC b q) 25) = w1 := ⟨_, rfl⟩
  rw [hw1] at hx hy hb2 hS
  rw [hLC] at hx hS hw1
  rw [hAC] at hy hS hw1
  have x0 := hx.cell 0
  have x1 := hx.cell 1
  have x2 := hx.cell 2
  have y0 := hy.cell 0
  have y1 := hy.cell 1
  have y2 := hy.cell 2
  have HS := Lib.hid hS
  have HB := Lib.hid hb2
  generalize sameA a b = s at *
  rw [hLC, hAC]
  clear ha hb hx hy hb2 hS hLC hAC
  by_cases h0 : e = 0
  · subst h0
    go_enter Try.func44, Try.ntmps44
    go_wp2_with (go_at_call 68; (try rw [hw1]); refine HS.out.mono ?_; rintro e w2 ⟨rfl, b2⟩)
    go_ret
    exact ⟨rfl, below_on HB.out b2⟩
  · have h1 : (e == 0) = false := by simp [h0]
    rw [decide_eq_false h0, Bool.false_and]
    clear HS h0
    go_enter Try.func44, Try.ntmps44
    go_wp2
    go_ret
    exact ⟨rfl, HB.out⟩
theorem l16is_yes (a : AV) (p q : AP) (w : World) (ha : AEl w a p) (hb : AEl w a q) :
    Calls Try.prog 44 #[.agg (arC a p), .int .i64 0, .agg (arC a q)] w fun r w' => r = .returned (.bool true) ∧ Below w.heap.size w w' := by
  have h := l16is_any a a p q 0 w ha hb
  rw [show (decide ((0 : Int) = 0) && sameA a a) = true by rw [sameA_iff.2 rfl]; rfl] at h
  exact h
theorem l16row_yes (f v : Int) (l : List Int) (hin : ∀ z ∈ l, InR z) (h : l.length ≤ 1000 ∧ rowV f l = v ∧ rowE f l = 0) (g : Nat) (w : World) (hb : Blk w g 2 (l.map iv).toArray) :
    Calls Try.prog 46 #[.int .i64 f, .int .i64 v, .slice (some ⟨g, 0, none⟩) l.length l.length] w fun e w' => e = .returned (.bool true) ∧ Below w.heap.size w w' := by
  obtain ⟨hl, h1, h2⟩ := h
  have H := Lib.hid (forow_any f (some ⟨g, 0, none⟩) l.length l.length l w rfl (lit_rd hb) (by omega) hin)
  rw [h1, h2] at H
  generalize l.length = n at *
  clear h1 h2 hb
  go_enter Try.func46, Try.ntmps46
  go_wp2_with (go_at_call 30; refine H.out.mono ?_; rintro e w2 ⟨rfl, b2⟩)
  go_ret
  exact ⟨rfl, b2⟩
set_option maxRecDepth 100000 in
set_option maxHeartbeats 4000000 in
theorem l16alive (w : World) : Calls Try.prog 45 #[] w fun e w' => e = .returned (.bool true) ∧ Below w.heap.size w w' := by
  have HR : Hid (∀ W, Calls Try.prog 30 #[.int .i64 1, .slice (some ⟨W.heap.size, 0, none⟩) 3 3] (W.alloc (.cells #[.int .i64 (-1), .int .i64 1, .int .i64 9223372036854775807] 2)) fun e w' => e = .returned (.tuple #[.int .i64 0, .int .i64 7]) ∧ Below W.heap.size W w') := Lib.hid (fun W => by
    have h := forow_any 1 (some ⟨W.heap.size, 0, none⟩) 3 3 [-1, 1, 9223372036854775807] _ rfl (lit_rd (Blk.new W 2 _)) (by omega) (by decide +kernel)
    rw [show rowV 1 [-1, 1, 9223372036854775807] = 0 by decide +kernel, show rowE 1 [-1, 1, 9223372036854775807] = 7 by decide +kernel] at h
    refine h.mono ?_
    rintro e w' ⟨rfl, b⟩
    exact ⟨rfl, below_on (alloc_below _ _) b⟩)
  have HV : Hid (∀ W, Calls Try.prog 27 #[.slice (some ⟨W.heap.size, 0, none⟩) 3 3] (W.alloc (.cells #[.int .i64 1, .int .i64 2, .int .i64 3] 2)) fun e w' => ∃ p : AP, e = .returned (.agg #[.int .i64 1, .slice p.A0 1 p.c0, .slice p.A1 3 p.c1]) ∧ AEl w' (vecF [1, 2, 3]) p ∧ Cap2 (vecF [1, 2, 3]) p ∧ Below W.heap.size W w') := Lib.hid (fun W => by
    refine (vec_give [1, 2, 3] (by decide) (by decide +kernel) _ _ _ _ rfl (lit_rd (Blk.new W 2 _))).mono ?_
    rintro e w' ⟨p, rfl, h, c, b⟩
    exact ⟨p, rfl, h, c, below_on (alloc_below _ _) b⟩)
  have HSC : Hid (∀ W (p : AP), AEl W (vecF [1, 2, 3]) p → Cap2 (vecF [1, 2, 3]) p → Calls Try.prog 36 #[.int .i64 2, .agg #[.int .i64 1, .slice p.A0 1 p.c0, .slice p.A1 3 p.c1]] W fun e w' => ∃ p : AP, e = .returned (.tuple #[.agg #[.int .i64 1, .slice p.A0 1 p.c0, .slice p.A1 3 p.c1], .int .i64 0]) ∧ AEl w' (vecF [1, -1, 2]) p ∧ Below W.heap.size W w') := Lib.hid (fun W p h c => by
    have h1 := foscan_any 2 (vecF [1, 2, 3]) p W h c.l0 c.l1
    rw [show scnE 2 (vecF [1, 2, 3]) = 0 by kernel_rfl, show scnA 2 (vecF [1, 2, 3]) = vecF [1, -1, 2] by kernel_rfl] at h1
    refine h1.mono ?_
    rintro e w' ⟨q, rfl, o, b⟩
    exact ⟨q, rfl, o.el (by decide) (by decide) (by decide +kernel), b⟩)
  go_enter Try.func45, Try.ntmps45
  go_upto_region 3 with (first
    | (go_at_call 36; refine (HSC.out _ _ E2.out C2.out).mono ?_; rintro e w3 ⟨r, rfl, e3, b3⟩; have E3 := Lib.hid e3; have B3 := Lib.hid (B2.out.trans (b3.mono B2.out.size)); clear e3 b3)
    | (go_at_call 27; refine (HV.out _).mono ?_; rintro e w2 ⟨q, rfl, e2, c2, b2⟩; have E2 := Lib.hid e2; have C2 := Lib.hid c2; have B2 := Lib.hid (B1.out.trans (b2.mono B1.out.size)); clear e2 c2 b2)
    | (go_at_call 30; refine (HR.out _).mono ?_; rintro e w1 ⟨rfl, b1⟩; have B1 := Lib.hid b1; clear b1))
  obtain ⟨w4, hw4⟩ : ∃ w4, w3.alloc (.cells #[.int .i64 1, .slice r.A0 1 r.c0, .slice r.A1 3 r.c1] 25) = w4 := ⟨_, rfl⟩
  obtain ⟨g, hg⟩ : ∃ g, w3.heap.size = g := ⟨_, rfl⟩
  have hal := alloc_below w3 (.cells #[.int .i64 1, .slice r.A0 1 r.c0, .slice r.A1 3 r.c1] 25)
  have hbx := Blk.new w3 25 #[.int .i64 1, .slice r.A0 1 r.c0, .slice r.A1 3 r.c1]
  rw [hw4] at hal hbx
  rw [hg] at hbx
  have HBX : Hid (∀ W, Below w4.heap.size w4 W → W.cell? ⟨g, 0, none⟩ = some (.int .i64 1) ∧ W.cell? ⟨g, 1, none⟩ = some (.slice r.A0 1 r.c0) ∧ W.cell? ⟨g, 2, none⟩ = some (.slice r.A1 3 r.c1)) := Lib.hid (fun W hb => by
    have h := hbx.below hb hbx.lt
    exact ⟨h.cell 0, h.cell 1, h.cell 2⟩)
  have HEX : Hid (∀ W, Below w4.heap.size w4 W → AEl W (vecF [1, -1, 2]) r) := Lib.hid (fun W hb => (E3.out.below hal).below hb)
  have HFB := Lib.hid (B3.out.trans (hal.mono B3.out.size))
  have HU : GU (lookU [(0, sl 3 #[.int .i64 1, .int .i64 2, .int .i64 3]), (1, xv (.bool true)), (3, sl 3 #[.int .i64 9223372036854775807, .int .i64 1, .int .i64 (-1)]), (4, xv (.bool true)), (13, sl 3 #[.int .i64 1, .int .i64 (-1), .int .i64 2]), (14, xw (vecF [1, -1, 2])), (15, xv (.bool true))]) := lookU_stay (by
    intro x hx
    simp only [List.mem_cons, List.not_mem_nil, or_false] at hx
    rcases hx with rfl | rfl | rfl | rfl | rfl | rfl | rfl <;> first | exact sl_stk _ _ | exact xw_stk _ | exact xv_stk _)
  rw [hw4, hg]
  clear HR HV HSC hal hbx hg hw4
  refine wp_region_done_on (GS w4) (GR [0, 1, 3, 4, 13, 14, 15] (lookU [(0, sl 3 #[.int .i64 1, .int .i64 2, .int .i64 3]), (1, xv (.bool true)), (3, sl 3 #[.int .i64 9223372036854775807, .int .i64 1, .int .i64 (-1)]), (4, xv (.bool true)), (13, sl 3 #[.int .i64 1, .int .i64 (-1), .int .i64 2]), (14, xw (vecF [1, -1, 2])), (15, xv (.bool true))]) [undef, undef, .bool true, undef, undef, .bool true, .bool true, .int .i64 7, .bool true, .bool true, .bool true, .agg #[.int .i64 1, .slice r.A0 1 r.c0, .slice r.A1 3 r.c1], .int .i64 0, undef, undef, undef, .bool true, .bool true]) (by kernel_rfl) 33 rfl (by kernel_rfl) ((Below.refl _ _).drew) ?_ ?_
  · intro i hi
    have hi2 : i < 18 := hi
    clear hi
    rcases i with _ | i
    · refine gr_make HU rfl (by decide) ?_
      intro a8 w8 hb8 ho hn
      clear ho hn
      refine ⟨wanted_free rfl, ?_⟩
      exact ⟨.slice (some ⟨w8.heap.size, 0, none⟩) 3 3, w8.alloc (.cells #[.int .i64 1, .int .i64 2, .int .i64 3] 2), (by go_simp), alloc_below _ _, w8.heap.size, rfl, Blk.new w8 _ _⟩
    rcases i with _ | i
    · refine gr_call HU 46 rfl (by decide) ?_
      intro a8 w8 hb8 ho hn
      obtain ⟨v16, n16, hq16⟩ := hn 0 16 (by kernel_rfl) rfl
      have hv16 := hq16.2 (by decide)
      clear ho hn
      refine ⟨wanted_free rfl, ?_⟩
      obtain ⟨g9, rfl, h9⟩ : sl 3 #[.int .i64 1, .int .i64 2, .int .i64 3] v16 w8 := hv16
      refine ⟨#[.int .i64 2, .int .i64 2, .slice (some ⟨g9, 0, none⟩) 3 3], (by go_simp), (l16row_yes 2 2 [1, 2, 3] (by decide +kernel) (by decide +kernel) g9 w8 h9).mono ?_⟩
      rintro e w9 ⟨rfl, b9⟩
      exact ⟨_, rfl, b9, rfl⟩
    rcases i with _ | i
    · refine gr_value rfl (by decide) (.bool true) rfl ?_
      intro a8 w8 hb8 ho hn
      obtain ⟨v17, n17, hq17⟩ := hn 1 17 (by kernel_rfl) rfl
      have hv17 := hq17.2 (by decide)
      clear ho hn
      refine ⟨wanted_free rfl, ?_⟩
      obtain rfl : v17 = .bool true := hv17
      clear hq17
      go_simp
    rcases i with _ | i
    · refine gr_make HU rfl (by decide) ?_
      intro a8 w8 hb8 ho hn
      obtain ⟨v18, n18, hq18⟩ := hn 2 18 (by kernel_rfl) rfl
      obtain rfl := hq18.1 (by decide)
      clear ho hn
      refine ⟨wanted_of 2 18 rfl rfl n18, ?_⟩
      exact ⟨.slice (some ⟨w8.heap.size, 0, none⟩) 3 3, w8.alloc (.cells #[.int .i64 9223372036854775807, .int .i64 1, .int .i64 (-1)] 2), (by go_simp), alloc_below _ _, w8.heap.size, rfl, Blk.new w8 _ _⟩
    rcases i with _ | i
    · refine gr_call HU 46 rfl (by decide) ?_
      intro a8 w8 hb8 ho hn
      obtain ⟨v19, n19, hq19⟩ := hn 3 19 (by kernel_rfl) rfl
      have hv19 := hq19.2 (by decide)
      obtain ⟨v18, n18, hq18⟩ := hn 2 18 (by kernel_rfl) rfl
      obtain rfl := hq18.1 (by decide)
      clear ho hn
      refine ⟨wanted_of 2 18 rfl rfl n18, ?_⟩
      obtain ⟨g9, rfl, h9⟩ : sl 3 #[.int .i64 9223372036854775807, .int .i64 1, .int .i64 (-1)] v19 w8 := hv19
      refine ⟨#[.int .i64 1, .int .i64 9223372036854775807, .slice (some ⟨g9, 0, none⟩) 3 3], (by go_simp), (l16row_yes 1 9223372036854775807 [9223372036854775807, 1, -1] (by decide +kernel) (by decide +kernel) g9 w8 h9).mono ?_⟩
      rintro e w9 ⟨rfl, b9⟩
      exact ⟨_, rfl, b9, rfl⟩
    rcases i with _ | i
    · refine gr_value rfl (by decide) (.bool true) rfl ?_
      intro a8 w8 hb8 ho hn
      obtain ⟨v18, n18, hq18⟩ := hn 2 18 (by kernel_rfl) rfl
      obtain rfl := hq18.1 (by decide)
      obtain ⟨v20, n20, hq20⟩ := hn 4 20 (by kernel_rfl) rfl
      have hv20 := hq20.2 (by decide)
      clear ho hn
      refine ⟨wanted_free rfl, ?_⟩
      obtain rfl : v20 = .bool true := hv20
      clear hq20
      go_simp
    rcases i with _ | i
    · refine gr_value rfl (by decide) (.bool true) rfl ?_
      intro a8 w8 hb8 ho hn
      obtain ⟨v21, n21, hq21⟩ := hn 5 21 (by kernel_rfl) rfl
      obtain rfl := hq21.1 (by decide)
      clear ho hn
      refine ⟨wanted_free rfl, ?_⟩
      go_simp
    rcases i with _ | i
    · refine gr_value rfl (by decide) (.int .i64 7) rfl ?_
      intro a8 w8 hb8 ho hn
      have o2 : a8.tmps[2]? = some _ := (ho 2 (by kernel_rfl)).trans rfl
      obtain ⟨v22, n22, hq22⟩ := hn 6 22 (by kernel_rfl) rfl
      obtain rfl := hq22.1 (by decide)
      clear ho hn
      refine ⟨wanted_of 6 22 rfl rfl n22, ?_⟩
      go_simp
    rcases i with _ | i
    · refine gr_value rfl (by decide) (.bool true) rfl ?_
      intro a8 w8 hb8 ho hn
      obtain ⟨v23, n23, hq23⟩ := hn 7 23 (by kernel_rfl) rfl
      obtain rfl := hq23.1 (by decide)
      obtain ⟨v22, n22, hq22⟩ := hn 6 22 (by kernel_rfl) rfl
      obtain rfl := hq22.1 (by decide)
      clear ho hn
      refine ⟨wanted_of 6 22 rfl rfl n22, ?_⟩
      go_simp
    rcases i with _ | i
    · refine gr_value rfl (by decide) (.bool true) rfl ?_
      intro a8 w8 hb8 ho hn
      obtain ⟨v22, n22, hq22⟩ := hn 6 22 (by kernel_rfl) rfl
      obtain rfl := hq22.1 (by decide)
      obtain ⟨v24, n24, hq24⟩ := hn 8 24 (by kernel_rfl) rfl
      obtain rfl := hq24.1 (by decide)
      clear ho hn
      refine ⟨wanted_free rfl, ?_⟩
      go_simp
    rcases i with _ | i
    · refine gr_value rfl (by decide) (.bool true) rfl ?_
      intro a8 w8 hb8 ho hn
      obtain ⟨v25, n25, hq25⟩ := hn 9 25 (by kernel_rfl) rfl
      obtain rfl := hq25.1 (by decide)
      clear ho hn
      refine ⟨wanted_free rfl, ?_⟩
      go_simp
    rcases i with _ | i
    · refine gr_value rfl (by decide) (.agg #[.int .i64 1, .slice r.A0 1 r.c0, .slice r.A1 3 r.c1]) rfl ?_
      intro a8 w8 hb8 ho hn
      have o3 : a8.tmps[3]? = some _ := (ho 3 (by kernel_rfl)).trans rfl
      obtain ⟨v26, n26, hq26⟩ := hn 10 26 (by kernel_rfl) rfl
      obtain rfl := hq26.1 (by decide)
      clear ho hn
      refine ⟨wanted_of 10 26 rfl rfl n26, ?_⟩
      obtain ⟨x0, x1, x2⟩ := HBX.out w8 hb8
      go_simp
    rcases i with _ | i
    · refine gr_value rfl (by decide) (.int .i64 0) rfl ?_
      intro a8 w8 hb8 ho hn
      have o4 : a8.tmps[4]? = some _ := (ho 4 (by kernel_rfl)).trans rfl
      obtain ⟨v26, n26, hq26⟩ := hn 10 26 (by kernel_rfl) rfl
      obtain rfl := hq26.1 (by decide)
      clear ho hn
      refine ⟨wanted_of 10 26 rfl rfl n26, ?_⟩
      go_simp
    rcases i with _ | i
    · refine gr_make HU rfl (by decide) ?_
      intro a8 w8 hb8 ho hn
      obtain ⟨v26, n26, hq26⟩ := hn 10 26 (by kernel_rfl) rfl
      obtain rfl := hq26.1 (by decide)
      clear ho hn
      refine ⟨wanted_of 10 26 rfl rfl n26, ?_⟩
      exact ⟨.slice (some ⟨w8.heap.size, 0, none⟩) 3 3, w8.alloc (.cells #[.int .i64 1, .int .i64 (-1), .int .i64 2] 2), (by go_simp), alloc_below _ _, w8.heap.size, rfl, Blk.new w8 _ _⟩
    rcases i with _ | i
    · refine gr_call HU 27 rfl (by decide) ?_
      intro a8 w8 hb8 ho hn
      obtain ⟨v29, n29, hq29⟩ := hn 13 29 (by kernel_rfl) rfl
      have hv29 := hq29.2 (by decide)
      obtain ⟨v26, n26, hq26⟩ := hn 10 26 (by kernel_rfl) rfl
      obtain rfl := hq26.1 (by decide)
      clear ho hn
      refine ⟨wanted_of 10 26 rfl rfl n26, ?_⟩
      obtain ⟨g9, rfl, h9⟩ : sl 3 #[.int .i64 1, .int .i64 (-1), .int .i64 2] v29 w8 := hv29
      refine ⟨#[.slice (some ⟨g9, 0, none⟩) 3 3], (by go_simp), (vec_give [1, -1, 2] (by decide) (by decide +kernel) _ _ _ w8 rfl (lit_rd h9)).mono ?_⟩
      rintro e w9 ⟨p9, rfl, e9, c9, b9⟩
      exact ⟨_, rfl, b9, p9, rfl, e9⟩
    rcases i with _ | i
    · refine gr_call HU 44 rfl (by decide) ?_
      intro a8 w8 hb8 ho hn
      obtain ⟨v27, n27, hq27⟩ := hn 11 27 (by kernel_rfl) rfl
      obtain rfl := hq27.1 (by decide)
      obtain ⟨v28, n28, hq28⟩ := hn 12 28 (by kernel_rfl) rfl
      obtain rfl := hq28.1 (by decide)
      obtain ⟨v30, n30, hq30⟩ := hn 14 30 (by kernel_rfl) rfl
      have hv30 := hq30.2 (by decide)
      obtain ⟨v26, n26, hq26⟩ := hn 10 26 (by kernel_rfl) rfl
      obtain rfl := hq26.1 (by decide)
      clear ho hn
      refine ⟨wanted_of 10 26 rfl rfl n26, ?_⟩
      obtain ⟨p9, rfl, h9⟩ : xw (vecF [1, -1, 2]) v30 w8 := hv30
      refine ⟨#[.agg #[.int .i64 1, .slice r.A0 1 r.c0, .slice r.A1 3 r.c1], .int .i64 0, .agg (arC (vecF [1, -1, 2]) p9)], (by go_simp), (l16is_yes (vecF [1, -1, 2]) r p9 w8 (HEX.out w8 hb8) h9).mono ?_⟩
      rintro e w9 ⟨rfl, b9⟩
      exact ⟨_, rfl, b9, rfl⟩
    rcases i with _ | i
    · refine gr_value rfl (by decide) (.bool true) rfl ?_
      intro a8 w8 hb8 ho hn
      obtain ⟨v26, n26, hq26⟩ := hn 10 26 (by kernel_rfl) rfl
      obtain rfl := hq26.1 (by decide)
      obtain ⟨v31, n31, hq31⟩ := hn 15 31 (by kernel_rfl) rfl
      have hv31 := hq31.2 (by decide)
      clear ho hn
      refine ⟨wanted_free rfl, ?_⟩
      obtain rfl : v31 = .bool true := hv31
      clear hq31
      go_simp
    rcases i with _ | i
    · refine gr_value rfl (by decide) (.bool true) rfl ?_
      intro a8 w8 hb8 ho hn
      obtain ⟨v32, n32, hq32⟩ := hn 16 32 (by kernel_rfl) rfl
      obtain rfl := hq32.1 (by decide)
      clear ho hn
      refine ⟨wanted_free rfl, ?_⟩
      go_simp
    omega
  · intro dn fv w5 hb5 hR5 hall
    have h0 : fv 0 = _ := (hR5 17 0 rfl).1 (by decide)
    simp only [putAll, List.foldl_cons, List.foldl_nil, Act.put, List.setIfInBounds_toArray, List.set_cons_succ, List.set_cons_zero, h0, List.getD_cons_zero, List.getD_cons_succ]
    clear hR5 hall
    go_wp2
    go_ret
    exact ⟨rfl, HFB.out.trans (hb5.mono HFB.out.size)⟩
end Go.Proofs.Ytkabdkblcgklmaa.fo

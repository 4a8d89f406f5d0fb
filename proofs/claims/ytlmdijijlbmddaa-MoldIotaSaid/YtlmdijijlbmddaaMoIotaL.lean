/-
  The walk of the statement MoldIota.
-/
import Derived.Test.YtlmdijijlbmddaaMoAlive
import Derived.Test.YtlmdijijlbmddaaMoVec
import Derived.Test.YtlmdijijlbmddaaMoBox
namespace Go.Proofs.Ytlmdijijlbmddaa.moldIota
open Go.RowKit Go.Proofs.Ytlmdijijlbmddaa.arr Go.Proofs.Ytlmdijijlbmddaa.mo

theorem _root_.Go.Proofs.Ytlmdijijlbmddaa.arr.AOwn.mono {B C : Nat} {W : World} {a : AV} {p : AP} (h : AOwn B W a p) (hC : C ≤ B) : AOwn C W a p := ⟨arown_mono h.o0 hC, arown_mono h.o1 hC⟩
theorem io_len (m : Nat) (f : Int → Int) : (makeA 1 [(m : Int)] f).el.length = m := by
  have hp : prodI [(m : Int)] = m := Int.mul_one _
  show (fL f (prodI [(m : Int)]).toNat).length = m
  rw [fL_length, hp]
  omega
theorem io_at (m : Nat) (f : Int → Int) (j : Nat) (h : j < m) : (makeA 1 [(m : Int)] f).el[j]? = some (f j) := by
  have hp : prodI [(m : Int)] = m := Int.mul_one _
  show (fL f (prodI [(m : Int)]).toNat)[j]? = _
  rw [hp, Int.toNat_natCast]
  simp [fL, h]
theorem io_val (j : Nat) (h : j < 5000) : ioF (j : Int) = (j : Int) + 1 := by
  unfold ioF wrap64
  omega
theorem io_el (n : Int) (h0 : 0 ≤ n) (h1 : n ≤ 4096) : ioE ⟨1, [], [n]⟩ = 0 ∧ ioA ⟨1, [], [n]⟩ = makeA 1 [n] ioF := by
  have hE : ioE ⟨1, [], [n]⟩ = 0 := by
    unfold ioE
    rw [one_ok, if_neg (by decide)]
    show (if 0 < 0 then (3 : Int) else if (1 : Int) = 2 ∨ n < 0 then 5 else if 4096 < n then 9 else 0) = 0
    rw [if_neg (by decide), if_neg (by omega), if_neg (by omega)]
  refine ⟨hE, ?_⟩
  unfold ioA
  rw [hE, if_pos rfl]
  rfl
theorem io_no (n : Int) (h : n < 0 ∨ 4096 < n) : ioE ⟨1, [], [n]⟩ = (if n < 0 then 5 else 9) ∧ ioA ⟨1, [], [n]⟩ = noA := by
  have hE : ioE ⟨1, [], [n]⟩ = (if n < 0 then 5 else 9) := by
    unfold ioE
    rw [one_ok, if_neg (by decide)]
    show (if 0 < 0 then (3 : Int) else if (1 : Int) = 2 ∨ n < 0 then 5 else if 4096 < n then 9 else 0) = _
    rw [if_neg (by decide)]
    by_cases h2 : n < 0
    · rw [if_pos (.inr h2), if_pos h2]
    · rw [if_neg (by omega), if_neg h2, if_pos (by omega)]
  refine ⟨hE, ?_⟩
  unfold ioA
  rw [hE]
  split <;> rfl

set_option maxRecDepth 100000 in
set_option maxHeartbeats 8000000 in
theorem walk (n k : Int) (hn0 : -9223372036854775808 ≤ n) (hn1 : n ≤ 9223372036854775807) (hk0 : -9223372036854775808 ≤ k) (hk1 : k ≤ 9223372036854775807) (w : World) :
    Calls Try.prog 8 #[.int .i64 n, .int .i64 k] w fun e w' => e = .returned (.bool true) ∧ Below w.heap.size w w' := by
  by_cases hr : n < 0 ∨ 4096 < n
  · obtain ⟨hE, hA⟩ := io_no n hr
    have HIO : Hid (∀ (p : AP) (W : World), AEl W ⟨1, [], [n]⟩ p → Calls Try.prog 40 #[.agg (arC ⟨1, [], [n]⟩ p)] W (GiveE noA (if n < 0 then 5 else 9) W)) := Lib.hid (fun p W h => by
      have := moiota_any _ p W h
      rw [hE, hA] at this
      exact this)
    have HPC : Hid (∀ p, arC noA p = #[.int .i64 0, .slice p.A0 0 p.c0, .slice p.A1 0 p.c1]) := Lib.hid (fun p => rfl)
    clear hE hA
    by_cases hn : n < 0
    · rw [if_pos hn] at HIO
      have hng : ¬ 4096 < n := by omega
      clear hr
      go_enter Try.func8, Try.ntmps8
      go_wp2_with (first
        | (go_at_call 40; refine (HIO.out p1 _ E1.out).mono ?_; rintro e w2 ⟨r, rfl, o2, b2⟩; rw [HPC.out r]; have BW2 := Lib.hid (bon BW1.out b2); clear o2 b2)
        | (go_at_call 35; refine (l13scalar n hn0 hn1 _).mono ?_; rintro e w1 ⟨p1, rfl, h1, c1, b1⟩; have E1 := Lib.hid h1; have BW1 := Lib.hid (bon BW0.out b1); clear h1 c1 b1)
        | (go_at_call 27; refine (l13alive _).mono ?_; rintro e w0 ⟨rfl, b0⟩; have BW0 := Lib.hid b0; clear b0))
      go_ret
      exact ⟨rfl, bon BW2.out (albel _ _)⟩
    · rw [if_neg hn] at HIO
      have hng : 4096 < n := by omega
      clear hr
      go_enter Try.func8, Try.ntmps8
      go_wp2_with (first
        | (go_at_call 40; refine (HIO.out p1 _ E1.out).mono ?_; rintro e w2 ⟨r, rfl, o2, b2⟩; rw [HPC.out r]; have BW2 := Lib.hid (bon BW1.out b2); clear o2 b2)
        | (go_at_call 35; refine (l13scalar n hn0 hn1 _).mono ?_; rintro e w1 ⟨p1, rfl, h1, c1, b1⟩; have E1 := Lib.hid h1; have BW1 := Lib.hid (bon BW0.out b1); clear h1 c1 b1)
        | (go_at_call 27; refine (l13alive _).mono ?_; rintro e w0 ⟨rfl, b0⟩; have BW0 := Lib.hid b0; clear b0))
      go_ret
      exact ⟨rfl, bon BW2.out (albel _ _)⟩
  obtain ⟨N, hN⟩ := Int.eq_ofNat_of_zero_le (show 0 ≤ n by omega)
  subst hN
  have hN4 : N ≤ 4096 := by omega
  clear hr hn0 hn1
  obtain ⟨hE, hA⟩ := io_el (N : Int) (by omega) (by omega)
  obtain ⟨m, f, hdE, hdA, hmn, hf⟩ := drop_one k (makeA 1 [(N : Int)] ioF) N hN4 rfl (okA_mk _ hN4) rfl
  have hfv : ∀ j : Nat, j < m → f j = (j : Int) + 1 + max 0 k ∧ (j : Int) + max 0 k < N := fun j hj => by
    obtain ⟨h1, h2⟩ := hf j hj
    refine ⟨?_, h1⟩
    rw [h2, List.getD_eq_getElem?_getD, io_at N ioF _ (by omega), Option.getD_some, io_val _ (by omega)]
    omega
  obtain ⟨Y, hY⟩ : ∃ Y, makeA 1 [(N : Int)] ioF = Y := ⟨_, rfl⟩
  have hYl : Y.el.length = N := by rw [← hY]; exact io_len _ _
  have HYA : Hid (∀ j, j < N → Y.el[j]? = some ((j : Int) + 1)) := Lib.hid (fun j hj => by rw [← hY, io_at N ioF j hj, io_val j (by omega)])
  have hYP : ∀ p, arC Y p = #[.int .i64 1, .slice p.A0 1 p.c0, .slice p.A1 N p.c1] := fun p => by
    unfold arC
    rw [hYl, ← hY]
    rfl
  have HYF : Hid (Y.sh.length ≤ 9223372036854775807 ∧ ∀ z ∈ Y.el, -9223372036854775808 ≤ z ∧ z ≤ 9223372036854775807) := Lib.hid (by
    refine ⟨by rw [← hY]; simp [makeA], fun z hz => ?_⟩
    obtain ⟨j, hj, e⟩ := List.mem_iff_getElem.1 hz
    have := HYA.out j (by omega)
    rw [List.getElem?_eq_getElem hj, e] at this
    injection this
    omega)
  have HIO : Hid (∀ (p : AP) (W : World), AEl W ⟨1, [], [(N : Int)]⟩ p → Calls Try.prog 40 #[.agg (arC ⟨1, [], [(N : Int)]⟩ p)] W (GiveE Y 0 W)) := Lib.hid (fun p W h => by
    have := moiota_any _ p W h
    rw [hE, hA, hY] at this
    exact this)
  rw [hY] at hdE hdA
  obtain ⟨X, hX⟩ : ∃ X, makeA 1 [(m : Int)] f = X := ⟨_, rfl⟩
  have hXl : X.el.length = m := by rw [← hX]; exact io_len _ _
  have HXA : Hid (∀ j, j < m → X.el[j]? = some ((j : Int) + 1 + max 0 k) ∧ (j : Int) + max 0 k < N) := Lib.hid (fun j hj => by rw [← hX, io_at m f j hj, (hfv j hj).1]; exact ⟨rfl, (hfv j hj).2⟩)
  have HXF : Hid (X.sh.length ≤ 9223372036854775807 ∧ ∀ z ∈ X.el, -9223372036854775808 ≤ z ∧ z ≤ 9223372036854775807) := Lib.hid (by
    refine ⟨by rw [← hX]; simp [makeA], fun z hz => ?_⟩
    obtain ⟨j, hj, e⟩ := List.mem_iff_getElem.1 hz
    obtain ⟨this, h2⟩ := HXA.out j (by omega)
    rw [List.getElem?_eq_getElem hj, e] at this
    injection this
    omega)
  have hXP : ∀ p, arC X p = #[.int .i64 1, .slice p.A0 1 p.c0, .slice p.A1 m p.c1] := fun p => by
    unfold arC
    rw [hXl, ← hX]
    rfl
  have HPC : Hid (∀ p, arC X p = #[.int .i64 X.kind, .slice p.A0 X.sh.length p.c0, .slice p.A1 X.el.length p.c1]) := Lib.hid (fun p => rfl)
  rw [hX] at hdA
  have HDR := Lib.hid (fun (p q : AP) (W : World) (h1 : AEl W ⟨1, [], [k]⟩ p) (h2 : AEl W Y q) => by
    have := modrop_any ⟨1, [], [k]⟩ Y p q W h1 h2
    rw [hdE, hdA, hYP q] at this
    exact this)
  have HYP := Lib.hid hYP
  have HXP := Lib.hid hXP
  have HYL := Lib.hid hYl
  have HXL := Lib.hid hXl
  have d0 : ¬ (N : Int) < 0 := by omega
  have d1 : ¬ 4096 < (N : Int) := by omega
  have hm4 : m ≤ 4096 := by omega
  clear hE hA hdE hdA hf hfv hY hX hYP hXP hYl hXl hmn
  go_enter Try.func8, Try.ntmps8
  go_upto_region 5 with (first
    | (go_at_call 40; refine (HIO.out p1 _ E1.out).mono ?_; rintro e w2 ⟨p2, rfl, o2, b2⟩; rw [HYP.out p2]; have BW2 := Lib.hid (bon BW1.out b2); have E2 := Lib.hid (o2.el HYF.out.1 (by rw [HYL.out]; omega) HYF.out.2); clear o2 b2)
    | (go_at_call 35; refine (l13scalar (N : Int) (by omega) (by omega) _).mono ?_; rintro e w1 ⟨p1, rfl, h1, c1, b1⟩; have E1 := Lib.hid h1; have BW1 := Lib.hid (bon BW0.out b1); clear h1 c1 b1)
    | (go_at_call 27; refine (l13alive _).mono ?_; rintro e w0 ⟨rfl, b0⟩; have BW0 := Lib.hid b0; clear b0))
  obtain ⟨g6, hg6⟩ : ∃ g, w2.heap.size = g := ⟨_, rfl⟩
  obtain ⟨w3, hw3⟩ : ∃ w3, w2.alloc (.cells #[.int .i64 1, .slice p2.A0 1 p2.c0, .slice p2.A1 N p2.c1] 63) = w3 := ⟨_, rfl⟩
  have K6 : Blk w3 g6 63 #[.int .i64 1, .slice p2.A0 1 p2.c0, .slice p2.A1 N p2.c1] := by rw [← hw3, ← hg6]; exact Blk.new _ _ _
  have HE6 : Hid (∀ W, Below w3.heap.size w3 W → AEl W Y p2) := Lib.hid (fun W hb => AEl.below (a := Y) (p := p2) (by rw [← hw3]; (first | with_reducible exact Hid.out (by assumption) | ((with_reducible refine AEl.below ?_ (albel _ _)); (first | with_reducible exact Hid.out (by assumption) | ((with_reducible refine AEl.below ?_ (albel _ _)); (first | with_reducible exact Hid.out (by assumption) | ((with_reducible refine AEl.below ?_ (albel _ _)); (first | with_reducible exact Hid.out (by assumption) | ((with_reducible refine AEl.below ?_ (albel _ _)); (first | with_reducible exact Hid.out (by assumption))))))))))) hb)
  have HX : Hid (∀ W, Below w3.heap.size w3 W → W.cell? ⟨g6, 0, none⟩ = some (.int .i64 1) ∧ W.cell? ⟨g6, 1, none⟩ = some (.slice p2.A0 1 p2.c0) ∧ W.cell? ⟨g6, 2, none⟩ = some (.slice p2.A1 N p2.c1)) := Lib.hid (fun W hb => ⟨(blk_up K6 hb).cell 0, (blk_up K6 hb).cell 1, (blk_up K6 hb).cell 2⟩)
  have BW3 : Hid (Below w.heap.size w w3) := Lib.hid (by rw [← hw3]; exact bon BW2.out (albel _ _))
  have HD : Hid (∀ (p : AP) (W : World), AEl W ⟨1, [], [k]⟩ p → Below w3.heap.size w3 W → Calls Try.prog 39 #[.agg (arC ⟨1, [], [k]⟩ p), .agg #[.int .i64 1, .slice p2.A0 1 p2.c0, .slice p2.A1 N p2.c1]] W (GiveE X 0 W)) := Lib.hid (fun p W h hb => HDR.out p p2 W h (HE6.out W hb))
  rw [hw3, hg6]
  clear hw3 hg6 K6 HDR HIO BW2 E2 E1 BW1 BW0
  clear w0 w1 w2
  obtain ⟨w0, hw0⟩ : ∃ w0, w3 = w0 := ⟨_, rfl⟩
  subst hw0
  have HUX : BxU w3 (lookU [(1, xo w3 ⟨1, [], [k]⟩), (3, xto w3 X 0), (4, xto w3 X 0), (5, xo w3 X)]) := lookU_two (by
    intro x hx
    simp only [List.mem_cons, List.not_mem_nil, or_false] at hx
    rcases hx with rfl | rfl | rfl | rfl <;> first | exact xo_stk _ _ | exact xto_stk _ _ _)
  refine wp_region_doneT_on (BxS w3 7 8 8 X) (bxR 7 [1, 3, 4, 5] (lookU [(1, xo w3 ⟨1, [], [k]⟩), (3, xto w3 X 0), (4, xto w3 X 0), (5, xo w3 X)]) [.int .i64 k, undef, .agg #[.int .i64 1, .slice p2.A0 1 p2.c0, .slice p2.A1 N p2.c1], undef, undef, undef, .int .i64 0, undef, undef, .int .i64 0]) (by kernel_rfl) 96 rfl (by kernel_rfl) ⟨(Below.refl _ _).drew, fun e => (by cases e), fun e => (by cases e)⟩ ?_ ?_
  · intro i hi
    have hi2 : i < 10 := hi
    clear hi
    rcases i with _ | i
    · refine bx_value HUX rfl (by decide) (by decide) (by decide) 43 rfl (by decide) (.int .i64 k) rfl ?_
      intro a8 w8 hb8 ho hn
      have o1 : a8.tmps[1]? = some _ := (ho 1 (by kernel_rfl)).trans rfl
      clear ho hn
      refine ⟨wanted_free rfl, ?_⟩
      go_simp
    rcases i with _ | i
    · refine bx_call HUX 35 rfl (by decide) (by decide) (by decide) 44 rfl (by decide) ?_
      intro a8 w8 hb8 ho hn
      obtain ⟨v43, n43, hq43⟩ := hn 0 43 (by kernel_rfl) rfl
      obtain rfl := hq43.1 (by decide) (by decide)
      clear ho hn
      refine ⟨wanted_free rfl, ?_⟩
      refine ⟨#[.int .i64 k], (by go_simp), (arscalar_any k w8).mono ?_⟩
      rintro e w9 ⟨v, rfl, p, rfl, o, b⟩
      exact ⟨_, rfl, b, p, rfl, o.mono hb8.size⟩
    rcases i with _ | i
    · refine bx_value HUX rfl (by decide) (by decide) (by decide) 45 rfl (by decide) (.agg #[.int .i64 1, .slice p2.A0 1 p2.c0, .slice p2.A1 N p2.c1]) rfl ?_
      intro a8 w8 hb8 ho hn
      have o6 : a8.tmps[6]? = some _ := (ho 6 (by kernel_rfl)).trans rfl
      clear ho hn
      refine ⟨wanted_free rfl, ?_⟩
      obtain ⟨x0, x1, x2⟩ := HX.out w8 hb8
      go_simp
    rcases i with _ | i
    · refine bx_call HUX 39 rfl (by decide) (by decide) (by decide) 46 rfl (by decide) ?_
      intro a8 w8 hb8 ho hn
      obtain ⟨v44, n44, hq44⟩ := hn 1 44 (by kernel_rfl) rfl
      have hv44 : xo w3 ⟨1, [], [k]⟩ v44 w8 := hq44.2 (by decide)
      obtain ⟨v45, n45, hq45⟩ := hn 2 45 (by kernel_rfl) rfl
      obtain rfl := hq45.1 (by decide) (by decide)
      clear ho hn
      refine ⟨wanted_free rfl, ?_⟩
      obtain ⟨p, rfl, o⟩ := hv44
      refine ⟨#[.agg (arC ⟨1, [], [k]⟩ p), .agg #[.int .i64 1, .slice p2.A0 1 p2.c0, .slice p2.A1 N p2.c1]], (by go_simp), (HD.out p w8 (o.el (by simp) (by simp) (fun z hz => by rw [List.mem_singleton] at hz; omega)) hb8).mono ?_⟩
      rintro e w9 ⟨r, rfl, o9, b9⟩
      exact ⟨_, rfl, b9, r, rfl, o9.mono hb8.size⟩
    rcases i with _ | i
    · refine bx_make HUX rfl (by decide) (by decide) (by decide) 42 rfl (by decide) ?_
      intro a8 w8 hb8 ho hn
      obtain ⟨v46, n46, hq46⟩ := hn 3 46 (by kernel_rfl) rfl
      have hv46 : xto w3 X 0 v46 w8 := hq46.2 (by decide)
      clear ho hn
      refine ⟨wanted_free rfl, ?_⟩
      exact ⟨v46, w8, (by go_simp), Below.refl _ _, hv46⟩
    rcases i with _ | i
    · refine bx_make HUX rfl (by decide) (by decide) (by decide) 47 rfl (by decide) ?_
      intro a8 w8 hb8 ho hn
      obtain ⟨v42, n42, hq42⟩ := hn 4 42 (by kernel_rfl) rfl
      have hv42 : xto w3 X 0 v42 w8 := hq42.2 (by decide)
      clear ho hn
      refine ⟨wanted_free rfl, ?_⟩
      obtain ⟨p, rfl, o⟩ := hv42
      exact ⟨.agg (arC X p), w8, (by go_simp), Below.refl _ _, p, rfl, o⟩
    rcases i with _ | i
    · refine bx_value HUX rfl (by decide) (by decide) (by decide) 48 rfl (by decide) (.int .i64 0) rfl ?_
      intro a8 w8 hb8 ho hn
      obtain ⟨v42, n42, hq42⟩ := hn 4 42 (by kernel_rfl) rfl
      have hv42 : xto w3 X 0 v42 w8 := hq42.2 (by decide)
      clear ho hn
      refine ⟨wanted_free rfl, ?_⟩
      obtain ⟨p, rfl, o⟩ := hv42
      go_simp
    rcases i with _ | i
    · refine bx_alloc HUX rfl (by decide) (by decide) rfl (.int .i64 0) (.slice none 0 0) (.slice none 0 0) ?_
      intro a8 w8 ho
      have o95 : a8.tmps[95]? = some _ := (ho 95 (by kernel_rfl)).trans rfl
      have hsz : 95 < a8.tmps.size := (Array.getElem?_eq_some_iff.1 o95).1
      refine ⟨by omega, wanted_free rfl, ?_⟩
      go_simp
    rcases i with _ | i
    · refine bx_store HUX rfl rfl (by decide) (by decide) rfl (by kernel_rfl) rfl ?_
      intro a8 w8 g u0 u1 u2 hg n8 hn
      obtain ⟨v47, n47, hq47⟩ := hn 5 47 (by kernel_rfl) rfl
      have hv47 : xo w3 X v47 w8 := hq47.2 (by decide)
      clear hn
      refine ⟨wanted_free rfl, ?_⟩
      obtain ⟨r, rfl, o⟩ := hv47
      have x0 := hg.cell 0
      have x1 := hg.cell 1
      have x2 := hg.cell 2
      have f0 := hg.frozen 0
      have f1 := hg.frozen 1
      have f2 := hg.frozen 2
      refine ⟨r, o, ?_⟩
      rw [HPC.out r] at n47
      clear hg o
      go_simp
    rcases i with _ | i
    · refine bx_value HUX rfl (by decide) (by decide) (by decide) 9 rfl (by decide) (.int .i64 0) rfl ?_
      intro a8 w8 hb8 ho hn
      obtain ⟨v48, n48, hq48⟩ := hn 6 48 (by kernel_rfl) rfl
      obtain rfl := hq48.1 (by decide) (by decide)
      clear ho hn
      refine ⟨wanted_free rfl, ?_⟩
      go_simp
    omega
  · intro dn fv w5 hS5 hR5 hall
    obtain ⟨g8, e8, hg8, _, hfin⟩ := hS5.h (hall 7 (by decide))
    obtain ⟨r, hb8, ho8⟩ := hfin (hall 8 (by decide))
    have hbw := hS5.b
    have h48 : fv 9 = .int .i64 0 := (hR5 9 9 rfl).1 (by decide) (by decide)
    clear hS5 hR5 hall hfin
    simp only [putAll, List.foldl_cons, List.foldl_nil, Act.put, List.setIfInBounds_toArray, List.set_cons_succ, List.set_cons_zero, List.getElem?_toArray, List.getElem?_cons_succ, List.getElem?_cons_zero, Option.some.injEq] at e8 ⊢
    rw [e8, h48]
    rw [HXP.out r] at hb8
    have E8 := ho8.el HXF.out.1 (by rw [HXL.out]; omega) HXF.out.2
    have HC6 := Lib.hid (fun W (hb : Below w5.heap.size w5 W) => HX.out W (bon hbw hb))
    have HA6 : Hid (∀ j W, j < N → Below w5.heap.size w5 W → ∃ ad, p2.A1 = some ad ∧ W.cell? (ad.add j) = some (.int .i64 ((j : Int) + 1))) := Lib.hid (fun j W hj hb => by
      obtain ⟨ad, e1, _, hc⟩ := (HE6.out W (bon hbw hb)).r1.2 (by rw [HYL.out]; omega)
      exact ⟨ad, e1, hc j _ (by rw [List.getElem?_map, HYA.out j hj]; rfl)⟩)
    have HC8 : Hid (∀ W, Below w5.heap.size w5 W → W.cell? ⟨g8, 0, none⟩ = some (.int .i64 1) ∧ W.cell? ⟨g8, 1, none⟩ = some (.slice r.A0 1 r.c0) ∧ W.cell? ⟨g8, 2, none⟩ = some (.slice r.A1 m r.c1)) := Lib.hid (fun W hb => ⟨(blk_up hb8 hb).cell 0, (blk_up hb8 hb).cell 1, (blk_up hb8 hb).cell 2⟩)
    have HA8 : Hid (∀ j W, j < m → Below w5.heap.size w5 W → ∃ ad, r.A1 = some ad ∧ W.cell? (ad.add j) = some (.int .i64 ((j : Int) + 1 + max 0 k))) := Lib.hid (fun j W hj hb => by
      obtain ⟨ad, e1, _, hc⟩ := (E8.below hb).r1.2 (by rw [HXL.out]; omega)
      exact ⟨ad, e1, hc j _ (by rw [List.getElem?_map, (HXA.out j hj).1]; rfl)⟩)
    have BW5 := Lib.hid (bon BW3.out hbw)
    obtain ⟨x0, x1, x2⟩ := HC6.out w5 (Below.refl _ _)
    obtain ⟨y0, y1, y2⟩ := HC8.out w5 (Below.refl _ _)
    generalize fv 43 = u43
    generalize fv 44 = u44
    generalize fv 45 = u45
    generalize fv 46 = u46
    generalize fv 42 = u42
    generalize fv 47 = u47
    generalize fv 48 = u48
    clear hb8 ho8 E8 hbw e8 h48 hg8 HE6 HX HD BW3 HUX
    go_wp2
    go_loopw [65] (fun i wr => ∃ j : Nat, j ≤ N ∧ i = .int .i64 (j : Int) ∧ Below w5.heap.size w5 wr) (fun i _ => N - (intOf i).toNat)
    case atStart => exact ⟨0, Nat.zero_le _, rfl, Below.refl _ _⟩
    case round =>
      obtain ⟨j, hj, rfl, hbw⟩ := hrel
      clear x0 x1 x2 y0 y1 y2
      obtain ⟨x0, x1, x2⟩ := HC6.out _ hbw
      have HW := Lib.hid hbw
      by_cases hlt : j < N
      · have hd : (j : Int) < (N : Int) := by omega
        obtain ⟨ad, hA, cA⟩ := HA6.out j _ hlt hbw
        rw [hA] at x2
        clear hbw hA
        go_wp2
        exact ⟨⟨j + 1, by omega, by go_num, HW.out⟩, by simp [intOf]; omega⟩
      · obtain rfl : j = N := by omega
        obtain ⟨y0, y1, y2⟩ := HC8.out _ hbw
        clear hbw
        go_wp2
        go_loopw [80] (fun i wr => ∃ j : Nat, j ≤ m ∧ i = .int .i64 (j : Int) ∧ Below w5.heap.size w5 wr) (fun i _ => m - (intOf i).toNat)
        case atStart => exact ⟨0, Nat.zero_le _, rfl, HW.out⟩
        case round =>
          obtain ⟨j2, hj2, rfl, hbw2⟩ := hrel
          clear x0 x1 x2 y0 y1 y2
          obtain ⟨y0, y1, y2⟩ := HC8.out _ hbw2
          have HW2 := Lib.hid hbw2
          by_cases hlt2 : j2 < m
          · have hd2 : (j2 : Int) < (m : Int) := by omega
            obtain ⟨ad, hA, cA⟩ := HA8.out j2 _ hlt2 hbw2
            have hb2 := (HXA.out j2 hlt2).2
            rw [hA] at y2
            obtain ⟨mk, hmk⟩ : ∃ mk, max 0 k = mk := ⟨_, rfl⟩
            have hmk0 : 0 ≤ mk := by omega
            rw [hmk] at cA hb2
            clear hbw2 hA
            go_wp2
            exact ⟨⟨j2 + 1, by omega, by go_num, HW2.out⟩, by simp [intOf]; omega⟩
          · obtain rfl : j2 = m := by omega
            clear hbw2
            go_wp2
            go_ret
            exact ⟨rfl, bon BW5.out HW2.out⟩
theorem call (n : Int) (hn0 : -9223372036854775808 ≤ n) (hn1 : n ≤ 9223372036854775807) (k : Int) (hk0 : -9223372036854775808 ≤ k) (hk1 : k ≤ 9223372036854775807) (w : World) :
    Calls Try.prog 8 #[.int .i64 n, .int .i64 k] w fun e w' => e = .returned (.bool true) ∧ Below w.heap.size w w' := walk n k hn0 hn1 hk0 hk1 w
end Go.Proofs.Ytlmdijijlbmddaa.moldIota

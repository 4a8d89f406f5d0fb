/-
  Layer 12 (scalar): the calls of the chapter's examples, each with its answer.
-/
import Derived.Test.YtkdnaebmifjmcaaDoorScMapT
import Derived.Test.YtkdnaebmifjmcaaDoorScLive
import Derived.Test.YtkdnaebmifjmcaaDoorScDoor
import Derived.Test.YtkdnaebmifjmcaaDoorArRunes
import Derived.Test.YtkdnaebmifjmcaaDoorArRSame
import Derived.Test.YtkdnaebmifjmcaaDoorGrowReg
namespace Go.Proofs.YtkdnaebmifjmcaaDoor.sc
open Go.RowKit Go.Proofs.YtkdnaebmifjmcaaDoor.arr

theorem fails_any {f x y v : Int} (hx : InR x) (hy : InR y) (hv : twoV f x y = 0) (he : twoE f x y = v) (w : World) : Calls Tryd.prog 23 #[.int .i64 f, .int .i64 x, .int .i64 y, .int .i64 v] w fun q w' => q = .returned (.bool true) ∧ Below w.heap.size w w' := by
  have H := two_at hx hy hv he
  clear hx hy hv he
  go_enter Tryd.func23, Tryd.ntmps23
  go_wp2_with (go_at_call 7; (with_reducible refine (H.out _).mono ?_); rintro e w2 ⟨rfl, b2⟩)
  go_ret
  exact ⟨by simp, b2⟩
theorem pow_bigN (y : Nat) (hy : 63 ≤ y) : twoV 8 2 (y : Int) = 0 ∧ twoE 8 2 (y : Int) = 7 := by
  have h := pow_stop (x := 2) (k := 63) (n := y) (by decide) hy (by decide +kernel)
  have e1 : fitV ((2 : Int) ^ (63 : Nat)) = 0 := by decide +kernel
  have e2 : fitE ((2 : Int) ^ (63 : Nat)) = 7 := by decide +kernel
  rw [e1, e2] at h
  have e3 : twoV 8 2 (y : Int) = powV 2 (y : Int) := by unfold twoV; simp
  have e4 : twoE 8 2 (y : Int) = powE 2 (y : Int) := by unfold twoE; simp
  rw [e3, e4]
  unfold powV powE
  have h1 : ¬ ((y : Int) = 0 ∨ (2 : Int) = 1) := by omega
  have h2 : ¬ (y : Int) < 0 := by omega
  have h3 : ¬ (2 : Int) = -1 := by decide
  have h4 : ¬ (2 : Int) = 0 := by decide
  rw [if_neg h1, if_neg h1, if_neg h3, if_neg h3, if_neg h2, if_neg h2, if_neg h4, if_neg h4, Int.toNat_natCast]
  exact ⟨h.1.symm, h.2.symm⟩
theorem pow_big : twoV 8 2 9223372036854775807 = 0 ∧ twoE 8 2 9223372036854775807 = 7 := by
  have h := pow_bigN 9223372036854775807 (by decide)
  have e : ((9223372036854775807 : Nat) : Int) = 9223372036854775807 := by decide
  rw [e] at h
  exact h
theorem av_eq {x y : AV} (h : x.kind = y.kind ∧ x.sh = y.sh ∧ x.el = y.el) : x = y := by
  obtain ⟨a, b, c⟩ := x
  obtain ⟨d, e, f⟩ := y
  obtain ⟨h1, h2, h3⟩ := h
  simp only at h1 h2 h3
  subst h1 h2 h3
  rfl
/-- The box of the array, and of what is answered. -/
structure MuI (w : World) (a : AV) (p : AP) (W : World) : Prop where
  x : Blk W w.heap.size 46 (arC a p)
  r : Blk W (w.heap.size + 1) 46 #[.int .i64 0, .slice none 0 0, .slice none 0 0]
  fb : Below w.heap.size w W
  ea : AEl W a p
theorem MuI.below {w W W' : World} {a : AV} {p : AP} (h : MuI w a p W) (hb : Below W.heap.size W W') : MuI w a p W' :=
  ⟨h.x.below hb h.x.lt, h.r.below hb h.r.lt, h.fb.trans (hb.mono h.fb.size), h.ea.below hb⟩
theorem MuI.start {w : World} {a : AV} {p : AP} (ea : AEl w a p) : MuI w a p ((w.alloc (.cells (arC a p) 46)).alloc (.cells #[.int .i64 0, .slice none 0 0, .slice none 0 0] 46)) :=
  ⟨(Blk.new w _ _).alloc _, blk_n2 w _ _ _, below_n2 _ _ _, ea.below (below_n2 _ _ _)⟩
theorem MuI.cells {w W : World} {k : Int} {sh el : List Int} {A0 A1 : Option Addr} {c0 c1 : Nat} (h : MuI w ⟨k, sh, el⟩ ⟨A0, c0, A1, c1⟩ W) :
    (W.cell? ⟨w.heap.size, 0, none⟩ = some (.int .i64 k) ∧ W.cell? ⟨w.heap.size, 1, none⟩ = some (.slice A0 sh.length c0) ∧ W.cell? ⟨w.heap.size, 2, none⟩ = some (.slice A1 el.length c1)) ∧
    (W.cell? ⟨w.heap.size + 1, 0, none⟩ = some (.int .i64 0) ∧ W.cell? ⟨w.heap.size + 1, 1, none⟩ = some (.slice none 0 0) ∧ W.cell? ⟨w.heap.size + 1, 2, none⟩ = some (.slice none 0 0)) ∧
    (W.frozen? ⟨w.heap.size + 1, 0, none⟩ = false ∧ W.frozen? ⟨w.heap.size + 1, 1, none⟩ = false ∧ W.frozen? ⟨w.heap.size + 1, 2, none⟩ = false) :=
  ⟨⟨h.x.cell 0, h.x.cell 1, h.x.cell 2⟩, ⟨h.r.cell 0, h.r.cell 1, h.r.cell 2⟩, h.r.frozen 0, h.r.frozen 1, h.r.frozen 2⟩
theorem MuI.fin {w W : World} {a : AV} {p : AP} (h : MuI w a p W) (x y z : Value) : Below w.heap.size w (((W.setCell ⟨w.heap.size + 1, 0, none⟩ x).setCell ⟨w.heap.size + 1, 1, none⟩ y).setCell ⟨w.heap.size + 1, 2, none⟩ z) :=
  h.fb.trans ((arkeep_three W _ x y z).below h.fb.size (fun i hi e => by omega))
set_option maxRecDepth 100000 in
set_option maxHeartbeats 4000000 in
theorem mapone_char (f : Int) (a : AV) (p : AP) (w : World) (hf : unB f = true) (ho : okA a = true) (hk : a.kind = 2) (ea : AEl w a p) :
    Calls Tryd.prog 29 #[.int .i64 f, .agg (arC a p)] w fun e w' => e = .returned (.tuple #[.agg #[.int .i64 0, .slice none 0 0, .slice none 0 0], .int .i64 5]) ∧ Below w.heap.size w w' := by
  have HUN := Lib.hid (fun W => scun_any f W)
  rw [hf] at HUN
  have M0 := Lib.hid (MuI.start ea)
  have HCA := Lib.hid (fun W (h : MuI w a p W) => archeck_any a p W h.ea)
  have hc : checkE a = 0 := by unfold checkE; rw [ho]; rfl
  rw [hc] at HCA
  clear ea hc ho hf
  obtain ⟨k, sh, el⟩ := a
  obtain ⟨A0, c0, A1, c1⟩ := p
  simp only at hk
  subst hk
  unfold arC at HCA ⊢
  simp only at HCA ⊢
  obtain ⟨⟨x0, x1, x2⟩, ⟨r0, r1, r2⟩, f0, f1, f2⟩ := M0.out.cells
  obtain ⟨W0, hW0⟩ : ∃ W0, (w.alloc (.cells (arC ⟨2, sh, el⟩ ⟨A0, c0, A1, c1⟩) 46)).alloc (.cells #[.int .i64 0, .slice none 0 0, .slice none 0 0] 46) = W0 := ⟨_, rfl⟩
  rw [hW0] at M0 x0 x1 x2 r0 r1 r2 f0 f1 f2
  unfold arC at hW0
  simp only at hW0
  go_enter Tryd.func29, Tryd.ntmps29
  go_wp2_with (first
    | (go_at_call 46; refine (HCA.out _ M1.out).mono ?_; rintro e w2 ⟨rfl, b2⟩; have M2 := Lib.hid (M1.out.below b2); clear b2 x0 x1 x2 r0 r1 r2 f0 f1 f2; obtain ⟨⟨x0, x1, x2⟩, ⟨r0, r1, r2⟩, f0, f1, f2⟩ := M2.out.cells)
    | (go_at_call 11; refine (HUN.out _).mono ?_; rintro e w1 ⟨rfl, b1⟩; have M1 := Lib.hid (M0.out.below b1); clear b1 x0 x1 x2 r0 r1 r2 f0 f1 f2; obtain ⟨⟨x0, x1, x2⟩, ⟨r0, r1, r2⟩, f0, f1, f2⟩ := M1.out.cells))
  refine bodyPost_ret (results_arr2 rfl rfl rfl (arblk_three _ _ _ M2.out.r)) rfl ?_
  exact ⟨rfl, M2.out.fin _ _ _⟩
/-- MapTwo's answer, worked out. -/
theorem mt {f : Int} {a b x : AV} {E : Int} (hE : twoME f a b = E) (hx : twoMA f a b = x) (b0 : x.sh.length ≤ 9223372036854775807) (b1 : x.el.length ≤ 9223372036854775807) (f1 : ∀ z ∈ x.el, -9223372036854775808 ≤ z ∧ z ≤ 9223372036854775807)
    (p q : AP) (W : World) (ha : AEl W a p) (hb : AEl W b q) : Calls Tryd.prog 25 #[.int .i64 f, .agg (arC a p), .agg (arC b q)] W fun e w' => ∃ A0 c0 A1 c1, e = .returned (.tuple #[.agg #[.int .i64 x.kind, .slice A0 x.sh.length c0, .slice A1 x.el.length c1], .int .i64 E]) ∧ AEl w' x ⟨A0, c0, A1, c1⟩ ∧ Below W.heap.size W w' := (scmaptwo_any f a b p q W ha hb).mono (by
  subst hE
  subst hx
  rintro e w' ⟨v, rfl, r, rfl, o, b⟩
  exact ⟨r.A0, r.c0, r.A1, r.c1, rfl, o.el b0 b1 f1, b⟩)
theorem lit_reads (W : World) (t : TypeId) (l : List Value) : Reads (W.alloc (.cells l.toArray t)) (W.alloc (.cells l.toArray t)).heap.size 1 (some ⟨W.heap.size, 0, none⟩) l.length l := by
  refine ⟨by rw [Nat.mul_one], fun _ => ⟨_, rfl, by simp, fun j u hu => ?_⟩⟩
  rw [Addr.add_mid, Nat.zero_add, (Blk.new W t _).cell j, List.getElem?_toArray]
  exact hu
theorem sc1 (W : World) : Calls Tryd.prog 23 #[.int .i64 8, .int .i64 2, .int .i64 63, .int .i64 7] W fun q w' => q = .returned (.bool true) ∧ Below W.heap.size W w' := fails_any (by decide) (by decide) (by decide +kernel) (by decide +kernel) W
theorem sc2 (W : World) : Calls Tryd.prog 24 #[.int .i64 8, .int .i64 (-1), .int .i64 (-3), .int .i64 (-1)] W fun q w' => q = .returned (.bool true) ∧ Below W.heap.size W w' := is_any (by decide) (by decide) (by decide +kernel) (by decide +kernel) W
theorem sc3 (W : World) : Calls Tryd.prog 23 #[.int .i64 8, .int .i64 0, .int .i64 (-1), .int .i64 5] W fun q w' => q = .returned (.bool true) ∧ Below W.heap.size W w' := fails_any (by decide) (by decide) (by decide +kernel) (by decide +kernel) W
theorem sc4 (W : World) : Calls Tryd.prog 24 #[.int .i64 8, .int .i64 0, .int .i64 0, .int .i64 1] W fun q w' => q = .returned (.bool true) ∧ Below W.heap.size W w' := is_any (by decide) (by decide) (by decide +kernel) (by decide +kernel) W
theorem sc5 (W : World) : Calls Tryd.prog 24 #[.int .i64 8, .int .i64 1, .int .i64 (-9223372036854775808), .int .i64 1] W fun q w' => q = .returned (.bool true) ∧ Below W.heap.size W w' := is_any (by decide) (by decide) (by decide +kernel) (by decide +kernel) W
theorem sc6 (W : World) : Calls Tryd.prog 24 #[.int .i64 8, .int .i64 (-1), .int .i64 (-9223372036854775808), .int .i64 1] W fun q w' => q = .returned (.bool true) ∧ Below W.heap.size W w' := is_any (by decide) (by decide) (by decide +kernel) (by decide +kernel) W
theorem sc7 (W : World) : Calls Tryd.prog 24 #[.int .i64 8, .int .i64 0, .int .i64 9223372036854775807, .int .i64 0] W fun q w' => q = .returned (.bool true) ∧ Below W.heap.size W w' := is_any (by decide) (by decide) (by decide +kernel) (by decide +kernel) W
theorem sc8 (W : World) : Calls Tryd.prog 23 #[.int .i64 8, .int .i64 2, .int .i64 9223372036854775807, .int .i64 7] W fun q w' => q = .returned (.bool true) ∧ Below W.heap.size W w' := fails_any (by decide) (by decide) pow_big.1 pow_big.2 W
theorem sc9 (W : World) : Calls Tryd.prog 23 #[.int .i64 8, .int .i64 5, .int .i64 (-1), .int .i64 5] W fun q w' => q = .returned (.bool true) ∧ Below W.heap.size W w' := fails_any (by decide) (by decide) (by decide +kernel) (by decide +kernel) W
theorem sc10 (W : World) : Calls Tryd.prog 24 #[.int .i64 8, .int .i64 3, .int .i64 39, .int .i64 4052555153018976267] W fun q w' => q = .returned (.bool true) ∧ Below W.heap.size W w' := is_any (by decide) (by decide) (by decide +kernel) (by decide +kernel) W
theorem sc11 (W : World) : Calls Tryd.prog 23 #[.int .i64 8, .int .i64 3, .int .i64 40, .int .i64 7] W fun q w' => q = .returned (.bool true) ∧ Below W.heap.size W w' := fails_any (by decide) (by decide) (by decide +kernel) (by decide +kernel) W
theorem sc12 (W : World) : Calls Tryd.prog 23 #[.int .i64 1, .int .i64 9223372036854775807, .int .i64 1, .int .i64 7] W fun q w' => q = .returned (.bool true) ∧ Below W.heap.size W w' := fails_any (by decide) (by decide) (by decide +kernel) (by decide +kernel) W
theorem sc13 (W : World) : Calls Tryd.prog 23 #[.int .i64 2, .int .i64 (-9223372036854775808), .int .i64 1, .int .i64 7] W fun q w' => q = .returned (.bool true) ∧ Below W.heap.size W w' := fails_any (by decide) (by decide) (by decide +kernel) (by decide +kernel) W
theorem sc14 (W : World) : Calls Tryd.prog 23 #[.int .i64 3, .int .i64 (-9223372036854775808), .int .i64 (-1), .int .i64 7] W fun q w' => q = .returned (.bool true) ∧ Below W.heap.size W w' := fails_any (by decide) (by decide) (by decide +kernel) (by decide +kernel) W
theorem sc15 (W : World) : Calls Tryd.prog 24 #[.int .i64 3, .int .i64 4611686018427387904, .int .i64 (-2), .int .i64 (-9223372036854775808)] W fun q w' => q = .returned (.bool true) ∧ Below W.heap.size W w' := is_any (by decide) (by decide) (by decide +kernel) (by decide +kernel) W
theorem sc16 (W : World) : Calls Tryd.prog 23 #[.int .i64 3, .int .i64 4611686018427387904, .int .i64 2, .int .i64 7] W fun q w' => q = .returned (.bool true) ∧ Below W.heap.size W w' := fails_any (by decide) (by decide) (by decide +kernel) (by decide +kernel) W
theorem sc17 (W : World) : Calls Tryd.prog 23 #[.int .i64 4, .int .i64 (-9223372036854775808), .int .i64 (-1), .int .i64 7] W fun q w' => q = .returned (.bool true) ∧ Below W.heap.size W w' := fails_any (by decide) (by decide) (by decide +kernel) (by decide +kernel) W
theorem sc18 (W : World) : Calls Tryd.prog 23 #[.int .i64 4, .int .i64 0, .int .i64 0, .int .i64 8] W fun q w' => q = .returned (.bool true) ∧ Below W.heap.size W w' := fails_any (by decide) (by decide) (by decide +kernel) (by decide +kernel) W
theorem sc19 (W : World) : Calls Tryd.prog 24 #[.int .i64 5, .int .i64 (-1), .int .i64 (-9223372036854775808), .int .i64 0] W fun q w' => q = .returned (.bool true) ∧ Below W.heap.size W w' := is_any (by decide) (by decide) (by decide +kernel) (by decide +kernel) W
theorem sc20 (W : World) : Calls Tryd.prog 24 #[.int .i64 5, .int .i64 (-9223372036854775808), .int .i64 9223372036854775807, .int .i64 (-1)] W fun q w' => q = .returned (.bool true) ∧ Below W.heap.size W w' := is_any (by decide) (by decide) (by decide +kernel) (by decide +kernel) W
theorem sc21 (W : World) : Calls Tryd.prog 24 #[.int .i64 4, .int .i64 (-9223372036854775808), .int .i64 2, .int .i64 (-4611686018427387904)] W fun q w' => q = .returned (.bool true) ∧ Below W.heap.size W w' := is_any (by decide) (by decide) (by decide +kernel) (by decide +kernel) W
theorem sc22 (W : World) : Calls Tryd.prog 24 #[.int .i64 2, .int .i64 0, .int .i64 9223372036854775807, .int .i64 (-9223372036854775807)] W fun q w' => q = .returned (.bool true) ∧ Below W.heap.size W w' := is_any (by decide) (by decide) (by decide +kernel) (by decide +kernel) W
theorem sc23 (W : World) : Calls Tryd.prog 23 #[.int .i64 2, .int .i64 0, .int .i64 (-9223372036854775808), .int .i64 7] W fun q w' => q = .returned (.bool true) ∧ Below W.heap.size W w' := fails_any (by decide) (by decide) (by decide +kernel) (by decide +kernel) W
theorem sc24 (W : World) : Calls Tryd.prog 24 #[.int .i64 2, .int .i64 (-1), .int .i64 (-9223372036854775808), .int .i64 9223372036854775807] W fun q w' => q = .returned (.bool true) ∧ Below W.heap.size W w' := is_any (by decide) (by decide) (by decide +kernel) (by decide +kernel) W
theorem sc25 (W : World) : Calls Tryd.prog 24 #[.int .i64 6, .int .i64 3, .int .i64 (-2), .int .i64 (-2)] W fun q w' => q = .returned (.bool true) ∧ Below W.heap.size W w' := is_any (by decide) (by decide) (by decide +kernel) (by decide +kernel) W
theorem sc26 (W : World) : Calls Tryd.prog 24 #[.int .i64 7, .int .i64 3, .int .i64 (-2), .int .i64 3] W fun q w' => q = .returned (.bool true) ∧ Below W.heap.size W w' := is_any (by decide) (by decide) (by decide +kernel) (by decide +kernel) W
theorem sc27 (W : World) : Calls Tryd.prog 24 #[.int .i64 9, .int .i64 3, .int .i64 3, .int .i64 1] W fun q w' => q = .returned (.bool true) ∧ Below W.heap.size W w' := is_any (by decide) (by decide) (by decide +kernel) (by decide +kernel) W
theorem sc28 (W : World) : Calls Tryd.prog 24 #[.int .i64 10, .int .i64 3, .int .i64 3, .int .i64 0] W fun q w' => q = .returned (.bool true) ∧ Below W.heap.size W w' := is_any (by decide) (by decide) (by decide +kernel) (by decide +kernel) W
theorem sc29 (W : World) : Calls Tryd.prog 24 #[.int .i64 11, .int .i64 2, .int .i64 3, .int .i64 1] W fun q w' => q = .returned (.bool true) ∧ Below W.heap.size W w' := is_any (by decide) (by decide) (by decide +kernel) (by decide +kernel) W
theorem sc30 (W : World) : Calls Tryd.prog 24 #[.int .i64 12, .int .i64 3, .int .i64 3, .int .i64 1] W fun q w' => q = .returned (.bool true) ∧ Below W.heap.size W w' := is_any (by decide) (by decide) (by decide +kernel) (by decide +kernel) W
theorem sc31 (W : World) : Calls Tryd.prog 24 #[.int .i64 13, .int .i64 2, .int .i64 3, .int .i64 0] W fun q w' => q = .returned (.bool true) ∧ Below W.heap.size W w' := is_any (by decide) (by decide) (by decide +kernel) (by decide +kernel) W
theorem sc32 (W : World) : Calls Tryd.prog 24 #[.int .i64 14, .int .i64 3, .int .i64 2, .int .i64 1] W fun q w' => q = .returned (.bool true) ∧ Below W.heap.size W w' := is_any (by decide) (by decide) (by decide +kernel) (by decide +kernel) W
theorem sc33 (W : World) : Calls Tryd.prog 24 #[.int .i64 15, .int .i64 1, .int .i64 1, .int .i64 1] W fun q w' => q = .returned (.bool true) ∧ Below W.heap.size W w' := is_any (by decide) (by decide) (by decide +kernel) (by decide +kernel) W
theorem sc34 (W : World) : Calls Tryd.prog 24 #[.int .i64 16, .int .i64 0, .int .i64 1, .int .i64 1] W fun q w' => q = .returned (.bool true) ∧ Below W.heap.size W w' := is_any (by decide) (by decide) (by decide +kernel) (by decide +kernel) W
theorem sc35 (W : World) : Calls Tryd.prog 23 #[.int .i64 15, .int .i64 2, .int .i64 0, .int .i64 5] W fun q w' => q = .returned (.bool true) ∧ Below W.heap.size W w' := fails_any (by decide) (by decide) (by decide +kernel) (by decide +kernel) W
theorem sc36 (W : World) : Calls Tryd.prog 23 #[.int .i64 16, .int .i64 1, .int .i64 (-1), .int .i64 5] W fun q w' => q = .returned (.bool true) ∧ Below W.heap.size W w' := fails_any (by decide) (by decide) (by decide +kernel) (by decide +kernel) W
theorem sc37 (W : World) : Calls Tryd.prog 23 #[.int .i64 17, .int .i64 1, .int .i64 1, .int .i64 2] W fun q w' => q = .returned (.bool true) ∧ Below W.heap.size W w' := fails_any (by decide) (by decide) (by decide +kernel) (by decide +kernel) W
theorem sc38 (W : World) : Calls Tryd.prog 23 #[.int .i64 0, .int .i64 1, .int .i64 1, .int .i64 2] W fun q w' => q = .returned (.bool true) ∧ Below W.heap.size W w' := fails_any (by decide) (by decide) (by decide +kernel) (by decide +kernel) W
theorem sc39 (W : World) : Calls Tryd.prog 5 #[.int .i64 2, .int .i64 (-9223372036854775808)] W fun q w' => q = .returned (.tuple #[.int .i64 0, .int .i64 7]) ∧ Below W.heap.size W w' := (one_at (f := 2) (y := (-9223372036854775808)) (v := 0) (e := 7) (by decide) (by decide +kernel) (by decide +kernel)).out W
theorem sc40 (W : World) : Calls Tryd.prog 5 #[.int .i64 3, .int .i64 (-5)] W fun q w' => q = .returned (.tuple #[.int .i64 (-1), .int .i64 0]) ∧ Below W.heap.size W w' := (one_at (f := 3) (y := (-5)) (v := (-1)) (e := 0) (by decide) (by decide +kernel) (by decide +kernel)).out W
theorem sc41 (W : World) : Calls Tryd.prog 5 #[.int .i64 17, .int .i64 2] W fun q w' => q = .returned (.tuple #[.int .i64 0, .int .i64 5]) ∧ Below W.heap.size W w' := (one_at (f := 17) (y := 2) (v := 0) (e := 5) (by decide) (by decide +kernel) (by decide +kernel)).out W
theorem sc42 (W : World) : Calls Tryd.prog 5 #[.int .i64 5, .int .i64 (-9223372036854775808)] W fun q w' => q = .returned (.tuple #[.int .i64 0, .int .i64 7]) ∧ Below W.heap.size W w' := (one_at (f := 5) (y := (-9223372036854775808)) (v := 0) (e := 7) (by decide) (by decide +kernel) (by decide +kernel)).out W
theorem sc43 (W : World) : Calls Tryd.prog 5 #[.int .i64 4, .int .i64 1] W fun q w' => q = .returned (.tuple #[.int .i64 0, .int .i64 2]) ∧ Below W.heap.size W w' := (one_at (f := 4) (y := 1) (v := 0) (e := 2) (by decide) (by decide +kernel) (by decide +kernel)).out W
theorem sv12 (W : World) (q : Nat) (hq : W.heap.size = q) : Calls Tryd.prog 26 #[.slice (some ⟨q, 0, none⟩) 2 2] (W.alloc (.cells #[.int .i64 1, .int .i64 2] 2)) fun e w' => ∃ p, e = .returned (.agg (arC ⟨1, [2], [1, 2]⟩ p)) ∧ AEl w' ⟨1, [2], [1, 2]⟩ p ∧ Below W.heap.size W w' := by
  subst hq
  have hb : Below W.heap.size W (W.alloc (.cells #[.int .i64 1, .int .i64 2] 2)) := (Below.refl _ W).alloc (Nat.le_refl _) _
  refine (arvector_any _ 2 2 [1, 2] _ rfl (lit_reads W 2 [.int .i64 1, .int .i64 2]) (by decide)).mono ?_
  rintro e w' ⟨v, rfl, p, rfl, o, b⟩
  exact ⟨p, rfl, o.el (by decide) (by decide) (by decide), hb.trans (b.mono hb.size)⟩
theorem sv123 (W : World) (q : Nat) (hq : W.heap.size = q) : Calls Tryd.prog 26 #[.slice (some ⟨q, 0, none⟩) 3 3] (W.alloc (.cells #[.int .i64 1, .int .i64 2, .int .i64 3] 2)) fun e w' => ∃ p, e = .returned (.agg (arC ⟨1, [3], [1, 2, 3]⟩ p)) ∧ AEl w' ⟨1, [3], [1, 2, 3]⟩ p ∧ Below W.heap.size W w' := by
  subst hq
  have hb : Below W.heap.size W (W.alloc (.cells #[.int .i64 1, .int .i64 2, .int .i64 3] 2)) := (Below.refl _ W).alloc (Nat.le_refl _) _
  refine (arvector_any _ 3 3 [1, 2, 3] _ rfl (lit_reads W 2 [.int .i64 1, .int .i64 2, .int .i64 3]) (by decide)).mono ?_
  rintro e w' ⟨v, rfl, p, rfl, o, b⟩
  exact ⟨p, rfl, o.el (by decide) (by decide) (by decide), hb.trans (b.mono hb.size)⟩
theorem sv1 (W : World) (q : Nat) (hq : W.heap.size = q) : Calls Tryd.prog 26 #[.slice (some ⟨q, 0, none⟩) 1 1] (W.alloc (.cells #[.int .i64 1] 2)) fun e w' => ∃ p, e = .returned (.agg (arC ⟨1, [1], [1]⟩ p)) ∧ AEl w' ⟨1, [1], [1]⟩ p ∧ Below W.heap.size W w' := by
  subst hq
  have hb : Below W.heap.size W (W.alloc (.cells #[.int .i64 1] 2)) := (Below.refl _ W).alloc (Nat.le_refl _) _
  refine (arvector_any _ 1 1 [1] _ rfl (lit_reads W 2 [.int .i64 1]) (by decide)).mono ?_
  rintro e w' ⟨v, rfl, p, rfl, o, b⟩
  exact ⟨p, rfl, o.el (by decide) (by decide) (by decide), hb.trans (b.mono hb.size)⟩
theorem sv97 (W : World) (q : Nat) (hq : W.heap.size = q) : Calls Tryd.prog 26 #[.slice (some ⟨q, 0, none⟩) 1 1] (W.alloc (.cells #[.int .i64 97] 2)) fun e w' => ∃ p, e = .returned (.agg (arC ⟨1, [1], [97]⟩ p)) ∧ AEl w' ⟨1, [1], [97]⟩ p ∧ Below W.heap.size W w' := by
  subst hq
  have hb : Below W.heap.size W (W.alloc (.cells #[.int .i64 97] 2)) := (Below.refl _ W).alloc (Nat.le_refl _) _
  refine (arvector_any _ 1 1 [97] _ rfl (lit_reads W 2 [.int .i64 97]) (by decide)).mono ?_
  rintro e w' ⟨v, rfl, p, rfl, o, b⟩
  exact ⟨p, rfl, o.el (by decide) (by decide) (by decide), hb.trans (b.mono hb.size)⟩
theorem ss10 (W : World) : Calls Tryd.prog 27 #[.int .i64 10] W fun e w' => ∃ p, e = .returned (.agg (arC ⟨1, [], [10]⟩ p)) ∧ AEl w' ⟨1, [], [10]⟩ p ∧ Below W.heap.size W w' := by
  refine (arscalar_any 10 W).mono ?_
  rintro e w' ⟨v, rfl, p, rfl, o, b⟩
  exact ⟨p, rfl, o.el (by decide) (by decide) (by decide), b⟩
theorem ss1 (W : World) : Calls Tryd.prog 27 #[.int .i64 1] W fun e w' => ∃ p, e = .returned (.agg (arC ⟨1, [], [1]⟩ p)) ∧ AEl w' ⟨1, [], [1]⟩ p ∧ Below W.heap.size W w' := by
  refine (arscalar_any 1 W).mono ?_
  rintro e w' ⟨v, rfl, p, rfl, o, b⟩
  exact ⟨p, rfl, o.el (by decide) (by decide) (by decide), b⟩
theorem sab (W : World) : Calls Tryd.prog 28 #[.string ⟨#[97, 98]⟩] W fun e w' => ∃ p, e = .returned (.agg (arC ⟨2, [2], [97, 98]⟩ p)) ∧ AEl w' ⟨2, [2], [97, 98]⟩ p ∧ Below W.heap.size W w' := by
  have := arrunes_any ⟨#[97, 98]⟩ W (by decide)
  rw [show rn ⟨#[97, 98]⟩ (⟨#[97, 98]⟩ : ByteArray).size 0 = [97, 98] from by decide +kernel] at this
  refine this.mono ?_
  rintro e w' ⟨v, rfl, p, rfl, o, b⟩
  exact ⟨p, rfl, o.el (by decide) (by decide) (by decide), b⟩
theorem sxb (W : World) : Calls Tryd.prog 28 #[.string ⟨#[120, 98]⟩] W fun e w' => ∃ p, e = .returned (.agg (arC ⟨2, [2], [120, 98]⟩ p)) ∧ AEl w' ⟨2, [2], [120, 98]⟩ p ∧ Below W.heap.size W w' := by
  have := arrunes_any ⟨#[120, 98]⟩ W (by decide)
  rw [show rn ⟨#[120, 98]⟩ (⟨#[120, 98]⟩ : ByteArray).size 0 = [120, 98] from by decide +kernel] at this
  refine this.mono ?_
  rintro e w' ⟨v, rfl, p, rfl, o, b⟩
  exact ⟨p, rfl, o.el (by decide) (by decide) (by decide), b⟩
theorem sno (W : World) : Calls Tryd.prog 28 #[.string ⟨#[]⟩] W fun e w' => ∃ p, e = .returned (.agg (arC ⟨2, [0], []⟩ p)) ∧ AEl w' ⟨2, [0], []⟩ p ∧ Below W.heap.size W w' := by
  have := arrunes_any ⟨#[]⟩ W (by decide)
  rw [show rn ⟨#[]⟩ (⟨#[]⟩ : ByteArray).size 0 = [] from by decide +kernel] at this
  refine this.mono ?_
  rintro e w' ⟨v, rfl, p, rfl, o, b⟩
  exact ⟨p, rfl, o.el (by decide) (by decide) (by decide), b⟩
theorem sa (W : World) : Calls Tryd.prog 28 #[.string ⟨#[97]⟩] W fun e w' => ∃ p, e = .returned (.agg (arC ⟨2, [1], [97]⟩ p)) ∧ AEl w' ⟨2, [1], [97]⟩ p ∧ Below W.heap.size W w' := by
  have := arrunes_any ⟨#[97]⟩ W (by decide)
  rw [show rn ⟨#[97]⟩ (⟨#[97]⟩ : ByteArray).size 0 = [97] from by decide +kernel] at this
  refine this.mono ?_
  rintro e w' ⟨v, rfl, p, rfl, o, b⟩
  exact ⟨p, rfl, o.el (by decide) (by decide) (by decide), b⟩
theorem sm1 (p q : AP) (W : World) (ha : AEl W ⟨1, [2], [1, 2]⟩ p) (hb : AEl W ⟨1, [], [10]⟩ q) : Calls Tryd.prog 25 #[.int .i64 1, .agg (arC ⟨1, [2], [1, 2]⟩ p), .agg (arC ⟨1, [], [10]⟩ q)] W fun e w' => ∃ A0 c0 A1 c1, e = .returned (.tuple #[.agg #[.int .i64 1, .slice A0 1 c0, .slice A1 2 c1], .int .i64 0]) ∧ AEl w' ⟨1, [2], [11, 12]⟩ ⟨A0, c0, A1, c1⟩ ∧ Below W.heap.size W w' :=
  mt (f := 1) (a := ⟨1, [2], [1, 2]⟩) (b := ⟨1, [], [10]⟩) (x := ⟨1, [2], [11, 12]⟩) (E := 0) (by decide +kernel) (av_eq (by decide +kernel)) (by decide) (by decide) (by decide) p q W ha hb
theorem sm2 (p q : AP) (W : World) (ha : AEl W ⟨1, [2], [1, 2]⟩ p) (hb : AEl W ⟨1, [3], [1, 2, 3]⟩ q) : Calls Tryd.prog 25 #[.int .i64 1, .agg (arC ⟨1, [2], [1, 2]⟩ p), .agg (arC ⟨1, [3], [1, 2, 3]⟩ q)] W fun e w' => ∃ A0 c0 A1 c1, e = .returned (.tuple #[.agg #[.int .i64 0, .slice A0 0 c0, .slice A1 0 c1], .int .i64 4]) ∧ AEl w' ⟨0, [], []⟩ ⟨A0, c0, A1, c1⟩ ∧ Below W.heap.size W w' :=
  mt (f := 1) (a := ⟨1, [2], [1, 2]⟩) (b := ⟨1, [3], [1, 2, 3]⟩) (x := ⟨0, [], []⟩) (E := 4) (by decide +kernel) (av_eq (by decide +kernel)) (by decide) (by decide) (by decide) p q W ha hb
theorem sm3 (p q : AP) (W : World) (ha : AEl W ⟨2, [2], [97, 98]⟩ p) (hb : AEl W ⟨2, [2], [120, 98]⟩ q) : Calls Tryd.prog 25 #[.int .i64 9, .agg (arC ⟨2, [2], [97, 98]⟩ p), .agg (arC ⟨2, [2], [120, 98]⟩ q)] W fun e w' => ∃ A0 c0 A1 c1, e = .returned (.tuple #[.agg #[.int .i64 1, .slice A0 1 c0, .slice A1 2 c1], .int .i64 0]) ∧ AEl w' ⟨1, [2], [0, 1]⟩ ⟨A0, c0, A1, c1⟩ ∧ Below W.heap.size W w' :=
  mt (f := 9) (a := ⟨2, [2], [97, 98]⟩) (b := ⟨2, [2], [120, 98]⟩) (x := ⟨1, [2], [0, 1]⟩) (E := 0) (by decide +kernel) (av_eq (by decide +kernel)) (by decide) (by decide) (by decide) p q W ha hb
theorem sm4 (p q : AP) (W : World) (ha : AEl W ⟨2, [0], []⟩ p) (hb : AEl W ⟨1, [], [1]⟩ q) : Calls Tryd.prog 25 #[.int .i64 11, .agg (arC ⟨2, [0], []⟩ p), .agg (arC ⟨1, [], [1]⟩ q)] W fun e w' => ∃ A0 c0 A1 c1, e = .returned (.tuple #[.agg #[.int .i64 0, .slice A0 0 c0, .slice A1 0 c1], .int .i64 5]) ∧ AEl w' ⟨0, [], []⟩ ⟨A0, c0, A1, c1⟩ ∧ Below W.heap.size W w' :=
  mt (f := 11) (a := ⟨2, [0], []⟩) (b := ⟨1, [], [1]⟩) (x := ⟨0, [], []⟩) (E := 5) (by decide +kernel) (av_eq (by decide +kernel)) (by decide) (by decide) (by decide) p q W ha hb
theorem sm5a (p q : AP) (W : World) (ha : AEl W ⟨1, [1], [1]⟩ p) (hb : AEl W ⟨1, [1, 1], [1]⟩ q) : Calls Tryd.prog 25 #[.int .i64 1, .agg (arC ⟨1, [1], [1]⟩ p), .agg (arC ⟨1, [1, 1], [1]⟩ q)] W fun e w' => ∃ A0 c0 A1 c1, e = .returned (.tuple #[.agg #[.int .i64 0, .slice A0 0 c0, .slice A1 0 c1], .int .i64 3]) ∧ AEl w' ⟨0, [], []⟩ ⟨A0, c0, A1, c1⟩ ∧ Below W.heap.size W w' :=
  mt (f := 1) (a := ⟨1, [1], [1]⟩) (b := ⟨1, [1, 1], [1]⟩) (x := ⟨0, [], []⟩) (E := 3) (by decide +kernel) (av_eq (by decide +kernel)) (by decide) (by decide) (by decide) p q W ha hb
theorem sm6 (p q : AP) (W : World) (ha : AEl W ⟨1, [1], [97]⟩ p) (hb : AEl W ⟨2, [1], [97]⟩ q) : Calls Tryd.prog 25 #[.int .i64 10, .agg (arC ⟨1, [1], [97]⟩ p), .agg (arC ⟨2, [1], [97]⟩ q)] W fun e w' => ∃ A0 c0 A1 c1, e = .returned (.tuple #[.agg #[.int .i64 1, .slice A0 1 c0, .slice A1 1 c1], .int .i64 0]) ∧ AEl w' ⟨1, [1], [1]⟩ ⟨A0, c0, A1, c1⟩ ∧ Below W.heap.size W w' :=
  mt (f := 10) (a := ⟨1, [1], [97]⟩) (b := ⟨2, [1], [97]⟩) (x := ⟨1, [1], [1]⟩) (E := 0) (by decide +kernel) (av_eq (by decide +kernel)) (by decide) (by decide) (by decide) p q W ha hb
theorem sm5 (p : AP) (W : World) (q : Nat) (hq : W.heap.size = q) (ha : AEl W ⟨1, [1], [1]⟩ p) : Calls Tryd.prog 25 #[.int .i64 1, .agg (arC ⟨1, [1], [1]⟩ p), .agg #[.int .i64 1, .slice (some ⟨q, 0, none⟩) 2 2, .slice (some ⟨q + 1, 0, none⟩) 1 1]] ((W.alloc (.cells #[.int .i64 1, .int .i64 1] 3)).alloc (.cells #[.int .i64 1] 2)) fun e w' => ∃ A0 c0 A1 c1, e = .returned (.tuple #[.agg #[.int .i64 0, .slice A0 0 c0, .slice A1 0 c1], .int .i64 3]) ∧ AEl w' ⟨0, [], []⟩ ⟨A0, c0, A1, c1⟩ ∧ Below W.heap.size W w' := by
  subst hq
  have hb : Below W.heap.size W (W.alloc (.cells #[.int .i64 1, .int .i64 1] 3)) := (Below.refl _ W).alloc (Nat.le_refl _) _
  have hb2 := hb.alloc hb.size (.cells #[.int .i64 1] 2)
  have r1 := lit_reads W 3 [.int .i64 1, .int .i64 1]
  have r2 := lit_reads (W.alloc (.cells #[.int .i64 1, .int .i64 1] 3)) 2 [.int .i64 1]
  have e2 : (⟨(W.alloc (.cells #[.int .i64 1, .int .i64 1] 3)).heap.size, 0, none⟩ : Addr) = ⟨W.heap.size + 1, 0, none⟩ := by rw [World.size_alloc]
  rw [e2] at r2
  refine (sm5a p ⟨some ⟨W.heap.size, 0, none⟩, 2, some ⟨W.heap.size + 1, 0, none⟩, 1⟩ _ (ha.below hb2) ⟨(r1.alloc (Nat.le_refl _) _).more (by simp), r2, by decide, by decide, by decide⟩).mono ?_
  rintro e w' ⟨A0, c0, A1, c1, rfl, o, b⟩
  exact ⟨A0, c0, A1, c1, rfl, o, hb2.trans (b.mono hb2.size)⟩
theorem sm7 (p : AP) (W : World) (ha : AEl W ⟨2, [1], [97]⟩ p) : Calls Tryd.prog 29 #[.int .i64 2, .agg (arC ⟨2, [1], [97]⟩ p)] W fun e w' => e = .returned (.tuple #[.agg #[.int .i64 0, .slice none 0 0, .slice none 0 0], .int .i64 5]) ∧ Below W.heap.size W w' :=
  mapone_char 2 ⟨2, [1], [97]⟩ p W (by decide) (by decide +kernel) rfl ha
/-- A list as a call's own argument; an array as a value. -/
def VL (W : World) (v : Value) (l : List Int) : Prop := ∃ A c, v = .slice A l.length c ∧ Reads W W.heap.size 1 A l.length (l.map iv)
def VA (W : World) (v : Value) (a : AV) : Prop := ∃ p, v = .agg (arC a p) ∧ AEl W a p
theorem VL.below {W W' : World} {v : Value} {l : List Int} (h : VL W v l) (hb : Below W.heap.size W W') : VL W' v l := by
  obtain ⟨A, c, rfl, r⟩ := h
  exact ⟨A, c, rfl, (r.below hb).more hb.size⟩
theorem VA.below {W W' : World} {v : Value} {a : AV} (h : VA W v a) (hb : Below W.heap.size W W') : VA W' v a := by
  obtain ⟨p, rfl, e⟩ := h
  exact ⟨p, rfl, e.below hb⟩
theorem vl_new (W : World) (l : List Int) : VL (W.alloc (.cells (l.map iv).toArray 2)) (.slice (some ⟨W.heap.size, 0, none⟩) l.length l.length) l := by
  have h := lit_reads W 2 (l.map iv)
  rw [List.length_map] at h
  exact ⟨_, _, rfl, h⟩
theorem va_vec {l : List Int} {v : Value} {W : World} (h : VL W v l) (hl : l.length ≤ 1000000) (hf : ∀ z ∈ l, -9223372036854775808 ≤ z ∧ z ≤ 9223372036854775807) :
    Calls Tryd.prog 26 #[v] W fun e w' => ∃ u, e = .returned u ∧ Below W.heap.size W w' ∧ VA w' u ⟨1, [(l.length : Int)], l⟩ := by
  obtain ⟨A, c, rfl, r⟩ := h
  refine (arvector_any A l.length c l W rfl r hl).mono ?_
  rintro e w' ⟨v, rfl, p, rfl, o, b⟩
  exact ⟨_, rfl, b, p, rfl, o.el (by simp) (by simp only; omega) hf⟩
theorem va_same {a : AV} {v : Value} {p : AP} {W : World} (h : VA W v a) (k : AEl W a p) : Calls Tryd.prog 30 #[.agg (arC a p), v] W fun e w' => ∃ u, e = .returned u ∧ Below W.heap.size W w' ∧ u = .bool true := by
  obtain ⟨q, rfl, e⟩ := h
  refine (r11same_eq a p q W k e).mono ?_
  rintro e w' ⟨rfl, b⟩
  exact ⟨_, rfl, b, rfl⟩
/-- An array in a box. -/
structure BX (g : Nat) (a : AV) (p : AP) (W : World) : Prop where
  x : Blk W g 46 (arC a p)
  e : AEl W a p
theorem BX.next {g : Nat} {a : AV} {p : AP} {W W' : World} (h : BX g a p W) (hb : Below W.heap.size W W') : BX g a p W' := ⟨h.x.below hb h.x.lt, h.e.below hb⟩
theorem BX.cells {g : Nat} {k : Int} {sh el : List Int} {A0 A1 : Option Addr} {c0 c1 : Nat} {W : World} (h : BX g ⟨k, sh, el⟩ ⟨A0, c0, A1, c1⟩ W) : W.cell? ⟨g, 0, none⟩ = some (.int .i64 k) ∧ W.cell? ⟨g, 1, none⟩ = some (.slice A0 sh.length c0) ∧ W.cell? ⟨g, 2, none⟩ = some (.slice A1 el.length c1) := ⟨h.x.cell 0, h.x.cell 1, h.x.cell 2⟩
end Go.Proofs.YtkdnaebmifjmcaaDoor.sc

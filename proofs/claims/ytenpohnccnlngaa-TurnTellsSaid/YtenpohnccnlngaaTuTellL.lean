/-
  The walk of the statement TurnTells.
-/
import Derived.Test.YtenpohnccnlngaaTuTellM
import Derived.Test.YtenpohnccnlngaaMoTellK
import Derived.Deep.CutBlock
import Derived.Deep.DeepCutAuto
namespace Go.Proofs.Ytenpohnccnlngaa.turnTells
open Go.RowKit Go.Proofs.Ytenpohnccnlngaa.arr Go.Proofs.Ytenpohnccnlngaa.mo Go.Proofs.Ytenpohnccnlngaa.tu

def greatB (l a : AV) : Bool := decide (0 < greatA l) || decide (0 < greatA a)
theorem great_or (a : AV) : greatA a = 0 ∨ greatA a = 1 := by unfold greatA; split <;> simp
set_option maxRecDepth 100000 in
set_option maxHeartbeats 4000000 in
theorem l14great_any (l a : AV) (p q : AP) (w : World) : Calls Try.prog 47 #[.agg (arC l p), .agg (arC a q)] w fun e w' => e = .returned (.bool (greatB l a)) ∧ Below w.heap.size w w' := by
  have hx := (Blk.new w 25 (arC l p)).alloc (.cells (arC a q) 25)
  have hy := Blk.new (w.alloc (.cells (arC l p) 25)) 25 (arC a q)
  have hb2 := mobelow2 (w := w) (.cells (arC l p) 25) (.cells (arC a q) 25)
  rw [World.size_alloc] at hy
  have hLC : arC l p = #[.int .i64 l.kind, .slice p.A0 l.sh.length p.c0, .slice p.A1 l.el.length p.c1] := rfl
  have hAC : arC a q = #[.int .i64 a.kind, .slice q.A0 a.sh.length q.c0, .slice q.A1 a.el.length q.c1] := rfl
  have HGL : Hid (∀ W, Calls Try.prog 73 #[.agg #[.int .i64 l.kind, .slice p.A0 l.sh.length p.c0, .slice p.A1 l.el.length p.c1]] W fun e w' => e = .returned (.int .i64 (greatA l)) ∧ Below W.heap.size W w') := Lib.hid (fun W => argreat_any l p W)
  have HGA : Hid (∀ W, Calls Try.prog 73 #[.agg #[.int .i64 a.kind, .slice q.A0 a.sh.length q.c0, .slice q.A1 a.el.length q.c1]] W fun e w' => e = .returned (.int .i64 (greatA a)) ∧ Below W.heap.size W w') := Lib.hid (fun W => argreat_any a q W)
  have hE : greatB l a = (decide (0 < greatA l) || decide (0 < greatA a)) := rfl
  obtain ⟨w1, hw1⟩ : ∃ w1, (w.alloc (.cells (arC l p) 25)).alloc (.cells (arC a q) 25) = w1 := ⟨_, rfl⟩
  rw [hw1] at hx hy hb2
  rw [hLC] at hx hw1
  rw [hAC] at hy hw1
  have x0 := hx.cell 0
  have x1 := hx.cell 1
  have x2 := hx.cell 2
  have HY := Lib.hid hy
  have HB := Lib.hid hb2
  have hgl := great_or l
  have hga := great_or a
  obtain ⟨EL, hEL⟩ : ∃ x, greatA l = x := ⟨_, rfl⟩
  obtain ⟨EA, hEA⟩ : ∃ x, greatA a = x := ⟨_, rfl⟩
  rw [hEL] at HGL hE hgl
  rw [hEA] at HGA hE hga
  rw [hLC, hAC, hE]
  clear hx hy hb2 hLC hAC hE hEL hEA
  rcases hgl with rfl | rfl
  · rcases hga with rfl | rfl
    · go_enter Try.func47, Try.ntmps47
      go_wp2_with (first
        | (go_at_call 73; (have l0 := Z1.out; clear l0); refine (HGA.out _).mono ?_; rintro e w3 ⟨rfl, b3⟩; have B3 := Lib.hid (bon B2.out b3); clear b3)
        | (go_at_call 73; (try rw [hw1]); refine (HGL.out _).mono ?_; rintro e w2 ⟨rfl, b2⟩; have y0 := (blk_up HY.out b2).cell 0; have y1 := (blk_up HY.out b2).cell 1; have y2 := (blk_up HY.out b2).cell 2; have B2 := Lib.hid b2; have Z1 : Hid (0 = 0) := Lib.hid rfl; clear b2))
      go_ret
      exact ⟨rfl, bon HB.out B3.out⟩
    · go_enter Try.func47, Try.ntmps47
      go_wp2_with (first
        | (go_at_call 73; (have l0 := Z1.out; clear l0); refine (HGA.out _).mono ?_; rintro e w3 ⟨rfl, b3⟩; have B3 := Lib.hid (bon B2.out b3); clear b3)
        | (go_at_call 73; (try rw [hw1]); refine (HGL.out _).mono ?_; rintro e w2 ⟨rfl, b2⟩; have y0 := (blk_up HY.out b2).cell 0; have y1 := (blk_up HY.out b2).cell 1; have y2 := (blk_up HY.out b2).cell 2; have B2 := Lib.hid b2; have Z1 : Hid (0 = 0) := Lib.hid rfl; clear b2))
      go_ret
      exact ⟨rfl, bon HB.out B3.out⟩
  · clear hga
    go_enter Try.func47, Try.ntmps47
    go_wp2_with (go_at_call 73; (try rw [hw1]); refine (HGL.out _).mono ?_; rintro e w2 ⟨rfl, b2⟩; have B2 := Lib.hid b2; clear b2)
    go_ret
    exact ⟨rfl, bon HB.out B2.out⟩
set_option maxRecDepth 100000 in
set_option maxHeartbeats 16000000 in
theorem walk (l a : AV) (p q : AP) (w : World) (hl : AEl w l p) (cl : Cap l p) (ha : AEl w a q) (ca : Cap a q) :
    Calls Try.prog 8 #[.agg (arC l p), .agg (arC a q)] w fun e w' => e = .returned (.bool true) ∧ Below w.heap.size w w' := by
  have hb2 := mobelow2 (w := w) (.cells (arC l p) 25) (.cells (arC a q) 25)
  have hx := (Blk.new w 25 (arC l p)).alloc (.cells (arC a q) 25)
  have hy := Blk.new (w.alloc (.cells (arC l p) 25)) 25 (arC a q)
  rw [World.size_alloc] at hy
  have hLC : arC l p = #[.int .i64 l.kind, .slice p.A0 l.sh.length p.c0, .slice p.A1 l.el.length p.c1] := rfl
  have hAC : arC a q = #[.int .i64 a.kind, .slice q.A0 a.sh.length q.c0, .slice q.A1 a.el.length q.c1] := rfl
  obtain ⟨w0, hw0⟩ : ∃ w0, (w.alloc (.cells (arC l p) 25)).alloc (.cells (arC a q) 25) = w0 := ⟨_, rfl⟩
  rw [hw0] at hb2 hx hy
  have L_0 : Hid (BoxA w0 w.heap.size l p) := Lib.hid ⟨hx, hl.below hb2, cl⟩
  have A_0 : Hid (BoxA w0 (w.heap.size + 1) a q) := Lib.hid ⟨hy, ha.below hb2, ca⟩
  have BW_0 := Lib.hid hb2
  have HGR : Hid (∀ W, Calls Try.prog 47 #[.agg #[.int .i64 l.kind, .slice p.A0 l.sh.length p.c0, .slice p.A1 l.el.length p.c1], .agg #[.int .i64 a.kind, .slice q.A0 a.sh.length q.c0, .slice q.A1 a.el.length q.c1]] W fun e w' => e = .returned (.bool (greatB l a)) ∧ Below W.heap.size W w') := Lib.hid (fun W => l14great_any l a p q W)
  have HCL : Hid (∀ W, AEl W l p → Calls Try.prog 32 #[.agg #[.int .i64 l.kind, .slice p.A0 l.sh.length p.c0, .slice p.A1 l.el.length p.c1]] W fun e w' => e = .returned (.int .i64 (checkE l)) ∧ Below W.heap.size W w') := Lib.hid (fun W h => archeck_any l p W h)
  have HCA : Hid (∀ W, AEl W a q → Calls Try.prog 32 #[.agg #[.int .i64 a.kind, .slice q.A0 a.sh.length q.c0, .slice q.A1 a.el.length q.c1]] W fun e w' => e = .returned (.int .i64 (checkE a)) ∧ Below W.heap.size W w') := Lib.hid (fun W h => archeck_any a q W h)
  rw [hLC, hAC] at hw0
  rw [hLC, hAC]
  have hf : Fine a := ha.f1
  clear hx hy hb2 hLC hAC hl ha cl ca
  obtain ⟨x0, x1, x2⟩ := L_0.out.cells
  obtain ⟨y0, y1, y2⟩ := A_0.out.cells
  cases hgb : greatB l a with
  | true =>
    rw [hgb] at HGR
    clear hgb hf HCL HCA
    go_enter Try.func8, Try.ntmps8
    go_wp2_with (first
      | (go_at_call 47; refine (HGR.out _).mono ?_; rintro e w2 ⟨rfl, b2⟩; have L_2 := Lib.hid (L_1.out.up b2); have A_2 := Lib.hid (A_1.out.up b2); obtain ⟨x0, x1, x2⟩ := L_2.out.cells; obtain ⟨y0, y1, y2⟩ := A_2.out.cells; have BW_2 := Lib.hid (bon BW_1.out b2); clear b2)
      | (go_at_call 46; (try rw [hw0]); refine (l14alive _).mono ?_; rintro e w1 ⟨rfl, b1⟩; have L_1 := Lib.hid (L_0.out.up b1); have A_1 := Lib.hid (A_0.out.up b1); obtain ⟨x0, x1, x2⟩ := L_1.out.cells; obtain ⟨y0, y1, y2⟩ := A_1.out.cells; have BW_1 := Lib.hid (bon BW_0.out b1); clear b1))
    go_ret
    exact ⟨rfl, BW_2.out⟩
  | false =>
  rw [hgb] at HGR
  clear hgb
  cases hol : okA l
  · have hc : checkE l = 110 := by unfold checkE; rw [hol, if_neg (by decide)]
    rw [hc] at HCL
    clear hc hol hf HCA
    go_enter Try.func8, Try.ntmps8
    go_wp2_with (first
      | (go_at_call 32; refine (HCL.out _ L_2.out.e).mono ?_; rintro e w3 ⟨rfl, b3⟩; have L_3 := Lib.hid (L_2.out.up b3); have A_3 := Lib.hid (A_2.out.up b3); obtain ⟨x0, x1, x2⟩ := L_3.out.cells; obtain ⟨y0, y1, y2⟩ := A_3.out.cells; have BW_3 := Lib.hid (bon BW_2.out b3); have Z3 : Hid (0 = 0) := Lib.hid rfl; clear b3)
      | (go_at_call 47; refine (HGR.out _).mono ?_; rintro e w2 ⟨rfl, b2⟩; have L_2 := Lib.hid (L_1.out.up b2); have A_2 := Lib.hid (A_1.out.up b2); obtain ⟨x0, x1, x2⟩ := L_2.out.cells; obtain ⟨y0, y1, y2⟩ := A_2.out.cells; have BW_2 := Lib.hid (bon BW_1.out b2); clear b2)
      | (go_at_call 46; (try rw [hw0]); refine (l14alive _).mono ?_; rintro e w1 ⟨rfl, b1⟩; have L_1 := Lib.hid (L_0.out.up b1); have A_1 := Lib.hid (A_0.out.up b1); obtain ⟨x0, x1, x2⟩ := L_1.out.cells; obtain ⟨y0, y1, y2⟩ := A_1.out.cells; have BW_1 := Lib.hid (bon BW_0.out b1); clear b1))
    go_ret
    exact ⟨rfl, BW_3.out⟩
  have hcl : checkE l = 0 := by unfold checkE; rw [hol, if_pos rfl]
  rw [hcl] at HCL
  clear hcl
  cases hoa : okA a
  · have hc : checkE a = 110 := by unfold checkE; rw [hoa, if_neg (by decide)]
    rw [hc] at HCA
    clear hc hoa hol hf
    go_enter Try.func8, Try.ntmps8
    go_wp2_with (first
      | (go_at_call 32; (have l0 := Z3.out; clear l0); refine (HCA.out _ A_3.out.e).mono ?_; rintro e w4 ⟨rfl, b4⟩; have L_4 := Lib.hid (L_3.out.up b4); have A_4 := Lib.hid (A_3.out.up b4); obtain ⟨x0, x1, x2⟩ := L_4.out.cells; obtain ⟨y0, y1, y2⟩ := A_4.out.cells; have BW_4 := Lib.hid (bon BW_3.out b4); clear b4)
      | (go_at_call 32; refine (HCL.out _ L_2.out.e).mono ?_; rintro e w3 ⟨rfl, b3⟩; have L_3 := Lib.hid (L_2.out.up b3); have A_3 := Lib.hid (A_2.out.up b3); obtain ⟨x0, x1, x2⟩ := L_3.out.cells; obtain ⟨y0, y1, y2⟩ := A_3.out.cells; have BW_3 := Lib.hid (bon BW_2.out b3); have Z3 : Hid (0 = 0) := Lib.hid rfl; clear b3)
      | (go_at_call 47; refine (HGR.out _).mono ?_; rintro e w2 ⟨rfl, b2⟩; have L_2 := Lib.hid (L_1.out.up b2); have A_2 := Lib.hid (A_1.out.up b2); obtain ⟨x0, x1, x2⟩ := L_2.out.cells; obtain ⟨y0, y1, y2⟩ := A_2.out.cells; have BW_2 := Lib.hid (bon BW_1.out b2); clear b2)
      | (go_at_call 46; (try rw [hw0]); refine (l14alive _).mono ?_; rintro e w1 ⟨rfl, b1⟩; have L_1 := Lib.hid (L_0.out.up b1); have A_1 := Lib.hid (A_0.out.up b1); obtain ⟨x0, x1, x2⟩ := L_1.out.cells; obtain ⟨y0, y1, y2⟩ := A_1.out.cells; have BW_1 := Lib.hid (bon BW_0.out b1); clear b1))
    go_ret
    exact ⟨rfl, BW_4.out⟩
  have hca : checkE a = 0 := by unfold checkE; rw [hoa, if_pos rfl]
  rw [hca] at HCA
  clear hca
  go_enter Try.func8, Try.ntmps8
  go_upto_region 4 with (first
    | (go_at_call 32; (have l0 := Z3.out; clear l0); refine (HCA.out _ A_3.out.e).mono ?_; rintro e w4 ⟨rfl, b4⟩; have L_4 := Lib.hid (L_3.out.up b4); have A_4 := Lib.hid (A_3.out.up b4); obtain ⟨x0, x1, x2⟩ := L_4.out.cells; obtain ⟨y0, y1, y2⟩ := A_4.out.cells; have BW_4 := Lib.hid (bon BW_3.out b4); clear b4)
    | (go_at_call 32; refine (HCL.out _ L_2.out.e).mono ?_; rintro e w3 ⟨rfl, b3⟩; have L_3 := Lib.hid (L_2.out.up b3); have A_3 := Lib.hid (A_2.out.up b3); obtain ⟨x0, x1, x2⟩ := L_3.out.cells; obtain ⟨y0, y1, y2⟩ := A_3.out.cells; have BW_3 := Lib.hid (bon BW_2.out b3); have Z3 : Hid (0 = 0) := Lib.hid rfl; clear b3)
    | (go_at_call 47; refine (HGR.out _).mono ?_; rintro e w2 ⟨rfl, b2⟩; have L_2 := Lib.hid (L_1.out.up b2); have A_2 := Lib.hid (A_1.out.up b2); obtain ⟨x0, x1, x2⟩ := L_2.out.cells; obtain ⟨y0, y1, y2⟩ := A_2.out.cells; have BW_2 := Lib.hid (bon BW_1.out b2); clear b2)
    | (go_at_call 46; (try rw [hw0]); refine (l14alive _).mono ?_; rintro e w1 ⟨rfl, b1⟩; have L_1 := Lib.hid (L_0.out.up b1); have A_1 := Lib.hid (A_0.out.up b1); obtain ⟨x0, x1, x2⟩ := L_1.out.cells; obtain ⟨y0, y1, y2⟩ := A_1.out.cells; have BW_1 := Lib.hid (bon BW_0.out b1); clear b1))
  clear x0 x1 x2 y0 y1 y2 HGR HCL HCA L_0 L_1 L_2 L_3 A_0 A_1 A_2 A_3 BW_0 BW_1 BW_2 BW_3 Z3 hw0
  obtain ⟨gl, hgl⟩ : ∃ g, w.heap.size = g := ⟨_, rfl⟩
  rw [hgl] at L_4 A_4
  rw [hgl]
  have hA4 := okA_len hoa
  have hN : a.el.length ≤ 4096 := hA4.1
  have HSH : Hid (a.sh.length ≤ 1000) := Lib.hid (by omega)
  have HHO := Lib.hid (And.intro hol hoa)
  have HHF := Lib.hid hf
  have HGL := Lib.hid hgl
  clear hol hoa hf hgl hA4
  go_wp2
  go_loopw [6] (fun i wr => ∃ z : Int, 0 ≤ z ∧ z ≤ 4 ∧ i = .int .i64 z ∧ Below w4.heap.size w4 wr) (fun i _ => 4 - (intOf i).toNat)
  case atStart => exact ⟨0, by omega, by omega, rfl, Below.refl _ _⟩
  case round =>
    obtain ⟨z, hz0, hz4, rfl, hbr⟩ := hrel
    by_cases hlt : z < 4
    · have hbb : Below w4.heap.size w4 ((wr.alloc (.cells #[.slice none 0 0, .nilFunc] 37)).alloc (.cells #[.int .i64 0, .slice none 0 0, .slice none 0 0] 25)) := hbr.trans ((mobelow2 _ _).mono hbr.size)
      have k7 := (Blk.new wr 37 #[.slice none 0 0, .nilFunc]).alloc (.cells #[.int .i64 0, .slice none 0 0, .slice none 0 0] 25)
      have k8 := Blk.new (wr.alloc (.cells #[.slice none 0 0, .nilFunc] 37)) 25 #[.int .i64 0, .slice none 0 0, .slice none 0 0]
      rw [World.size_alloc] at k8
      have hsz : ((wr.alloc (.cells #[.slice none 0 0, .nilFunc] 37)).alloc (.cells #[.int .i64 0, .slice none 0 0, .slice none 0 0] 25)).heap.size = wr.heap.size + 2 := by simp
      have hz := hbr.size
      go_upto_block 2 with (fail)
      obtain ⟨wb, hwb⟩ : ∃ W, (wr.alloc (.cells #[.slice none 0 0, .nilFunc] 37)).alloc (.cells #[.int .i64 0, .slice none 0 0, .slice none 0 0] 25) = W := ⟨_, rfl⟩
      obtain ⟨gb, hgb⟩ : ∃ g, wr.heap.size = g := ⟨_, rfl⟩
      rw [hwb] at hbb k7 k8 hsz
      rw [hgb] at k7 k8 hsz hz
      rw [hwb, hgb]
      have BB := Lib.hid hbb
      have K7 := Lib.hid k7
      have K8 := Lib.hid k8
      have HZ := Lib.hid hz
      have HSB : Hid (gb + 2 ≤ wb.heap.size) := Lib.hid (by omega)
      have LB := Lib.hid (L_4.out.up hbb)
      have AB := Lib.hid (A_4.out.up hbb)
      clear hwb hgb hbb k7 k8 hsz hz hbr
      clear wr
      go_cut [9, 10] (fun e f wx => ∃ (E : Int) (X : AV) (r : AP) (v0 v1 : Value), e = .int .i64 E ∧ f = .int .i64 E ∧ (E = 0 → ∃ A n c gf cap, v0 = .slice A n c ∧ v1 = .func (.func gf) #[] cap) ∧ TMet w4 gb E X r v0 v1 (fun sh f => (goE a.kind [a] sh f = 0 ∧ goA a.kind [a] sh f = X) ∧ (∃ g, Once a.el.length f g) ∧ (prodI sh).toNat = a.el.length) wx)
      case first =>
        have u0 := K7.out.frozen 0
        have u1 := K7.out.frozen 1
        obtain ⟨x0, x1, x2⟩ := LB.out.cells
        obtain ⟨y0, y1, y2⟩ := AB.out.cells
        have z0 := K7.out.cell 0
        have z1 := K7.out.cell 1
        have z2 : 0 = 0 := rfl
        obtain h0 | h0 | h0 | h0 : z = 0 ∨ z = 1 ∨ z = 2 ∨ z = 3 := by omega
        · subst h0
          have tt := rev_tells HHO.out.2
          obtain ⟨te, tg, t0, t1, tf⟩ : Tel a [a] ((if okShape a.sh = true then 0 else 110)) (mdE a ((if okShape a.sh = true then 0 else 110)) (a.sh) (withF a.sh (revV a.sh))) (a.sh) (withF a.sh (revV a.sh)) (mdA a ((if okShape a.sh = true then 0 else 110)) (a.sh) (withF a.sh (revV a.sh))) := tel_of HHO.out.2 HHF.out ⟨tt.e, tt.g⟩
          have hwc := fun W (hb : Below w4.heap.size w4 W) => (turevway_any q.A0 q.c0 a.sh W (A_4.out.up hb).e.r0 HSH.out).mono (fun _ _ h => giveP_w (fun k hk => by omega) h)
          have HFC0 := Lib.hid (fun W (hb : Below w4.heap.size w4 W) => tureverse_any a q W (A_4.out.up hb).e)
          obtain ⟨X, hX⟩ : ∃ x, mdA a ((if okShape a.sh = true then 0 else 110)) (a.sh) (withF a.sh (revV a.sh)) = x := ⟨_, rfl⟩
          obtain ⟨S, hS⟩ : ∃ x, a.sh = x := ⟨_, rfl⟩
          obtain ⟨F, hF⟩ : ∃ x, withF a.sh (revV a.sh) = x := ⟨_, rfl⟩
          obtain ⟨E, hE⟩ : ∃ x : Int, (if okShape a.sh = true then 0 else 110) = x := ⟨_, rfl⟩
          have hfc2 : ∀ W, Below w4.heap.size w4 W → Calls Try.prog 42 #[.agg #[.int .i64 a.kind, .slice q.A0 a.sh.length q.c0, .slice q.A1 a.el.length q.c1]] W (GiveE X E W) := fun W hb => by
            subst hX
            subst hE
            have h := HFC0.out W hb
            rw [te] at h
            exact h
          have HXF : Hid (X.sh.length ≤ 9223372036854775807 ∧ X.el.length ≤ 9223372036854775807 ∧ Fine X) := Lib.hid (hX ▸ ⟨t0, t1, tf⟩)
          have hwc2 : ∀ W, Below w4.heap.size w4 W → Calls Try.prog 44 #[.slice q.A0 a.sh.length q.c0] W (GiveW W.heap.size S F E W) := fun W hb => by
            subst hS
            subst hF
            subst hE
            exact hwc W hb
          have ht : E = 0 → (goE a.kind [a] S F = 0 ∧ goA a.kind [a] S F = X) ∧ (∃ g, Once a.el.length F g) ∧ (prodI S).toNat = a.el.length := by
            subst hS
            subst hF
            subst hX
            subst hE
            exact fun h => ⟨tg h, tt.o h, tt.p h⟩
          have HFC := Lib.hid hfc2
          have HT := Lib.hid ht
          clear tt te tg t0 t1 tf hX hS hF hE hfc2 hwc ht HFC0
          by_cases hE0 : E = 0
          · subst hE0
            have HWC := Lib.hid (fun W hb => (hwc2 W hb).mono (fun _ _ h => giveW_yes h))
            have HT0 := Lib.hid (HT.out rfl)
            clear hwc2 HT
            go_upto_region 13 with (go_at_call 44; refine (HWC.out _ BB.out).mono ?_; rintro e v5 ⟨A5, n5, gf5, cap5, rfl, b5, ok5, wy5⟩; have B5 := Lib.hid b5; have OK5 := Lib.hid ok5; have WY5 := Lib.hid wy5; have c0 := (blk_up K7.out b5).cell 0; have c1 := (blk_up K7.out b5).cell 1; have u0 := (blk_up K7.out b5).frozen 0; have u1 := (blk_up K7.out b5).frozen 1; clear b5 ok5 wy5)
            have M5 : Hid (TMid w4 gb 0 (.slice A5 S.length n5) (.func (.func gf5) #[] cap5) (fun sh f => (goE a.kind [a] sh f = 0 ∧ goA a.kind [a] sh f = X) ∧ (∃ g, Once a.el.length f g) ∧ (prodI sh).toNat = a.el.length) ((v5.setCell ⟨gb, 0, none⟩ (.slice A5 S.length n5)).setCell ⟨gb, 1, none⟩ (.func (.func gf5) #[] cap5))) := Lib.hid (TMid.start HZ.out HSB.out BB.out K7.out K8.out B5.out (fun _ => ⟨S, F, OK5.out, WY5.out, HT0.out⟩))
            obtain ⟨w5, hw5⟩ : ∃ w, (v5.setCell ⟨gb, 0, none⟩ (.slice A5 S.length n5)).setCell ⟨gb, 1, none⟩ (.func (.func gf5) #[] cap5) = w := ⟨_, rfl⟩
            rw [hw5] at M5
            rw [hw5]
            clear hw5 B5 K7 K8 BB LB AB c0 c1 x0 x1 x2 y0 y1 y2 z0 z1 z2 u0 u1
            have L5 := Lib.hid (L_4.out.up M5.out.b)
            have A5_ := Lib.hid (A_4.out.up M5.out.b)
            obtain ⟨x0, x1, x2⟩ := L5.out.cells
            obtain ⟨y0, y1, y2⟩ := A5_.out.cells
            obtain ⟨⟨z0, z1, z2⟩, f0, f1, f2⟩ := M5.out.cells
            go_wp2_with (go_at_call 42; refine (HFC.out _ M5.out.b).mono ?_; rintro e v6 ⟨r6, he, o6, b6⟩; obtain rfl : e = .returned (.tuple #[.agg #[.int .i64 X.kind, .slice r6.A0 X.sh.length r6.c0, .slice r6.A1 X.el.length r6.c1], .int .i64 0]) := he; have MT := Lib.hid (M5.out.met b6 o6 HXF.out.1 HXF.out.2.1 HXF.out.2.2); have U6 := Lib.hid (M5.out.up b6); obtain ⟨⟨z0, z1, z2⟩, f0, f1, f2⟩ := U6.out.cells; clear o6 b6)
            go_meet
            exact ⟨0, X, r6, .slice A5 S.length n5, .func (.func gf5) #[] cap5, rfl, rfl, fun _ => ⟨A5, S.length, n5, gf5, cap5, rfl, rfl⟩, MT.out⟩
          · have HWC := Lib.hid (fun W hb => (hwc2 W hb).mono (fun _ _ h => giveW_no hE0 h))
            have HE0 := Lib.hid hE0
            clear hwc2 HT hE0
            go_upto_region 13 with (go_at_call 44; refine (HWC.out _ BB.out).mono ?_; rintro e v5 ⟨rfl, b5⟩; have B5 := Lib.hid b5; have c0 := (blk_up K7.out b5).cell 0; have c1 := (blk_up K7.out b5).cell 1; have u0 := (blk_up K7.out b5).frozen 0; have u1 := (blk_up K7.out b5).frozen 1; clear b5)
            have M5 : Hid (TMid w4 gb E (.slice none 0 0) .nilFunc (fun sh f => (goE a.kind [a] sh f = 0 ∧ goA a.kind [a] sh f = X) ∧ (∃ g, Once a.el.length f g) ∧ (prodI sh).toNat = a.el.length) ((v5.setCell ⟨gb, 0, none⟩ (.slice none 0 0)).setCell ⟨gb, 1, none⟩ .nilFunc)) := Lib.hid (TMid.start HZ.out HSB.out BB.out K7.out K8.out B5.out (fun h => absurd h HE0.out))
            obtain ⟨w5, hw5⟩ : ∃ w, (v5.setCell ⟨gb, 0, none⟩ (.slice none 0 0)).setCell ⟨gb, 1, none⟩ .nilFunc = w := ⟨_, rfl⟩
            rw [hw5] at M5
            rw [hw5]
            clear hw5 B5 K7 K8 BB LB AB c0 c1 x0 x1 x2 y0 y1 y2 z0 z1 z2 u0 u1
            have L5 := Lib.hid (L_4.out.up M5.out.b)
            have A5_ := Lib.hid (A_4.out.up M5.out.b)
            obtain ⟨x0, x1, x2⟩ := L5.out.cells
            obtain ⟨y0, y1, y2⟩ := A5_.out.cells
            obtain ⟨⟨z0, z1, z2⟩, f0, f1, f2⟩ := M5.out.cells
            go_wp2_with (go_at_call 42; refine (HFC.out _ M5.out.b).mono ?_; rintro e v6 ⟨r6, he, o6, b6⟩; obtain rfl : e = .returned (.tuple #[.agg #[.int .i64 X.kind, .slice r6.A0 X.sh.length r6.c0, .slice r6.A1 X.el.length r6.c1], .int .i64 E]) := he; have MT := Lib.hid (M5.out.met b6 o6 HXF.out.1 HXF.out.2.1 HXF.out.2.2); have U6 := Lib.hid (M5.out.up b6); obtain ⟨⟨z0, z1, z2⟩, f0, f1, f2⟩ := U6.out.cells; clear o6 b6)
            go_meet
            exact ⟨E, X, r6, .slice none 0 0, .nilFunc, rfl, rfl, fun h => absurd h HE0.out, MT.out⟩
        · subst h0
          have tt := tra_tells HHO.out.2
          obtain ⟨te, tg, t0, t1, tf⟩ : Tel a [a] ((if okShape (shO a.sh (tosR a.sh.length)) = true then 0 else 110)) (mdE a ((if okShape (shO a.sh (tosR a.sh.length)) = true then 0 else 110)) (shO a.sh (tosR a.sh.length)) (ordF a.sh (tosR a.sh.length))) (shO a.sh (tosR a.sh.length)) (ordF a.sh (tosR a.sh.length)) (mdA a ((if okShape (shO a.sh (tosR a.sh.length)) = true then 0 else 110)) (shO a.sh (tosR a.sh.length)) (ordF a.sh (tosR a.sh.length))) := tel_of HHO.out.2 HHF.out ⟨tt.e, tt.g⟩
          have hwc := fun W (hb : Below w4.heap.size w4 W) => (tutraway_any q.A0 q.c0 a.sh W (A_4.out.up hb).e.r0 HSH.out).mono (fun _ _ h => giveP_w (fun k hk => by omega) h)
          have HFC0 := Lib.hid (fun W (hb : Below w4.heap.size w4 W) => tutranspose_any a q W (A_4.out.up hb).e)
          obtain ⟨X, hX⟩ : ∃ x, mdA a ((if okShape (shO a.sh (tosR a.sh.length)) = true then 0 else 110)) (shO a.sh (tosR a.sh.length)) (ordF a.sh (tosR a.sh.length)) = x := ⟨_, rfl⟩
          obtain ⟨S, hS⟩ : ∃ x, shO a.sh (tosR a.sh.length) = x := ⟨_, rfl⟩
          obtain ⟨F, hF⟩ : ∃ x, ordF a.sh (tosR a.sh.length) = x := ⟨_, rfl⟩
          obtain ⟨E, hE⟩ : ∃ x : Int, (if okShape (shO a.sh (tosR a.sh.length)) = true then 0 else 110) = x := ⟨_, rfl⟩
          have hfc2 : ∀ W, Below w4.heap.size w4 W → Calls Try.prog 43 #[.agg #[.int .i64 a.kind, .slice q.A0 a.sh.length q.c0, .slice q.A1 a.el.length q.c1]] W (GiveE X E W) := fun W hb => by
            subst hX
            subst hE
            have h := HFC0.out W hb
            rw [te] at h
            exact h
          have HXF : Hid (X.sh.length ≤ 9223372036854775807 ∧ X.el.length ≤ 9223372036854775807 ∧ Fine X) := Lib.hid (hX ▸ ⟨t0, t1, tf⟩)
          have hwc2 : ∀ W, Below w4.heap.size w4 W → Calls Try.prog 50 #[.slice q.A0 a.sh.length q.c0] W (GiveW W.heap.size S F E W) := fun W hb => by
            subst hS
            subst hF
            subst hE
            exact hwc W hb
          have ht : E = 0 → (goE a.kind [a] S F = 0 ∧ goA a.kind [a] S F = X) ∧ (∃ g, Once a.el.length F g) ∧ (prodI S).toNat = a.el.length := by
            subst hS
            subst hF
            subst hX
            subst hE
            exact fun h => ⟨tg h, tt.o h, tt.p h⟩
          have HFC := Lib.hid hfc2
          have HT := Lib.hid ht
          clear tt te tg t0 t1 tf hX hS hF hE hfc2 hwc ht HFC0
          by_cases hE0 : E = 0
          · subst hE0
            have HWC := Lib.hid (fun W hb => (hwc2 W hb).mono (fun _ _ h => giveW_yes h))
            have HT0 := Lib.hid (HT.out rfl)
            clear hwc2 HT
            go_upto_region 16 with (go_at_call 50; refine (HWC.out _ BB.out).mono ?_; rintro e v5 ⟨A5, n5, gf5, cap5, rfl, b5, ok5, wy5⟩; have B5 := Lib.hid b5; have OK5 := Lib.hid ok5; have WY5 := Lib.hid wy5; have c0 := (blk_up K7.out b5).cell 0; have c1 := (blk_up K7.out b5).cell 1; have u0 := (blk_up K7.out b5).frozen 0; have u1 := (blk_up K7.out b5).frozen 1; clear b5 ok5 wy5)
            have M5 : Hid (TMid w4 gb 0 (.slice A5 S.length n5) (.func (.func gf5) #[] cap5) (fun sh f => (goE a.kind [a] sh f = 0 ∧ goA a.kind [a] sh f = X) ∧ (∃ g, Once a.el.length f g) ∧ (prodI sh).toNat = a.el.length) ((v5.setCell ⟨gb, 0, none⟩ (.slice A5 S.length n5)).setCell ⟨gb, 1, none⟩ (.func (.func gf5) #[] cap5))) := Lib.hid (TMid.start HZ.out HSB.out BB.out K7.out K8.out B5.out (fun _ => ⟨S, F, OK5.out, WY5.out, HT0.out⟩))
            obtain ⟨w5, hw5⟩ : ∃ w, (v5.setCell ⟨gb, 0, none⟩ (.slice A5 S.length n5)).setCell ⟨gb, 1, none⟩ (.func (.func gf5) #[] cap5) = w := ⟨_, rfl⟩
            rw [hw5] at M5
            rw [hw5]
            clear hw5 B5 K7 K8 BB LB AB c0 c1 x0 x1 x2 y0 y1 y2 z0 z1 z2 u0 u1
            have L5 := Lib.hid (L_4.out.up M5.out.b)
            have A5_ := Lib.hid (A_4.out.up M5.out.b)
            obtain ⟨x0, x1, x2⟩ := L5.out.cells
            obtain ⟨y0, y1, y2⟩ := A5_.out.cells
            obtain ⟨⟨z0, z1, z2⟩, f0, f1, f2⟩ := M5.out.cells
            go_wp2_with (go_at_call 43; refine (HFC.out _ M5.out.b).mono ?_; rintro e v6 ⟨r6, he, o6, b6⟩; obtain rfl : e = .returned (.tuple #[.agg #[.int .i64 X.kind, .slice r6.A0 X.sh.length r6.c0, .slice r6.A1 X.el.length r6.c1], .int .i64 0]) := he; have MT := Lib.hid (M5.out.met b6 o6 HXF.out.1 HXF.out.2.1 HXF.out.2.2); have U6 := Lib.hid (M5.out.up b6); obtain ⟨⟨z0, z1, z2⟩, f0, f1, f2⟩ := U6.out.cells; clear o6 b6)
            go_meet
            exact ⟨0, X, r6, .slice A5 S.length n5, .func (.func gf5) #[] cap5, rfl, rfl, fun _ => ⟨A5, S.length, n5, gf5, cap5, rfl, rfl⟩, MT.out⟩
          · have HWC := Lib.hid (fun W hb => (hwc2 W hb).mono (fun _ _ h => giveW_no hE0 h))
            have HE0 := Lib.hid hE0
            clear hwc2 HT hE0
            go_upto_region 16 with (go_at_call 50; refine (HWC.out _ BB.out).mono ?_; rintro e v5 ⟨rfl, b5⟩; have B5 := Lib.hid b5; have c0 := (blk_up K7.out b5).cell 0; have c1 := (blk_up K7.out b5).cell 1; have u0 := (blk_up K7.out b5).frozen 0; have u1 := (blk_up K7.out b5).frozen 1; clear b5)
            have M5 : Hid (TMid w4 gb E (.slice none 0 0) .nilFunc (fun sh f => (goE a.kind [a] sh f = 0 ∧ goA a.kind [a] sh f = X) ∧ (∃ g, Once a.el.length f g) ∧ (prodI sh).toNat = a.el.length) ((v5.setCell ⟨gb, 0, none⟩ (.slice none 0 0)).setCell ⟨gb, 1, none⟩ .nilFunc)) := Lib.hid (TMid.start HZ.out HSB.out BB.out K7.out K8.out B5.out (fun h => absurd h HE0.out))
            obtain ⟨w5, hw5⟩ : ∃ w, (v5.setCell ⟨gb, 0, none⟩ (.slice none 0 0)).setCell ⟨gb, 1, none⟩ .nilFunc = w := ⟨_, rfl⟩
            rw [hw5] at M5
            rw [hw5]
            clear hw5 B5 K7 K8 BB LB AB c0 c1 x0 x1 x2 y0 y1 y2 z0 z1 z2 u0 u1
            have L5 := Lib.hid (L_4.out.up M5.out.b)
            have A5_ := Lib.hid (A_4.out.up M5.out.b)
            obtain ⟨x0, x1, x2⟩ := L5.out.cells
            obtain ⟨y0, y1, y2⟩ := A5_.out.cells
            obtain ⟨⟨z0, z1, z2⟩, f0, f1, f2⟩ := M5.out.cells
            go_wp2_with (go_at_call 43; refine (HFC.out _ M5.out.b).mono ?_; rintro e v6 ⟨r6, he, o6, b6⟩; obtain rfl : e = .returned (.tuple #[.agg #[.int .i64 X.kind, .slice r6.A0 X.sh.length r6.c0, .slice r6.A1 X.el.length r6.c1], .int .i64 E]) := he; have MT := Lib.hid (M5.out.met b6 o6 HXF.out.1 HXF.out.2.1 HXF.out.2.2); have U6 := Lib.hid (M5.out.up b6); obtain ⟨⟨z0, z1, z2⟩, f0, f1, f2⟩ := U6.out.cells; clear o6 b6)
            go_meet
            exact ⟨E, X, r6, .slice none 0 0, .nilFunc, rfl, rfl, fun h => absurd h HE0.out, MT.out⟩
        · subst h0
          have tt := rot_tells l HHO.out.2
          obtain ⟨te, tg, t0, t1, tf⟩ : Tel a [a] (rotE l a.sh) (mdE a (rotE l a.sh) (a.sh) (withF a.sh (rotV a.sh l.el))) (a.sh) (withF a.sh (rotV a.sh l.el)) (mdA a (rotE l a.sh) (a.sh) (withF a.sh (rotV a.sh l.el))) := tel_of HHO.out.2 HHF.out ⟨tt.e, tt.g⟩
          have hwc := fun W (hb : Below w4.heap.size w4 W) => (turotway_any q.A0 q.c0 a.sh l p W (A_4.out.up hb).e.r0 (L_4.out.up hb).e HSH.out A_4.out.c.le).mono (fun _ _ h => giveP_w (fun k hk => by omega) h)
          have HFC0 := Lib.hid (fun W (hb : Below w4.heap.size w4 W) => turotate_any l a p q W (L_4.out.up hb).e (A_4.out.up hb).e A_4.out.c.le)
          obtain ⟨X, hX⟩ : ∃ x, mdA a (rotE l a.sh) (a.sh) (withF a.sh (rotV a.sh l.el)) = x := ⟨_, rfl⟩
          obtain ⟨S, hS⟩ : ∃ x, a.sh = x := ⟨_, rfl⟩
          obtain ⟨F, hF⟩ : ∃ x, withF a.sh (rotV a.sh l.el) = x := ⟨_, rfl⟩
          obtain ⟨E, hE⟩ : ∃ x : Int, rotE l a.sh = x := ⟨_, rfl⟩
          have hfc2 : ∀ W, Below w4.heap.size w4 W → Calls Try.prog 38 #[.agg #[.int .i64 l.kind, .slice p.A0 l.sh.length p.c0, .slice p.A1 l.el.length p.c1], .agg #[.int .i64 a.kind, .slice q.A0 a.sh.length q.c0, .slice q.A1 a.el.length q.c1]] W (GiveE X E W) := fun W hb => by
            subst hX
            subst hE
            have h := HFC0.out W hb
            rw [te] at h
            exact h
          have HXF : Hid (X.sh.length ≤ 9223372036854775807 ∧ X.el.length ≤ 9223372036854775807 ∧ Fine X) := Lib.hid (hX ▸ ⟨t0, t1, tf⟩)
          have hwc2 : ∀ W, Below w4.heap.size w4 W → Calls Try.prog 51 #[.agg #[.int .i64 l.kind, .slice p.A0 l.sh.length p.c0, .slice p.A1 l.el.length p.c1], .slice q.A0 a.sh.length q.c0] W (GiveW W.heap.size S F E W) := fun W hb => by
            subst hS
            subst hF
            subst hE
            exact hwc W hb
          have ht : E = 0 → (goE a.kind [a] S F = 0 ∧ goA a.kind [a] S F = X) ∧ (∃ g, Once a.el.length F g) ∧ (prodI S).toNat = a.el.length := by
            subst hS
            subst hF
            subst hX
            subst hE
            exact fun h => ⟨tg h, tt.o h, tt.p h⟩
          have HFC := Lib.hid hfc2
          have HT := Lib.hid ht
          clear tt te tg t0 t1 tf hX hS hF hE hfc2 hwc ht HFC0
          by_cases hE0 : E = 0
          · subst hE0
            have HWC := Lib.hid (fun W hb => (hwc2 W hb).mono (fun _ _ h => giveW_yes h))
            have HT0 := Lib.hid (HT.out rfl)
            clear hwc2 HT
            go_upto_region 19 with (go_at_call 51; refine (HWC.out _ BB.out).mono ?_; rintro e v5 ⟨A5, n5, gf5, cap5, rfl, b5, ok5, wy5⟩; have B5 := Lib.hid b5; have OK5 := Lib.hid ok5; have WY5 := Lib.hid wy5; have c0 := (blk_up K7.out b5).cell 0; have c1 := (blk_up K7.out b5).cell 1; have u0 := (blk_up K7.out b5).frozen 0; have u1 := (blk_up K7.out b5).frozen 1; clear b5 ok5 wy5)
            have M5 : Hid (TMid w4 gb 0 (.slice A5 S.length n5) (.func (.func gf5) #[] cap5) (fun sh f => (goE a.kind [a] sh f = 0 ∧ goA a.kind [a] sh f = X) ∧ (∃ g, Once a.el.length f g) ∧ (prodI sh).toNat = a.el.length) ((v5.setCell ⟨gb, 0, none⟩ (.slice A5 S.length n5)).setCell ⟨gb, 1, none⟩ (.func (.func gf5) #[] cap5))) := Lib.hid (TMid.start HZ.out HSB.out BB.out K7.out K8.out B5.out (fun _ => ⟨S, F, OK5.out, WY5.out, HT0.out⟩))
            obtain ⟨w5, hw5⟩ : ∃ w, (v5.setCell ⟨gb, 0, none⟩ (.slice A5 S.length n5)).setCell ⟨gb, 1, none⟩ (.func (.func gf5) #[] cap5) = w := ⟨_, rfl⟩
            rw [hw5] at M5
            rw [hw5]
            clear hw5 B5 K7 K8 BB LB AB c0 c1 x0 x1 x2 y0 y1 y2 z0 z1 z2 u0 u1
            have L5 := Lib.hid (L_4.out.up M5.out.b)
            have A5_ := Lib.hid (A_4.out.up M5.out.b)
            obtain ⟨x0, x1, x2⟩ := L5.out.cells
            obtain ⟨y0, y1, y2⟩ := A5_.out.cells
            obtain ⟨⟨z0, z1, z2⟩, f0, f1, f2⟩ := M5.out.cells
            go_wp2_with (go_at_call 38; refine (HFC.out _ M5.out.b).mono ?_; rintro e v6 ⟨r6, he, o6, b6⟩; obtain rfl : e = .returned (.tuple #[.agg #[.int .i64 X.kind, .slice r6.A0 X.sh.length r6.c0, .slice r6.A1 X.el.length r6.c1], .int .i64 0]) := he; have MT := Lib.hid (M5.out.met b6 o6 HXF.out.1 HXF.out.2.1 HXF.out.2.2); have U6 := Lib.hid (M5.out.up b6); obtain ⟨⟨z0, z1, z2⟩, f0, f1, f2⟩ := U6.out.cells; clear o6 b6)
            go_meet
            exact ⟨0, X, r6, .slice A5 S.length n5, .func (.func gf5) #[] cap5, rfl, rfl, fun _ => ⟨A5, S.length, n5, gf5, cap5, rfl, rfl⟩, MT.out⟩
          · have HWC := Lib.hid (fun W hb => (hwc2 W hb).mono (fun _ _ h => giveW_no hE0 h))
            have HE0 := Lib.hid hE0
            clear hwc2 HT hE0
            go_upto_region 19 with (go_at_call 51; refine (HWC.out _ BB.out).mono ?_; rintro e v5 ⟨rfl, b5⟩; have B5 := Lib.hid b5; have c0 := (blk_up K7.out b5).cell 0; have c1 := (blk_up K7.out b5).cell 1; have u0 := (blk_up K7.out b5).frozen 0; have u1 := (blk_up K7.out b5).frozen 1; clear b5)
            have M5 : Hid (TMid w4 gb E (.slice none 0 0) .nilFunc (fun sh f => (goE a.kind [a] sh f = 0 ∧ goA a.kind [a] sh f = X) ∧ (∃ g, Once a.el.length f g) ∧ (prodI sh).toNat = a.el.length) ((v5.setCell ⟨gb, 0, none⟩ (.slice none 0 0)).setCell ⟨gb, 1, none⟩ .nilFunc)) := Lib.hid (TMid.start HZ.out HSB.out BB.out K7.out K8.out B5.out (fun h => absurd h HE0.out))
            obtain ⟨w5, hw5⟩ : ∃ w, (v5.setCell ⟨gb, 0, none⟩ (.slice none 0 0)).setCell ⟨gb, 1, none⟩ .nilFunc = w := ⟨_, rfl⟩
            rw [hw5] at M5
            rw [hw5]
            clear hw5 B5 K7 K8 BB LB AB c0 c1 x0 x1 x2 y0 y1 y2 z0 z1 z2 u0 u1
            have L5 := Lib.hid (L_4.out.up M5.out.b)
            have A5_ := Lib.hid (A_4.out.up M5.out.b)
            obtain ⟨x0, x1, x2⟩ := L5.out.cells
            obtain ⟨y0, y1, y2⟩ := A5_.out.cells
            obtain ⟨⟨z0, z1, z2⟩, f0, f1, f2⟩ := M5.out.cells
            go_wp2_with (go_at_call 38; refine (HFC.out _ M5.out.b).mono ?_; rintro e v6 ⟨r6, he, o6, b6⟩; obtain rfl : e = .returned (.tuple #[.agg #[.int .i64 X.kind, .slice r6.A0 X.sh.length r6.c0, .slice r6.A1 X.el.length r6.c1], .int .i64 E]) := he; have MT := Lib.hid (M5.out.met b6 o6 HXF.out.1 HXF.out.2.1 HXF.out.2.2); have U6 := Lib.hid (M5.out.up b6); obtain ⟨⟨z0, z1, z2⟩, f0, f1, f2⟩ := U6.out.cells; clear o6 b6)
            go_meet
            exact ⟨E, X, r6, .slice none 0 0, .nilFunc, rfl, rfl, fun h => absurd h HE0.out, MT.out⟩
        · subst h0
          have tt := perm_tells l HHO.out.2
          obtain ⟨te, tg, t0, t1, tf⟩ : Tel a [a] (perE l a.sh) (mdE a (perE l a.sh) (shO a.sh (tosP l)) (ordF a.sh (tosP l))) (shO a.sh (tosP l)) (ordF a.sh (tosP l)) (mdA a (perE l a.sh) (shO a.sh (tosP l)) (ordF a.sh (tosP l))) := tel_of HHO.out.2 HHF.out ⟨tt.e, tt.g⟩
          have hwc := fun W (hb : Below w4.heap.size w4 W) => (tuperway_any q.A0 q.c0 a.sh l p W (A_4.out.up hb).e.r0 (L_4.out.up hb).e HSH.out).mono (fun _ _ h => giveP_w (fun k hk => by omega) h)
          have HFC0 := Lib.hid (fun W (hb : Below w4.heap.size w4 W) => tupermute_any l a p q W (L_4.out.up hb).e (A_4.out.up hb).e)
          obtain ⟨X, hX⟩ : ∃ x, mdA a (perE l a.sh) (shO a.sh (tosP l)) (ordF a.sh (tosP l)) = x := ⟨_, rfl⟩
          obtain ⟨S, hS⟩ : ∃ x, shO a.sh (tosP l) = x := ⟨_, rfl⟩
          obtain ⟨F, hF⟩ : ∃ x, ordF a.sh (tosP l) = x := ⟨_, rfl⟩
          obtain ⟨E, hE⟩ : ∃ x : Int, perE l a.sh = x := ⟨_, rfl⟩
          have hfc2 : ∀ W, Below w4.heap.size w4 W → Calls Try.prog 40 #[.agg #[.int .i64 l.kind, .slice p.A0 l.sh.length p.c0, .slice p.A1 l.el.length p.c1], .agg #[.int .i64 a.kind, .slice q.A0 a.sh.length q.c0, .slice q.A1 a.el.length q.c1]] W (GiveE X E W) := fun W hb => by
            subst hX
            subst hE
            have h := HFC0.out W hb
            rw [te] at h
            exact h
          have HXF : Hid (X.sh.length ≤ 9223372036854775807 ∧ X.el.length ≤ 9223372036854775807 ∧ Fine X) := Lib.hid (hX ▸ ⟨t0, t1, tf⟩)
          have hwc2 : ∀ W, Below w4.heap.size w4 W → Calls Try.prog 41 #[.agg #[.int .i64 l.kind, .slice p.A0 l.sh.length p.c0, .slice p.A1 l.el.length p.c1], .slice q.A0 a.sh.length q.c0] W (GiveW W.heap.size S F E W) := fun W hb => by
            subst hS
            subst hF
            subst hE
            exact hwc W hb
          have ht : E = 0 → (goE a.kind [a] S F = 0 ∧ goA a.kind [a] S F = X) ∧ (∃ g, Once a.el.length F g) ∧ (prodI S).toNat = a.el.length := by
            subst hS
            subst hF
            subst hX
            subst hE
            exact fun h => ⟨tg h, tt.o h, tt.p h⟩
          have HFC := Lib.hid hfc2
          have HT := Lib.hid ht
          clear tt te tg t0 t1 tf hX hS hF hE hfc2 hwc ht HFC0
          by_cases hE0 : E = 0
          · subst hE0
            have HWC := Lib.hid (fun W hb => (hwc2 W hb).mono (fun _ _ h => giveW_yes h))
            have HT0 := Lib.hid (HT.out rfl)
            clear hwc2 HT
            go_upto_region 22 with (go_at_call 41; refine (HWC.out _ BB.out).mono ?_; rintro e v5 ⟨A5, n5, gf5, cap5, rfl, b5, ok5, wy5⟩; have B5 := Lib.hid b5; have OK5 := Lib.hid ok5; have WY5 := Lib.hid wy5; have c0 := (blk_up K7.out b5).cell 0; have c1 := (blk_up K7.out b5).cell 1; have u0 := (blk_up K7.out b5).frozen 0; have u1 := (blk_up K7.out b5).frozen 1; clear b5 ok5 wy5)
            have M5 : Hid (TMid w4 gb 0 (.slice A5 S.length n5) (.func (.func gf5) #[] cap5) (fun sh f => (goE a.kind [a] sh f = 0 ∧ goA a.kind [a] sh f = X) ∧ (∃ g, Once a.el.length f g) ∧ (prodI sh).toNat = a.el.length) ((v5.setCell ⟨gb, 0, none⟩ (.slice A5 S.length n5)).setCell ⟨gb, 1, none⟩ (.func (.func gf5) #[] cap5))) := Lib.hid (TMid.start HZ.out HSB.out BB.out K7.out K8.out B5.out (fun _ => ⟨S, F, OK5.out, WY5.out, HT0.out⟩))
            obtain ⟨w5, hw5⟩ : ∃ w, (v5.setCell ⟨gb, 0, none⟩ (.slice A5 S.length n5)).setCell ⟨gb, 1, none⟩ (.func (.func gf5) #[] cap5) = w := ⟨_, rfl⟩
            rw [hw5] at M5
            rw [hw5]
            clear hw5 B5 K7 K8 BB LB AB c0 c1 x0 x1 x2 y0 y1 y2 z0 z1 z2 u0 u1
            have L5 := Lib.hid (L_4.out.up M5.out.b)
            have A5_ := Lib.hid (A_4.out.up M5.out.b)
            obtain ⟨x0, x1, x2⟩ := L5.out.cells
            obtain ⟨y0, y1, y2⟩ := A5_.out.cells
            obtain ⟨⟨z0, z1, z2⟩, f0, f1, f2⟩ := M5.out.cells
            go_wp2_with (go_at_call 40; refine (HFC.out _ M5.out.b).mono ?_; rintro e v6 ⟨r6, he, o6, b6⟩; obtain rfl : e = .returned (.tuple #[.agg #[.int .i64 X.kind, .slice r6.A0 X.sh.length r6.c0, .slice r6.A1 X.el.length r6.c1], .int .i64 0]) := he; have MT := Lib.hid (M5.out.met b6 o6 HXF.out.1 HXF.out.2.1 HXF.out.2.2); have U6 := Lib.hid (M5.out.up b6); obtain ⟨⟨z0, z1, z2⟩, f0, f1, f2⟩ := U6.out.cells; clear o6 b6)
            go_meet
            exact ⟨0, X, r6, .slice A5 S.length n5, .func (.func gf5) #[] cap5, rfl, rfl, fun _ => ⟨A5, S.length, n5, gf5, cap5, rfl, rfl⟩, MT.out⟩
          · have HWC := Lib.hid (fun W hb => (hwc2 W hb).mono (fun _ _ h => giveW_no hE0 h))
            have HE0 := Lib.hid hE0
            clear hwc2 HT hE0
            go_upto_region 22 with (go_at_call 41; refine (HWC.out _ BB.out).mono ?_; rintro e v5 ⟨rfl, b5⟩; have B5 := Lib.hid b5; have c0 := (blk_up K7.out b5).cell 0; have c1 := (blk_up K7.out b5).cell 1; have u0 := (blk_up K7.out b5).frozen 0; have u1 := (blk_up K7.out b5).frozen 1; clear b5)
            have M5 : Hid (TMid w4 gb E (.slice none 0 0) .nilFunc (fun sh f => (goE a.kind [a] sh f = 0 ∧ goA a.kind [a] sh f = X) ∧ (∃ g, Once a.el.length f g) ∧ (prodI sh).toNat = a.el.length) ((v5.setCell ⟨gb, 0, none⟩ (.slice none 0 0)).setCell ⟨gb, 1, none⟩ .nilFunc)) := Lib.hid (TMid.start HZ.out HSB.out BB.out K7.out K8.out B5.out (fun h => absurd h HE0.out))
            obtain ⟨w5, hw5⟩ : ∃ w, (v5.setCell ⟨gb, 0, none⟩ (.slice none 0 0)).setCell ⟨gb, 1, none⟩ .nilFunc = w := ⟨_, rfl⟩
            rw [hw5] at M5
            rw [hw5]
            clear hw5 B5 K7 K8 BB LB AB c0 c1 x0 x1 x2 y0 y1 y2 z0 z1 z2 u0 u1
            have L5 := Lib.hid (L_4.out.up M5.out.b)
            have A5_ := Lib.hid (A_4.out.up M5.out.b)
            obtain ⟨x0, x1, x2⟩ := L5.out.cells
            obtain ⟨y0, y1, y2⟩ := A5_.out.cells
            obtain ⟨⟨z0, z1, z2⟩, f0, f1, f2⟩ := M5.out.cells
            go_wp2_with (go_at_call 40; refine (HFC.out _ M5.out.b).mono ?_; rintro e v6 ⟨r6, he, o6, b6⟩; obtain rfl : e = .returned (.tuple #[.agg #[.int .i64 X.kind, .slice r6.A0 X.sh.length r6.c0, .slice r6.A1 X.el.length r6.c1], .int .i64 E]) := he; have MT := Lib.hid (M5.out.met b6 o6 HXF.out.1 HXF.out.2.1 HXF.out.2.2); have U6 := Lib.hid (M5.out.up b6); obtain ⟨⟨z0, z1, z2⟩, f0, f1, f2⟩ := U6.out.cells; clear o6 b6)
            go_meet
            exact ⟨E, X, r6, .slice none 0 0, .nilFunc, rfl, rfl, fun h => absurd h HE0.out, MT.out⟩
      case rest =>
        obtain ⟨E, X, r, v0, v1, rfl, rfl, hsp, hm⟩ := hcut
        have HM := Lib.hid hm
        have hbx := hm.b
        have AX := Lib.hid (A_4.out.up hbx)
        have BX := Lib.hid hbx
        clear K7 K8 BB LB AB HSB HZ
        by_cases hE : E = 0
        · subst hE
          obtain ⟨A9, n9, c9, gf9, cap9, rfl, rfl⟩ := hsp rfl
          obtain ⟨S, F, hok, hway, ⟨hg1, hg2⟩, ⟨g, hon⟩, hps⟩ := hm.go rfl
          have HGO : Hid (Calls Try.prog 28 #[.agg #[.slice A9 n9 c9, .func (.func gf9) #[] cap9], .int .i64 a.kind, .slice (some ⟨wc.heap.size, 0, none⟩) 1 1] (wc.alloc (.cells #[.int .i64 a.kind, .slice q.A0 a.sh.length q.c0, .slice q.A1 a.el.length q.c1] 25)) (GiveE X 0 (wc.alloc (.cells #[.int .i64 a.kind, .slice q.A0 a.sh.length q.c0, .slice q.A1 a.el.length q.c1] 25)))) := Lib.hid (by
            have h := mogo_any (gb + 2) (.agg #[.slice A9 n9 c9, .func (.func gf9) #[] cap9]) S F a.kind _ 1 [a] _ (hway.below (albel wc (.cells #[.int .i64 a.kind, .slice q.A0 a.sh.length q.c0, .slice q.A1 a.el.length q.c1] 25))) hok (Els.one AX.out.e) (fun b hb => by
              have : b = a := by simpa using hb
              rw [this]
              exact HHF.out)
            rw [hg1, hg2] at h
            exact h)
          have HAT : Hid (∀ W, Below wc.heap.size wc W → ∀ k : Nat, k < a.el.length → Calls Try.prog gf9 (#[.int .i64 (k : Int)] ++ cap9) W fun e w' => e = .returned (.tuple #[.int .i64 0, .int .i64 (g k : Int)]) ∧ Below W.heap.size W w') := Lib.hid (fun W hb k hk => by
            obtain ⟨A1, c1, gf1, cap1, he, _, _, _, hcl⟩ := hway
            injection he with he
            have he2 := congrArg (fun x : Array Value => x[1]?) he
            have he3 : Value.func (.func gf9) #[] cap9 = .func (.func gf1) #[] cap1 := Option.some.inj he2
            injection he3 with e4 e5 e6
            injection e4 with e4
            subst e4 e6
            have h := hcl W (Sin.of hb) k (by omega)
            rw [hon.at_ k hk] at h
            exact h)
          have HEN : Hid (∀ args w, (callFunc gf9 args).run Try.prog w = .ok (.enter gf9 args) w) := Lib.hid (by
            obtain ⟨A1, c1, gf1, cap1, he, _, _, hen, _⟩ := hway
            injection he with he
            have he2 := congrArg (fun x : Array Value => x[1]?) he
            have he3 : Value.func (.func gf9) #[] cap9 = .func (.func gf1) #[] cap1 := Option.some.inj he2
            injection he3 with e4 e5 e6
            injection e4 with e4
            subst e4
            exact hen)
          have HON := Lib.hid hon
          have hfx : X.sh.length ≤ 9223372036854775807 ∧ X.el.length ≤ 9223372036854775807 ∧ Fine X := ⟨hm.x.b0, hm.x.b1, hm.x.f1⟩
          have HFX := Lib.hid hfx
          clear hok hway hg1 hg2 hm hbx hfx hsp hon hps
          obtain ⟨⟨c0, c1⟩, z0, z1, z2⟩ := HM.out.cells
          obtain ⟨y0, y1, y2⟩ := AX.out.cells
          go_upto_region 27 with (go_at_call 28; (with_reducible refine (HGO.out).mono ?_); rintro e v7 ⟨r7, he, o7, b7⟩; obtain rfl : e = .returned (.tuple #[.agg #[.int .i64 X.kind, .slice r7.A0 X.sh.length r7.c0, .slice r7.A1 X.el.length r7.c1], .int .i64 0]) := he; have O7 := Lib.hid (o7.el HFX.out.1 HFX.out.2.1 HFX.out.2.2); have B7 := Lib.hid (bon (albel _ _) b7); clear o7 b7)
          obtain ⟨w8, hw8⟩ : ∃ W, v7.alloc (.cells #[.int .i64 X.kind, .slice r7.A0 X.sh.length r7.c0, .slice r7.A1 X.el.length r7.c1] 25) = W := ⟨_, rfl⟩
          obtain ⟨g8, hg8⟩ : ∃ g, v7.heap.size = g := ⟨_, rfl⟩
          have b8 : Below wc.heap.size wc w8 := by rw [← hw8]; exact bon B7.out (albel _ _)
          have HB8C := Lib.hid b8
          have N8 : Hid (BoxQ w8 g8 X r7) := Lib.hid (by rw [← hw8, ← hg8]; exact ⟨Blk.new _ _ _, O7.out.below (albel _ _)⟩)
          have M8 := Lib.hid (HM.out.up b8)
          have B8 : Hid (Below w4.heap.size w4 w8) := Lib.hid (BX.out.trans (b8.mono BX.out.size))
          rw [hw8, hg8]
          clear hw8 hg8 b8 c0 c1 z0 z1 z2 y0 y1 y2 O7 B7 HGO
          obtain ⟨_, z0, z1, z2⟩ := M8.out.cells
          obtain ⟨y0, y1, y2⟩ := N8.out.cells
          have e1 : z < 4 := hlt
          have A8 := Lib.hid (A_4.out.up B8.out)
          have HBC : Hid (Below wc.heap.size wc w8) := Lib.hid HB8C.out
          go_upto_region 29 with (go_at_call 39; refine (l14is_yes X r7 r _ N8.out.e M8.out.x).mono ?_; rintro e w9 ⟨rfl, b9⟩; have M9 := Lib.hid (M8.out.up b9); have A9_ := Lib.hid (A8.out.up b9); have BC9 := Lib.hid (bon HBC.out b9); have B9 := Lib.hid (B8.out.trans (b9.mono B8.out.size)); clear b9)
          clear z0 z1 z2 y0 y1 y2 M8 A8 HBC N8 HB8C B8 AX HM BX
          obtain ⟨y0, y1, y2⟩ := A9_.out.cells
          have hmk : ∀ w : World, (Instr.makeSlice 22 (.int .i64 (a.el.length : Int)) (.int .i64 (a.el.length : Int))).run Try.prog w = .ok (.slice (some ⟨w.heap.size, 0, none⟩) a.el.length a.el.length) (w.alloc (.cells (Array.replicate a.el.length (.int .i64 0)) 3)) := fun w => by
            obtain ⟨i0, hi, hz0, hz1, hz2⟩ := info_parts arInfoInt
            have := run_make (P := Try.prog) w 22 3 i0 _ Try.underlying22 hi hz0 .i64 .i64 (a.el.length : Int) (a.el.length : Int) (by omega) (by omega) (by rw [hz2]; omega) (by omega)
            rw [hz1, Int.toNat_natCast] at this
            rw [this]
            congr 3
            apply Array.ext
            · simp [madeCells]
            · intro i h1 h2
              simp [madeCells, Value.cells, Nat.mod_one]
          go_upto_region 30 with (fail)
          obtain ⟨ws, hws⟩ : ∃ W, w9.alloc (.cells (Array.replicate a.el.length (.int .i64 0)) 3) = W := ⟨_, rfl⟩
          obtain ⟨gs, hgs⟩ : ∃ g, w9.heap.size = g := ⟨_, rfl⟩
          have KS : Hid (Blk ws gs 3 ((seenL g a.el.length 0).map iv).toArray) := Lib.hid (by rw [← hws, ← hgs, seen_zero, List.toArray_replicate]; exact Blk.new _ _ _)
          have BS : Hid (Below w9.heap.size w9 ws) := Lib.hid (by rw [← hws]; exact albel _ _)
          have HGS : Hid (w9.heap.size = gs) := Lib.hid hgs
          rw [hws, hgs]
          have AS := Lib.hid (A9_.out.up BS.out)
          clear hws hgs hmk y0 y1 y2
          obtain ⟨y0, y1, y2⟩ := AS.out.cells
          go_wp2
          go_loopw [123] (fun i wr => ∃ k : Nat, k ≤ a.el.length ∧ i = .int .i64 (k : Int) ∧ Blk wr gs 3 ((seenL g a.el.length k).map iv).toArray ∧ Below w9.heap.size w9 wr) (fun i _ => a.el.length - (intOf i).toNat)
          case atStart => exact ⟨0, Nat.zero_le _, rfl, KS.out, BS.out⟩
          case round =>
            obtain ⟨k, hk, rfl, hks, hbs⟩ := hrel
            have BC := Lib.hid (bon BC9.out hbs)
            have HBS := Lib.hid hbs
            have HKS := Lib.hid hks
            by_cases hkn : k < a.el.length
            · have e1 : (k : Int) < (a.el.length : Int) := by omega
              have MR := Lib.hid (M9.out.up hbs)
              have hgl2 := HON.out.lt k hkn
              have hat := HAT.out wr BC.out k hkn
              have hsn := seen_new HON.out hkn
              have hsx := seen_next (N := a.el.length) (g := g) (k := k)
              obtain ⟨j, hj⟩ : ∃ j, g k = j := ⟨_, rfl⟩
              rw [hj] at hgl2 hat hsn hsx
              have HAK := Lib.hid hat
              have HSN := Lib.hid hsn
              have HSX := Lib.hid hsx
              have e2 : (j : Int) < (a.el.length : Int) := by omega
              have e3 : ¬ (j : Int) < 0 := by omega
              have e4 : ¬ (a.el.length : Int) ≤ (j : Int) := by omega
              obtain ⟨⟨c0, c1⟩, _⟩ := MR.out.cells
              have hen := HEN.out
              clear hat hsn hsx hj hks hbs
              go_upto_region 34 with ((with_reducible refine (HAK.out).mono ?_); rintro e wv ⟨rfl, bv⟩; have KV := Lib.hid (blk_up HKS.out bv); have BV := Lib.hid (HBS.out.trans (bv.mono HBS.out.size)); clear bv)
              have s0 : wv.cell? ⟨gs, j, none⟩ = some (.int .i64 0) := by
                rw [KV.out.cell j, List.getElem?_toArray]
                exact HSN.out
              have s1 : wv.frozen? ⟨gs, j, none⟩ = false := KV.out.frozen j
              go_wp2
              refine ⟨⟨k + 1, by omega, by go_num, ?_, ?_⟩, by simp [intOf] <;> omega⟩
              · rw [← HSX.out, ← List.setIfInBounds_toArray]
                exact KV.out.set_ j _
              · exact BV.out.setCell (by rw [HGS.out]; exact Nat.le_refl _) _
            · have hke : k = a.el.length := by omega
              have e1 : ¬ (k : Int) < (a.el.length : Int) := by omega
              have B10 : Hid (Below w4.heap.size w4 wr) := Lib.hid (B9.out.trans (hbs.mono B9.out.size))
              clear hks hbs HKS
              go_wp2
              exact ⟨⟨z + 1, by omega, by omega, by go_num, B10.out⟩, by simp [intOf] <;> omega⟩
        · have q1 : (E == 0) = false := beq_eq_false_iff_ne.2 hE
          clear hm hsp hbx hE
          go_wp2
          exact ⟨⟨z + 1, by omega, by omega, by go_num, BX.out⟩, by simp [intOf] <;> omega⟩
    · obtain rfl : z = 4 := by omega
      go_wp2
      go_ret
      exact ⟨rfl, HGL.out ▸ bon BW_4.out hbr⟩
end Go.Proofs.Ytenpohnccnlngaa.turnTells

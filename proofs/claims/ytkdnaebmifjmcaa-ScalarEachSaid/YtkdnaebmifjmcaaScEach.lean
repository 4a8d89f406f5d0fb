/-
  The walk of the statement ScalarEach.
-/
import Derived.Test.YtkdnaebmifjmcaaScEachP
import Derived.Test.YtkdnaebmifjmcaaScEachQ
import Derived.Test.YtkdnaebmifjmcaaScEachR
import Derived.Test.YtkdnaebmifjmcaaScEachS
namespace Go.Proofs.Ytkdnaebmifjmcaa.scalarEach
open Go.RowKit Go.Proofs.Ytkdnaebmifjmcaa.sc Go.Proofs.Ytkdnaebmifjmcaa.arr
set_option maxRecDepth 100000 in
set_option maxHeartbeats 8000000 in
theorem walk (f : Int) (a b : AV) (p q : AP) (w : World) (ea : AEl w a p) (eb : AEl w b q) :
    Calls Try.prog 7 #[.int .i64 f, .agg (arC a p), .agg (arC b q)] w fun e w' => e = .returned (.bool true) ∧ Below w.heap.size w w' := by
  by_cases hgo : greatA a = 0 ∧ greatA b = 0 ∧ okA a = true ∧ okA b = true ∧ togE a.sh b.sh = 0 ∧ kindsE f a.kind b.kind = 0
  · by_cases hec : twoME f a b = 0
    · by_cases hx : a.sh.length = 0
      · exact walk11 f a b p q w ea eb hgo hec hx
      · exact walk10 f a b p q w ea eb hgo hec hx
    · by_cases hx : a.sh.length = 0
      · exact walk01 f a b p q w ea eb hgo hec hx
      · exact walk00 f a b p q w ea eb hgo hec hx
  have HGO := Lib.hid hgo
  clear hgo
  have HA := Lib.hid alive12_any
  have M0 := Lib.hid (EaI.start ea eb)
  have HGA := Lib.hid (fun W => argreat_any a p W)
  have HGB := Lib.hid (fun W => argreat_any b q W)
  have HMT := Lib.hid (fun W (h : EaI w a b p q W) => scmaptwo_any f a b p q W h.ea h.eb)
  have HCA := Lib.hid (fun W (h : EaI w a b p q W) => archeck_any a p W h.ea)
  have HCB := Lib.hid (fun W (h : EaI w a b p q W) => archeck_any b q W h.eb)
  have HTG := Lib.hid (fun W (h : EaI w a b p q W) => sctog_any p.A0 q.A0 p.c0 q.c0 _ _ a.sh b.sh W rfl rfl h.ea.r0 h.eb.r0 h.ea.b0 h.eb.b0)
  have HMX := Lib.hid (fun W => scmixed_any f a.kind b.kind W)
  have HNO := Lib.hid (fun h => twoME_no (f := f) (a := a) (b := b) h)
  have HYES := Lib.hid (fun h1 h2 h3 h4 => twoME_yes (f := f) (a := a) (b := b) h1 h2 h3 h4)
  have HRN := Lib.hid (fun h => twoMA_no (f := f) (a := a) (b := b) h)
  have HRY := Lib.hid (fun h => twoMA_yes (f := f) (a := a) (b := b) h)
  have HTO := Lib.hid (fun ha hb h => tog_ok (a := a) (b := b) ha hb h)
  have hgm : ∀ args w, (callFunc (if a.kind = b.kind then 57 else 55) args).run Try.prog w = .ok (.enter (if a.kind = b.kind then 57 else 55) args) w := by
    split
    · exact enters_of Try.func57 (by kernel_rfl) rfl
    · exact enters_of Try.func55 (by kernel_rfl) rfl
  have HCALL := Lib.hid (fun (i : Nat) (hi : elOk a i ∧ elOk b i) (g : Nat) (W : World) (hb : Blk W g 3 #[.int .i64 f]) => mix_any f a.kind b.kind (elA a i) (elA b i) (elA_in ea.f1 hi.1) (elA_in eb.f1 hi.2) g W hb)
  have HWG : Hid (∀ i, mixW f a b i = mixV f a.kind b.kind (elA a i) (elA b i) ∧ mixG f a b i = mixE f a.kind b.kind (elA a i) (elA b i)) := Lib.hid (fun i => ⟨rfl, rfl⟩)
  have HGE : ∀ x : AV, greatA x = 0 ∨ greatA x = 1 := fun x => by unfold greatA; split <;> simp
  have HCE : ∀ x : AV, (okA x = true ∧ checkE x = 0) ∨ (okA x = false ∧ checkE x = 110) := fun x => by unfold checkE; cases okA x <;> simp
  clear ea eb
  obtain ⟨k, sh, el⟩ := a
  obtain ⟨k2, sh2, el2⟩ := b
  obtain ⟨A0, c0, A1, c1⟩ := p
  obtain ⟨B0, d0, B1, d1⟩ := q
  simp only at HNO HYES HRY HTO HTG HMX HCALL HWG hgm HGO
  unfold arC at HCA HCB HGA HGB HMT ⊢
  unfold MapA at HMT
  simp only at HCA HCB HGA HGB HMT ⊢
  have hcheck1 := HCE ⟨k, sh, el⟩
  have hcheck2 := HCE ⟨k2, sh2, el2⟩
  have hgr1 := HGE ⟨k, sh, el⟩
  have hgr2 := HGE ⟨k2, sh2, el2⟩
  clear HCE HGE
  generalize greatA ⟨k, sh, el⟩ = ga at *
  generalize greatA ⟨k2, sh2, el2⟩ = gb at *
  generalize checkE ⟨k, sh, el⟩ = ka at *
  generalize checkE ⟨k2, sh2, el2⟩ = kb at *
  obtain ⟨⟨x0, x1, x2⟩, ⟨y0, y1, y2⟩⟩ := M0.out.cells
  obtain ⟨W0, hW0⟩ : ∃ W0, (w.alloc (.cells (arC ⟨k, sh, el⟩ ⟨A0, c0, A1, c1⟩) 25)).alloc (.cells (arC ⟨k2, sh2, el2⟩ ⟨B0, d0, B1, d1⟩) 25) = W0 := ⟨_, rfl⟩
  rw [hW0] at M0 x0 x1 x2 y0 y1 y2
  unfold arC at hW0
  simp only at hW0
  rcases hgr1 with rfl | rfl
  case inr =>
    clear HGB HMT HCA HCB HTG HMX HNO HYES HRN HRY HTO HCALL HWG hgm hcheck1 hcheck2 hgr2
    go_enter Try.func7, Try.ntmps7
    go_wp2_with (first
      | (go_at_call 11; refine (HGA.out _).mono ?_; rintro e w2 ⟨rfl, b2⟩; have M2 := Lib.hid (M1.out.below b2); clear b2; clear x0 x1 x2 y0 y1 y2; obtain ⟨⟨x0, x1, x2⟩, ⟨y0, y1, y2⟩⟩ := M2.out.cells)
      | (go_at_call 21; refine (HA.out _).mono ?_; rintro e w1 ⟨rfl, b1⟩; have M1 := Lib.hid (M0.out.below b1); clear b1; clear x0 x1 x2 y0 y1 y2; obtain ⟨⟨x0, x1, x2⟩, ⟨y0, y1, y2⟩⟩ := M1.out.cells))
    go_ret
    exact ⟨rfl, M2.out.fb⟩
  rcases hgr2 with rfl | rfl
  case inr =>
    clear HMT HCA HCB HTG HMX HNO HYES HRN HRY HTO HCALL HWG hgm hcheck1 hcheck2
    go_enter Try.func7, Try.ntmps7
    go_wp2_with (first
      | (go_at_call 11; (have l0 := M2.out; clear l0); refine (HGB.out _).mono ?_; rintro e w3 ⟨rfl, b3⟩; have M3 := Lib.hid (M2.out.below b3); clear b3; clear x0 x1 x2 y0 y1 y2; obtain ⟨⟨x0, x1, x2⟩, ⟨y0, y1, y2⟩⟩ := M3.out.cells)
      | (go_at_call 11; refine (HGA.out _).mono ?_; rintro e w2 ⟨rfl, b2⟩; have M2 := Lib.hid (M1.out.below b2); clear b2; clear x0 x1 x2 y0 y1 y2; obtain ⟨⟨x0, x1, x2⟩, ⟨y0, y1, y2⟩⟩ := M2.out.cells)
      | (go_at_call 21; refine (HA.out _).mono ?_; rintro e w1 ⟨rfl, b1⟩; have M1 := Lib.hid (M0.out.below b1); clear b1; clear x0 x1 x2 y0 y1 y2; obtain ⟨⟨x0, x1, x2⟩, ⟨y0, y1, y2⟩⟩ := M1.out.cells))
    go_ret
    exact ⟨rfl, M3.out.fb⟩
  unfold TogA at HTG
  obtain ⟨TE, hTE⟩ : ∃ TE, togE sh sh2 = TE := ⟨_, rfl⟩
  obtain ⟨KE, hKE⟩ : ∃ KE, kindsE f k k2 = KE := ⟨_, rfl⟩
  obtain ⟨TL, hTL⟩ : ∃ TL, togL sh sh2 = TL := ⟨_, rfl⟩
  obtain ⟨n, hn⟩ : ∃ n, TL.length = n := ⟨_, rfl⟩
  rw [hTE] at HTG HNO HYES HTO HGO
  rw [hKE] at HMX HNO HYES HGO
  rw [hTL] at HTG HRY HTO
  rw [hn] at HTG
  generalize twoME f ⟨k, sh, el⟩ ⟨k2, sh2, el2⟩ = E at *
  generalize twoMA f ⟨k, sh, el⟩ ⟨k2, sh2, el2⟩ = R at *
  have HTLn := Lib.hid hn
  clear hTE hKE hTL hn
  have harms : True := trivial
  rcases hcheck1 with ⟨oa, rfl⟩ | ⟨oa, rfl⟩
  case inr =>
    have hE := HNO.out (.inl oa)
    obtain rfl := HRN.out hE
    have dE : (E != 0) = true := by simp [hE]
    clear HCB HNO HYES HRN HRY HTO HCALL HWG hgm hcheck2 oa hE harms
    go_enter Try.func7, Try.ntmps7
    go_wp2_with (first
      | (go_at_call 29; refine (HCA.out _ M6.out.e).mono ?_; rintro e w7 ⟨rfl, b7⟩; have M7 := Lib.hid (M6.out.below b7); have O7 := Lib.hid (arown_stay O6.out b7 (fun g hg => (arown_lt O6.out g hg).2)); have B7 := Lib.hid b7; clear b7 s2; clear x0 x1 x2 y0 y1 y2; obtain ⟨⟨x0, x1, x2⟩, ⟨y0, y1, y2⟩⟩ := M7.out.e.cells; have s2 := M7.out.c.cell 2)
      | (go_at_call 28; refine (HMX.out _).mono ?_; rintro e w6 ⟨v6, rfl, n6, m6, b6⟩; clear n6 m6; have M6 := Lib.hid (M5.out.below b6); have O6 := Lib.hid (arown_stay O5.out b6 (fun g hg => (arown_lt O5.out g hg).2)); clear b6; clear x0 x1 x2 y0 y1 y2; obtain ⟨⟨x0, x1, x2⟩, ⟨y0, y1, y2⟩⟩ := M6.out.e.cells; have s2 := M6.out.c.cell 2)
      | (go_at_call 17; refine (HTG.out _ M4.out.e).mono ?_; rintro e w5 ⟨T, tc, rfl, o5, b5⟩; have M5 := Lib.hid (M4.out.below b5); have O5 := Lib.hid o5; clear b5 o5; clear x0 x1 x2 y0 y1 y2; obtain ⟨⟨x0, x1, x2⟩, ⟨y0, y1, y2⟩⟩ := M5.out.e.cells)
      | (go_at_call 15; refine (HMT.out _ M3.out).mono ?_; rintro e w4 ⟨v4, rfl, ⟨sA0, sc0, sA1, sc1⟩, e4, o4, b4⟩; unfold arC at e4; simp only [List.length_nil] at e4; subst e4; have al := alloc_below w4 (.cells #[.int .i64 0, .slice sA0 0 sc0, .slice sA1 0 sc1] 25); have c4 := Blk.new w4 25 #[.int .i64 0, .slice sA0 0 sc0, .slice sA1 0 sc1]; obtain ⟨W4, hW4⟩ : ∃ W4, w4.alloc (.cells #[.int .i64 0, .slice sA0 0 sc0, .slice sA1 0 sc1] 25) = W4 := ⟨_, rfl⟩; rw [hW4] at al c4; have M4 : Hid (EcI w ⟨k, sh, el⟩ ⟨k2, sh2, el2⟩ ⟨0, [], []⟩ ⟨A0, c0, A1, c1⟩ ⟨B0, d0, B1, d1⟩ ⟨sA0, sc0, sA1, sc1⟩ #[.int .i64 0, .slice sA0 0 sc0, .slice sA1 0 sc1] w3.heap.size w4.heap.size W4) := Lib.hid ⟨(M3.out.below b4).below al, c4, o4.stay al (Nat.le_refl _)⟩; clear b4 al o4 c4; clear x0 x1 x2 y0 y1 y2; obtain ⟨⟨x0, x1, x2⟩, ⟨y0, y1, y2⟩⟩ := M4.out.e.cells)
      | (go_at_call 11; (have l0 := M2.out; clear l0); refine (HGB.out _).mono ?_; rintro e w3 ⟨rfl, b3⟩; have M3 := Lib.hid (M2.out.below b3); clear b3; clear x0 x1 x2 y0 y1 y2; obtain ⟨⟨x0, x1, x2⟩, ⟨y0, y1, y2⟩⟩ := M3.out.cells)
      | (go_at_call 11; refine (HGA.out _).mono ?_; rintro e w2 ⟨rfl, b2⟩; have M2 := Lib.hid (M1.out.below b2); clear b2; clear x0 x1 x2 y0 y1 y2; obtain ⟨⟨x0, x1, x2⟩, ⟨y0, y1, y2⟩⟩ := M2.out.cells)
      | (go_at_call 21; refine (HA.out _).mono ?_; rintro e w1 ⟨rfl, b1⟩; have M1 := Lib.hid (M0.out.below b1); clear b1; clear x0 x1 x2 y0 y1 y2; obtain ⟨⟨x0, x1, x2⟩, ⟨y0, y1, y2⟩⟩ := M1.out.cells))
    go_ret
    exact ⟨by simp, M7.out.e.fb⟩
  rcases hcheck2 with ⟨ob, rfl⟩ | ⟨ob, rfl⟩
  case inr =>
    have hE := HNO.out (.inr (.inl ob))
    obtain rfl := HRN.out hE
    have dE : (E != 0) = true := by simp [hE]
    clear HNO HYES HRN HRY HTO HCALL HWG hgm oa ob hE harms
    go_enter Try.func7, Try.ntmps7
    go_wp2_with (first
      | (go_at_call 29; (have l0 := M7.out; clear l0); refine (HCB.out _ M7.out.e).mono ?_; rintro e w8 ⟨rfl, b8⟩; have M8 := Lib.hid (M7.out.below b8); have O8 := Lib.hid (arown_stay O7.out b8 (fun g hg => (arown_lt O7.out g hg).2)); have B8 := Lib.hid b8; clear b8 s2; clear x0 x1 x2 y0 y1 y2; obtain ⟨⟨x0, x1, x2⟩, ⟨y0, y1, y2⟩⟩ := M8.out.e.cells; have s2 := M8.out.c.cell 2)
      | (go_at_call 29; refine (HCA.out _ M6.out.e).mono ?_; rintro e w7 ⟨rfl, b7⟩; have M7 := Lib.hid (M6.out.below b7); have O7 := Lib.hid (arown_stay O6.out b7 (fun g hg => (arown_lt O6.out g hg).2)); have B7 := Lib.hid b7; clear b7 s2; clear x0 x1 x2 y0 y1 y2; obtain ⟨⟨x0, x1, x2⟩, ⟨y0, y1, y2⟩⟩ := M7.out.e.cells; have s2 := M7.out.c.cell 2)
      | (go_at_call 28; refine (HMX.out _).mono ?_; rintro e w6 ⟨v6, rfl, n6, m6, b6⟩; clear n6 m6; have M6 := Lib.hid (M5.out.below b6); have O6 := Lib.hid (arown_stay O5.out b6 (fun g hg => (arown_lt O5.out g hg).2)); clear b6; clear x0 x1 x2 y0 y1 y2; obtain ⟨⟨x0, x1, x2⟩, ⟨y0, y1, y2⟩⟩ := M6.out.e.cells; have s2 := M6.out.c.cell 2)
      | (go_at_call 17; refine (HTG.out _ M4.out.e).mono ?_; rintro e w5 ⟨T, tc, rfl, o5, b5⟩; have M5 := Lib.hid (M4.out.below b5); have O5 := Lib.hid o5; clear b5 o5; clear x0 x1 x2 y0 y1 y2; obtain ⟨⟨x0, x1, x2⟩, ⟨y0, y1, y2⟩⟩ := M5.out.e.cells)
      | (go_at_call 15; refine (HMT.out _ M3.out).mono ?_; rintro e w4 ⟨v4, rfl, ⟨sA0, sc0, sA1, sc1⟩, e4, o4, b4⟩; unfold arC at e4; simp only [List.length_nil] at e4; subst e4; have al := alloc_below w4 (.cells #[.int .i64 0, .slice sA0 0 sc0, .slice sA1 0 sc1] 25); have c4 := Blk.new w4 25 #[.int .i64 0, .slice sA0 0 sc0, .slice sA1 0 sc1]; obtain ⟨W4, hW4⟩ : ∃ W4, w4.alloc (.cells #[.int .i64 0, .slice sA0 0 sc0, .slice sA1 0 sc1] 25) = W4 := ⟨_, rfl⟩; rw [hW4] at al c4; have M4 : Hid (EcI w ⟨k, sh, el⟩ ⟨k2, sh2, el2⟩ ⟨0, [], []⟩ ⟨A0, c0, A1, c1⟩ ⟨B0, d0, B1, d1⟩ ⟨sA0, sc0, sA1, sc1⟩ #[.int .i64 0, .slice sA0 0 sc0, .slice sA1 0 sc1] w3.heap.size w4.heap.size W4) := Lib.hid ⟨(M3.out.below b4).below al, c4, o4.stay al (Nat.le_refl _)⟩; clear b4 al o4 c4; clear x0 x1 x2 y0 y1 y2; obtain ⟨⟨x0, x1, x2⟩, ⟨y0, y1, y2⟩⟩ := M4.out.e.cells)
      | (go_at_call 11; (have l0 := M2.out; clear l0); refine (HGB.out _).mono ?_; rintro e w3 ⟨rfl, b3⟩; have M3 := Lib.hid (M2.out.below b3); clear b3; clear x0 x1 x2 y0 y1 y2; obtain ⟨⟨x0, x1, x2⟩, ⟨y0, y1, y2⟩⟩ := M3.out.cells)
      | (go_at_call 11; refine (HGA.out _).mono ?_; rintro e w2 ⟨rfl, b2⟩; have M2 := Lib.hid (M1.out.below b2); clear b2; clear x0 x1 x2 y0 y1 y2; obtain ⟨⟨x0, x1, x2⟩, ⟨y0, y1, y2⟩⟩ := M2.out.cells)
      | (go_at_call 21; refine (HA.out _).mono ?_; rintro e w1 ⟨rfl, b1⟩; have M1 := Lib.hid (M0.out.below b1); clear b1; clear x0 x1 x2 y0 y1 y2; obtain ⟨⟨x0, x1, x2⟩, ⟨y0, y1, y2⟩⟩ := M1.out.cells))
    go_ret
    exact ⟨by simp, M8.out.e.fb⟩
  by_cases hT : TE = 0
  case neg =>
    have hE := HNO.out (.inr (.inr (.inl hT)))
    obtain rfl := HRN.out hE
    have dE : (E != 0) = true := by simp [hE]
    have dT : (TE != 0) = true := by simp [hT]
    clear HNO HYES HRN HRY HTO HCALL HWG hgm oa ob hE hT harms
    go_enter Try.func7, Try.ntmps7
    go_wp2_with (first
      | (go_at_call 29; (have l0 := M7.out; clear l0); refine (HCB.out _ M7.out.e).mono ?_; rintro e w8 ⟨rfl, b8⟩; have M8 := Lib.hid (M7.out.below b8); have O8 := Lib.hid (arown_stay O7.out b8 (fun g hg => (arown_lt O7.out g hg).2)); have B8 := Lib.hid b8; clear b8 s2; clear x0 x1 x2 y0 y1 y2; obtain ⟨⟨x0, x1, x2⟩, ⟨y0, y1, y2⟩⟩ := M8.out.e.cells; have s2 := M8.out.c.cell 2)
      | (go_at_call 29; refine (HCA.out _ M6.out.e).mono ?_; rintro e w7 ⟨rfl, b7⟩; have M7 := Lib.hid (M6.out.below b7); have O7 := Lib.hid (arown_stay O6.out b7 (fun g hg => (arown_lt O6.out g hg).2)); have B7 := Lib.hid b7; clear b7 s2; clear x0 x1 x2 y0 y1 y2; obtain ⟨⟨x0, x1, x2⟩, ⟨y0, y1, y2⟩⟩ := M7.out.e.cells; have s2 := M7.out.c.cell 2)
      | (go_at_call 28; refine (HMX.out _).mono ?_; rintro e w6 ⟨v6, rfl, n6, m6, b6⟩; clear n6 m6; have M6 := Lib.hid (M5.out.below b6); have O6 := Lib.hid (arown_stay O5.out b6 (fun g hg => (arown_lt O5.out g hg).2)); clear b6; clear x0 x1 x2 y0 y1 y2; obtain ⟨⟨x0, x1, x2⟩, ⟨y0, y1, y2⟩⟩ := M6.out.e.cells; have s2 := M6.out.c.cell 2)
      | (go_at_call 17; refine (HTG.out _ M4.out.e).mono ?_; rintro e w5 ⟨T, tc, rfl, o5, b5⟩; have M5 := Lib.hid (M4.out.below b5); have O5 := Lib.hid o5; clear b5 o5; clear x0 x1 x2 y0 y1 y2; obtain ⟨⟨x0, x1, x2⟩, ⟨y0, y1, y2⟩⟩ := M5.out.e.cells)
      | (go_at_call 15; refine (HMT.out _ M3.out).mono ?_; rintro e w4 ⟨v4, rfl, ⟨sA0, sc0, sA1, sc1⟩, e4, o4, b4⟩; unfold arC at e4; simp only [List.length_nil] at e4; subst e4; have al := alloc_below w4 (.cells #[.int .i64 0, .slice sA0 0 sc0, .slice sA1 0 sc1] 25); have c4 := Blk.new w4 25 #[.int .i64 0, .slice sA0 0 sc0, .slice sA1 0 sc1]; obtain ⟨W4, hW4⟩ : ∃ W4, w4.alloc (.cells #[.int .i64 0, .slice sA0 0 sc0, .slice sA1 0 sc1] 25) = W4 := ⟨_, rfl⟩; rw [hW4] at al c4; have M4 : Hid (EcI w ⟨k, sh, el⟩ ⟨k2, sh2, el2⟩ ⟨0, [], []⟩ ⟨A0, c0, A1, c1⟩ ⟨B0, d0, B1, d1⟩ ⟨sA0, sc0, sA1, sc1⟩ #[.int .i64 0, .slice sA0 0 sc0, .slice sA1 0 sc1] w3.heap.size w4.heap.size W4) := Lib.hid ⟨(M3.out.below b4).below al, c4, o4.stay al (Nat.le_refl _)⟩; clear b4 al o4 c4; clear x0 x1 x2 y0 y1 y2; obtain ⟨⟨x0, x1, x2⟩, ⟨y0, y1, y2⟩⟩ := M4.out.e.cells)
      | (go_at_call 11; (have l0 := M2.out; clear l0); refine (HGB.out _).mono ?_; rintro e w3 ⟨rfl, b3⟩; have M3 := Lib.hid (M2.out.below b3); clear b3; clear x0 x1 x2 y0 y1 y2; obtain ⟨⟨x0, x1, x2⟩, ⟨y0, y1, y2⟩⟩ := M3.out.cells)
      | (go_at_call 11; refine (HGA.out _).mono ?_; rintro e w2 ⟨rfl, b2⟩; have M2 := Lib.hid (M1.out.below b2); clear b2; clear x0 x1 x2 y0 y1 y2; obtain ⟨⟨x0, x1, x2⟩, ⟨y0, y1, y2⟩⟩ := M2.out.cells)
      | (go_at_call 21; refine (HA.out _).mono ?_; rintro e w1 ⟨rfl, b1⟩; have M1 := Lib.hid (M0.out.below b1); clear b1; clear x0 x1 x2 y0 y1 y2; obtain ⟨⟨x0, x1, x2⟩, ⟨y0, y1, y2⟩⟩ := M1.out.cells))
    go_ret
    exact ⟨by simp, M8.out.e.fb⟩
  subst hT
  by_cases hK : KE = 0
  case neg =>
    have hE := HNO.out (.inr (.inr (.inr hK)))
    obtain rfl := HRN.out hE
    have dE : (E != 0) = true := by simp [hE]
    have dT : (KE != 0) = true := by simp [hK]
    have HKN := Lib.hid hK
    clear HNO HYES HRN HRY HTO HCALL HWG hgm oa ob hE hK harms
    go_enter Try.func7, Try.ntmps7
    go_wp2_with (first
      | (go_at_call 29; (have l0 := M7.out; clear l0); refine (HCB.out _ M7.out.e).mono ?_; rintro e w8 ⟨rfl, b8⟩; have M8 := Lib.hid (M7.out.below b8); have O8 := Lib.hid (arown_stay O7.out b8 (fun g hg => (arown_lt O7.out g hg).2)); have B8 := Lib.hid b8; clear b8 s2; clear x0 x1 x2 y0 y1 y2; obtain ⟨⟨x0, x1, x2⟩, ⟨y0, y1, y2⟩⟩ := M8.out.e.cells; have s2 := M8.out.c.cell 2)
      | (go_at_call 29; refine (HCA.out _ M6.out.e).mono ?_; rintro e w7 ⟨rfl, b7⟩; have M7 := Lib.hid (M6.out.below b7); have O7 := Lib.hid (arown_stay O6.out b7 (fun g hg => (arown_lt O6.out g hg).2)); have B7 := Lib.hid b7; clear b7 s2; clear x0 x1 x2 y0 y1 y2; obtain ⟨⟨x0, x1, x2⟩, ⟨y0, y1, y2⟩⟩ := M7.out.e.cells; have s2 := M7.out.c.cell 2)
      | (go_at_call 28; refine (HMX.out _).mono ?_; rintro e w6 ⟨v6, rfl, n6, m6, b6⟩; obtain rfl := n6 HKN.out; clear n6 m6; have M6 := Lib.hid (M5.out.below b6); have O6 := Lib.hid (arown_stay O5.out b6 (fun g hg => (arown_lt O5.out g hg).2)); clear b6; clear x0 x1 x2 y0 y1 y2; obtain ⟨⟨x0, x1, x2⟩, ⟨y0, y1, y2⟩⟩ := M6.out.e.cells; have s2 := M6.out.c.cell 2)
      | (go_at_call 17; refine (HTG.out _ M4.out.e).mono ?_; rintro e w5 ⟨T, tc, rfl, o5, b5⟩; have M5 := Lib.hid (M4.out.below b5); have O5 := Lib.hid o5; clear b5 o5; clear x0 x1 x2 y0 y1 y2; obtain ⟨⟨x0, x1, x2⟩, ⟨y0, y1, y2⟩⟩ := M5.out.e.cells)
      | (go_at_call 15; refine (HMT.out _ M3.out).mono ?_; rintro e w4 ⟨v4, rfl, ⟨sA0, sc0, sA1, sc1⟩, e4, o4, b4⟩; unfold arC at e4; simp only [List.length_nil] at e4; subst e4; have al := alloc_below w4 (.cells #[.int .i64 0, .slice sA0 0 sc0, .slice sA1 0 sc1] 25); have c4 := Blk.new w4 25 #[.int .i64 0, .slice sA0 0 sc0, .slice sA1 0 sc1]; obtain ⟨W4, hW4⟩ : ∃ W4, w4.alloc (.cells #[.int .i64 0, .slice sA0 0 sc0, .slice sA1 0 sc1] 25) = W4 := ⟨_, rfl⟩; rw [hW4] at al c4; have M4 : Hid (EcI w ⟨k, sh, el⟩ ⟨k2, sh2, el2⟩ ⟨0, [], []⟩ ⟨A0, c0, A1, c1⟩ ⟨B0, d0, B1, d1⟩ ⟨sA0, sc0, sA1, sc1⟩ #[.int .i64 0, .slice sA0 0 sc0, .slice sA1 0 sc1] w3.heap.size w4.heap.size W4) := Lib.hid ⟨(M3.out.below b4).below al, c4, o4.stay al (Nat.le_refl _)⟩; clear b4 al o4 c4; clear x0 x1 x2 y0 y1 y2; obtain ⟨⟨x0, x1, x2⟩, ⟨y0, y1, y2⟩⟩ := M4.out.e.cells)
      | (go_at_call 11; (have l0 := M2.out; clear l0); refine (HGB.out _).mono ?_; rintro e w3 ⟨rfl, b3⟩; have M3 := Lib.hid (M2.out.below b3); clear b3; clear x0 x1 x2 y0 y1 y2; obtain ⟨⟨x0, x1, x2⟩, ⟨y0, y1, y2⟩⟩ := M3.out.cells)
      | (go_at_call 11; refine (HGA.out _).mono ?_; rintro e w2 ⟨rfl, b2⟩; have M2 := Lib.hid (M1.out.below b2); clear b2; clear x0 x1 x2 y0 y1 y2; obtain ⟨⟨x0, x1, x2⟩, ⟨y0, y1, y2⟩⟩ := M2.out.cells)
      | (go_at_call 21; refine (HA.out _).mono ?_; rintro e w1 ⟨rfl, b1⟩; have M1 := Lib.hid (M0.out.below b1); clear b1; clear x0 x1 x2 y0 y1 y2; obtain ⟨⟨x0, x1, x2⟩, ⟨y0, y1, y2⟩⟩ := M1.out.cells))
    go_ret
    exact ⟨by simp, M8.out.e.fb⟩
  subst hK
  exact absurd ⟨rfl, rfl, oa, ob, rfl, rfl⟩ HGO.out
theorem call {W : World} (f : Int) (_ : -9223372036854775808 ≤ f) (_ : f ≤ 9223372036854775807) (a : AV) (p : AP) (ea : AEl W a p) (b : AV) (q : AP) (eb : AEl W b q) :
    Calls Try.prog 7 #[.int .i64 f, .agg (arC a p), .agg (arC b q)] W fun e w' => e = .returned (.bool true) ∧ Below W.heap.size W w' := walk f a b p q W ea eb
end Go.Proofs.Ytkdnaebmifjmcaa.scalarEach

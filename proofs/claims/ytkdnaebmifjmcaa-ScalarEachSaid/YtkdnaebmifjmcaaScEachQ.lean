/-
  The walk of ScalarEach where both arrays go together: an element fails, the first array has a shape.
-/
import Derived.Test.YtkdnaebmifjmcaaScEachB
namespace Go.Proofs.Ytkdnaebmifjmcaa.scalarEach
open Go.RowKit Go.Proofs.Ytkdnaebmifjmcaa.sc Go.Proofs.Ytkdnaebmifjmcaa.arr
set_option maxRecDepth 100000 in
set_option maxHeartbeats 8000000 in
theorem walk00 (f : Int) (a b : AV) (p q : AP) (w : World) (ea : AEl w a p) (eb : AEl w b q) (hgo : greatA a = 0 ∧ greatA b = 0 ∧ okA a = true ∧ okA b = true ∧ togE a.sh b.sh = 0 ∧ kindsE f a.kind b.kind = 0) (hec : twoME f a b ≠ 0) (hx : ¬ a.sh.length = 0) :
    Calls Try.prog 7 #[.int .i64 f, .agg (arC a p), .agg (arC b q)] w fun e w' => e = .returned (.bool true) ∧ Below w.heap.size w w' := by
  have HGO := Lib.hid hgo
  have HEC := Lib.hid hec
  have HX := Lib.hid hx
  clear hgo hec hx
  have HA := Lib.hid alive12_any
  have M0 := Lib.hid (EaI.start ea eb)
  have HGA := Lib.hid (fun W => argreat_any a p W)
  have HGB := Lib.hid (fun W => argreat_any b q W)
  have HMT := Lib.hid (fun W (h : EaI w a b p q W) => scmaptwo_any f a b p q W h.ea h.eb)
  have HCA := Lib.hid (fun W (h : EaI w a b p q W) => archeck_any a p W h.ea)
  have HCB := Lib.hid (fun W (h : EaI w a b p q W) => archeck_any b q W h.eb)
  have HTG := Lib.hid (fun W (h : EaI w a b p q W) => sctog_any p.A0 q.A0 p.c0 q.c0 _ _ a.sh b.sh W rfl rfl h.ea.r0 h.eb.r0 h.ea.b0 h.eb.b0)
  have HMX := Lib.hid (fun W => scmixed_any f a.kind b.kind W)
  have HNO := Lib.hid (fun h => twoME_no (f := f) (a := a) (b := b) h)
  have HYES := Lib.hid (fun h1 h2 h3 h4 => twoME_yes (f := f) (a := a) (b := b) h1 h2 h3 h4)
  have HRN := Lib.hid (fun h => twoMA_no (f := f) (a := a) (b := b) h)
  have HRY := Lib.hid (fun h => twoMA_yes (f := f) (a := a) (b := b) h)
  have HTO := Lib.hid (fun ha hb h => tog_ok (a := a) (b := b) ha hb h)
  have hgm : ∀ args w, (callFunc (if a.kind = b.kind then 57 else 55) args).run Try.prog w = .ok (.enter (if a.kind = b.kind then 57 else 55) args) w := by
    split
    · exact enters_of Try.func57 (by kernel_rfl) rfl
    · exact enters_of Try.func55 (by kernel_rfl) rfl
  have HCALL := Lib.hid (fun (i : Nat) (hi : elOk a i ∧ elOk b i) (g : Nat) (W : World) (hb : Blk W g 3 #[.int .i64 f]) => mix_any f a.kind b.kind (elA a i) (elA b i) (elA_in ea.f1 hi.1) (elA_in eb.f1 hi.2) g W hb)
  have HWG : Hid (∀ i, mixW f a b i = mixV f a.kind b.kind (elA a i) (elA b i) ∧ mixG f a b i = mixE f a.kind b.kind (elA a i) (elA b i)) := Lib.hid (fun i => ⟨rfl, rfl⟩)
  have HGE : ∀ x : AV, greatA x = 0 ∨ greatA x = 1 := fun x => by unfold greatA; split <;> simp
  have HCE : ∀ x : AV, (okA x = true ∧ checkE x = 0) ∨ (okA x = false ∧ checkE x = 110) := fun x => by unfold checkE; cases okA x <;> simp
  clear ea eb
  obtain ⟨k, sh, el⟩ := a
  obtain ⟨k2, sh2, el2⟩ := b
  obtain ⟨A0, c0, A1, c1⟩ := p
  obtain ⟨B0, d0, B1, d1⟩ := q
  simp only at HNO HYES HRY HTO HTG HMX HCALL HWG hgm HGO HX
  unfold arC at HCA HCB HGA HGB HMT ⊢
  unfold MapA at HMT
  simp only at HCA HCB HGA HGB HMT ⊢
  have hcheck1 := HCE ⟨k, sh, el⟩
  have hcheck2 := HCE ⟨k2, sh2, el2⟩
  have hgr1 := HGE ⟨k, sh, el⟩
  have hgr2 := HGE ⟨k2, sh2, el2⟩
  clear HCE HGE
  generalize greatA ⟨k, sh, el⟩ = ga at *
  generalize greatA ⟨k2, sh2, el2⟩ = gb at *
  generalize checkE ⟨k, sh, el⟩ = ka at *
  generalize checkE ⟨k2, sh2, el2⟩ = kb at *
  obtain ⟨⟨x0, x1, x2⟩, ⟨y0, y1, y2⟩⟩ := M0.out.cells
  obtain ⟨W0, hW0⟩ : ∃ W0, (w.alloc (.cells (arC ⟨k, sh, el⟩ ⟨A0, c0, A1, c1⟩) 25)).alloc (.cells (arC ⟨k2, sh2, el2⟩ ⟨B0, d0, B1, d1⟩) 25) = W0 := ⟨_, rfl⟩
  rw [hW0] at M0 x0 x1 x2 y0 y1 y2
  unfold arC at hW0
  simp only at hW0
  rcases hgr1 with rfl | rfl
  case inr =>
    cases HGO.out.1
  rcases hgr2 with rfl | rfl
  case inr =>
    cases HGO.out.2.1
  unfold TogA at HTG
  obtain ⟨TE, hTE⟩ : ∃ TE, togE sh sh2 = TE := ⟨_, rfl⟩
  obtain ⟨KE, hKE⟩ : ∃ KE, kindsE f k k2 = KE := ⟨_, rfl⟩
  obtain ⟨TL, hTL⟩ : ∃ TL, togL sh sh2 = TL := ⟨_, rfl⟩
  obtain ⟨n, hn⟩ : ∃ n, TL.length = n := ⟨_, rfl⟩
  rw [hTE] at HTG HNO HYES HTO HGO
  rw [hKE] at HMX HNO HYES HGO
  rw [hTL] at HTG HRY HTO
  rw [hn] at HTG
  generalize twoME f ⟨k, sh, el⟩ ⟨k2, sh2, el2⟩ = E at *
  generalize twoMA f ⟨k, sh, el⟩ ⟨k2, sh2, el2⟩ = R at *
  have HTLn := Lib.hid hn
  clear hTE hKE hTL hn
  have harms : True := trivial
  rcases hcheck1 with ⟨oa, rfl⟩ | ⟨oa, rfl⟩
  case inr =>
    exact Bool.noConfusion (oa.symm.trans HGO.out.2.2.1)
  rcases hcheck2 with ⟨ob, rfl⟩ | ⟨ob, rfl⟩
  case inr =>
    exact Bool.noConfusion (ob.symm.trans HGO.out.2.2.2.1)
  by_cases hT : TE = 0
  case neg =>
    exact absurd HGO.out.2.2.2.2.1 hT
  subst hT
  by_cases hK : KE = 0
  case neg =>
    exact absurd HGO.out.2.2.2.2.2 hK
  subst hK
  obtain ⟨N, hN⟩ : ∃ N, twoN ⟨k, sh, el⟩ ⟨k2, sh2, el2⟩ = N := ⟨_, rfl⟩
  have hto := HTO.out oa ob rfl
  have hyes := HYES.out oa ob rfl rfl
  obtain ⟨G, hG⟩ : ∃ G, mixG f ⟨k, sh, el⟩ ⟨k2, sh2, el2⟩ = G := ⟨_, rfl⟩
  obtain ⟨V, hV⟩ : ∃ V, mixW f ⟨k, sh, el⟩ ⟨k2, sh2, el2⟩ = V := ⟨_, rfl⟩
  rw [hN] at hto HRY hyes
  rw [hG] at hyes HWG
  rw [hV] at HRY HWG
  unfold MixAt at HMX
  generalize (if k = k2 then 57 else 55) = gm at *
  obtain ⟨hTok, hTN, hTe⟩ := hto
  have HEL := Lib.hid hTe
  have HTOK := Lib.hid hTok
  have HTN := Lib.hid hTN
  have HEE := Lib.hid hyes
  have hN4 : N ≤ 4096 := by have := (okShape_iff.1 hTok).2.2; omega
  have hpn := fun (g : Nat) (W : World) => (run_fn Try.underlying57 (.func gm) #[] #[.pointer (some ⟨g, 0, none⟩)] W).2.2.1
  have HC : Hid (∀ (i : Nat) (g : Nat) (W : World), i < N → Blk W g 3 #[.int .i64 f] → Calls Try.prog gm #[.int .i64 (elA ⟨k, sh, el⟩ i), .int .i64 (elA ⟨k2, sh2, el2⟩ i), .pointer (some ⟨g, 0, none⟩)] W fun e w' => e = .returned (.tuple #[.int .i64 (V i), .int .i64 (G i)]) ∧ Below W.heap.size W w') := Lib.hid (fun i g W hi hb => by
    have h := HCALL.out i (hTe i hi) g W hb
    rw [← (HWG.out i).1, ← (HWG.out i).2] at h
    exact h)
  clear HNO HYES HTO HCALL HWG oa ob hN hG hV hTok hTN hTe hyes harms
  have hE := HEC.out
  obtain rfl := HRN.out hE
  have dE : (E != 0) = true := by simp [hE]
  have dE2 : (E == 0) = false := by simp [hE]
  have HEN := Lib.hid hE
  clear HRN HRY hE
  go_enter Try.func7, Try.ntmps7
  go_wp2_with (first
    | (go_at_call 30; refine (arcount_any T tc n TL w8 HTLn.out (Reads.of_own O8.out) (by have := (okShape_iff.1 HTOK.out).1; have := HTLn.out; omega)).mono ?_; rintro e _ ⟨rfl, rfl⟩; rw [(cnt_ok HTOK.out).1, (cnt_ok HTOK.out).2, HTN.out])
    | (go_at_call 29; (have l0 := M7.out; clear l0); refine (HCB.out _ M7.out.e).mono ?_; rintro e w8 ⟨rfl, b8⟩; have M8 := Lib.hid (M7.out.below b8); have O8 := Lib.hid (arown_stay O7.out b8 (fun g hg => (arown_lt O7.out g hg).2)); have B8 := Lib.hid b8; clear b8 s2; clear x0 x1 x2 y0 y1 y2; obtain ⟨⟨x0, x1, x2⟩, ⟨y0, y1, y2⟩⟩ := M8.out.e.cells; have s2 := M8.out.c.cell 2)
    | (go_at_call 29; refine (HCA.out _ M6.out.e).mono ?_; rintro e w7 ⟨rfl, b7⟩; have M7 := Lib.hid (M6.out.below b7); have O7 := Lib.hid (arown_stay O6.out b7 (fun g hg => (arown_lt O6.out g hg).2)); have B7 := Lib.hid b7; clear b7 s2; clear x0 x1 x2 y0 y1 y2; obtain ⟨⟨x0, x1, x2⟩, ⟨y0, y1, y2⟩⟩ := M7.out.e.cells; have s2 := M7.out.c.cell 2)
    | (go_at_call 28; refine (HMX.out _).mono ?_; rintro e w6 ⟨v6, rfl, n6, m6, b6⟩; obtain ⟨e6, h6⟩ := m6 trivial; subst e6; have P6 := Lib.hid h6; clear n6 m6 h6; have M6 := Lib.hid (M5.out.below b6); have O6 := Lib.hid (arown_stay O5.out b6 (fun g hg => (arown_lt O5.out g hg).2)); clear b6; clear x0 x1 x2 y0 y1 y2; obtain ⟨⟨x0, x1, x2⟩, ⟨y0, y1, y2⟩⟩ := M6.out.e.cells; have s2 := M6.out.c.cell 2)
    | (go_at_call 17; refine (HTG.out _ M4.out.e).mono ?_; rintro e w5 ⟨T, tc, rfl, o5, b5⟩; have M5 := Lib.hid (M4.out.below b5); have O5 := Lib.hid o5; clear b5 o5; clear x0 x1 x2 y0 y1 y2; obtain ⟨⟨x0, x1, x2⟩, ⟨y0, y1, y2⟩⟩ := M5.out.e.cells)
    | (go_at_call 15; refine (HMT.out _ M3.out).mono ?_; rintro e w4 ⟨v4, rfl, ⟨sA0, sc0, sA1, sc1⟩, e4, o4, b4⟩; unfold arC at e4; simp only [List.length_nil] at e4; subst e4; have al := alloc_below w4 (.cells #[.int .i64 0, .slice sA0 0 sc0, .slice sA1 0 sc1] 25); have c4 := Blk.new w4 25 #[.int .i64 0, .slice sA0 0 sc0, .slice sA1 0 sc1]; obtain ⟨W4, hW4⟩ : ∃ W4, w4.alloc (.cells #[.int .i64 0, .slice sA0 0 sc0, .slice sA1 0 sc1] 25) = W4 := ⟨_, rfl⟩; rw [hW4] at al c4; have M4 : Hid (EcI w ⟨k, sh, el⟩ ⟨k2, sh2, el2⟩ ⟨0, [], []⟩ ⟨A0, c0, A1, c1⟩ ⟨B0, d0, B1, d1⟩ ⟨sA0, sc0, sA1, sc1⟩ #[.int .i64 0, .slice sA0 0 sc0, .slice sA1 0 sc1] w3.heap.size w4.heap.size W4) := Lib.hid ⟨(M3.out.below b4).below al, c4, o4.stay al (Nat.le_refl _)⟩; clear b4 al o4 c4; clear x0 x1 x2 y0 y1 y2; obtain ⟨⟨x0, x1, x2⟩, ⟨y0, y1, y2⟩⟩ := M4.out.e.cells)
    | (go_at_call 11; (have l0 := M2.out; clear l0); refine (HGB.out _).mono ?_; rintro e w3 ⟨rfl, b3⟩; have M3 := Lib.hid (M2.out.below b3); clear b3; clear x0 x1 x2 y0 y1 y2; obtain ⟨⟨x0, x1, x2⟩, ⟨y0, y1, y2⟩⟩ := M3.out.cells)
    | (go_at_call 11; refine (HGA.out _).mono ?_; rintro e w2 ⟨rfl, b2⟩; have M2 := Lib.hid (M1.out.below b2); clear b2; clear x0 x1 x2 y0 y1 y2; obtain ⟨⟨x0, x1, x2⟩, ⟨y0, y1, y2⟩⟩ := M2.out.cells)
    | (go_at_call 21; refine (HA.out _).mono ?_; rintro e w1 ⟨rfl, b1⟩; have M1 := Lib.hid (M0.out.below b1); clear b1; clear x0 x1 x2 y0 y1 y2; obtain ⟨⟨x0, x1, x2⟩, ⟨y0, y1, y2⟩⟩ := M1.out.cells))
  have P8 := Lib.hid ((P6.out.below B7.out P6.out.lt).below B8.out (P6.out.below B7.out P6.out.lt).lt)
  clear x0 x1 x2 y0 y1 y2 s2
  go_loopw [16] (fun i wr => ∃ j : Nat, j ≤ N ∧ i = .int .i64 (j : Int) ∧ EcI w ⟨k, sh, el⟩ ⟨k2, sh2, el2⟩ ⟨0, [], []⟩ ⟨A0, c0, A1, c1⟩ ⟨B0, d0, B1, d1⟩ ⟨sA0, sc0, sA1, sc1⟩ #[.int .i64 0, .slice sA0 0 sc0, .slice sA1 0 sc1] w3.heap.size w4.heap.size wr ∧ apE G j = 0 ∧ Blk wr w5.heap.size 3 #[.int .i64 f] ∧ wr.ownsRow W4.heap.size 3 1 (.slice T n tc) n (TL.map iv)) (fun i _ => N - (intOf i).toNat)
  case atStart => exact ⟨0, Nat.zero_le _, rfl, M8.out, rfl, P8.out, O8.out⟩
  case round =>
    obtain ⟨j, hj, rfl, hM, hA, hP, hO⟩ := hrel
    obtain ⟨⟨x0, x1, x2⟩, ⟨y0, y1, y2⟩⟩ := hM.e.cells
    have s0 := hM.c.cell 0
    have s1 := hM.c.cell 1
    have s2 := hM.c.cell 2
    have HM := Lib.hid hM
    have HAP := Lib.hid hA
    have HP := Lib.hid hP
    have HO := Lib.hid hO
    by_cases hlt : j < N
    · have hd : (j : Int) < (N : Int) := by omega
      obtain ⟨ia, ad, hAA, ca⟩ := elA_at hM.e.ea (HEL.out j hlt).1
      obtain ⟨ib, bd, hBB, cb⟩ := elA_at hM.e.eb (HEL.out j hlt).2
      have HCJ := Lib.hid (fun W hb => HC.out j w5.heap.size W hlt hb)
      have HST := Lib.hid (fun h => apE_step hA h hlt)
      have HNX := Lib.hid (fun h => apE_next (g := G) hA h)
      generalize elA ⟨k, sh, el⟩ j = xa at *
      generalize elA ⟨k2, sh2, el2⟩ j = xb at *
      obtain ⟨v, hv⟩ : ∃ v, V j = v := ⟨_, rfl⟩
      obtain ⟨u, hu⟩ : ∃ u, G j = u := ⟨_, rfl⟩
      rw [hv] at HCJ
      rw [hu] at HCJ HST HNX
      have HV := Lib.hid hv
      have HLT := Lib.hid hlt
      clear hM hA hP hO hlt hv hu
      have KEEP : Hid (∀ w9, Below wr.heap.size wr w9 → EcI w ⟨k, sh, el⟩ ⟨k2, sh2, el2⟩ ⟨0, [], []⟩ ⟨A0, c0, A1, c1⟩ ⟨B0, d0, B1, d1⟩ ⟨sA0, sc0, sA1, sc1⟩ #[.int .i64 0, .slice sA0 0 sc0, .slice sA1 0 sc1] w3.heap.size w4.heap.size w9 ∧ Blk w9 w5.heap.size 3 #[.int .i64 f] ∧ w9.ownsRow W4.heap.size 3 1 (.slice T n tc) n (TL.map iv)) := Lib.hid (fun w9 b => by
        have b' : Below wr.heap.size wr w9 := b
        exact ⟨HM.out.below b', HP.out.below b' HP.out.lt, arown_stay HO.out b' (fun g hg => (arown_lt HO.out g hg).2)⟩)
      subst hAA
      subst hBB
      have HCL : Hid (∀ W, Below wr.heap.size wr W → (W.cell? ⟨w.heap.size, 2, none⟩ = some (.slice (some ad) el.length c1) ∧ W.cell? ⟨w.heap.size + 1, 2, none⟩ = some (.slice (some bd) el2.length d1)) ∧ W.cell? (ad.add (if sh.length = 0 then 0 else j)) = some (.int .i64 xa) ∧ W.cell? (bd.add (if sh2.length = 0 then 0 else j)) = some (.int .i64 xb)) := Lib.hid (fun W hb => ⟨⟨(hb.cell (block_lt_of_cell x2)).trans x2, (hb.cell (block_lt_of_cell y2)).trans y2⟩, (hb.cell (block_lt_of_cell ca)).trans ca, (hb.cell (block_lt_of_cell cb)).trans cb⟩)
      clear ca cb
      have _ : True := trivial
      have ha0 := HX.out
      by_cases hb0 : sh2.length = 0
      · rw [if_neg ha0] at ia HCL
        rw [if_pos hb0] at ib HCL
        have da : ((sh.length : Int) == 0) = false := by rw [beq_eq_false_iff_ne]; intro h; exact ha0 (by omega)
        have db : (sh2.length : Int) = 0 := by omega
        clear ha0 hb0
        go_wp2
        refine wp_region_done_on (GS wr) (GR [11] (fun (_ : Nat) (x : Value) (_ : World) => x = .tuple #[.int .i64 v, .int .i64 u]) [.func (.func gm) #[] #[.pointer (some ⟨w5.heap.size, 0, none⟩)], .pointer (some ⟨w.heap.size, 2, none⟩), .slice (some ad) el.length c1, .int .i64 (j : Int), .pointer (some (ad.add j)), .int .i64 xa, .pointer (some ⟨w.heap.size + 1, 2, none⟩), .slice (some bd) el2.length d1, .int .i64 0, .pointer (some bd), .int .i64 xb, undef, .tuple #[.int .i64 v, .int .i64 u], .int .i64 v, .int .i64 u, .int .i64 v, .int .i64 u]) (by kernel_rfl) 180 rfl (by kernel_rfl) ((Below.refl _ _).drew) ?_ ?_
        · intro i hi
          have hi2 : i < 17 := hi
          clear hi
          rcases i with _ | i
          · refine gr_value rfl (by decide) (.func (.func gm) #[] #[.pointer (some ⟨w5.heap.size, 0, none⟩)]) rfl ?_
            intro a8 w8 hb8 ho hn
            have o12 : a8.tmps[12]? = some _ := (ho 12 (by kernel_rfl)).trans rfl
            clear ho hn
            refine ⟨wanted_free rfl, ?_⟩
            go_simp
          rcases i with _ | i
          · refine gr_value rfl (by decide) (.pointer (some ⟨w.heap.size, 2, none⟩)) rfl ?_
            intro a8 w8 hb8 ho hn
            have o4 : a8.tmps[4]? = some _ := (ho 4 (by kernel_rfl)).trans rfl
            clear ho hn
            refine ⟨wanted_free rfl, ?_⟩
            go_simp
          rcases i with _ | i
          · refine gr_value rfl (by decide) (.slice (some ad) el.length c1) rfl ?_
            intro a8 w8 hb8 ho hn
            obtain ⟨v112, n112, hq112⟩ := hn 1 112 (by kernel_rfl) rfl
            obtain rfl := hq112.1 (by decide)
            clear ho hn
            refine ⟨wanted_free rfl, ?_⟩
            obtain ⟨⟨q1, q2⟩, q3, q4⟩ := HCL.out _ hb8
            have q4 : w8.cell? bd = some (.int .i64 xb) := q4
            go_simp
          rcases i with _ | i
          · refine gr_value rfl (by decide) (.int .i64 (j : Int)) rfl ?_
            intro a8 w8 hb8 ho hn
            have o17 : a8.tmps[17]? = some _ := (ho 17 (by kernel_rfl)).trans rfl
            clear ho hn
            refine ⟨wanted_free rfl, ?_⟩
            go_simp
          rcases i with _ | i
          · refine gr_value rfl (by decide) (.pointer (some (ad.add j))) rfl ?_
            intro a8 w8 hb8 ho hn
            obtain ⟨v113, n113, hq113⟩ := hn 2 113 (by kernel_rfl) rfl
            obtain rfl := hq113.1 (by decide)
            obtain ⟨v114, n114, hq114⟩ := hn 3 114 (by kernel_rfl) rfl
            obtain rfl := hq114.1 (by decide)
            clear ho hn
            refine ⟨wanted_free rfl, ?_⟩
            go_simp
          rcases i with _ | i
          · refine gr_value rfl (by decide) (.int .i64 xa) rfl ?_
            intro a8 w8 hb8 ho hn
            obtain ⟨v115, n115, hq115⟩ := hn 4 115 (by kernel_rfl) rfl
            obtain rfl := hq115.1 (by decide)
            clear ho hn
            refine ⟨wanted_free rfl, ?_⟩
            obtain ⟨⟨q1, q2⟩, q3, q4⟩ := HCL.out _ hb8
            have q4 : w8.cell? bd = some (.int .i64 xb) := q4
            go_simp
          rcases i with _ | i
          · refine gr_value rfl (by decide) (.pointer (some ⟨w.heap.size + 1, 2, none⟩)) rfl ?_
            intro a8 w8 hb8 ho hn
            have o5 : a8.tmps[5]? = some _ := (ho 5 (by kernel_rfl)).trans rfl
            clear ho hn
            refine ⟨wanted_free rfl, ?_⟩
            go_simp
          rcases i with _ | i
          · refine gr_value rfl (by decide) (.slice (some bd) el2.length d1) rfl ?_
            intro a8 w8 hb8 ho hn
            obtain ⟨v117, n117, hq117⟩ := hn 6 117 (by kernel_rfl) rfl
            obtain rfl := hq117.1 (by decide)
            clear ho hn
            refine ⟨wanted_free rfl, ?_⟩
            obtain ⟨⟨q1, q2⟩, q3, q4⟩ := HCL.out _ hb8
            have q4 : w8.cell? bd = some (.int .i64 xb) := q4
            go_simp
          rcases i with _ | i
          · refine gr_value rfl (by decide) (.int .i64 0) rfl ?_
            intro a8 w8 hb8 ho hn
            have o18 : a8.tmps[18]? = some _ := (ho 18 (by kernel_rfl)).trans rfl
            clear ho hn
            refine ⟨wanted_free rfl, ?_⟩
            go_simp
          rcases i with _ | i
          · refine gr_value rfl (by decide) (.pointer (some bd)) rfl ?_
            intro a8 w8 hb8 ho hn
            obtain ⟨v118, n118, hq118⟩ := hn 7 118 (by kernel_rfl) rfl
            obtain rfl := hq118.1 (by decide)
            obtain ⟨v119, n119, hq119⟩ := hn 8 119 (by kernel_rfl) rfl
            obtain rfl := hq119.1 (by decide)
            clear ho hn
            refine ⟨wanted_free rfl, ?_⟩
            go_simp
          rcases i with _ | i
          · refine gr_value rfl (by decide) (.int .i64 xb) rfl ?_
            intro a8 w8 hb8 ho hn
            obtain ⟨v120, n120, hq120⟩ := hn 9 120 (by kernel_rfl) rfl
            obtain rfl := hq120.1 (by decide)
            clear ho hn
            refine ⟨wanted_free rfl, ?_⟩
            obtain ⟨⟨q1, q2⟩, q3, q4⟩ := HCL.out _ hb8
            have q4 : w8.cell? bd = some (.int .i64 xb) := q4
            go_simp
          rcases i with _ | i
          · refine gr_call (fun _ _ _ _ _ h => h) gm rfl (by decide) ?_
            intro a8 w8 hb8 ho hn
            obtain ⟨v111, n111, hq111⟩ := hn 0 111 (by kernel_rfl) rfl
            obtain rfl := hq111.1 (by decide)
            obtain ⟨v116, n116, hq116⟩ := hn 5 116 (by kernel_rfl) rfl
            obtain rfl := hq116.1 (by decide)
            obtain ⟨v121, n121, hq121⟩ := hn 10 121 (by kernel_rfl) rfl
            obtain rfl := hq121.1 (by decide)
            clear ho hn
            refine ⟨wanted_free rfl, ?_⟩
            refine ⟨#[.int .i64 xa, .int .i64 xb, .pointer (some ⟨w5.heap.size, 0, none⟩)], (by go_simp), (HCJ.out w8 (HP.out.below hb8 HP.out.lt)).mono ?_⟩
            rintro e w9 ⟨rfl, b9⟩
            exact ⟨_, rfl, b9, rfl⟩
          rcases i with _ | i
          · refine gr_value rfl (by decide) (.tuple #[.int .i64 v, .int .i64 u]) rfl ?_
            intro a8 w8 hb8 ho hn
            obtain ⟨v122, n122, hq122⟩ := hn 11 122 (by kernel_rfl) rfl
            have hv122 := hq122.2 (by decide)
            clear ho hn
            refine ⟨wanted_free rfl, ?_⟩
            obtain rfl := hv122
            go_simp
          rcases i with _ | i
          · refine gr_value rfl (by decide) (.int .i64 v) rfl ?_
            intro a8 w8 hb8 ho hn
            obtain ⟨v110, n110, hq110⟩ := hn 12 110 (by kernel_rfl) rfl
            obtain rfl := hq110.1 (by decide)
            clear ho hn
            refine ⟨wanted_free rfl, ?_⟩
            go_simp
          rcases i with _ | i
          · refine gr_value rfl (by decide) (.int .i64 u) rfl ?_
            intro a8 w8 hb8 ho hn
            obtain ⟨v110, n110, hq110⟩ := hn 12 110 (by kernel_rfl) rfl
            obtain rfl := hq110.1 (by decide)
            clear ho hn
            refine ⟨wanted_free rfl, ?_⟩
            go_simp
          rcases i with _ | i
          · refine gr_value rfl (by decide) (.int .i64 v) rfl ?_
            intro a8 w8 hb8 ho hn
            obtain ⟨v123, n123, hq123⟩ := hn 13 123 (by kernel_rfl) rfl
            obtain rfl := hq123.1 (by decide)
            clear ho hn
            refine ⟨wanted_free rfl, ?_⟩
            go_simp
          rcases i with _ | i
          · refine gr_value rfl (by decide) (.int .i64 u) rfl ?_
            intro a8 w8 hb8 ho hn
            obtain ⟨v124, n124, hq124⟩ := hn 14 124 (by kernel_rfl) rfl
            obtain rfl := hq124.1 (by decide)
            clear ho hn
            refine ⟨wanted_free rfl, ?_⟩
            go_simp
          omega
        · intro dn fv w5 hb5 hR5 hall
          have h19 : fv 19 = _ := (hR5 15 19 rfl).1 (by decide)
          have h20 : fv 20 = _ := (hR5 16 20 rfl).1 (by decide)
          simp only [putAll, List.foldl_cons, List.foldl_nil, Act.put, List.setIfInBounds_toArray, List.set_cons_succ, List.set_cons_zero, h19, h20, List.getD_cons_zero, List.getD_cons_succ]
          clear hR5 hall
          obtain ⟨hM9, hP9, hO9⟩ := KEEP.out w5 hb5
          have s0 := hM9.c.cell 0
          have s1 := hM9.c.cell 1
          have s2 := hM9.c.cell 2
          have HM9 := Lib.hid hM9
          have HP9 := Lib.hid hP9
          have HO9 := Lib.hid hO9
          clear hM9 hP9 hO9 hb5 x0 x1 x2 y0 y1 y2 ia ib da db
          by_cases hu : u = 0
          · subst hu
            go_wp2
            exact ⟨⟨j + 1, by have := HLT.out; omega, by go_num, HM9.out, HNX.out (by trivial), HP9.out, HO9.out⟩, by have := HLT.out; simp [intOf]; omega⟩
          · have du : (u != 0) = true := by simp [hu]
            have hEu : E = u := HEE.out.trans (HST.out hu)
            subst hEu
            clear hu
            go_wp2
            go_ret
            exact ⟨by simp, HM9.out.e.fb⟩
      · rw [if_neg ha0] at ia HCL
        rw [if_neg hb0] at ib HCL
        have da : ((sh.length : Int) == 0) = false := by rw [beq_eq_false_iff_ne]; intro h; exact ha0 (by omega)
        have db : ((sh2.length : Int) == 0) = false := by rw [beq_eq_false_iff_ne]; intro h; exact hb0 (by omega)
        clear ha0 hb0
        go_wp2
        refine wp_region_done_on (GS wr) (GR [11] (fun (_ : Nat) (x : Value) (_ : World) => x = .tuple #[.int .i64 v, .int .i64 u]) [.func (.func gm) #[] #[.pointer (some ⟨w5.heap.size, 0, none⟩)], .pointer (some ⟨w.heap.size, 2, none⟩), .slice (some ad) el.length c1, .int .i64 (j : Int), .pointer (some (ad.add j)), .int .i64 xa, .pointer (some ⟨w.heap.size + 1, 2, none⟩), .slice (some bd) el2.length d1, .int .i64 (j : Int), .pointer (some (bd.add j)), .int .i64 xb, undef, .tuple #[.int .i64 v, .int .i64 u], .int .i64 v, .int .i64 u, .int .i64 v, .int .i64 u]) (by kernel_rfl) 180 rfl (by kernel_rfl) ((Below.refl _ _).drew) ?_ ?_
        · intro i hi
          have hi2 : i < 17 := hi
          clear hi
          rcases i with _ | i
          · refine gr_value rfl (by decide) (.func (.func gm) #[] #[.pointer (some ⟨w5.heap.size, 0, none⟩)]) rfl ?_
            intro a8 w8 hb8 ho hn
            have o12 : a8.tmps[12]? = some _ := (ho 12 (by kernel_rfl)).trans rfl
            clear ho hn
            refine ⟨wanted_free rfl, ?_⟩
            go_simp
          rcases i with _ | i
          · refine gr_value rfl (by decide) (.pointer (some ⟨w.heap.size, 2, none⟩)) rfl ?_
            intro a8 w8 hb8 ho hn
            have o4 : a8.tmps[4]? = some _ := (ho 4 (by kernel_rfl)).trans rfl
            clear ho hn
            refine ⟨wanted_free rfl, ?_⟩
            go_simp
          rcases i with _ | i
          · refine gr_value rfl (by decide) (.slice (some ad) el.length c1) rfl ?_
            intro a8 w8 hb8 ho hn
            obtain ⟨v112, n112, hq112⟩ := hn 1 112 (by kernel_rfl) rfl
            obtain rfl := hq112.1 (by decide)
            clear ho hn
            refine ⟨wanted_free rfl, ?_⟩
            obtain ⟨⟨q1, q2⟩, q3, q4⟩ := HCL.out _ hb8
            go_simp
          rcases i with _ | i
          · refine gr_value rfl (by decide) (.int .i64 (j : Int)) rfl ?_
            intro a8 w8 hb8 ho hn
            have o17 : a8.tmps[17]? = some _ := (ho 17 (by kernel_rfl)).trans rfl
            clear ho hn
            refine ⟨wanted_free rfl, ?_⟩
            go_simp
          rcases i with _ | i
          · refine gr_value rfl (by decide) (.pointer (some (ad.add j))) rfl ?_
            intro a8 w8 hb8 ho hn
            obtain ⟨v113, n113, hq113⟩ := hn 2 113 (by kernel_rfl) rfl
            obtain rfl := hq113.1 (by decide)
            obtain ⟨v114, n114, hq114⟩ := hn 3 114 (by kernel_rfl) rfl
            obtain rfl := hq114.1 (by decide)
            clear ho hn
            refine ⟨wanted_free rfl, ?_⟩
            go_simp
          rcases i with _ | i
          · refine gr_value rfl (by decide) (.int .i64 xa) rfl ?_
            intro a8 w8 hb8 ho hn
            obtain ⟨v115, n115, hq115⟩ := hn 4 115 (by kernel_rfl) rfl
            obtain rfl := hq115.1 (by decide)
            clear ho hn
            refine ⟨wanted_free rfl, ?_⟩
            obtain ⟨⟨q1, q2⟩, q3, q4⟩ := HCL.out _ hb8
            go_simp
          rcases i with _ | i
          · refine gr_value rfl (by decide) (.pointer (some ⟨w.heap.size + 1, 2, none⟩)) rfl ?_
            intro a8 w8 hb8 ho hn
            have o5 : a8.tmps[5]? = some _ := (ho 5 (by kernel_rfl)).trans rfl
            clear ho hn
            refine ⟨wanted_free rfl, ?_⟩
            go_simp
          rcases i with _ | i
          · refine gr_value rfl (by decide) (.slice (some bd) el2.length d1) rfl ?_
            intro a8 w8 hb8 ho hn
            obtain ⟨v117, n117, hq117⟩ := hn 6 117 (by kernel_rfl) rfl
            obtain rfl := hq117.1 (by decide)
            clear ho hn
            refine ⟨wanted_free rfl, ?_⟩
            obtain ⟨⟨q1, q2⟩, q3, q4⟩ := HCL.out _ hb8
            go_simp
          rcases i with _ | i
          · refine gr_value rfl (by decide) (.int .i64 (j : Int)) rfl ?_
            intro a8 w8 hb8 ho hn
            have o18 : a8.tmps[18]? = some _ := (ho 18 (by kernel_rfl)).trans rfl
            clear ho hn
            refine ⟨wanted_free rfl, ?_⟩
            go_simp
          rcases i with _ | i
          · refine gr_value rfl (by decide) (.pointer (some (bd.add j))) rfl ?_
            intro a8 w8 hb8 ho hn
            obtain ⟨v118, n118, hq118⟩ := hn 7 118 (by kernel_rfl) rfl
            obtain rfl := hq118.1 (by decide)
            obtain ⟨v119, n119, hq119⟩ := hn 8 119 (by kernel_rfl) rfl
            obtain rfl := hq119.1 (by decide)
            clear ho hn
            refine ⟨wanted_free rfl, ?_⟩
            go_simp
          rcases i with _ | i
          · refine gr_value rfl (by decide) (.int .i64 xb) rfl ?_
            intro a8 w8 hb8 ho hn
            obtain ⟨v120, n120, hq120⟩ := hn 9 120 (by kernel_rfl) rfl
            obtain rfl := hq120.1 (by decide)
            clear ho hn
            refine ⟨wanted_free rfl, ?_⟩
            obtain ⟨⟨q1, q2⟩, q3, q4⟩ := HCL.out _ hb8
            go_simp
          rcases i with _ | i
          · refine gr_call (fun _ _ _ _ _ h => h) gm rfl (by decide) ?_
            intro a8 w8 hb8 ho hn
            obtain ⟨v111, n111, hq111⟩ := hn 0 111 (by kernel_rfl) rfl
            obtain rfl := hq111.1 (by decide)
            obtain ⟨v116, n116, hq116⟩ := hn 5 116 (by kernel_rfl) rfl
            obtain rfl := hq116.1 (by decide)
            obtain ⟨v121, n121, hq121⟩ := hn 10 121 (by kernel_rfl) rfl
            obtain rfl := hq121.1 (by decide)
            clear ho hn
            refine ⟨wanted_free rfl, ?_⟩
            refine ⟨#[.int .i64 xa, .int .i64 xb, .pointer (some ⟨w5.heap.size, 0, none⟩)], (by go_simp), (HCJ.out w8 (HP.out.below hb8 HP.out.lt)).mono ?_⟩
            rintro e w9 ⟨rfl, b9⟩
            exact ⟨_, rfl, b9, rfl⟩
          rcases i with _ | i
          · refine gr_value rfl (by decide) (.tuple #[.int .i64 v, .int .i64 u]) rfl ?_
            intro a8 w8 hb8 ho hn
            obtain ⟨v122, n122, hq122⟩ := hn 11 122 (by kernel_rfl) rfl
            have hv122 := hq122.2 (by decide)
            clear ho hn
            refine ⟨wanted_free rfl, ?_⟩
            obtain rfl := hv122
            go_simp
          rcases i with _ | i
          · refine gr_value rfl (by decide) (.int .i64 v) rfl ?_
            intro a8 w8 hb8 ho hn
            obtain ⟨v110, n110, hq110⟩ := hn 12 110 (by kernel_rfl) rfl
            obtain rfl := hq110.1 (by decide)
            clear ho hn
            refine ⟨wanted_free rfl, ?_⟩
            go_simp
          rcases i with _ | i
          · refine gr_value rfl (by decide) (.int .i64 u) rfl ?_
            intro a8 w8 hb8 ho hn
            obtain ⟨v110, n110, hq110⟩ := hn 12 110 (by kernel_rfl) rfl
            obtain rfl := hq110.1 (by decide)
            clear ho hn
            refine ⟨wanted_free rfl, ?_⟩
            go_simp
          rcases i with _ | i
          · refine gr_value rfl (by decide) (.int .i64 v) rfl ?_
            intro a8 w8 hb8 ho hn
            obtain ⟨v123, n123, hq123⟩ := hn 13 123 (by kernel_rfl) rfl
            obtain rfl := hq123.1 (by decide)
            clear ho hn
            refine ⟨wanted_free rfl, ?_⟩
            go_simp
          rcases i with _ | i
          · refine gr_value rfl (by decide) (.int .i64 u) rfl ?_
            intro a8 w8 hb8 ho hn
            obtain ⟨v124, n124, hq124⟩ := hn 14 124 (by kernel_rfl) rfl
            obtain rfl := hq124.1 (by decide)
            clear ho hn
            refine ⟨wanted_free rfl, ?_⟩
            go_simp
          omega
        · intro dn fv w5 hb5 hR5 hall
          have h19 : fv 19 = _ := (hR5 15 19 rfl).1 (by decide)
          have h20 : fv 20 = _ := (hR5 16 20 rfl).1 (by decide)
          simp only [putAll, List.foldl_cons, List.foldl_nil, Act.put, List.setIfInBounds_toArray, List.set_cons_succ, List.set_cons_zero, h19, h20, List.getD_cons_zero, List.getD_cons_succ]
          clear hR5 hall
          obtain ⟨hM9, hP9, hO9⟩ := KEEP.out w5 hb5
          have s0 := hM9.c.cell 0
          have s1 := hM9.c.cell 1
          have s2 := hM9.c.cell 2
          have HM9 := Lib.hid hM9
          have HP9 := Lib.hid hP9
          have HO9 := Lib.hid hO9
          clear hM9 hP9 hO9 hb5 x0 x1 x2 y0 y1 y2 ia ib da db
          by_cases hu : u = 0
          · subst hu
            go_wp2
            exact ⟨⟨j + 1, by have := HLT.out; omega, by go_num, HM9.out, HNX.out (by trivial), HP9.out, HO9.out⟩, by have := HLT.out; simp [intOf]; omega⟩
          · have du : (u != 0) = true := by simp [hu]
            have hEu : E = u := HEE.out.trans (HST.out hu)
            subst hEu
            clear hu
            go_wp2
            go_ret
            exact ⟨by simp, HM9.out.e.fb⟩
    · obtain rfl : j = N := by omega
      exact absurd (HEE.out.trans HAP.out) HEN.out
end Go.Proofs.Ytkdnaebmifjmcaa.scalarEach

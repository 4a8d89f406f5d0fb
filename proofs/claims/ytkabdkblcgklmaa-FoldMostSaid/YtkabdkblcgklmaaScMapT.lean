/-
  Layer 12 (scalar): MapTwo.
-/
import Derived.Test.YtkabdkblcgklmaaScMapM
import Derived.Laws.EntriesVeiled
namespace Go.Proofs.Ytkabdkblcgklmaa.sc
open Go.RowKit Go.Proofs.Ytkabdkblcgklmaa.arr

set_option maxRecDepth 100000 in
set_option maxHeartbeats 4000000 in
theorem scmaptwo_any (f : Int) (a b : AV) (p q : AP) (w : World) (ea : AEl w a p) (eb : AEl w b q) :
    Calls Try.prog 51 #[.int .i64 f, .agg (arC a p), .agg (arC b q)] w (MapA (twoME f a b) (twoMA f a b) w) := by
  have HBN := Lib.hid (fun W => scbin_any f W)
  have HNO := Lib.hid (fun (E : Int) (h : twoME f a b = E) (h0 : E ≠ 0) (w' : World) (hb : Below w.heap.size w w') => twoMA.no h h0 hb)
  have HDEF : Hid (twoME f a b = if binB f = false then 2 else if (okA a && okA b) = false then 110 else if togE a.sh b.sh ≠ 0 then togE a.sh b.sh else if kindsE f a.kind b.kind ≠ 0 then kindsE f a.kind b.kind else apE (mixG f a b) (twoN a b)) := Lib.hid rfl
  have HMA : Hid (twoME f a b = 0 → twoMA f a b = ⟨1, togL a.sh b.sh, apL (mixW f a b) (twoN a b)⟩) := Lib.hid (fun h => by unfold twoMA; rw [h, if_neg (by decide)])
  have HTO := Lib.hid (fun ha hb h => tog_ok (a := a) (b := b) ha hb h)
  have M0 := Lib.hid (MtI.start ea eb)
  have HCA := Lib.hid (fun W (h : MtI w a b p q W) => archeck_any a p W h.ea)
  have HCB := Lib.hid (fun W (h : MtI w a b p q W) => archeck_any b q W h.eb)
  have HTG := Lib.hid (fun W (h : MtI w a b p q W) => sctog_any p.A0 q.A0 p.c0 q.c0 _ _ a.sh b.sh W rfl rfl h.ea.r0 h.eb.r0 h.ea.b0 h.eb.b0)
  have HMX := Lib.hid (fun W => scmixed_any f a.kind b.kind W)
  have hgm : ∀ args w, (callFunc (if a.kind = b.kind then 94 else 92) args).run Try.prog w = .ok (.enter (if a.kind = b.kind then 94 else 92) args) w := by
    split
    · exact enters_of Try.func94 (by kernel_rfl) rfl
    · exact enters_of Try.func92 (by kernel_rfl) rfl
  have HAP : Hid (∀ (W : World) (T : Option Addr) (n c N g g2 : Nat), MtI w a b p q W → okShape (togL a.sh b.sh) = true → prodI (togL a.sh b.sh) = (N : Int) → (togL a.sh b.sh).length = n → Reads W W.heap.size 1 T n ((togL a.sh b.sh).map iv) → (∀ i, i < N → elOk a i ∧ elOk b i) →
      Blk W g2 3 #[.int .i64 f] → Blk W g 72 #[.func (.func (if a.kind = b.kind then 94 else 92)) #[] #[.pointer (some ⟨g2, 0, none⟩)]] →
      Calls Try.prog 96 #[.func (.func 97) #[] #[.pointer (some ⟨g, 0, none⟩)], .slice T n c, .agg (arC a p), .agg (arC b q)] W (ApA (mixW f a b) (mixG f a b) T n c N W)) := Lib.hid (fun W T n c N g g2 hM h1 h2 h3 h4 h5 h6 h7 =>
    scapplied_any 97 #[.pointer (some ⟨g, 0, none⟩)] (enters_of Try.func97 (by kernel_rfl) rfl) (mixV f a.kind b.kind) (mixE f a.kind b.kind) T n c (togL a.sh b.sh) a b p q N W h1 h2 h3 h4 hM.ea hM.eb h5
      (fun x y W2 hx hy hb => maptwo1_any _ _ hgm x y _ _ g W2 (h7.below hb h7.lt) (fun W3 hb3 => mix_any f a.kind b.kind x y hx hy g2 W3 ((h6.below hb h6.lt).below hb3 (h6.below hb h6.lt).lt))))
  clear ea eb hgm
  obtain ⟨k, sh, el⟩ := a
  obtain ⟨k2, sh2, el2⟩ := b
  obtain ⟨A0, c0, A1, c1⟩ := p
  obtain ⟨B0, d0, B1, d1⟩ := q
  simp only at HDEF HMA HTO HTG HMX HAP
  unfold arC at HCA HCB HAP ⊢
  simp only at HCA HCB HAP ⊢
  have HCE : ∀ x : AV, (okA x = true ∧ checkE x = 0) ∨ (okA x = false ∧ checkE x = 110) := fun x => by unfold checkE; cases okA x <;> simp
  generalize twoME f ⟨k, sh, el⟩ ⟨k2, sh2, el2⟩ = E at *
  generalize twoMA f ⟨k, sh, el⟩ ⟨k2, sh2, el2⟩ = R at *
  obtain ⟨⟨x0, x1, x2⟩, ⟨y0, y1, y2⟩, ⟨r0, r1, r2⟩, f0, f1, f2⟩ := M0.out.cells
  obtain ⟨W0, hW0⟩ : ∃ W0, ((w.alloc (.cells (arC ⟨k, sh, el⟩ ⟨A0, c0, A1, c1⟩) 25)).alloc (.cells (arC ⟨k2, sh2, el2⟩ ⟨B0, d0, B1, d1⟩) 25)).alloc (.cells #[.int .i64 0, .slice none 0 0, .slice none 0 0] 25) = W0 := ⟨_, rfl⟩
  rw [hW0] at M0 x0 x1 x2 y0 y1 y2 r0 r1 r2 f0 f1 f2
  unfold arC at hW0
  simp only at hW0
  cases hbf : binB f
  · rw [hbf] at HBN
    have HN := Lib.hid (HNO.out 2 (HDEF.out.trans (by rw [hbf, if_pos rfl])) (by decide))
    have HE : Hid (E = 2) := Lib.hid (HDEF.out.trans (by rw [hbf, if_pos rfl]))
    clear HNO HDEF HMA HTO HCA HCB HTG HMX HAP HCE hbf
    go_enter Try.func51, Try.ntmps51
    go_wp2_with (first
      | (go_at_call 52; refine (HBN.out _).mono ?_; rintro e w1 ⟨rfl, b1⟩; have M1 := Lib.hid (M0.out.below b1); clear b1 x0 x1 x2 y0 y1 y2 r0 r1 r2 f0 f1 f2; obtain ⟨⟨x0, x1, x2⟩, ⟨y0, y1, y2⟩, ⟨r0, r1, r2⟩, f0, f1, f2⟩ := M1.out.cells))
    refine bodyPost_ret (results_arr2 rfl rfl rfl (arblk_three _ _ _ M1.out.r)) rfl ?_
    exact HN.out _ (M1.out.fin _ _ _)
  rw [hbf] at HBN HDEF
  rw [if_neg (by decide)] at HDEF
  rcases HCE ⟨k, sh, el⟩ with ⟨oa, ca⟩ | ⟨oa, ca⟩
  case inr =>
    rw [ca] at HCA
    have HN := Lib.hid (HNO.out 110 (HDEF.out.trans (by rw [oa, Bool.false_and, if_pos rfl])) (by decide))
    clear HNO HDEF HMA HTO HCB HTG HMX HAP HCE hbf oa ca
    go_enter Try.func51, Try.ntmps51
    go_wp2_with (first
      | (go_at_call 21; refine (HCA.out _ M1.out).mono ?_; rintro e w2 ⟨rfl, b2⟩; have M2 := Lib.hid (M1.out.below b2); clear b2 x0 x1 x2 y0 y1 y2 r0 r1 r2 f0 f1 f2; obtain ⟨⟨x0, x1, x2⟩, ⟨y0, y1, y2⟩, ⟨r0, r1, r2⟩, f0, f1, f2⟩ := M2.out.cells)
      | (go_at_call 52; refine (HBN.out _).mono ?_; rintro e w1 ⟨rfl, b1⟩; have M1 := Lib.hid (M0.out.below b1); clear b1 x0 x1 x2 y0 y1 y2 r0 r1 r2 f0 f1 f2; obtain ⟨⟨x0, x1, x2⟩, ⟨y0, y1, y2⟩, ⟨r0, r1, r2⟩, f0, f1, f2⟩ := M1.out.cells))
    refine bodyPost_ret (results_arr2 rfl rfl rfl (arblk_three _ _ _ M2.out.r)) rfl ?_
    exact HN.out _ (M2.out.fin _ _ _)
  rw [ca] at HCA
  rw [oa, Bool.true_and] at HDEF
  rcases HCE ⟨k2, sh2, el2⟩ with ⟨ob, cb⟩ | ⟨ob, cb⟩
  case inr =>
    rw [cb] at HCB
    have HN := Lib.hid (HNO.out 110 (HDEF.out.trans (by rw [ob, if_pos rfl])) (by decide))
    clear HNO HDEF HMA HTO HTG HMX HAP HCE hbf oa ca ob cb
    go_enter Try.func51, Try.ntmps51
    go_wp2_with (first
      | (go_at_call 21; (have l0 := M2.out; clear l0); refine (HCB.out _ M2.out).mono ?_; rintro e w3 ⟨rfl, b3⟩; have M3 := Lib.hid (M2.out.below b3); clear b3 x0 x1 x2 y0 y1 y2 r0 r1 r2 f0 f1 f2; obtain ⟨⟨x0, x1, x2⟩, ⟨y0, y1, y2⟩, ⟨r0, r1, r2⟩, f0, f1, f2⟩ := M3.out.cells)
      | (go_at_call 21; refine (HCA.out _ M1.out).mono ?_; rintro e w2 ⟨rfl, b2⟩; have M2 := Lib.hid (M1.out.below b2); clear b2 x0 x1 x2 y0 y1 y2 r0 r1 r2 f0 f1 f2; obtain ⟨⟨x0, x1, x2⟩, ⟨y0, y1, y2⟩, ⟨r0, r1, r2⟩, f0, f1, f2⟩ := M2.out.cells)
      | (go_at_call 52; refine (HBN.out _).mono ?_; rintro e w1 ⟨rfl, b1⟩; have M1 := Lib.hid (M0.out.below b1); clear b1 x0 x1 x2 y0 y1 y2 r0 r1 r2 f0 f1 f2; obtain ⟨⟨x0, x1, x2⟩, ⟨y0, y1, y2⟩, ⟨r0, r1, r2⟩, f0, f1, f2⟩ := M1.out.cells))
    refine bodyPost_ret (results_arr2 rfl rfl rfl (arblk_three _ _ _ M3.out.r)) rfl ?_
    exact HN.out _ (M3.out.fin _ _ _)
  rw [cb] at HCB
  rw [ob, if_neg (by decide)] at HDEF
  have HTO := Lib.hid (HTO.out oa ob)
  clear hbf oa ca ob cb HCE
  obtain ⟨TE, hTE⟩ : ∃ TE, togE sh sh2 = TE := ⟨_, rfl⟩
  unfold TogA at HTG
  rw [hTE] at HTG HDEF HTO
  by_cases h0 : TE = 0
  case neg =>
    have HN := Lib.hid (HNO.out TE (HDEF.out.trans (by rw [if_pos h0])) h0)
    have d0 : (TE != 0) = true := by simp [h0]
    clear HNO HDEF HMA HTO HMX HAP hTE h0
    go_enter Try.func51, Try.ntmps51
    go_wp2_with (first
      | (go_at_call 95; refine (HTG.out _ M3.out).mono ?_; rintro e w4 ⟨T, tc, rfl, o4, b4⟩; have M4 := Lib.hid (M3.out.below b4); have O4 := Lib.hid (arown_mono o4 (M3.out.fb.size)); clear b4 o4 x0 x1 x2 y0 y1 y2 r0 r1 r2 f0 f1 f2; obtain ⟨⟨x0, x1, x2⟩, ⟨y0, y1, y2⟩, ⟨r0, r1, r2⟩, f0, f1, f2⟩ := M4.out.cells)
      | (go_at_call 21; (have l0 := M2.out; clear l0); refine (HCB.out _ M2.out).mono ?_; rintro e w3 ⟨rfl, b3⟩; have M3 := Lib.hid (M2.out.below b3); clear b3 x0 x1 x2 y0 y1 y2 r0 r1 r2 f0 f1 f2; obtain ⟨⟨x0, x1, x2⟩, ⟨y0, y1, y2⟩, ⟨r0, r1, r2⟩, f0, f1, f2⟩ := M3.out.cells)
      | (go_at_call 21; refine (HCA.out _ M1.out).mono ?_; rintro e w2 ⟨rfl, b2⟩; have M2 := Lib.hid (M1.out.below b2); clear b2 x0 x1 x2 y0 y1 y2 r0 r1 r2 f0 f1 f2; obtain ⟨⟨x0, x1, x2⟩, ⟨y0, y1, y2⟩, ⟨r0, r1, r2⟩, f0, f1, f2⟩ := M2.out.cells)
      | (go_at_call 52; refine (HBN.out _).mono ?_; rintro e w1 ⟨rfl, b1⟩; have M1 := Lib.hid (M0.out.below b1); clear b1 x0 x1 x2 y0 y1 y2 r0 r1 r2 f0 f1 f2; obtain ⟨⟨x0, x1, x2⟩, ⟨y0, y1, y2⟩, ⟨r0, r1, r2⟩, f0, f1, f2⟩ := M1.out.cells))
    refine bodyPost_ret (results_arr2 rfl rfl rfl (arblk_three _ _ _ M4.out.r)) rfl ?_
    exact HN.out _ (M4.out.fin _ _ _)
  subst h0
  rw [if_neg (by decide)] at HDEF
  obtain ⟨hTok, hTN, hTe⟩ := HTO.out rfl
  obtain ⟨KE, hKE⟩ : ∃ KE, kindsE f k k2 = KE := ⟨_, rfl⟩
  rw [hKE] at HMX HDEF
  generalize hTL : togL sh sh2 = TL at *
  by_cases h0 : KE = 0
  case neg =>
    have HN := Lib.hid (HNO.out KE (HDEF.out.trans (by rw [if_pos h0])) h0)
    have d0 : (KE != 0) = true := by simp [h0]
    have HKN := Lib.hid h0
    clear HNO HDEF HMA HTO HAP hTE h0 hTok hTN hTe hTL hKE
    go_enter Try.func51, Try.ntmps51
    go_wp2_with (first
      | (go_at_call 50; refine (HMX.out _).mono ?_; rintro e w5 ⟨v5, rfl, n5, m5, b5⟩; obtain rfl : v5 = .nilFunc := n5 HKN.out; have M5 := Lib.hid ((M4.out.below b5).below (alloc_below w5 (.cells #[.nilFunc] 72))); clear n5 m5 b5 x0 x1 x2 y0 y1 y2 r0 r1 r2 f0 f1 f2; obtain ⟨⟨x0, x1, x2⟩, ⟨y0, y1, y2⟩, ⟨r0, r1, r2⟩, f0, f1, f2⟩ := M5.out.cells)
      | (go_at_call 95; refine (HTG.out _ M3.out).mono ?_; rintro e w4 ⟨T, tc, rfl, o4, b4⟩; have M4 := Lib.hid (M3.out.below b4); have O4 := Lib.hid (arown_mono o4 (M3.out.fb.size)); clear b4 o4 x0 x1 x2 y0 y1 y2 r0 r1 r2 f0 f1 f2; obtain ⟨⟨x0, x1, x2⟩, ⟨y0, y1, y2⟩, ⟨r0, r1, r2⟩, f0, f1, f2⟩ := M4.out.cells)
      | (go_at_call 21; (have l0 := M2.out; clear l0); refine (HCB.out _ M2.out).mono ?_; rintro e w3 ⟨rfl, b3⟩; have M3 := Lib.hid (M2.out.below b3); clear b3 x0 x1 x2 y0 y1 y2 r0 r1 r2 f0 f1 f2; obtain ⟨⟨x0, x1, x2⟩, ⟨y0, y1, y2⟩, ⟨r0, r1, r2⟩, f0, f1, f2⟩ := M3.out.cells)
      | (go_at_call 21; refine (HCA.out _ M1.out).mono ?_; rintro e w2 ⟨rfl, b2⟩; have M2 := Lib.hid (M1.out.below b2); clear b2 x0 x1 x2 y0 y1 y2 r0 r1 r2 f0 f1 f2; obtain ⟨⟨x0, x1, x2⟩, ⟨y0, y1, y2⟩, ⟨r0, r1, r2⟩, f0, f1, f2⟩ := M2.out.cells)
      | (go_at_call 52; refine (HBN.out _).mono ?_; rintro e w1 ⟨rfl, b1⟩; have M1 := Lib.hid (M0.out.below b1); clear b1 x0 x1 x2 y0 y1 y2 r0 r1 r2 f0 f1 f2; obtain ⟨⟨x0, x1, x2⟩, ⟨y0, y1, y2⟩, ⟨r0, r1, r2⟩, f0, f1, f2⟩ := M1.out.cells))
    refine bodyPost_ret (results_arr2 rfl rfl rfl (arblk_three _ _ _ M5.out.r)) rfl ?_
    exact HN.out _ (M5.out.fin _ _ _)
  subst h0
  rw [if_neg (by decide)] at HDEF
  unfold MixAt at HMX
  generalize (if k = k2 then 94 else 92) = gm at *
  generalize hNN : twoN ⟨k, sh, el⟩ ⟨k2, sh2, el2⟩ = N at *
  generalize hGG : mixG f ⟨k, sh, el⟩ ⟨k2, sh2, el2⟩ = G at *
  generalize hWW : mixW f ⟨k, sh, el⟩ ⟨k2, sh2, el2⟩ = V at *
  obtain ⟨n, hn⟩ : ∃ n, TL.length = n := ⟨_, rfl⟩
  rw [hn] at HTG
  have HAP2 : Hid (∀ (W : World) (T : Option Addr) (c g g2 : Nat), MtI w ⟨k, sh, el⟩ ⟨k2, sh2, el2⟩ ⟨A0, c0, A1, c1⟩ ⟨B0, d0, B1, d1⟩ W → Reads W W.heap.size 1 T n (TL.map iv) → Blk W g2 3 #[.int .i64 f] → Blk W g 72 #[.func (.func gm) #[] #[.pointer (some ⟨g2, 0, none⟩)]] →
      Calls Try.prog 96 #[.func (.func 97) #[] #[.pointer (some ⟨g, 0, none⟩)], .slice T n c, .agg #[.int .i64 k, .slice A0 sh.length c0, .slice A1 el.length c1], .agg #[.int .i64 k2, .slice B0 sh2.length d0, .slice B1 el2.length d1]] W (ApA V G T n c N W)) := Lib.hid (fun W T c g g2 h1 h2 h3 h4 => HAP.out W T n c N g g2 h1 hTok hTN hn h2 hTe h3 h4)
  have HTLn := Lib.hid hn
  clear HAP hTok hTN hTe HTO hTE hKE hTL hNN hGG hWW
  unfold ApA at HAP2
  obtain ⟨AE, hAE⟩ : ∃ AE, apE G N = AE := ⟨_, rfl⟩
  rw [hAE] at HAP2 HDEF
  have HEE := Lib.hid (show E = AE from HDEF.out)
  clear HDEF hAE hn
  by_cases h0 : AE = 0
  case neg =>
    have HN := Lib.hid (HNO.out AE HEE.out h0)
    have HKN := Lib.hid h0
    clear HNO HMA h0
    go_enter Try.func51, Try.ntmps51
    go_wp2_with (first
      | (go_at_call 96; refine (HAP2.out _ T tc _ _ M5.out (Reads.of_own O5.out) Y5.out X5.out).mono ?_; rintro e w6 ⟨v6, rfl, b6, n6, m6⟩; obtain rfl := n6 HKN.out; have M6 := Lib.hid (M5.out.below b6); clear n6 m6 b6 x0 x1 x2 y0 y1 y2 r0 r1 r2 f0 f1 f2; obtain ⟨⟨x0, x1, x2⟩, ⟨y0, y1, y2⟩, ⟨r0, r1, r2⟩, f0, f1, f2⟩ := M6.out.cells)
      | (go_at_call 50; refine (HMX.out _).mono ?_; rintro e w5 ⟨v5, rfl, n5, m5, b5⟩; obtain ⟨e5, h5⟩ := m5 trivial; subst e5; have hbx := Blk.new w5 72 #[.func (.func gm) #[] #[.pointer (some ⟨w4.heap.size, 0, none⟩)]]; have al5 := alloc_below w5 (.cells #[.func (.func gm) #[] #[.pointer (some ⟨w4.heap.size, 0, none⟩)]] 72); have M5 := Lib.hid ((M4.out.below b5).below al5); have X5 := Lib.hid hbx; have Y5 := Lib.hid (h5.below al5 h5.lt); have b45 := b5.trans (al5.mono b5.size); have O5 := Lib.hid (arown_stay O4.out b45 (fun g hg => (arown_lt O4.out g hg).2)); have B45 := Lib.hid b45; clear n5 m5 b5 hbx al5 h5 b45 x0 x1 x2 y0 y1 y2 r0 r1 r2 f0 f1 f2; obtain ⟨⟨x0, x1, x2⟩, ⟨y0, y1, y2⟩, ⟨r0, r1, r2⟩, f0, f1, f2⟩ := M5.out.cells)
      | (go_at_call 95; refine (HTG.out _ M3.out).mono ?_; rintro e w4 ⟨T, tc, rfl, o4, b4⟩; have M4 := Lib.hid (M3.out.below b4); have O4 := Lib.hid (arown_mono o4 (M3.out.fb.size)); clear b4 o4 x0 x1 x2 y0 y1 y2 r0 r1 r2 f0 f1 f2; obtain ⟨⟨x0, x1, x2⟩, ⟨y0, y1, y2⟩, ⟨r0, r1, r2⟩, f0, f1, f2⟩ := M4.out.cells)
      | (go_at_call 21; (have l0 := M2.out; clear l0); refine (HCB.out _ M2.out).mono ?_; rintro e w3 ⟨rfl, b3⟩; have M3 := Lib.hid (M2.out.below b3); clear b3 x0 x1 x2 y0 y1 y2 r0 r1 r2 f0 f1 f2; obtain ⟨⟨x0, x1, x2⟩, ⟨y0, y1, y2⟩, ⟨r0, r1, r2⟩, f0, f1, f2⟩ := M3.out.cells)
      | (go_at_call 21; refine (HCA.out _ M1.out).mono ?_; rintro e w2 ⟨rfl, b2⟩; have M2 := Lib.hid (M1.out.below b2); clear b2 x0 x1 x2 y0 y1 y2 r0 r1 r2 f0 f1 f2; obtain ⟨⟨x0, x1, x2⟩, ⟨y0, y1, y2⟩, ⟨r0, r1, r2⟩, f0, f1, f2⟩ := M2.out.cells)
      | (go_at_call 52; refine (HBN.out _).mono ?_; rintro e w1 ⟨rfl, b1⟩; have M1 := Lib.hid (M0.out.below b1); clear b1 x0 x1 x2 y0 y1 y2 r0 r1 r2 f0 f1 f2; obtain ⟨⟨x0, x1, x2⟩, ⟨y0, y1, y2⟩, ⟨r0, r1, r2⟩, f0, f1, f2⟩ := M1.out.cells))
    refine bodyPost_ret (results_arr2 rfl rfl rfl (arblk_three _ _ _ M6.out.r)) rfl ?_
    exact HN.out _ (M6.out.fin _ _ _)
  subst h0
  have HR := Lib.hid (HMA.out HEE.out)
  clear HNO HMA
  go_enter Try.func51, Try.ntmps51
  go_wp2_with (first
    | (go_at_call 96; refine (HAP2.out _ T tc _ _ M5.out (Reads.of_own O5.out) Y5.out X5.out).mono ?_; rintro e w6 ⟨v6, rfl, b6, n6, m6⟩; obtain ⟨A6, c6, rfl, o6⟩ := m6 trivial; have M6 := Lib.hid (M5.out.below b6); have O6 := Lib.hid (arown_stay O5.out b6 (fun g hg => (arown_lt O5.out g hg).2)); have P6 := Lib.hid o6; have S6 := Lib.hid M5.out.fb.size; clear n6 m6 b6 o6 x0 x1 x2 y0 y1 y2 r0 r1 r2 f0 f1 f2; obtain ⟨⟨x0, x1, x2⟩, ⟨y0, y1, y2⟩, ⟨r0, r1, r2⟩, f0, f1, f2⟩ := M6.out.cells)
    | (go_at_call 50; refine (HMX.out _).mono ?_; rintro e w5 ⟨v5, rfl, n5, m5, b5⟩; obtain ⟨e5, h5⟩ := m5 trivial; subst e5; have hbx := Blk.new w5 72 #[.func (.func gm) #[] #[.pointer (some ⟨w4.heap.size, 0, none⟩)]]; have al5 := alloc_below w5 (.cells #[.func (.func gm) #[] #[.pointer (some ⟨w4.heap.size, 0, none⟩)]] 72); have M5 := Lib.hid ((M4.out.below b5).below al5); have X5 := Lib.hid hbx; have Y5 := Lib.hid (h5.below al5 h5.lt); have b45 := b5.trans (al5.mono b5.size); have O5 := Lib.hid (arown_stay O4.out b45 (fun g hg => (arown_lt O4.out g hg).2)); have B45 := Lib.hid b45; clear n5 m5 b5 hbx al5 h5 b45 x0 x1 x2 y0 y1 y2 r0 r1 r2 f0 f1 f2; obtain ⟨⟨x0, x1, x2⟩, ⟨y0, y1, y2⟩, ⟨r0, r1, r2⟩, f0, f1, f2⟩ := M5.out.cells)
    | (go_at_call 95; refine (HTG.out _ M3.out).mono ?_; rintro e w4 ⟨T, tc, rfl, o4, b4⟩; have M4 := Lib.hid (M3.out.below b4); have O4 := Lib.hid (arown_mono o4 (M3.out.fb.size)); clear b4 o4 x0 x1 x2 y0 y1 y2 r0 r1 r2 f0 f1 f2; obtain ⟨⟨x0, x1, x2⟩, ⟨y0, y1, y2⟩, ⟨r0, r1, r2⟩, f0, f1, f2⟩ := M4.out.cells)
    | (go_at_call 21; (have l0 := M2.out; clear l0); refine (HCB.out _ M2.out).mono ?_; rintro e w3 ⟨rfl, b3⟩; have M3 := Lib.hid (M2.out.below b3); clear b3 x0 x1 x2 y0 y1 y2 r0 r1 r2 f0 f1 f2; obtain ⟨⟨x0, x1, x2⟩, ⟨y0, y1, y2⟩, ⟨r0, r1, r2⟩, f0, f1, f2⟩ := M3.out.cells)
    | (go_at_call 21; refine (HCA.out _ M1.out).mono ?_; rintro e w2 ⟨rfl, b2⟩; have M2 := Lib.hid (M1.out.below b2); clear b2 x0 x1 x2 y0 y1 y2 r0 r1 r2 f0 f1 f2; obtain ⟨⟨x0, x1, x2⟩, ⟨y0, y1, y2⟩, ⟨r0, r1, r2⟩, f0, f1, f2⟩ := M2.out.cells)
    | (go_at_call 52; refine (HBN.out _).mono ?_; rintro e w1 ⟨rfl, b1⟩; have M1 := Lib.hid (M0.out.below b1); clear b1 x0 x1 x2 y0 y1 y2 r0 r1 r2 f0 f1 f2; obtain ⟨⟨x0, x1, x2⟩, ⟨y0, y1, y2⟩, ⟨r0, r1, r2⟩, f0, f1, f2⟩ := M1.out.cells))
  refine bodyPost_ret (results_arr2 rfl rfl rfl (arblk_three _ _ _ M6.out.r)) rfl ?_
  have hk3 := arkeep_three w6 (w.heap.size + 1 + 1) (.int .i64 1) (.slice T n tc) (.slice A6 N c6)
  have hO : World.ownsRow _ w.heap.size 3 1 (.slice T n tc) n (TL.map iv) := hk3.own (by rw [← HTLn.out]; rw [HTLn.out]; exact O6.out) (fun g hg e => by
    subst e
    rcases O6.out.2 with ⟨e1, _⟩ | ⟨g', cap, cur, e1, _, hh, _⟩
    · rw [e1] at hg; simp [Value.ownBlock] at hg
    · rw [e1] at hg
      have : g' = w.heap.size + 1 + 1 := by simpa [Value.ownBlock] using hg
      subst this
      exact Blk.ne_ (show Blk w6 _ 3 cur from hh) M6.out.r (by decide) rfl)
  have hP : World.ownsRow _ w.heap.size 2 1 (.slice A6 N c6) N ((apL V N).map iv) := hk3.own (arown_mono P6.out (Nat.le_trans M5.out.fb.size (Nat.le_refl _))) (fun g hg e => by
    have h1 := (arown_lt P6.out g hg).1
    have h2 := M5.out.r.lt
    omega)
  refine ⟨.agg #[.int .i64 1, .slice T n tc, .slice A6 N c6], by rw [HEE.out]; rfl, ?_⟩
  rw [HR.out]
  refine ⟨⟨T, tc, A6, c6⟩, ?_, ⟨?_, ?_⟩, M6.out.fin _ _ _⟩
  · unfold arC
    simp only [apL_length, HTLn.out]
  · show World.ownsRow _ w.heap.size 3 1 (.slice T TL.length tc) TL.length (TL.map iv)
    rw [HTLn.out]
    exact hO
  · show World.ownsRow _ w.heap.size 2 1 (.slice A6 (apL V N).length c6) (apL V N).length ((apL V N).map iv)
    rw [apL_length]
    exact hP
end Go.Proofs.Ytkabdkblcgklmaa.sc

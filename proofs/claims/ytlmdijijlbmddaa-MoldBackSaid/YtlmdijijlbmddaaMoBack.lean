/-
  The walk of the statement MoldBack.
-/
import Derived.Test.YtlmdijijlbmddaaMoBox
import Derived.Test.YtlmdijijlbmddaaMoTells
import Derived.Test.YtlmdijijlbmddaaArOpenA
namespace Go.Proofs.Ytlmdijijlbmddaa.moldBack
open Go.RowKit Go.Proofs.Ytlmdijijlbmddaa.arr Go.Proofs.Ytlmdijijlbmddaa.mo

theorem aown_mono {B C : Nat} {W : World} {a : AV} {p : AP} (h : AOwn B W a p) (hC : C ≤ B) : AOwn C W a p := ⟨arown_mono h.o0 hC, arown_mono h.o1 hC⟩
set_option maxRecDepth 100000 in
set_option maxHeartbeats 8000000 in
theorem walk (a : AV) (p : AP) (A : Option Addr) (c : Nat) (l : List Int) (w : World) (ha : AEl w a p) (hl : IArg w A c l) :
    Calls Try.prog 6 #[.agg (arC a p), .slice A l.length c] w fun e w' => e = .returned (.bool true) ∧ Below w.heap.size w w' := by
  have hbig := hl.cap
  have hbig1 := hl.big
  have hb1 := albel w (.cells (arC a p) 63)
  have hx1 := Blk.new w 63 (arC a p)
  have hLC : ∀ p, arC a p = #[.int .i64 a.kind, .slice p.A0 a.sh.length p.c0, .slice p.A1 a.el.length p.c1] := fun p => rfl
  obtain ⟨w1, hw1⟩ : ∃ w1, w.alloc (.cells (arC a p) 63) = w1 := ⟨_, rfl⟩
  rw [hw1] at hb1 hx1
  have HX : Hid (∀ W, Below w1.heap.size w1 W → W.cell? ⟨w.heap.size, 0, none⟩ = some (.int .i64 a.kind) ∧ W.cell? ⟨w.heap.size, 1, none⟩ = some (.slice p.A0 a.sh.length p.c0) ∧ W.cell? ⟨w.heap.size, 2, none⟩ = some (.slice p.A1 a.el.length p.c1)) := Lib.hid (fun W hb => ⟨(blk_up hx1 hb).cell 0, (blk_up hx1 hb).cell 1, (blk_up hx1 hb).cell 2⟩)
  have HE : Hid (∀ W, Below w1.heap.size w1 W → AEl W a p) := Lib.hid (fun W hb => (ha.below hb1).below hb)
  have HG : Hid (∀ W, Calls Try.prog 28 #[.agg #[.int .i64 a.kind, .slice p.A0 a.sh.length p.c0, .slice p.A1 a.el.length p.c1]] W fun e w' => e = .returned (.int .i64 (greatA a)) ∧ Below W.heap.size W w') := Lib.hid (fun W => argreat_any a p W)
  have HCK : Hid (∀ W, Below w1.heap.size w1 W → Calls Try.prog 29 #[.agg #[.int .i64 a.kind, .slice p.A0 a.sh.length p.c0, .slice p.A1 a.el.length p.c1]] W fun e w' => e = .returned (.int .i64 (checkE a)) ∧ Below W.heap.size W w') := Lib.hid (fun W hb => archeck_any a p W (HE.out W hb))
  have HB1 := Lib.hid hb1
  obtain ⟨x0, x1, x2⟩ := HX.out w1 (Below.refl _ _)
  have hgr : greatA a = 0 ∨ greatA a = 1 := by unfold greatA; split <;> simp
  rw [hLC p] at hw1
  rw [hLC p]
  by_cases hg : greatA a = 1
  · rw [hg] at HG
    generalize l.length = Q at *
    clear hgr hg hl ha hx1 hb1 hLC HCK
    go_enter Try.func6, Try.ntmps6
    go_wp2_with (first
      | (go_at_call 27; (try rw [hw1]); refine (l13alive _).mono ?_; rintro e w2 ⟨rfl, b2⟩; obtain ⟨x0, x1, x2⟩ := HX.out w2 b2; have B2 := Lib.hid b2; clear b2)
      | (go_at_call 28; refine (HG.out _).mono ?_; rintro e w3 ⟨rfl, b3⟩; obtain ⟨x0, x1, x2⟩ := HX.out w3 (bon B2.out b3); have B3 := Lib.hid (bon B2.out b3); clear b3))
    go_ret
    exact ⟨rfl, bon HB1.out B3.out⟩
  have hg0 : greatA a = 0 := hgr.resolve_right hg
  rw [hg0] at HG
  clear hgr hg hg0
  by_cases hQ : 100 < l.length
  · have d1 : (100 : Int) < (l.length : Int) := by omega
    generalize l.length = Q at *
    clear hl ha hx1 hb1 hLC HCK hQ
    go_enter Try.func6, Try.ntmps6
    go_wp2_with (first
      | (go_at_call 27; (try rw [hw1]); refine (l13alive _).mono ?_; rintro e w2 ⟨rfl, b2⟩; obtain ⟨x0, x1, x2⟩ := HX.out w2 b2; have B2 := Lib.hid b2; clear b2)
      | (go_at_call 28; refine (HG.out _).mono ?_; rintro e w3 ⟨rfl, b3⟩; obtain ⟨x0, x1, x2⟩ := HX.out w3 (bon B2.out b3); have B3 := Lib.hid (bon B2.out b3); clear b3))
    go_ret
    exact ⟨rfl, bon HB1.out B3.out⟩
  have d1 : ¬ (100 : Int) < (l.length : Int) := by omega
  cases ho : okA a
  · have hc : checkE a = 110 := by unfold checkE; rw [ho, if_neg (by decide)]
    rw [hc] at HCK
    generalize l.length = Q at *
    clear hl ha hx1 hb1 hLC hQ hc ho
    go_enter Try.func6, Try.ntmps6
    go_wp2_with (first
      | (go_at_call 27; (try rw [hw1]); refine (l13alive _).mono ?_; rintro e w2 ⟨rfl, b2⟩; obtain ⟨x0, x1, x2⟩ := HX.out w2 b2; have B2 := Lib.hid b2; clear b2)
      | (go_at_call 28; refine (HG.out _).mono ?_; rintro e w3 ⟨rfl, b3⟩; obtain ⟨x0, x1, x2⟩ := HX.out w3 (bon B2.out b3); have B3 := Lib.hid (bon B2.out b3); clear b3)
      | (go_at_call 29; refine (HCK.out _ B3.out).mono ?_; rintro e w4 ⟨rfl, b4⟩; have B4 := Lib.hid (bon B3.out b4); clear b4))
    go_ret
    exact ⟨rfl, bon HB1.out B4.out⟩
  have hc : checkE a = 0 := by unfold checkE; rw [ho, if_pos rfl]
  rw [hc] at HCK
  obtain ⟨k1, k2⟩ := okA_len ho
  obtain ⟨rb1, rb2, rb3⟩ := rs_back a ho
  have hf := ha.f1
  have hsf : ∀ z ∈ a.sh, -9223372036854775808 ≤ z ∧ z ≤ 9223372036854775807 := fun z hz => by
    have := lenOk_iff.1 (List.all_eq_true.1 (okShape_iff.1 (okA_iff.1 ho).1).2.1 z hz)
    omega
  have hsh : shA a = ⟨1, [(a.sh.length : Int)], a.sh⟩ := by unfold shA; rw [ho, if_pos rfl]
  have hra : raA a = ⟨a.kind, [(a.el.length : Int)], a.el⟩ := by unfold raA; rw [ho, if_pos rfl]
  have hT : tyE ⟨a.kind, [(a.el.length : Int)], a.el⟩ = 0 ∧ tyA ⟨a.kind, [(a.el.length : Int)], a.el⟩ = ⟨1, [], [(a.el.length : Int)]⟩ := by
    unfold tyE tyA
    rw [rb3, if_pos rfl, if_pos rfl]
    exact ⟨rfl, rfl⟩
  obtain ⟨XS, hXS⟩ : ∃ X : AV, (⟨1, [(a.sh.length : Int)], a.sh⟩ : AV) = X := ⟨_, rfl⟩
  obtain ⟨XR, hXR⟩ : ∃ X : AV, (⟨a.kind, [(a.el.length : Int)], a.el⟩ : AV) = X := ⟨_, rfl⟩
  have hSP : ∀ r, arC XS r = #[.int .i64 1, .slice r.A0 1 r.c0, .slice r.A1 a.sh.length r.c1] := fun r => by rw [← hXS]; rfl
  have hRP : ∀ r, arC XR r = #[.int .i64 a.kind, .slice r.A0 1 r.c0, .slice r.A1 a.el.length r.c1] := fun r => by rw [← hXR]; rfl
  have HSH : Hid (∀ W, AEl W a p → Calls Try.prog 30 #[.agg #[.int .i64 a.kind, .slice p.A0 a.sh.length p.c0, .slice p.A1 a.el.length p.c1]] W fun e w' => ∃ r : AP, e = .returned (.tuple #[.agg #[.int .i64 1, .slice r.A0 1 r.c0, .slice r.A1 a.sh.length r.c1], .int .i64 0]) ∧ AEl w' XS r ∧ Below W.heap.size W w') := Lib.hid (fun W h => by
    have := moshape_any a p W h
    rw [hsh, hc, hXS] at this
    refine this.mono ?_
    rintro e w' ⟨r, rfl, o, b⟩
    exact ⟨r, by rw [hSP], o.el (by rw [← hXS]; simp) (by rw [← hXS]; show a.sh.length ≤ _; omega) (by rw [← hXS]; exact hsf), b⟩)
  have HRV : Hid (∀ W, AEl W a p → Calls Try.prog 31 #[.agg #[.int .i64 a.kind, .slice p.A0 a.sh.length p.c0, .slice p.A1 a.el.length p.c1]] W fun e w' => ∃ r : AP, e = .returned (.tuple #[.agg #[.int .i64 a.kind, .slice r.A0 1 r.c0, .slice r.A1 a.el.length r.c1], .int .i64 0]) ∧ AEl w' XR r ∧ Below W.heap.size W w') := Lib.hid (fun W h => by
    have := moravel_any a p W h
    rw [hra, hc, hXR] at this
    refine this.mono ?_
    rintro e w' ⟨r, rfl, o, b⟩
    exact ⟨r, by rw [hRP], o.el (by rw [← hXR]; simp) (by rw [← hXR]; show a.el.length ≤ _; omega) (by rw [← hXR]; exact hf), b⟩)
  rw [hXS, hXR] at rb1 rb2
  rw [hXR] at hT
  have HRS : Hid (∀ (q r : AP) (W : World), AEl W XS q → AEl W XR r → Calls Try.prog 32 #[.agg #[.int .i64 1, .slice q.A0 1 q.c0, .slice q.A1 a.sh.length q.c1], .agg #[.int .i64 a.kind, .slice r.A0 1 r.c0, .slice r.A1 a.el.length r.c1]] W fun e w' => ∃ s : AP, e = .returned (.tuple #[.agg #[.int .i64 a.kind, .slice s.A0 a.sh.length s.c0, .slice s.A1 a.el.length s.c1], .int .i64 0]) ∧ AEl w' a s ∧ Below W.heap.size W w') := Lib.hid (fun q r W h1 h2 => by
    have := moreshape_any XS XR q r W h1 h2
    rw [rb1, rb2, hSP, hRP] at this
    refine this.mono ?_
    rintro e w' ⟨s, rfl, o, b⟩
    exact ⟨s, by rw [hLC], o.el ha.b0 ha.b1 hf, b⟩)
  have HTY : Hid (∀ (r : AP) (W : World), AEl W XR r → Calls Try.prog 33 #[.agg #[.int .i64 a.kind, .slice r.A0 1 r.c0, .slice r.A1 a.el.length r.c1]] W fun e w' => ∃ s : AP, e = .returned (.tuple #[.agg #[.int .i64 1, .slice s.A0 0 s.c0, .slice s.A1 1 s.c1], .int .i64 0]) ∧ AEl w' ⟨1, [], [(a.el.length : Int)]⟩ s ∧ Below W.heap.size W w') := Lib.hid (fun r W h => by
    have := motally_any XR r W h
    rw [hT.1, hT.2, hRP] at this
    refine this.mono ?_
    rintro e w' ⟨s, rfl, o, b⟩
    exact ⟨s, rfl, o.el (by simp) (by simp) (fun z hz => by rw [List.mem_singleton] at hz; omega), b⟩)
  have HIS : Hid (∀ (q r : AP) (W : World), AEl W a q → AEl W a r → Calls Try.prog 34 #[.agg #[.int .i64 a.kind, .slice q.A0 a.sh.length q.c0, .slice q.A1 a.el.length q.c1], .int .i64 0, .agg #[.int .i64 a.kind, .slice r.A0 a.sh.length r.c0, .slice r.A1 a.el.length r.c1]] W fun e w' => e = .returned (.bool true) ∧ Below W.heap.size W w') := Lib.hid (fun q r W h1 h2 => l13is_yes a q r W h1 h2)
  have hrl := rs_list l (by omega) a ho
  obtain ⟨XV, hXV⟩ : ∃ X : AV, (⟨1, [(l.length : Int)], l⟩ : AV) = X := ⟨_, rfl⟩
  rw [hXV] at hrl
  obtain ⟨XC, hXC⟩ : ∃ X, rsA XV a = X := ⟨_, rfl⟩
  obtain ⟨EC, hEC⟩ : ∃ X, rsE XV a = X := ⟨_, rfl⟩
  rw [hXC, hEC] at hrl
  have HRL : Hid (∀ (q : AP) (W : World), AEl W XV q → AEl W a p → Calls Try.prog 32 #[.agg (arC XV q), .agg #[.int .i64 a.kind, .slice p.A0 a.sh.length p.c0, .slice p.A1 a.el.length p.c1]] W (GiveE XC EC W)) := Lib.hid (fun q W h1 h2 => by
    have := moreshape_any XV a q p W h1 h2
    rw [hXC, hEC, hLC p] at this
    exact this)
  have HLV : Hid (∀ W, Below w1.heap.size w1 W → Calls Try.prog 36 #[.slice A l.length c] W fun e w' => ∃ r : AP, e = .returned (.agg (arC XV r)) ∧ AOwn W.heap.size w' XV r ∧ Below W.heap.size W w') := Lib.hid (fun W hb => by
    rw [← hXV]
    refine (arvector_any A l.length c l W rfl ((hl.reads.below (bon hb1 hb)).more (bon hb1 hb).size) (by omega)).mono ?_
    rintro e w' ⟨v, rfl, r, rfl, o, b⟩
    exact ⟨r, rfl, o, b⟩)
  have HVF : Hid (XV.sh.length ≤ 9223372036854775807 ∧ XV.el.length ≤ 9223372036854775807 ∧ ∀ z ∈ XV.el, -9223372036854775808 ≤ z ∧ z ≤ 9223372036854775807) := Lib.hid (by
    rw [← hXV]
    exact ⟨by simp, by show l.length ≤ _; omega, hl.fine⟩)
  have HRLS : Hid ((EC = 5 ∨ EC = 9) ∨ (EC = 0 ∧ okShape l = true ∧ XC.kind = a.kind ∧ (XC.el.length : Int) = prodI l ∧ ∀ k, k < XC.el.length → 0 < a.el.length → XC.el.getD k 0 = a.el.getD (k % a.el.length) 0)) := Lib.hid (by
    rcases hrl with ⟨h, _⟩ | ⟨h1, h2, h3⟩
    · exact .inl h
    · refine .inr ⟨h1, h2, by rw [h3]; rfl, ?_, fun k hk hN => ?_⟩
      · rw [h3]
        show (((List.range (prodI l).toNat).map (rsV a)).length : Int) = _
        rw [List.length_map, List.length_range]
        have := (prodI_bounds _ (okShape_iff.1 h2).2.1).1
        omega
      · rw [h3] at hk ⊢
        have hk2 : k < (prodI l).toNat := by
          have h4 : ((List.range (prodI l).toNat).map (rsV a)).length = (prodI l).toNat := by rw [List.length_map, List.length_range]
          have h5 : k < ((List.range (prodI l).toNat).map (rsV a)).length := hk
          omega
        show ((List.range (prodI l).toNat).map (rsV a)).getD k 0 = _
        rw [List.getD_eq_getElem?_getD, List.getElem?_map, List.getElem?_range hk2]
        show rsV a k = _
        unfold rsV
        rw [if_neg (by omega)])
  have HFN := Lib.hid (fun i => rsV_fine a hf i)
  have HLR := Lib.hid (fun W (hb : Below w1.heap.size w1 W) => (hl.reads.below (bon hb1 hb)).more (bon hb1 hb).size)
  have HK := Lib.hid (And.intro k1 k2)
  have HRV2 : Hid (∀ i, 0 < a.el.length → rsV a i = a.el.getD (i % a.el.length) 0) := Lib.hid (fun i h => by unfold rsV; rw [if_neg (by omega)])
  obtain ⟨Q, hQl⟩ : ∃ Q, l.length = Q := ⟨_, rfl⟩
  obtain ⟨N, hNl⟩ : ∃ N, a.el.length = N := ⟨_, rfl⟩
  have HQL := Lib.hid hQl
  have HNL := Lib.hid hNl
  have hN4 : N ≤ 4096 := by omega
  have hQ100 : Q ≤ 100 := by omega
  rw [hQl] at HLV d1
  rw [hNl] at HRL HTY HRS HRV HSH HCK HG HX HRV2 HIS HRLS x2 hw1
  rw [hQl, hNl]
  generalize a.sh.length = rk at *
  generalize a.kind = ka at *
  clear hbig hbig1 hb1 hx1 hLC hQ hc k1 k2 rb1 rb2 rb3 hf hsf hsh hra hT hXS hXR hSP hRP hrl hXV hXC hEC hQl hNl ha hl ho
  go_enter Try.func6, Try.ntmps6
  go_upto_region 4 with (first
    | (go_at_call 27; (try rw [hw1]); refine (l13alive _).mono ?_; rintro e w2 ⟨rfl, b2⟩; obtain ⟨x0, x1, x2⟩ := HX.out w2 b2; have B2 := Lib.hid b2; clear b2)
    | (go_at_call 28; refine (HG.out _).mono ?_; rintro e w3 ⟨rfl, b3⟩; obtain ⟨x0, x1, x2⟩ := HX.out w3 (bon B2.out b3); have B3 := Lib.hid (bon B2.out b3); clear b3)
    | (go_at_call 29; refine (HCK.out _ B3.out).mono ?_; rintro e w4 ⟨rfl, b4⟩; obtain ⟨x0, x1, x2⟩ := HX.out w4 (bon B3.out b4); have B4 := Lib.hid (bon B3.out b4); clear b4))
  go_upto_region 5 with (go_at_call 30; refine (HSH.out _ (HE.out w4 B4.out)).mono ?_; rintro e w5 ⟨p5, rfl, h5, b5⟩; have E5 := Lib.hid h5; have B5 := Lib.hid (bon B4.out b5); clear h5 b5)
  obtain ⟨w6, hw6⟩ : ∃ w6, w5.alloc (.cells #[.int .i64 1, .slice p5.A0 1 p5.c0, .slice p5.A1 rk p5.c1] 63) = w6 := ⟨_, rfl⟩
  obtain ⟨g6, hg6⟩ : ∃ g, w5.heap.size = g := ⟨_, rfl⟩
  have K6 : Hid (Blk w6 g6 63 #[.int .i64 1, .slice p5.A0 1 p5.c0, .slice p5.A1 rk p5.c1]) := Lib.hid (by rw [← hw6, ← hg6]; exact Blk.new _ _ _)
  have E6 : Hid (AEl w6 XS p5) := Lib.hid (by rw [← hw6]; exact E5.out.below (albel _ _))
  have B6 : Hid (Below w1.heap.size w1 w6) := Lib.hid (by rw [← hw6]; exact bon B5.out (albel _ _))
  obtain ⟨x0, x1, x2⟩ := HX.out w6 B6.out
  rw [hw6, hg6]
  clear hw6 hg6 E5 B5 B4 B3 B2 HG HCK HSH
  go_upto_region 6 with (go_at_call 31; refine (HRV.out _ (HE.out w6 B6.out)).mono ?_; rintro e w7 ⟨p7, rfl, h7, b7⟩; have E7 := Lib.hid h7; have E6 := Lib.hid (E6.out.below b7); have K6 := Lib.hid (blk_up K6.out b7); have B7 := Lib.hid (bon B6.out b7); clear h7 b7)
  obtain ⟨w8, hw8⟩ : ∃ w8, w7.alloc (.cells #[.int .i64 ka, .slice p7.A0 1 p7.c0, .slice p7.A1 N p7.c1] 63) = w8 := ⟨_, rfl⟩
  obtain ⟨g8, hg8⟩ : ∃ g, w7.heap.size = g := ⟨_, rfl⟩
  have K8 : Hid (Blk w8 g8 63 #[.int .i64 ka, .slice p7.A0 1 p7.c0, .slice p7.A1 N p7.c1]) := Lib.hid (by rw [← hw8, ← hg8]; exact Blk.new _ _ _)
  have K6 := Lib.hid (show Blk w8 g6 63 #[.int .i64 1, .slice p5.A0 1 p5.c0, .slice p5.A1 rk p5.c1] by rw [← hw8]; exact K6.out.alloc _)
  have F6 : Hid (AEl w8 XS p5) := Lib.hid (by rw [← hw8]; exact E6.out.below (albel _ _))
  have F7 : Hid (AEl w8 XR p7) := Lib.hid (by rw [← hw8]; exact E7.out.below (albel _ _))
  have B8 : Hid (Below w1.heap.size w1 w8) := Lib.hid (by rw [← hw8]; exact bon B7.out (albel _ _))
  rw [hw8, hg8]
  have y0 := K6.out.cell 0
  have y1 := K6.out.cell 1
  have y2 := K6.out.cell 2
  have z0 := K8.out.cell 0
  have z1 := K8.out.cell 1
  have z2 := K8.out.cell 2
  clear x0 x1 x2 hw8 hg8 E6 E7 B7 HRV
  go_upto_region 7 with (go_at_call 32; refine (HRS.out p5 p7 _ F6.out F7.out).mono ?_; rintro e w9 ⟨p9, rfl, h9, b9⟩; have E9 := Lib.hid h9; have E7 := Lib.hid (F7.out.below b9); have K8 := Lib.hid (blk_up K8.out b9); have B9 := Lib.hid (bon B8.out b9); clear h9 b9)
  obtain ⟨w10, hw10⟩ : ∃ w10, w9.alloc (.cells #[.int .i64 ka, .slice p9.A0 rk p9.c0, .slice p9.A1 N p9.c1] 63) = w10 := ⟨_, rfl⟩
  obtain ⟨g10, hg10⟩ : ∃ g, w9.heap.size = g := ⟨_, rfl⟩
  have K10 : Hid (Blk w10 g10 63 #[.int .i64 ka, .slice p9.A0 rk p9.c0, .slice p9.A1 N p9.c1]) := Lib.hid (by rw [← hw10, ← hg10]; exact Blk.new _ _ _)
  have L8 := Lib.hid (show Blk w10 g8 63 #[.int .i64 ka, .slice p7.A0 1 p7.c0, .slice p7.A1 N p7.c1] by rw [← hw10]; exact K8.out.alloc _)
  have G7 : Hid (AEl w10 XR p7) := Lib.hid (by rw [← hw10]; exact E7.out.below (albel _ _))
  have G9 : Hid (AEl w10 a p9) := Lib.hid (by rw [← hw10]; exact E9.out.below (albel _ _))
  have B10 : Hid (Below w1.heap.size w1 w10) := Lib.hid (by rw [← hw10]; exact bon B9.out (albel _ _))
  rw [hw10, hg10]
  have z0 := L8.out.cell 0
  have z1 := L8.out.cell 1
  have z2 := L8.out.cell 2
  clear y0 y1 y2 hw10 hg10 E7 E9 B9 HRS K6 K8 F6 F7
  go_upto_region 8 with (go_at_call 33; refine (HTY.out p7 _ G7.out).mono ?_; rintro e w11 ⟨p11, rfl, h11, b11⟩; have E11 := Lib.hid h11; have E9 := Lib.hid (G9.out.below b11); have K10 := Lib.hid (blk_up K10.out b11); have B11 := Lib.hid (bon B10.out b11); clear h11 b11)
  obtain ⟨w12, hw12⟩ : ∃ w12, w11.alloc (.cells #[.int .i64 1, .slice p11.A0 0 p11.c0, .slice p11.A1 1 p11.c1] 63) = w12 := ⟨_, rfl⟩
  obtain ⟨g12, hg12⟩ : ∃ g, w11.heap.size = g := ⟨_, rfl⟩
  have K12 : Blk w12 g12 63 #[.int .i64 1, .slice p11.A0 0 p11.c0, .slice p11.A1 1 p11.c1] := by rw [← hw12, ← hg12]; exact Blk.new _ _ _
  have L10 : Blk w12 g10 63 #[.int .i64 ka, .slice p9.A0 rk p9.c0, .slice p9.A1 N p9.c1] := by rw [← hw12]; exact K10.out.alloc _
  have HX10 : Hid (∀ W, Below w12.heap.size w12 W → W.cell? ⟨g10, 0, none⟩ = some (.int .i64 ka) ∧ W.cell? ⟨g10, 1, none⟩ = some (.slice p9.A0 rk p9.c0) ∧ W.cell? ⟨g10, 2, none⟩ = some (.slice p9.A1 N p9.c1)) := Lib.hid (fun W hb => ⟨(blk_up L10 hb).cell 0, (blk_up L10 hb).cell 1, (blk_up L10 hb).cell 2⟩)
  have HX12 : Hid (∀ W, Below w12.heap.size w12 W → W.cell? ⟨g12, 0, none⟩ = some (.int .i64 1) ∧ W.cell? ⟨g12, 1, none⟩ = some (.slice p11.A0 0 p11.c0) ∧ W.cell? ⟨g12, 2, none⟩ = some (.slice p11.A1 1 p11.c1)) := Lib.hid (fun W hb => ⟨(blk_up K12 hb).cell 0, (blk_up K12 hb).cell 1, (blk_up K12 hb).cell 2⟩)
  have HE9 : Hid (∀ W, Below w12.heap.size w12 W → AEl W a p9) := Lib.hid (fun W hb => AEl.below (by rw [← hw12]; exact E9.out.below (albel _ _)) hb)
  have HE11 : Hid (∀ W, Below w12.heap.size w12 W → AEl W ⟨1, [], [(N : Int)]⟩ p11) := Lib.hid (fun W hb => AEl.below (by rw [← hw12]; exact E11.out.below (albel _ _)) hb)
  have B12 : Hid (Below w1.heap.size w1 w12) := Lib.hid (by rw [← hw12]; exact bon B11.out (albel _ _))
  have HPX : Hid (∀ p, arC XC p = #[.int .i64 XC.kind, .slice p.A0 XC.sh.length p.c0, .slice p.A1 XC.el.length p.c1]) := Lib.hid (fun p => rfl)
  have HU8 : GU (lookU [(3, xv (.bool true)), (19, xa ⟨1, [], [(N : Int)]⟩), (20, xv (.bool true))]) := lookU_stay (by
    intro x hx
    simp only [List.mem_cons, List.not_mem_nil, or_false] at hx
    rcases hx with rfl | rfl | rfl <;> first | exact xa_stk _ | exact xv_stk _)
  rw [hw12, hg12]
  clear hw12 hg12 K12 L10 E9 E11 B11 z0 z1 z2 HTY G7 G9 L8 K10
  refine wp_region_done_on (GS _) (GR [3, 19, 20] (lookU [(3, xv (.bool true)), (19, xa ⟨1, [], [(N : Int)]⟩), (20, xv (.bool true))]) [.agg #[.int .i64 ka, .slice p9.A0 rk p9.c0, .slice p9.A1 N p9.c1], .int .i64 0, .agg #[.int .i64 ka, .slice p.A0 rk p.c0, .slice p.A1 N p.c1], undef, .bool false, .bool false, .int .i64 0, .bool false, .bool false, .bool false, .int .i64 0, .bool false, .bool false, .bool false, .agg #[.int .i64 1, .slice p11.A0 0 p11.c0, .slice p11.A1 1 p11.c1], .int .i64 0, .pointer (some ⟨w.heap.size, 2, none⟩), .slice p.A1 N p.c1, .int .i64 (N : Int), undef, undef, .bool false, .bool false]) (by kernel_rfl) 153 rfl (by kernel_rfl) ((Below.refl _ _).drew) ?_ ?_
  · intro i hi
    have hi2 : i < 23 := hi
    clear hi
    rcases i with _ | i
    · refine gr_value rfl (by decide) (.agg #[.int .i64 ka, .slice p9.A0 rk p9.c0, .slice p9.A1 N p9.c1]) rfl ?_
      intro a8 w8 hb8 ho hn
      have o10 : a8.tmps[10]? = some _ := (ho 10 (by kernel_rfl)).trans rfl
      clear ho hn
      refine ⟨wanted_free rfl, ?_⟩
      obtain ⟨x0, x1, x2⟩ := HX10.out w8 hb8
      go_simp
    rcases i with _ | i
    · refine gr_value rfl (by decide) (.int .i64 0) rfl ?_
      intro a8 w8 hb8 ho hn
      have o11 : a8.tmps[11]? = some _ := (ho 11 (by kernel_rfl)).trans rfl
      clear ho hn
      refine ⟨wanted_free rfl, ?_⟩
      go_simp
    rcases i with _ | i
    · refine gr_value rfl (by decide) (.agg #[.int .i64 ka, .slice p.A0 rk p.c0, .slice p.A1 N p.c1]) rfl ?_
      intro a8 w8 hb8 ho hn
      have o2 : a8.tmps[2]? = some _ := (ho 2 (by kernel_rfl)).trans rfl
      clear ho hn
      refine ⟨wanted_free rfl, ?_⟩
      obtain ⟨x0, x1, x2⟩ := HX.out w8 (bon B12.out hb8)
      go_simp
    rcases i with _ | i
    · refine gr_call HU8 34 rfl (by decide) ?_
      intro a8 w8 hb8 ho hn
      obtain ⟨v59, n59, hq59⟩ := hn 0 59 (by kernel_rfl) rfl
      obtain rfl := hq59.1 (by decide)
      obtain ⟨v60, n60, hq60⟩ := hn 1 60 (by kernel_rfl) rfl
      obtain rfl := hq60.1 (by decide)
      obtain ⟨v61, n61, hq61⟩ := hn 2 61 (by kernel_rfl) rfl
      obtain rfl := hq61.1 (by decide)
      clear ho hn
      refine ⟨wanted_free rfl, ?_⟩
      refine ⟨#[.agg #[.int .i64 ka, .slice p9.A0 rk p9.c0, .slice p9.A1 N p9.c1], .int .i64 0, .agg #[.int .i64 ka, .slice p.A0 rk p.c0, .slice p.A1 N p.c1]], (by go_simp), (HIS.out p9 p w8 (HE9.out w8 hb8) (HE.out w8 (bon B12.out hb8))).mono ?_⟩
      rintro e w9 ⟨rfl, b9⟩
      exact ⟨_, rfl, b9, rfl⟩
    rcases i with _ | i
    · refine gr_value rfl (by decide) (.bool false) rfl ?_
      intro a8 w8 hb8 ho hn
      obtain ⟨v62, n62, hq62⟩ := hn 3 62 (by kernel_rfl) rfl
      have hv62 := hq62.2 (by decide)
      clear ho hn
      refine ⟨wanted_free rfl, ?_⟩
      obtain rfl : v62 = .bool true := hv62
      go_simp
    rcases i with _ | i
    · refine gr_value rfl (by decide) (.bool false) rfl ?_
      intro a8 w8 hb8 ho hn
      obtain ⟨v63, n63, hq63⟩ := hn 4 63 (by kernel_rfl) rfl
      obtain rfl := hq63.1 (by decide)
      clear ho hn
      refine ⟨wanted_free rfl, ?_⟩
      go_simp
    rcases i with _ | i
    · refine gr_value rfl (by decide) (.int .i64 0) rfl ?_
      intro a8 w8 hb8 ho hn
      have o7 : a8.tmps[7]? = some _ := (ho 7 (by kernel_rfl)).trans rfl
      obtain ⟨v64, n64, hq64⟩ := hn 5 64 (by kernel_rfl) rfl
      obtain rfl := hq64.1 (by decide)
      clear ho hn
      refine ⟨wanted_of 5 64 rfl rfl n64, ?_⟩
      go_simp
    rcases i with _ | i
    · refine gr_value rfl (by decide) (.bool false) rfl ?_
      intro a8 w8 hb8 ho hn
      obtain ⟨v65, n65, hq65⟩ := hn 6 65 (by kernel_rfl) rfl
      obtain rfl := hq65.1 (by decide)
      obtain ⟨v64, n64, hq64⟩ := hn 5 64 (by kernel_rfl) rfl
      obtain rfl := hq64.1 (by decide)
      clear ho hn
      refine ⟨wanted_of 5 64 rfl rfl n64, ?_⟩
      go_simp
    rcases i with _ | i
    · refine gr_value rfl (by decide) (.bool false) rfl ?_
      intro a8 w8 hb8 ho hn
      obtain ⟨v64, n64, hq64⟩ := hn 5 64 (by kernel_rfl) rfl
      obtain rfl := hq64.1 (by decide)
      obtain ⟨v66, n66, hq66⟩ := hn 7 66 (by kernel_rfl) rfl
      obtain rfl := hq66.1 (by decide)
      clear ho hn
      refine ⟨wanted_free rfl, ?_⟩
      go_simp
    rcases i with _ | i
    · refine gr_value rfl (by decide) (.bool false) rfl ?_
      intro a8 w8 hb8 ho hn
      obtain ⟨v67, n67, hq67⟩ := hn 8 67 (by kernel_rfl) rfl
      obtain rfl := hq67.1 (by decide)
      clear ho hn
      refine ⟨wanted_free rfl, ?_⟩
      go_simp
    rcases i with _ | i
    · refine gr_value rfl (by decide) (.int .i64 0) rfl ?_
      intro a8 w8 hb8 ho hn
      have o9 : a8.tmps[9]? = some _ := (ho 9 (by kernel_rfl)).trans rfl
      obtain ⟨v68, n68, hq68⟩ := hn 9 68 (by kernel_rfl) rfl
      obtain rfl := hq68.1 (by decide)
      clear ho hn
      refine ⟨wanted_of 9 68 rfl rfl n68, ?_⟩
      go_simp
    rcases i with _ | i
    · refine gr_value rfl (by decide) (.bool false) rfl ?_
      intro a8 w8 hb8 ho hn
      obtain ⟨v69, n69, hq69⟩ := hn 10 69 (by kernel_rfl) rfl
      obtain rfl := hq69.1 (by decide)
      obtain ⟨v68, n68, hq68⟩ := hn 9 68 (by kernel_rfl) rfl
      obtain rfl := hq68.1 (by decide)
      clear ho hn
      refine ⟨wanted_of 9 68 rfl rfl n68, ?_⟩
      go_simp
    rcases i with _ | i
    · refine gr_value rfl (by decide) (.bool false) rfl ?_
      intro a8 w8 hb8 ho hn
      obtain ⟨v68, n68, hq68⟩ := hn 9 68 (by kernel_rfl) rfl
      obtain rfl := hq68.1 (by decide)
      obtain ⟨v70, n70, hq70⟩ := hn 11 70 (by kernel_rfl) rfl
      obtain rfl := hq70.1 (by decide)
      clear ho hn
      refine ⟨wanted_free rfl, ?_⟩
      go_simp
    rcases i with _ | i
    · refine gr_value rfl (by decide) (.bool false) rfl ?_
      intro a8 w8 hb8 ho hn
      obtain ⟨v71, n71, hq71⟩ := hn 12 71 (by kernel_rfl) rfl
      obtain rfl := hq71.1 (by decide)
      clear ho hn
      refine ⟨wanted_free rfl, ?_⟩
      go_simp
    rcases i with _ | i
    · refine gr_value rfl (by decide) (.agg #[.int .i64 1, .slice p11.A0 0 p11.c0, .slice p11.A1 1 p11.c1]) rfl ?_
      intro a8 w8 hb8 ho hn
      have o12 : a8.tmps[12]? = some _ := (ho 12 (by kernel_rfl)).trans rfl
      obtain ⟨v72, n72, hq72⟩ := hn 13 72 (by kernel_rfl) rfl
      obtain rfl := hq72.1 (by decide)
      clear ho hn
      refine ⟨wanted_of 13 72 rfl rfl n72, ?_⟩
      obtain ⟨x0, x1, x2⟩ := HX12.out w8 hb8
      go_simp
    rcases i with _ | i
    · refine gr_value rfl (by decide) (.int .i64 0) rfl ?_
      intro a8 w8 hb8 ho hn
      have o13 : a8.tmps[13]? = some _ := (ho 13 (by kernel_rfl)).trans rfl
      obtain ⟨v72, n72, hq72⟩ := hn 13 72 (by kernel_rfl) rfl
      obtain rfl := hq72.1 (by decide)
      clear ho hn
      refine ⟨wanted_of 13 72 rfl rfl n72, ?_⟩
      go_simp
    rcases i with _ | i
    · refine gr_value rfl (by decide) (.pointer (some ⟨w.heap.size, 2, none⟩)) rfl ?_
      intro a8 w8 hb8 ho hn
      have o2 : a8.tmps[2]? = some _ := (ho 2 (by kernel_rfl)).trans rfl
      obtain ⟨v72, n72, hq72⟩ := hn 13 72 (by kernel_rfl) rfl
      obtain rfl := hq72.1 (by decide)
      clear ho hn
      refine ⟨wanted_of 13 72 rfl rfl n72, ?_⟩
      go_simp
    rcases i with _ | i
    · refine gr_value rfl (by decide) (.slice p.A1 N p.c1) rfl ?_
      intro a8 w8 hb8 ho hn
      obtain ⟨v75, n75, hq75⟩ := hn 16 75 (by kernel_rfl) rfl
      obtain rfl := hq75.1 (by decide)
      obtain ⟨v72, n72, hq72⟩ := hn 13 72 (by kernel_rfl) rfl
      obtain rfl := hq72.1 (by decide)
      clear ho hn
      refine ⟨wanted_of 13 72 rfl rfl n72, ?_⟩
      obtain ⟨x0, x1, x2⟩ := HX.out w8 (bon B12.out hb8)
      go_simp
    rcases i with _ | i
    · refine gr_value rfl (by decide) (.int .i64 (N : Int)) rfl ?_
      intro a8 w8 hb8 ho hn
      obtain ⟨v76, n76, hq76⟩ := hn 17 76 (by kernel_rfl) rfl
      obtain rfl := hq76.1 (by decide)
      obtain ⟨v72, n72, hq72⟩ := hn 13 72 (by kernel_rfl) rfl
      obtain rfl := hq72.1 (by decide)
      clear ho hn
      refine ⟨wanted_of 13 72 rfl rfl n72, ?_⟩
      go_simp
    rcases i with _ | i
    · refine gr_call HU8 35 rfl (by decide) ?_
      intro a8 w8 hb8 ho hn
      obtain ⟨v77, n77, hq77⟩ := hn 18 77 (by kernel_rfl) rfl
      obtain rfl := hq77.1 (by decide)
      obtain ⟨v72, n72, hq72⟩ := hn 13 72 (by kernel_rfl) rfl
      obtain rfl := hq72.1 (by decide)
      clear ho hn
      refine ⟨wanted_of 13 72 rfl rfl n72, ?_⟩
      refine ⟨#[.int .i64 (N : Int)], (by go_simp), (l13scalar (N : Int) (by omega) (by omega) w8).mono ?_⟩
      rintro e w9 ⟨q, rfl, h9, c9, b9⟩
      exact ⟨_, rfl, b9, q, rfl, h9, c9⟩
    rcases i with _ | i
    · refine gr_call HU8 34 rfl (by decide) ?_
      intro a8 w8 hb8 ho hn
      obtain ⟨v73, n73, hq73⟩ := hn 14 73 (by kernel_rfl) rfl
      obtain rfl := hq73.1 (by decide)
      obtain ⟨v74, n74, hq74⟩ := hn 15 74 (by kernel_rfl) rfl
      obtain rfl := hq74.1 (by decide)
      obtain ⟨v78, n78, hq78⟩ := hn 19 78 (by kernel_rfl) rfl
      have hv78 : xa ⟨1, [], [(N : Int)]⟩ v78 w8 := hq78.2 (by decide)
      obtain ⟨v72, n72, hq72⟩ := hn 13 72 (by kernel_rfl) rfl
      obtain rfl := hq72.1 (by decide)
      clear ho hn
      refine ⟨wanted_of 13 72 rfl rfl n72, ?_⟩
      obtain ⟨q, rfl, h9, c9⟩ := hv78
      refine ⟨#[.agg #[.int .i64 1, .slice p11.A0 0 p11.c0, .slice p11.A1 1 p11.c1], .int .i64 0, .agg (arC ⟨1, [], [(N : Int)]⟩ q)], (by go_simp), (l13is_yes ⟨1, [], [(N : Int)]⟩ p11 q w8 (HE11.out w8 hb8) h9).mono ?_⟩
      rintro e w9 ⟨rfl, b9⟩
      exact ⟨_, rfl, b9, rfl⟩
    rcases i with _ | i
    · refine gr_value rfl (by decide) (.bool false) rfl ?_
      intro a8 w8 hb8 ho hn
      obtain ⟨v79, n79, hq79⟩ := hn 20 79 (by kernel_rfl) rfl
      have hv79 := hq79.2 (by decide)
      obtain ⟨v72, n72, hq72⟩ := hn 13 72 (by kernel_rfl) rfl
      obtain rfl := hq72.1 (by decide)
      clear ho hn
      refine ⟨wanted_of 13 72 rfl rfl n72, ?_⟩
      obtain rfl : v79 = .bool true := hv79
      go_simp
    rcases i with _ | i
    · refine gr_value rfl (by decide) (.bool false) rfl ?_
      intro a8 w8 hb8 ho hn
      obtain ⟨v72, n72, hq72⟩ := hn 13 72 (by kernel_rfl) rfl
      obtain rfl := hq72.1 (by decide)
      obtain ⟨v80, n80, hq80⟩ := hn 21 80 (by kernel_rfl) rfl
      obtain rfl := hq80.1 (by decide)
      clear ho hn
      refine ⟨wanted_free rfl, ?_⟩
      go_simp
    omega
  · intro dn fv w13 hb13 hR5 hall
    have h81 : fv 81 = _ := (hR5 22 81 rfl).1 (by decide)
    simp only [putAll, List.foldl_cons, List.foldl_nil, Act.put, List.setIfInBounds_toArray, List.set_cons_succ, List.set_cons_zero, h81, List.getD_cons_zero, List.getD_cons_succ]
    clear hR5 hall
    have h81' : fv 81 = .bool false := h81
    try rw [h81']
    have B13 := Lib.hid (bon B12.out hb13)
    generalize fv 59 = v59
    generalize fv 60 = v60
    generalize fv 61 = v61
    generalize fv 62 = v62
    generalize fv 63 = v63
    generalize fv 64 = v64
    generalize fv 65 = v65
    generalize fv 66 = v66
    generalize fv 67 = v67
    generalize fv 68 = v68
    generalize fv 69 = v69
    generalize fv 70 = v70
    generalize fv 71 = v71
    generalize fv 72 = v72
    generalize fv 73 = v73
    generalize fv 74 = v74
    generalize fv 75 = v75
    generalize fv 76 = v76
    generalize fv 77 = v77
    generalize fv 78 = v78
    generalize fv 79 = v79
    generalize fv 80 = v80
    clear h81 h81' hb13 HX10 HX12 HE9 HE11 HU8
    go_upto_region 10 with (fail)
    have HUX : BxU w13 (lookU [(1, xo w13 XV), (3, xto w13 XC EC), (4, xto w13 XC EC), (5, xo w13 XC)]) := lookU_two (by
      intro x hx
      simp only [List.mem_cons, List.not_mem_nil, or_false] at hx
      rcases hx with rfl | rfl | rfl | rfl <;> first | exact xo_stk _ _ | exact xto_stk _ _ _)
    refine wp_region_doneT_on (BxS w13 7 8 14 XC) (bxR 7 [1, 3, 4, 5] (lookU [(1, xo w13 XV), (3, xto w13 XC EC), (4, xto w13 XC EC), (5, xo w13 XC)]) [.slice A Q c, undef, .agg #[.int .i64 ka, .slice p.A0 rk p.c0, .slice p.A1 N p.c1], undef, undef, undef, .int .i64 EC, undef, undef, .int .i64 EC]) (by kernel_rfl) 153 rfl (by kernel_rfl) ⟨(Below.refl _ _).drew, fun e => (by cases e), fun e => (by cases e)⟩ ?_ ?_
    · intro i hi
      have hi2 : i < 10 := hi
      clear hi
      rcases i with _ | i
      · refine bx_value HUX rfl (by decide) (by decide) (by decide) 83 rfl (by decide) (.slice A Q c) rfl ?_
        intro a8 w8 hb8 ho hn
        have o1 : a8.tmps[1]? = some _ := (ho 1 (by kernel_rfl)).trans rfl
        clear ho hn
        refine ⟨wanted_free rfl, ?_⟩
        go_simp
      rcases i with _ | i
      · refine bx_call HUX 36 rfl (by decide) (by decide) (by decide) 84 rfl (by decide) ?_
        intro a8 w8 hb8 ho hn
        obtain ⟨v83, n83, hq83⟩ := hn 0 83 (by kernel_rfl) rfl
        obtain rfl := hq83.1 (by decide) (by decide)
        clear ho hn
        refine ⟨wanted_free rfl, ?_⟩
        refine ⟨#[.slice A Q c], (by go_simp), (HLV.out w8 (bon B13.out hb8)).mono ?_⟩
        rintro e w9 ⟨r, rfl, o, b⟩
        exact ⟨_, rfl, b, r, rfl, aown_mono o hb8.size⟩
      rcases i with _ | i
      · refine bx_value HUX rfl (by decide) (by decide) (by decide) 85 rfl (by decide) (.agg #[.int .i64 ka, .slice p.A0 rk p.c0, .slice p.A1 N p.c1]) rfl ?_
        intro a8 w8 hb8 ho hn
        have o2 : a8.tmps[2]? = some _ := (ho 2 (by kernel_rfl)).trans rfl
        clear ho hn
        refine ⟨wanted_free rfl, ?_⟩
        obtain ⟨x0, x1, x2⟩ := HX.out w8 (bon B13.out hb8)
        go_simp
      rcases i with _ | i
      · refine bx_call HUX 32 rfl (by decide) (by decide) (by decide) 86 rfl (by decide) ?_
        intro a8 w8 hb8 ho hn
        obtain ⟨v84, n84, hq84⟩ := hn 1 84 (by kernel_rfl) rfl
        have hv84 : xo w13 XV v84 w8 := hq84.2 (by decide)
        obtain ⟨v85, n85, hq85⟩ := hn 2 85 (by kernel_rfl) rfl
        obtain rfl := hq85.1 (by decide) (by decide)
        clear ho hn
        refine ⟨wanted_free rfl, ?_⟩
        obtain ⟨q, rfl, o⟩ := hv84
        refine ⟨#[.agg (arC XV q), .agg #[.int .i64 ka, .slice p.A0 rk p.c0, .slice p.A1 N p.c1]], (by go_simp), (HRL.out q w8 (o.el HVF.out.1 HVF.out.2.1 HVF.out.2.2) (HE.out w8 (bon B13.out hb8))).mono ?_⟩
        rintro e w9 ⟨r, rfl, o9, b9⟩
        exact ⟨_, rfl, b9, r, rfl, aown_mono o9 hb8.size⟩
      rcases i with _ | i
      · refine bx_make HUX rfl (by decide) (by decide) (by decide) 82 rfl (by decide) ?_
        intro a8 w8 hb8 ho hn
        obtain ⟨v86, n86, hq86⟩ := hn 3 86 (by kernel_rfl) rfl
        have hv86 : xto w13 XC EC v86 w8 := hq86.2 (by decide)
        clear ho hn
        refine ⟨wanted_free rfl, ?_⟩
        exact ⟨v86, w8, (by go_simp), Below.refl _ _, hv86⟩
      rcases i with _ | i
      · refine bx_make HUX rfl (by decide) (by decide) (by decide) 87 rfl (by decide) ?_
        intro a8 w8 hb8 ho hn
        obtain ⟨v82, n82, hq82⟩ := hn 4 82 (by kernel_rfl) rfl
        have hv82 : xto w13 XC EC v82 w8 := hq82.2 (by decide)
        clear ho hn
        refine ⟨wanted_free rfl, ?_⟩
        obtain ⟨q, rfl, o⟩ := hv82
        exact ⟨.agg (arC XC q), w8, (by go_simp), Below.refl _ _, q, rfl, o⟩
      rcases i with _ | i
      · refine bx_value HUX rfl (by decide) (by decide) (by decide) 88 rfl (by decide) (.int .i64 EC) rfl ?_
        intro a8 w8 hb8 ho hn
        obtain ⟨v82, n82, hq82⟩ := hn 4 82 (by kernel_rfl) rfl
        have hv82 : xto w13 XC EC v82 w8 := hq82.2 (by decide)
        clear ho hn
        refine ⟨wanted_free rfl, ?_⟩
        obtain ⟨q, rfl, o⟩ := hv82
        go_simp
      rcases i with _ | i
      · refine bx_alloc HUX rfl (by decide) (by decide) rfl (.int .i64 0) (.slice none 0 0) (.slice none 0 0) ?_
        intro a8 w8 ho
        have o152 : a8.tmps[152]? = some _ := (ho 152 (by kernel_rfl)).trans rfl
        have hsz : 152 < a8.tmps.size := (Array.getElem?_eq_some_iff.1 o152).1
        refine ⟨by omega, wanted_free rfl, ?_⟩
        go_simp
      rcases i with _ | i
      · refine bx_store HUX rfl rfl (by decide) (by decide) rfl (by kernel_rfl) rfl ?_
        intro a8 w8 g u0 u1 u2 hg n14 hn
        obtain ⟨v87, n87, hq87⟩ := hn 5 87 (by kernel_rfl) rfl
        have hv87 : xo w13 XC v87 w8 := hq87.2 (by decide)
        clear hn
        refine ⟨wanted_free rfl, ?_⟩
        obtain ⟨r, rfl, o⟩ := hv87
        have x0 := hg.cell 0
        have x1 := hg.cell 1
        have x2 := hg.cell 2
        have f0 := hg.frozen 0
        have f1 := hg.frozen 1
        have f2 := hg.frozen 2
        refine ⟨r, o, ?_⟩
        rw [HPX.out r] at n87
        clear hg o
        go_simp
      rcases i with _ | i
      · refine bx_value HUX rfl (by decide) (by decide) (by decide) 15 rfl (by decide) (.int .i64 EC) rfl ?_
        intro a8 w8 hb8 ho hn
        obtain ⟨v88, n88, hq88⟩ := hn 6 88 (by kernel_rfl) rfl
        obtain rfl := hq88.1 (by decide) (by decide)
        clear ho hn
        refine ⟨wanted_free rfl, ?_⟩
        go_simp
      omega
    · intro dn fv w14 hS7 hR7 hall
      obtain ⟨g14, e14, _, _, hfin⟩ := hS7.h (hall 7 (by decide))
      obtain ⟨r14, hb14, ho14⟩ := hfin (hall 8 (by decide))
      have hbw := hS7.b
      have h15 : fv 15 = .int .i64 EC := (hR7 9 15 rfl).1 (by decide) (by decide)
      clear hS7 hR7 hall hfin
      simp only [putAll, List.foldl_cons, List.foldl_nil, Act.put, List.setIfInBounds_toArray, List.set_cons_succ, List.set_cons_zero, List.getElem?_toArray, List.getElem?_cons_succ, List.getElem?_cons_zero, Option.some.injEq] at e14 ⊢
      rw [e14, h15]
      rw [HPX.out r14] at hb14
      have B14 := Lib.hid (bon B13.out hbw)
      have HO14 := Lib.hid ho14
      have H14 := Lib.hid hb14
      generalize fv 82 = w82
      generalize fv 83 = w83
      generalize fv 84 = w84
      generalize fv 85 = w85
      generalize fv 86 = w86
      generalize fv 87 = w87
      generalize fv 88 = w88
      clear hb14 ho14 hbw e14 h15 HUX HPX HRL HLV HIS
      rcases HRLS.out with h | ⟨h0, hok, hkd, hM, hval⟩
      · rcases h with h | h
        · subst h
          go_wp2
          go_ret
          exact ⟨rfl, bon HB1.out B14.out⟩
        · subst h
          go_wp2
          go_ret
          exact ⟨rfl, bon HB1.out B14.out⟩
      subst h0
      have HVAL := Lib.hid hval
      obtain ⟨M, hMM⟩ : ∃ M, XC.el.length = M := ⟨_, rfl⟩
      have H14 := Lib.hid (show Blk w14 g14 63 #[.int .i64 ka, .slice r14.A0 XC.sh.length r14.c0, .slice r14.A1 M r14.c1] by rw [← hkd, ← hMM]; exact H14.out)
      have HCEL : Hid (∀ k W, k < M → Below w14.heap.size w14 W → ∃ ad, r14.A1 = some ad ∧ W.cell? (ad.add k) = some (.int .i64 (XC.el.getD k 0))) := Lib.hid (fun k W hk hb => by
        have hr := Reads.of_own (arown_stay HO14.out.o1 hb (fun g hg => (arown_lt HO14.out.o1 g hg).2))
        obtain ⟨ad, e1, _, hc⟩ := hr.2 (by rw [hMM]; omega)
        refine ⟨ad, e1, hc k _ ?_⟩
        rw [List.getElem?_map, List.getD_eq_getElem?_getD, List.getElem?_eq_getElem (by rw [hMM]; omega)]
        rfl)
      have HAEL : Hid (∀ k W, k < N → Below w14.heap.size w14 W → ∃ ad, p.A1 = some ad ∧ W.cell? (ad.add k) = some (.int .i64 (a.el.getD k 0))) := Lib.hid (fun k W hk hb => by
        obtain ⟨ad, e1, _, hc⟩ := (HE.out W (bon B14.out hb)).r1.2 (by rw [HNL.out]; omega)
        refine ⟨ad, e1, hc k _ ?_⟩
        rw [List.getElem?_map, List.getD_eq_getElem?_getD, List.getElem?_eq_getElem (by rw [HNL.out]; omega)]
        rfl)
      have HLEL := Lib.hid (HLR.out w14 B14.out)
      rw [HQL.out] at HLEL
      have HALL := Lib.hid (okShape_iff.1 hok).2.1
      have hl4 : Q ≤ 4 := by have := (okShape_iff.1 hok).1; rw [HQL.out] at this; exact this
      have HM : Hid (prodI l = (M : Int)) := Lib.hid (by rw [← hM, hMM])
      have hM4 : M ≤ 4096 := by have := (okShape_iff.1 hok).2.2; omega
      rw [hMM] at HVAL
      clear hok hkd hM hval hMM HRLS HO14 HVF HLR
      go_wp2
      go_loopw [102, 16] (fun i v wr => ∃ j : Nat, j ≤ Q ∧ i = .int .i64 (j : Int) ∧ v = .int .i64 (prodI (l.take j)) ∧ w14 = wr) (fun i _ _ => Q - (intOf i).toNat)
      case atStart => exact ⟨0, Nat.zero_le _, rfl, rfl, rfl⟩
      case round =>
        obtain ⟨j, hj, rfl, rfl, rfl⟩ := hrel
        by_cases hlt : j < Q
        · obtain ⟨adA, rfl, _, cA⟩ := HLEL.out.int_at hlt HQL.out
          have hjl : j < l.length := by have := HQL.out; omega
          have hq := prodI_snoc l hjl
          have hb := prodI_four (all_take HALL.out (j + 1)) (by rw [List.length_take]; omega)
          generalize l[j] = x at *
          generalize prodI (l.take j) = pj at *
          generalize hQ : prodI (l.take (j + 1)) = q at *
          have HQ := Lib.hid hQ
          obtain ⟨hb1, hb2⟩ := hb
          have hq' : pj * x = q := hq.symm
          clear hq hQ
          go_wp2
          exact ⟨⟨j + 1, by omega, by go_num, by rw [HQ.out], trivial⟩, by simp [intOf]; omega⟩
        · obtain rfl : j = Q := by omega
          rw [List.take_of_length_le (by have := HQL.out; omega), HM.out]
          have y0 := H14.out.cell 0
          have y1 := H14.out.cell 1
          have y2 := H14.out.cell 2
          obtain ⟨x0, x1, x2⟩ := HX.out _ B14.out
          go_wp2
          go_loopw [127] (fun i wr => ∃ k : Nat, k ≤ M ∧ i = .int .i64 (k : Int) ∧ Below w14.heap.size w14 wr) (fun i _ => M - (intOf i).toNat)
          case atStart => exact ⟨0, Nat.zero_le _, rfl, Below.refl _ _⟩
          case round =>
            obtain ⟨k, hk, rfl, hbw⟩ := hrel
            clear x0 x1 x2 y0 y1 y2
            obtain ⟨x0, x1, x2⟩ := HX.out _ (bon B14.out hbw)
            have y0 := (blk_up H14.out hbw).cell 0
            have y1 := (blk_up H14.out hbw).cell 1
            have y2 := (blk_up H14.out hbw).cell 2
            have HW := Lib.hid hbw
            by_cases hlt : k < M
            · have hd : (k : Int) < (M : Int) := by omega
              by_cases hN : 0 < N
              · have hNi : (0 : Int) < (N : Int) := by omega
                have hmod := Nat.mod_lt k hN
                have em : (k : Int).tmod (N : Int) = ((k % N : Nat) : Int) := (Int.ofNat_tmod k N).symm
                obtain ⟨adC, hC, cC⟩ := HCEL.out k _ hlt hbw
                obtain ⟨adA, hA, cA⟩ := HAEL.out (k % N) _ hmod hbw
                rw [HVAL.out k hlt hN] at cC
                have y3 : wr.cell? ⟨g14, 2, none⟩ = some (.slice (some adC) M r14.c1) := by rw [← hC]; exact y2
                rw [hA] at x2
                generalize a.el.getD (k % N) 0 = z at *
                obtain ⟨s, hs⟩ : ∃ s, k % N = s := ⟨_, rfl⟩
                rw [hs] at em cA hmod
                have hsN : (s : Int) < (N : Int) := by omega
                have hN0 : ¬ N = 0 := by omega
                clear hbw hC hA y2 hs
                go_wp2
                go_quiet (fail)
                go_wp2
                exact ⟨⟨k + 1, by omega, by go_num, below_drewN HW.out _⟩, by simp [intOf]; omega⟩
              · obtain rfl : N = 0 := by omega
                clear hbw
                go_wp2
                go_quiet (fail)
                go_wp2
                exact ⟨⟨k + 1, by omega, by go_num, below_drewN HW.out _⟩, by simp [intOf]; omega⟩
            · obtain rfl : k = M := by omega
              clear hbw
              go_wp2
              go_ret
              exact ⟨rfl, bon HB1.out (bon B14.out HW.out)⟩
theorem call (a : AV) (p : AP) {w : World} (ha : AEl w a p) (A : Option Addr) (c : Nat) (l : List Int) (hl : IArg w A c l) :
    Calls Try.prog 6 #[.agg (arC a p), .slice A l.length c] w fun e w' => e = .returned (.bool true) ∧ Below w.heap.size w w' := walk a p A c l w ha hl
end Go.Proofs.Ytlmdijijlbmddaa.moldBack

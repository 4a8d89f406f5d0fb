/-
  The walk of the statement FoldTimes, up to its loops.
-/
import Derived.Test.YtkabdkblcgklmaaFoTimesM
import Derived.Test.YtkabdkblcgklmaaFoGreat
import Derived.Test.YtkabdkblcgklmaaFoOb
import Derived.Test.YtkabdkblcgklmaaFoTimesI
import Derived.Test.YtkabdkblcgklmaaStage
namespace Go.Proofs.Ytkabdkblcgklmaa.foldTimes
open Go.RowKit Go.Proofs.Ytkabdkblcgklmaa.arr Go.Proofs.Ytkabdkblcgklmaa.sc Go.Proofs.Ytkabdkblcgklmaa.fo

theorem great_two (a b : AV) (W : World) (p q : AP) (ha : AEl W a p) (hb : AEl W b q) :
    Calls Try.prog 28 #[.int .i64 100, .slice (some ⟨W.heap.size, 0, none⟩) 2 2] (W.alloc (.cells #[.int .i64 a.kind, .slice p.A0 a.sh.length p.c0, .slice p.A1 a.el.length p.c1, .int .i64 b.kind, .slice q.A0 b.sh.length q.c0, .slice q.A1 b.el.length q.c1] 25)) fun e w' => e = .returned (.bool (gr16 100 a || gr16 100 b)) ∧ Below W.heap.size W w' := by
  have h := l16great_any 100 W.heap.size 2 2 [a, b] _ rfl (Ars.two ha hb) (by omega)
  rw [show ([a, b] : List AV).any (gr16 100) = (gr16 100 a || gr16 100 b) by simp] at h
  refine h.mono ?_
  rintro e w' ⟨rfl, bb⟩
  exact ⟨rfl, (alloc_below _ _).trans (bb.mono (by simp))⟩
def sgU (L : Int) : Value → World → Prop := fun v W => ∃ gs, v = .slice (some ⟨gs, 0, none⟩) 1 1 ∧ Blk W gs 3 #[.int .i64 L]
def agF (k L : Int) (s : Value) : Array Value → World → Prop := fun cs W => ∃ gs, cs = #[.int .i64 k, .slice (some ⟨gs, 0, none⟩) 1 1, s] ∧ Blk W gs 3 #[.int .i64 L]
def agU (k L : Int) (s : Value) : Value → World → Prop := fun v W => ∃ gs, v = .agg #[.int .i64 k, .slice (some ⟨gs, 0, none⟩) 1 1, s] ∧ Blk W gs 3 #[.int .i64 L]
theorem sgU_st (w0 : World) (L : Int) : stko w0 (sgU L) := ⟨fun v W W' hb h => by
    obtain ⟨gs, h1, h2⟩ := h
    exact ⟨gs, h1, blk_up h2 hb⟩, fun v W g u0 u1 u2 x y z _ hg h => by
    obtain ⟨gs, h1, h2⟩ := h
    exact ⟨gs, h1, (arkeep_three W g x y z).blk h2 (h2.ne_ hg (by decide))⟩⟩
theorem agU_st (w0 : World) (k L : Int) (s : Value) : stko w0 (agU k L s) := ⟨fun v W W' hb h => by
    obtain ⟨gs, h1, h2⟩ := h
    exact ⟨gs, h1, blk_up h2 hb⟩, fun v W g u0 u1 u2 x y z _ hg h => by
    obtain ⟨gs, h1, h2⟩ := h
    exact ⟨gs, h1, (arkeep_three W g x y z).blk h2 (h2.ne_ hg (by decide))⟩⟩
theorem agF_up (k L : Int) (s : Value) : ∀ cs W W', Below W.heap.size W W' → agF k L s cs W → agF k L s cs W' := fun cs W W' hb h => by
  obtain ⟨gs, h1, h2⟩ := h
  exact ⟨gs, h1, blk_up h2 hb⟩
set_option maxRecDepth 100000 in
set_option maxHeartbeats 8000000 in
theorem walk (f g : Int) (a b : AV) (p q : AP) (w : World) (ea : AEl w a p) (eb : AEl w b q) (ca : Cap2 a p) (cb : Cap2 b q) :
    Calls Try.prog 11 #[.int .i64 f, .int .i64 g, .agg (arC a p), .agg (arC b q)] w fun e w' => e = .returned (.bool true) ∧ Below w.heap.size w w' := by
  have hI := TwF.start ea eb
  obtain ⟨w1, hw1⟩ : ∃ w1, (w.alloc (.cells (arC a p) 25)).alloc (.cells (arC b q) 25) = w1 := ⟨_, rfl⟩
  rw [hw1] at hI
  have HAL := Lib.hid (fun W => l16alive W)
  have HC := Lib.hid (fun W (h : TwF w a b p q W) => h.cells)
  have HGR := Lib.hid (fun W (h : TwF w a b p q W) => great_two a b W p q h.ea h.eb)
  obtain ⟨⟨x0, x1, x2⟩, y0, y1, y2⟩ := HC.out w1 hI
  have HI := Lib.hid hI
  have hLC : arC a p = #[.int .i64 a.kind, .slice p.A0 a.sh.length p.c0, .slice p.A1 a.el.length p.c1] := rfl
  have hAC : arC b q = #[.int .i64 b.kind, .slice q.A0 b.sh.length q.c0, .slice q.A1 b.el.length q.c1] := rfl
  cases hg : gr16 100 a || gr16 100 b
  case true =>
    rw [hg] at HGR
    rw [hLC, hAC] at hw1
    rw [hLC, hAC]
    clear ea eb ca cb hI hLC hAC hg
    go_enter Try.func11, Try.ntmps11
    go_wp2_with (first
      | (go_at_call 28; refine (HGR.out w2 I2.out).mono ?_; rintro e w3 ⟨rfl, b3⟩; have I3 := Lib.hid (I2.out.below b3); clear b3 x0 x1 x2 y0 y1 y2; obtain ⟨⟨x0, x1, x2⟩, y0, y1, y2⟩ := HC.out _ I3.out)
      | (go_at_call 45; refine (HAL.out _).mono ?_; rintro e w2 ⟨rfl, b2⟩; have I2 := Lib.hid (HI.out.below b2); clear b2 x0 x1 x2 y0 y1 y2; obtain ⟨⟨x0, x1, x2⟩, y0, y1, y2⟩ := HC.out _ I2.out))
    go_ret
    exact ⟨rfl, I3.out.fb⟩
  rw [hg] at HGR
  by_cases h2a : a.sh.length = 2
  case neg =>
    obtain ⟨na, hna⟩ : ∃ na, a.sh.length = na := ⟨_, rfl⟩
    rw [hna] at h2a
    have d1 : ¬ (na : Int) = 2 := by omega
    rw [hLC, hAC] at hw1
    rw [hLC, hAC]
    rw [hna] at HC HGR hw1 x1
    rw [hna]
    clear ea eb ca cb hI hLC hAC hg hna
    go_enter Try.func11, Try.ntmps11
    go_wp2_with (first
      | (go_at_call 28; refine (HGR.out w2 I2.out).mono ?_; rintro e w3 ⟨rfl, b3⟩; have I3 := Lib.hid (I2.out.below b3); clear b3 x0 x1 x2 y0 y1 y2; obtain ⟨⟨x0, x1, x2⟩, y0, y1, y2⟩ := HC.out _ I3.out)
      | (go_at_call 45; refine (HAL.out _).mono ?_; rintro e w2 ⟨rfl, b2⟩; have I2 := Lib.hid (HI.out.below b2); clear b2 x0 x1 x2 y0 y1 y2; obtain ⟨⟨x0, x1, x2⟩, y0, y1, y2⟩ := HC.out _ I2.out))
    go_ret
    exact ⟨rfl, I3.out.fb⟩
  by_cases h2b : b.sh.length = 2
  case neg =>
    obtain ⟨nb, hnb⟩ : ∃ nb, b.sh.length = nb := ⟨_, rfl⟩
    rw [hnb] at h2b
    have d1 : ¬ (nb : Int) = 2 := by omega
    rw [hLC, hAC] at hw1
    rw [hLC, hAC]
    rw [h2a] at HC HGR hw1 x1
    rw [h2a]
    simp only [hnb] at HC HGR hw1 y1
    rw [hnb]
    clear ea eb ca cb hI hLC hAC hg hnb h2a
    go_enter Try.func11, Try.ntmps11
    go_wp2_with (first
      | (go_at_call 28; refine (HGR.out w2 I2.out).mono ?_; rintro e w3 ⟨rfl, b3⟩; have I3 := Lib.hid (I2.out.below b3); clear b3 x0 x1 x2 y0 y1 y2; obtain ⟨⟨x0, x1, x2⟩, y0, y1, y2⟩ := HC.out _ I3.out)
      | (go_at_call 45; refine (HAL.out _).mono ?_; rintro e w2 ⟨rfl, b2⟩; have I2 := Lib.hid (HI.out.below b2); clear b2 x0 x1 x2 y0 y1 y2; obtain ⟨⟨x0, x1, x2⟩, y0, y1, y2⟩ := HC.out _ I2.out))
    go_ret
    exact ⟨rfl, I3.out.fb⟩
  obtain ⟨E, hE⟩ : ∃ E, inME f g a b = E := ⟨_, rfl⟩
  obtain ⟨X, hX⟩ : ∃ X, inMA f g a b = X := ⟨_, rfl⟩
  have HIN : Hid (∀ W, TwF w a b p q W → Calls Try.prog 42 #[.int .i64 f, .int .i64 g, .agg #[.int .i64 a.kind, .slice p.A0 2 p.c0, .slice p.A1 a.el.length p.c1], .agg #[.int .i64 b.kind, .slice q.A0 2 q.c0, .slice q.A1 b.el.length q.c1]] W fun e w' => ∃ r : AP, e = .returned (.tuple #[.agg #[.int .i64 X.kind, .slice r.A0 X.sh.length r.c0, .slice r.A1 X.el.length r.c1], .int .i64 E]) ∧ AOwn W.heap.size w' X r ∧ Below W.heap.size W w') := Lib.hid (fun W h => by
    have h1 := foinner_any f g a b p q W h.ea h.eb ca cb (by omega) (by omega)
    rw [hX, hE, hLC, hAC, h2a, h2b] at h1
    refine h1.mono ?_
    rintro e w' ⟨r, rfl, o, bb⟩
    exact ⟨r, rfl, o, bb⟩)
  rw [hLC, hAC] at hw1
  rw [hLC, hAC]
  simp only [h2a, h2b] at HC HGR hw1 x1 y1
  rw [h2a, h2b]
  by_cases hE0 : E = 0
  case neg =>
    have hne : (E != 0) = true := by simp [hE0]
    clear ea eb ca cb hI hLC hAC hg h2a h2b hE hX hE0
    go_enter Try.func11, Try.ntmps11
    go_wp2_with (first
      | (go_at_call 42; refine (HIN.out _ I3.out).mono ?_; rintro e w4 ⟨r, rfl, ow4, b4⟩; have I4 := Lib.hid ((I3.out.below b4).below (alloc_below w4 (.cells #[.int .i64 X.kind, .slice r.A0 X.sh.length r.c0, .slice r.A1 X.el.length r.c1] 25))); clear ow4 b4 x0 x1 x2 y0 y1 y2; obtain ⟨⟨x0, x1, x2⟩, y0, y1, y2⟩ := HC.out _ I4.out)
      | (go_at_call 28; refine (HGR.out w2 I2.out).mono ?_; rintro e w3 ⟨rfl, b3⟩; have I3 := Lib.hid (I2.out.below b3); clear b3 x0 x1 x2 y0 y1 y2; obtain ⟨⟨x0, x1, x2⟩, y0, y1, y2⟩ := HC.out _ I3.out)
      | (go_at_call 45; refine (HAL.out _).mono ?_; rintro e w2 ⟨rfl, b2⟩; have I2 := Lib.hid (HI.out.below b2); clear b2 x0 x1 x2 y0 y1 y2; obtain ⟨⟨x0, x1, x2⟩, y0, y1, y2⟩ := HC.out _ I2.out))
    go_ret
    exact ⟨rfl, I4.out.fb⟩
  subst hE0
  obtain ⟨R, L, M, hT⟩ := two_ok h2a h2b hE
  obtain ⟨adS, hadS, _⟩ := ea.r0.2 (by omega)
  obtain ⟨adT, hadT, _⟩ := eb.r0.2 (by omega)
  have hsa : ∀ W, TwF w a b p q W → W.cell? adS = some (.int .i64 (R : Int)) ∧ W.cell? ⟨adS.block, adS.off + 1, none⟩ = some (.int .i64 (L : Int)) := fun W h => by
    obtain ⟨ad, e, _, hc⟩ := h.ea.r0.2 (by omega)
    rw [hadS] at e
    injection e with e
    subst e
    have h0 := hc 0 (.int .i64 (R : Int)) (by rw [hT.sa]; rfl)
    have h1 := hc 1 (.int .i64 (L : Int)) (by rw [hT.sa]; rfl)
    exact ⟨by simpa [Addr.add] using h0, by simpa [Addr.add] using h1⟩
  have hsb : ∀ W, TwF w a b p q W → W.cell? adT = some (.int .i64 (L : Int)) ∧ W.cell? ⟨adT.block, adT.off + 1, none⟩ = some (.int .i64 (M : Int)) := fun W h => by
    obtain ⟨ad, e, _, hc⟩ := h.eb.r0.2 (by omega)
    rw [hadT] at e
    injection e with e
    subst e
    have h0 := hc 0 (.int .i64 (L : Int)) (by rw [hT.sb]; rfl)
    have h1 := hc 1 (.int .i64 (M : Int)) (by rw [hT.sb]; rfl)
    exact ⟨by simpa [Addr.add] using h0, by simpa [Addr.add] using h1⟩
  have hXX : X = ⟨1, [(R : Int), (M : Int)], apL (inGV f g a.kind b.kind a.el b.el L M) (R * M)⟩ := by rw [← hX]; exact hT.x
  have hXs : X.sh = [(R : Int), (M : Int)] := by rw [hXX]
  have hXl : X.sh.length = 2 := by rw [hXX]; rfl
  have hR4 := hT.r4
  have hM4 := hT.m4
  have hga : a.el.length ≤ 100 ∧ b.el.length ≤ 100 := by
    rw [Bool.or_eq_false_iff] at hg
    obtain ⟨g1, g2⟩ := hg
    unfold gr16 at g1 g2
    rw [Bool.or_eq_false_iff] at g1 g2
    have e1 := of_decide_eq_false g1.1
    have e2 := of_decide_eq_false g2.1
    omega
  obtain ⟨nA, hnA⟩ : ∃ nA, a.el.length = nA := ⟨_, rfl⟩
  obtain ⟨A1, hA1⟩ : ∃ A1, p.A1 = A1 := ⟨_, rfl⟩
  obtain ⟨k1, hk1⟩ : ∃ k1, p.c1 = k1 := ⟨_, rfl⟩
  have HCA : Hid (nA ≤ k1 ∧ nA ≤ 100 ∧ (A1 = none → k1 = 0)) := Lib.hid (by rw [← hnA, ← hA1, ← hk1]; exact ⟨ca.l1, hga.1, ca.n1⟩)
  have HNA := Lib.hid hnA
  obtain ⟨nB, hnB⟩ : ∃ nB, b.el.length = nB := ⟨_, rfl⟩
  obtain ⟨B1, hB1⟩ : ∃ B1, q.A1 = B1 := ⟨_, rfl⟩
  obtain ⟨q1, hq1⟩ : ∃ q1, q.c1 = q1 := ⟨_, rfl⟩
  have HNB : Hid (nB = L * M ∧ b.el.length = nB) := Lib.hid ⟨hnB.symm.trans hT.eb, hnB⟩
  have HPA := Lib.hid hA1
  have HQB := Lib.hid hB1
  have HFA := Lib.hid ea.f1
  have HFB := Lib.hid eb.f1
  have HSA := Lib.hid hsa
  have HSB := Lib.hid hsb
  have HSHP : Hid (∀ W gg (r : AP), W.ownsRow w1.heap.size 3 1 (.slice r.A0 2 r.c0) 2 (X.sh.map iv) → Blk W gg 3 #[.int .i64 (R : Int), .int .i64 (M : Int)] → Calls Try.prog 22 #[.slice r.A0 2 r.c0, .slice (some ⟨gg, 0, none⟩) 2 2] W fun e w' => e = .returned (.bool true) ∧ Below W.heap.size W w') := Lib.hid (fun W gg r o hg => by
    have h := r11shapes_any r.A0 (some ⟨gg, 0, none⟩) r.c0 2 2 2 X.sh [(R : Int), (M : Int)] W hXl rfl (Reads.of_own o) ⟨rfl, fun _ => ⟨_, rfl, hg.lt, fun j u hu => by
      rw [Addr.add_mid, Nat.zero_add, hg.cell j]
      rcases j with _ | _ | j
      · exact hu
      · exact hu
      · simp at hu⟩⟩ (by omega) (by omega)
    rw [hXs, decide_eq_true rfl] at h
    exact h)
  have HT := Lib.hid hT
  have HXX := Lib.hid hXX
  have HXL := Lib.hid hXl
  rw [hXl] at HIN
  simp only [hadS, hadT, hnA, hA1, hk1, hnB, hB1, hq1] at HC HGR HIN hw1 x1 x2 y1 y2
  rw [hadS, hadT, hnA, hA1, hk1, hnB, hB1, hq1]
  clear ea eb ca cb hI hLC hAC hg h2a h2b hE hX hadS hadT hT hXX hXs hXl hsa hsb hnA hA1 hk1 hga hnB hB1 hq1
  go_enter Try.func11, Try.ntmps11
  go_upto_region 7 with (first
      | (go_at_call 42; refine (HIN.out _ I3.out).mono ?_; rintro e w4 ⟨r, rfl, ow4, b4⟩; have al4 := alloc_below w4 (.cells #[.int .i64 X.kind, .slice r.A0 2 r.c0, .slice r.A1 X.el.length r.c1] 25); have I4 := Lib.hid ((I3.out.below b4).below al4); have X4 := Lib.hid (Blk.new w4 25 #[.int .i64 X.kind, .slice r.A0 2 r.c0, .slice r.A1 X.el.length r.c1]); have O40 := Lib.hid (arown_mono (arown_stay ow4.o0 al4 (fun g hg => (arown_lt ow4.o0 g hg).2)) S3.out); have O41 := Lib.hid (arown_mono (arown_stay ow4.o1 al4 (fun g hg => (arown_lt ow4.o1 g hg).2)) S3.out); have S4 := Lib.hid (Nat.le_trans S3.out b4.size); clear ow4 b4 al4 x0 x1 x2 y0 y1 y2; obtain ⟨⟨x0, x1, x2⟩, y0, y1, y2⟩ := HC.out _ I4.out; obtain ⟨s0, s1⟩ := HSA.out _ I4.out; obtain ⟨t0, t1⟩ := HSB.out _ I4.out)
      | (go_at_call 28; refine (HGR.out w2 I2.out).mono ?_; rintro e w3 ⟨rfl, b3⟩; have I3 := Lib.hid (I2.out.below b3); have S3 := Lib.hid (Nat.le_trans S2.out b3.size); clear b3 x0 x1 x2 y0 y1 y2; obtain ⟨⟨x0, x1, x2⟩, y0, y1, y2⟩ := HC.out _ I3.out)
      | (go_at_call 45; refine (HAL.out _).mono ?_; rintro e w2 ⟨rfl, b2⟩; have I2 := Lib.hid (HI.out.below b2); have S2 := Lib.hid b2.size; clear b2 x0 x1 x2 y0 y1 y2; obtain ⟨⟨x0, x1, x2⟩, y0, y1, y2⟩ := HC.out _ I2.out))
  obtain ⟨w5, hw5⟩ : ∃ w5, w4.alloc (.cells #[.int .i64 X.kind, .slice r.A0 2 r.c0, .slice r.A1 X.el.length r.c1] 25) = w5 := ⟨_, rfl⟩
  rw [hw5] at I4 X4 O40 O41 x0 x1 x2 y0 y1 y2 s0 s1 t0 t1 ⊢
  have c0 := X4.out.cell 0
  have c1 := X4.out.cell 1
  have c2 := X4.out.cell 2
  clear hw5
  go_quiet (fail)
  obtain ⟨w6, hw6⟩ : ∃ w6, w5.drewN nq = w6 := ⟨_, rfl⟩
  have hd6 : Below w5.heap.size w5 w6 := by rw [← hw6]; exact below_drewN (Below.refl _ _) nq
  rw [hw6]
  clear hw6
  have I6 := Lib.hid (I4.out.below hd6)
  have X6 := Lib.hid (blk_up X4.out hd6)
  have O60 := Lib.hid (arown_stay O40.out hd6 (fun g hg => (arown_lt O40.out g hg).2))
  have O61 := Lib.hid (arown_stay O41.out hd6 (fun g hg => (arown_lt O41.out g hg).2))
  have hsl : Hid (w4.heap.size < w6.heap.size) := Lib.hid X6.out.lt
  clear hd6 x0 x1 x2 y0 y1 y2 s0 s1 t0 t1 c0 c1 c2 X4 O40 O41 I4
  obtain ⟨⟨x0, x1, x2⟩, y0, y1, y2⟩ := HC.out _ I6.out
  obtain ⟨s0, s1⟩ := HSA.out _ I6.out
  obtain ⟨t0, t1⟩ := HSB.out _ I6.out
  have c0 := X6.out.cell 0
  have c1 := X6.out.cell 1
  have c2 := X6.out.cell 2
  have HSH6 : Hid (Calls Try.prog 22 #[.slice r.A0 2 r.c0, .slice (some ⟨w6.heap.size, 0, none⟩) 2 2] (w6.alloc (.cells #[.int .i64 (R : Int), .int .i64 (M : Int)] 3)) fun e w' => e = .returned (.bool true) ∧ Below w6.heap.size w6 w') := Lib.hid (by
    have al := alloc_below w6 (.cells #[.int .i64 (R : Int), .int .i64 (M : Int)] 3)
    have o6 := O60.out
    rw [HXL.out] at o6
    refine (HSHP.out _ w6.heap.size r (arown_stay o6 al (fun g hg => (arown_lt o6 g hg).2)) (Blk.new _ _ _)).mono ?_
    rintro e w' ⟨rfl, bb⟩
    exact ⟨rfl, al.trans (bb.mono al.size)⟩)
  go_wp2_with (go_at_call 22; refine HSH6.out.mono ?_; rintro e w7 ⟨rfl, b7⟩; have I7 := Lib.hid (I6.out.below b7); have X7 := Lib.hid (blk_up X6.out b7); have O71 := Lib.hid (arown_stay O61.out b7 (fun g hg => (arown_lt O61.out g hg).2)); clear b7 x0 x1 x2 y0 y1 y2 s0 s1 t0 t1 c0 c1 c2)
  clear HSH6 O60 O61 X6 I6 HAL HGR HSHP HIN
  go_loopw [15] (fun i wr => ∃ k : Nat, i = .int .i64 (k : Int) ∧ k ≤ R ∧ TwF w a b p q wr ∧ Blk wr w4.heap.size 25 #[.int .i64 X.kind, .slice r.A0 2 r.c0, .slice r.A1 X.el.length r.c1] ∧ wr.ownsRow w1.heap.size 2 1 (.slice r.A1 X.el.length r.c1) X.el.length (X.el.map iv)) (fun i _ => R - (intOf i).toNat)
  case atStart => exact ⟨0, rfl, Nat.zero_le _, I7.out, X7.out, O71.out⟩
  case round =>
    obtain ⟨k, rfl, hkR, hI, hX, hO⟩ := hrel
    by_cases hk : k < R
    · have hd : (k : Int) < (R : Int) := by omega
      have HI := Lib.hid hI
      have HX := Lib.hid hX
      have HO := Lib.hid hO
      clear hI hX hO
      go_wp2
      go_loopw [16] (fun i wr => ∃ m : Nat, i = .int .i64 (m : Int) ∧ m ≤ M ∧ TwF w a b p q wr ∧ Blk wr w4.heap.size 25 #[.int .i64 X.kind, .slice r.A0 2 r.c0, .slice r.A1 X.el.length r.c1] ∧ wr.ownsRow w1.heap.size 2 1 (.slice r.A1 X.el.length r.c1) X.el.length (X.el.map iv)) (fun i _ => M - (intOf i).toNat)
      case atStart => exact ⟨0, rfl, Nat.zero_le _, HI.out, HX.out, HO.out⟩
      case round =>
        obtain ⟨m, rfl, hmM, hI, hX, hO⟩ := hrel
        by_cases hm : m < M
        · have hd2 : (m : Int) < (M : Int) := by omega
          have hLI : (L : Int) ≤ 4096 := by have := HT.out.l4; omega
          have hhe : k * L + L ≤ nA := by
            have h5 := Nat.mul_le_mul_right L hk
            rw [Nat.succ_mul, ← HT.out.ea, HNA.out] at h5
            exact h5
          obtain ⟨lo, hlo⟩ : ∃ lo, k * L = lo := ⟨_, rfl⟩
          obtain ⟨hh, hhh⟩ : ∃ hh, lo + L = hh := ⟨_, rfl⟩
          have m1 : (k : Int) * (L : Int) = (lo : Int) := by rw [← hlo]; exact (Int.natCast_mul k L).symm
          have m2 : ((k : Int) + 1) * (L : Int) = (hh : Int) := by rw [Int.add_mul, m1]; omega
          rw [hlo] at hhe
          obtain ⟨hcc, hcn, _⟩ := HCA.out
          have p1 : IntKind.i64.wrap (lo : Int) = (lo : Int) := by rw [IntKind.wrap_i64]; omega
          have p2 : IntKind.i64.wrap (hh : Int) = (hh : Int) := by rw [IntKind.wrap_i64]; omega
          have p3 : IntKind.i64.wrap ((k : Int) + 1) = (k : Int) + 1 := by rw [IntKind.wrap_i64]; omega
          have d1 : (lo : Int) ≤ (hh : Int) := by omega
          have d2 : (hh : Int) ≤ (k1 : Int) := by omega
          have d5 : hh - lo = L := by omega
          obtain ⟨S, hS⟩ : ∃ S, (if k1 = lo then A1 else A1.map (·.add lo)) = S := ⟨_, rfl⟩
          have HSL := Lib.hid hS
          have HLO := Lib.hid hlo
          have HHE := Lib.hid hhe
          have HI := Lib.hid hI
          have HX := Lib.hid hX
          have HO := Lib.hid hO
          have HFF := agF_up a.kind (L : Int) (.slice S L (k1 - lo))
          clear hI hX hO hS hlo hhh
          obtain ⟨⟨x0, x1, x2⟩, y0, y1, y2⟩ := HC.out _ HI.out
          go_upto_region 16 with (fail)
          clear x0 x1 x2 y0 y1 y2
          have HUX : ObU wr (lookU [(3, sgU (L : Int)), (14, agU a.kind (L : Int) (.slice S L (k1 - lo)))]) := lookU_ob (by
            intro x hx
            simp only [List.mem_cons, List.not_mem_nil, or_false] at hx
            rcases hx with rfl | rfl <;> first | exact sgU_st _ _ | exact agU_st _ _ _ _)
          refine wp_region_doneT_on (ObB wr 15 16 17 (agF a.kind (L : Int) (.slice S L (k1 - lo)))) (obR 15 [3, 14] (lookU [(3, sgU (L : Int)), (14, agU a.kind (L : Int) (.slice S L (k1 - lo)))]) [.pointer (some ⟨w.heap.size, 0, none⟩), .int .i64 a.kind, .int .i64 (L : Int), undef, .pointer (some ⟨w.heap.size, 2, none⟩), .slice A1 nA k1, .int .i64 (k : Int), .int .i64 (L : Int), .int .i64 (lo : Int), .int .i64 (k : Int), .int .i64 ((k : Int) + 1), .int .i64 (L : Int), .int .i64 (hh : Int), .slice S L (k1 - lo), undef, undef, undef]) (by kernel_rfl) 154 rfl (by kernel_rfl) ⟨(Below.refl _ _).drew, fun e => (by cases e), fun e => (by cases e)⟩ ?_ ?_
          · intro i hi
            have hi2 : i < 17 := hi
            clear hi
            rcases i with _ | i
            · refine ob_value HFF HUX rfl (by decide) (by decide) (by decide) 92 rfl (by decide) (.pointer (some ⟨w.heap.size, 0, none⟩)) rfl ?_
              intro a8 w8 hb8 ho hn
              have o6 : a8.tmps[6]? = some _ := (ho 6 (by kernel_rfl)).trans rfl
              clear ho hn
              refine ⟨wanted_free rfl, ?_⟩
              go_simp
            rcases i with _ | i
            · refine ob_value HFF HUX rfl (by decide) (by decide) (by decide) 93 rfl (by decide) (.int .i64 a.kind) rfl ?_
              intro a8 w8 hb8 ho hn
              obtain ⟨v92, n92, hq92⟩ := hn 0 92 (by kernel_rfl) rfl
              obtain rfl := hq92.1 (by decide) (by decide)
              clear ho hn
              refine ⟨wanted_free rfl, ?_⟩
              obtain ⟨⟨x0, x1, x2⟩, y0, y1, y2⟩ := HC.out w8 (HI.out.below hb8)
              go_simp
            rcases i with _ | i
            · refine ob_value HFF HUX rfl (by decide) (by decide) (by decide) 94 rfl (by decide) (.int .i64 (L : Int)) rfl ?_
              intro a8 w8 hb8 ho hn
              have o13 : a8.tmps[13]? = some _ := (ho 13 (by kernel_rfl)).trans rfl
              clear ho hn
              refine ⟨wanted_free rfl, ?_⟩
              go_simp
            rcases i with _ | i
            · refine ob_make HFF HUX rfl (by decide) (by decide) (by decide) 95 rfl (by decide) ?_
              intro a8 w8 hb8 ho hn
              obtain ⟨v94, n94, hq94⟩ := hn 2 94 (by kernel_rfl) rfl
              obtain rfl := hq94.1 (by decide) (by decide)
              clear ho hn
              refine ⟨wanted_free rfl, ?_⟩
              exact ⟨.slice (some ⟨w8.heap.size, 0, none⟩) 1 1, w8.alloc (.cells #[.int .i64 (L : Int)] 3), (by go_simp), alloc_below _ _, w8.heap.size, rfl, Blk.new _ _ _⟩
            rcases i with _ | i
            · refine ob_value HFF HUX rfl (by decide) (by decide) (by decide) 96 rfl (by decide) (.pointer (some ⟨w.heap.size, 2, none⟩)) rfl ?_
              intro a8 w8 hb8 ho hn
              have o6 : a8.tmps[6]? = some _ := (ho 6 (by kernel_rfl)).trans rfl
              clear ho hn
              refine ⟨wanted_free rfl, ?_⟩
              go_simp
            rcases i with _ | i
            · refine ob_value HFF HUX rfl (by decide) (by decide) (by decide) 97 rfl (by decide) (.slice A1 nA k1) rfl ?_
              intro a8 w8 hb8 ho hn
              obtain ⟨v96, n96, hq96⟩ := hn 4 96 (by kernel_rfl) rfl
              obtain rfl := hq96.1 (by decide) (by decide)
              clear ho hn
              refine ⟨wanted_free rfl, ?_⟩
              obtain ⟨⟨x0, x1, x2⟩, y0, y1, y2⟩ := HC.out w8 (HI.out.below hb8)
              go_simp
            rcases i with _ | i
            · refine ob_value HFF HUX rfl (by decide) (by decide) (by decide) 98 rfl (by decide) (.int .i64 (k : Int)) rfl ?_
              intro a8 w8 hb8 ho hn
              have o15 : a8.tmps[15]? = some _ := (ho 15 (by kernel_rfl)).trans rfl
              clear ho hn
              refine ⟨wanted_free rfl, ?_⟩
              go_simp
            rcases i with _ | i
            · refine ob_value HFF HUX rfl (by decide) (by decide) (by decide) 99 rfl (by decide) (.int .i64 (L : Int)) rfl ?_
              intro a8 w8 hb8 ho hn
              have o13 : a8.tmps[13]? = some _ := (ho 13 (by kernel_rfl)).trans rfl
              clear ho hn
              refine ⟨wanted_free rfl, ?_⟩
              go_simp
            rcases i with _ | i
            · refine ob_value HFF HUX rfl (by decide) (by decide) (by decide) 100 rfl (by decide) (.int .i64 (lo : Int)) rfl ?_
              intro a8 w8 hb8 ho hn
              obtain ⟨v98, n98, hq98⟩ := hn 6 98 (by kernel_rfl) rfl
              obtain rfl := hq98.1 (by decide) (by decide)
              obtain ⟨v99, n99, hq99⟩ := hn 7 99 (by kernel_rfl) rfl
              obtain rfl := hq99.1 (by decide) (by decide)
              clear ho hn
              refine ⟨wanted_free rfl, ?_⟩
              go_simp
            rcases i with _ | i
            · refine ob_value HFF HUX rfl (by decide) (by decide) (by decide) 101 rfl (by decide) (.int .i64 (k : Int)) rfl ?_
              intro a8 w8 hb8 ho hn
              have o15 : a8.tmps[15]? = some _ := (ho 15 (by kernel_rfl)).trans rfl
              clear ho hn
              refine ⟨wanted_free rfl, ?_⟩
              go_simp
            rcases i with _ | i
            · refine ob_value HFF HUX rfl (by decide) (by decide) (by decide) 102 rfl (by decide) (.int .i64 ((k : Int) + 1)) rfl ?_
              intro a8 w8 hb8 ho hn
              obtain ⟨v101, n101, hq101⟩ := hn 9 101 (by kernel_rfl) rfl
              obtain rfl := hq101.1 (by decide) (by decide)
              clear ho hn
              refine ⟨wanted_free rfl, ?_⟩
              go_simp
            rcases i with _ | i
            · refine ob_value HFF HUX rfl (by decide) (by decide) (by decide) 103 rfl (by decide) (.int .i64 (L : Int)) rfl ?_
              intro a8 w8 hb8 ho hn
              have o13 : a8.tmps[13]? = some _ := (ho 13 (by kernel_rfl)).trans rfl
              clear ho hn
              refine ⟨wanted_free rfl, ?_⟩
              go_simp
            rcases i with _ | i
            · refine ob_value HFF HUX rfl (by decide) (by decide) (by decide) 104 rfl (by decide) (.int .i64 (hh : Int)) rfl ?_
              intro a8 w8 hb8 ho hn
              obtain ⟨v102, n102, hq102⟩ := hn 10 102 (by kernel_rfl) rfl
              obtain rfl := hq102.1 (by decide) (by decide)
              obtain ⟨v103, n103, hq103⟩ := hn 11 103 (by kernel_rfl) rfl
              obtain rfl := hq103.1 (by decide) (by decide)
              clear ho hn
              refine ⟨wanted_free rfl, ?_⟩
              go_simp
            rcases i with _ | i
            · refine ob_value HFF HUX rfl (by decide) (by decide) (by decide) 105 rfl (by decide) (.slice S L (k1 - lo)) rfl ?_
              intro a8 w8 hb8 ho hn
              obtain ⟨v97, n97, hq97⟩ := hn 5 97 (by kernel_rfl) rfl
              obtain rfl := hq97.1 (by decide) (by decide)
              obtain ⟨v100, n100, hq100⟩ := hn 8 100 (by kernel_rfl) rfl
              obtain rfl := hq100.1 (by decide) (by decide)
              obtain ⟨v104, n104, hq104⟩ := hn 12 104 (by kernel_rfl) rfl
              obtain rfl := hq104.1 (by decide) (by decide)
              clear ho hn
              refine ⟨wanted_free rfl, ?_⟩
              have hs9 := HSL.out
              obtain ⟨hcc9, hcn9, han9⟩ := HCA.out
              rcases A1 with _ | ad9
              · have hc0 := han9 rfl
                have hl0 : lo = 0 := by omega
                have hh0 : hh = 0 := by omega
                have hL0 : L = 0 := by omega
                have hn0 : nA = 0 := by omega
                rw [if_pos (by omega)] at hs9
                subst hs9 hc0 hl0 hh0 hL0 hn0
                go_simp
              by_cases hcl : k1 = lo
              · rw [if_pos hcl] at hs9
                subst hs9
                subst hcl
                go_simp
              rw [if_neg hcl] at hs9
              subst hs9
              go_simp
            rcases i with _ | i
            · refine ob_make HFF HUX rfl (by decide) (by decide) (by decide) 106 rfl (by decide) ?_
              intro a8 w8 hb8 ho hn
              obtain ⟨v93, n93, hq93⟩ := hn 1 93 (by kernel_rfl) rfl
              obtain rfl := hq93.1 (by decide) (by decide)
              obtain ⟨v95, n95, hq95⟩ := hn 3 95 (by kernel_rfl) rfl
              have hv95 : sgU (L : Int) v95 w8 := hq95.2 (by decide)
              obtain ⟨v105, n105, hq105⟩ := hn 13 105 (by kernel_rfl) rfl
              obtain rfl := hq105.1 (by decide) (by decide)
              clear ho hn
              refine ⟨wanted_free rfl, ?_⟩
              obtain ⟨gs, rfl, hgs⟩ := hv95
              exact ⟨.agg #[.int .i64 a.kind, .slice (some ⟨gs, 0, none⟩) 1 1, .slice S L (k1 - lo)], w8, (by go_simp), Below.refl _ _, gs, rfl, hgs⟩
            rcases i with _ | i
            · refine ob_alloc HUX rfl (by decide) (by decide) rfl (.int .i64 0) (.slice none 0 0) (.slice none 0 0) ?_
              intro a8 w8 ho
              have o153 : a8.tmps[153]? = some _ := (ho 153 (by kernel_rfl)).trans rfl
              have hsz : 153 < a8.tmps.size := (Array.getElem?_eq_some_iff.1 o153).1
              refine ⟨by omega, wanted_free rfl, ?_⟩
              go_simp
            rcases i with _ | i
            · refine ob_store HUX rfl rfl (by decide) (by decide) rfl (by kernel_rfl) rfl ?_
              intro a8 w8 g u0 u1 u2 hg n17 hn
              obtain ⟨v106, n106, hq106⟩ := hn 14 106 (by kernel_rfl) rfl
              have hv106 : agU a.kind (L : Int) (.slice S L (k1 - lo)) v106 w8 := hq106.2 (by decide)
              clear hn
              refine ⟨wanted_free rfl, ?_⟩
              obtain ⟨gs, rfl, hgs⟩ := hv106
              have x0 := hg.cell 0
              have x1 := hg.cell 1
              have x2 := hg.cell 2
              have f0 := hg.frozen 0
              have f1 := hg.frozen 1
              have f2 := hg.frozen 2
              refine ⟨.int .i64 a.kind, .slice (some ⟨gs, 0, none⟩) 1 1, .slice S L (k1 - lo), ⟨gs, rfl, (arkeep_three w8 g _ _ _).blk hgs (hgs.ne_ hg (by decide))⟩, ?_⟩
              clear hg hgs
              go_simp
            omega
          · intro dn fv v8 hS8 hR8 hall
            obtain ⟨gx, e17, hgx, _, hfin⟩ := hS8.h (hall 15 (by decide))
            obtain ⟨cs, bx, gsx, hcs, bgs⟩ := hfin (hall 16 (by decide))
            subst hcs
            have hbw := hS8.b
            clear hS8 hR8 hall hfin
            simp only [putAll, List.foldl_cons, List.foldl_nil, Act.put, List.setIfInBounds_toArray, List.set_cons_succ, List.set_cons_zero, List.getElem?_toArray, List.getElem?_cons_succ, List.getElem?_cons_zero, Option.some.injEq] at e17 ⊢
            rw [e17]
            have I8 := Lib.hid (HI.out.below hbw)
            have X8 := Lib.hid (blk_up HX.out hbw)
            have O8 := Lib.hid (arown_stay HO.out hbw (fun g hg => (arown_lt HO.out g hg).2))
            have BX8 := Lib.hid bx
            have BG8 := Lib.hid bgs
            clear e17 hgx hbw bx bgs HI HX HO
            obtain ⟨⟨x0, x1, x2⟩, y0, y1, y2⟩ := HC.out _ I8.out
            go_wp2
            obtain ⟨cbf, hcbf⟩ : ∃ cbf : Nat → Int, (fun j => b.el.getD (j * M + m) 0) = cbf := ⟨_, rfl⟩
            have HCB := Lib.hid hcbf
            obtain ⟨v9, hv9⟩ : ∃ v9, (v8.alloc (.cells #[.int .i64 (L : Int)] 3)).alloc (.cells #[.int .i64 b.kind, .slice (some ⟨v8.heap.size, 0, none⟩) 1 1, .slice none 0 0] 25) = v9 := ⟨_, rfl⟩
            rw [hv9]
            have C9 : Hid (ColF v8 (v8.heap.size + 1) v8.heap.size b.kind (L : Int) cbf 0 v9) := Lib.hid (by
              rw [← hv9]
              exact ⟨below_n2 v8 _ _, (Blk.new v8 _ _).alloc _, none, 0, blk_n2 v8 _ _ _, World.ownsRow_nil _ _ _ _⟩)
            clear hv9 hcbf x0 x1 x2 y0 y1 y2
            go_loopw [19] (fun i wr9 => ∃ j : Nat, i = .int .i64 (j : Int) ∧ j ≤ L ∧ ColF v8 (v8.heap.size + 1) v8.heap.size b.kind (L : Int) cbf j wr9) (fun i _ => L - (intOf i).toNat)
            case atStart => exact ⟨0, rfl, Nat.zero_le _, C9.out⟩
            case round =>
              obtain ⟨j, rfl, hjL, hcol⟩ := hrel
              by_cases hj : j < L
              · have hd3 : (j : Int) < (L : Int) := by omega
                have hL5 := HT.out.l4
                have hnb1 := HNB.out.1
                have h5 := Nat.mul_le_mul_right M hj
                rw [Nat.succ_mul, ← hnb1] at h5
                obtain ⟨adB, hadB, _, _⟩ := el_at I8.out.eb (i := j * M + m) (by rw [HNB.out.2]; omega)
                have hB9 : B1 = some adB := HQB.out.symm.trans hadB
                subst hB9
                have HCY : Hid (∀ W, Below wr.heap.size wr W → W.cell? (adB.add (j * M + m)) = some (.int .i64 (cbf j))) := Lib.hid (fun W hb => by
                  obtain ⟨ad, e, hc, _⟩ := el_at (I8.out.eb.below (below_on hcol.b hb)) (i := j * M + m) (by rw [HNB.out.2]; omega)
                  rw [hadB] at e
                  injection e with e
                  subst e
                  rw [← HCB.out]
                  exact hc)
                obtain ⟨jM, hjM⟩ : ∃ jM, j * M = jM := ⟨_, rfl⟩
                obtain ⟨s2, hs2⟩ : ∃ s2, jM + m = s2 := ⟨_, rfl⟩
                rw [hjM] at HCY h5
                rw [hs2] at HCY
                have hb16 : jM ≤ 16777216 := by have := Nat.mul_le_mul (show j ≤ 4096 by omega) hM4; omega
                have m3 : (j : Int) * (M : Int) = (jM : Int) := by rw [← hjM]; exact (Int.natCast_mul j M).symm
                have m4 : (jM : Int) + (m : Int) = (s2 : Int) := by omega
                have p4 : IntKind.i64.wrap (jM : Int) = (jM : Int) := by rw [IntKind.wrap_i64]; omega
                have p5 : IntKind.i64.wrap (s2 : Int) = (s2 : Int) := by rw [IntKind.wrap_i64]; omega
                have d6 : (s2 : Int) < (nB : Int) := by omega
                obtain ⟨A, c, he, ho⟩ := hcol.o
                obtain ⟨y, hy⟩ : ∃ y, cbf j = y := ⟨_, rfl⟩
                have HYJ := Lib.hid hy
                rw [hy] at HCY
                have HB9 := Lib.hid hcol.b
                have HGC : Hid (∀ W, Below wr.heap.size wr W → W.cell? ⟨v8.heap.size + 1, 2, none⟩ = some (.slice A j c)) := Lib.hid (fun W hb => (blk_up he hb).cell 2)
                have HAP : Hid (∀ (W : World) (g1 : Nat), Below wr.heap.size wr W → Blk W g1 2 #[.int .i64 y] → ∃ v' W9, (Builtin.append_ #[23, 23] 23 #[.slice A j c, .slice (some ⟨g1, 0, none⟩) 1 1]).run Try.prog W = .ok v' W9 ∧ Below v8.heap.size v8 W9 ∧ (∃ A9 c9, v' = .slice A9 (j + 1) c9) ∧ W9.ownsRow (v8.heap.size + 1 + 1) 2 1 v' (j + 1) ((apL cbf j).map iv ++ [.int .i64 y]) ∧ ∃ W7, ColF v8 (v8.heap.size + 1) v8.heap.size b.kind (L : Int) cbf j W7 ∧ Blk W7 (v8.heap.size + 1) 25 #[.int .i64 b.kind, .slice (some ⟨v8.heap.size, 0, none⟩) 1 1, .slice A j c] ∧ Keep (fun i => v8.heap.size + 1 + 1 ≤ i) W7 W9) := Lib.hid (fun W g1 hb hg1 => by
                  have he2 := blk_up he hb
                  obtain ⟨v', W9, h1, h2, h3⟩ := col_app (gy := v8.heap.size + 1) (arown_stay ho hb (fun g hg => (arown_lt ho g hg).2)) (by have := he2.lt; omega) (by omega) y g1 hg1
                  exact ⟨v', W9, h1, (hcol.below hb).b.trans (h3.below (hcol.below hb).b.size (fun i hi e => by omega)), own_form h2, h2, W, hcol.below hb, he2, h3⟩)
                clear hy hjM hs2 he ho hcol hadB hnb1 h5
                go_upto_region 21 with (fail)
                refine wp_region_done_on (SS [11, 12, 14] (fun n W8 => match n with | 0 => Below wr.heap.size wr W8 | 1 => Below wr.heap.size wr W8 | 2 => Below v8.heap.size v8 W8 | _ => (ColF v8 (v8.heap.size + 1) v8.heap.size b.kind (L : Int) cbf (j + 1) W8))) (RR [11, 12, 14] (fun _ _ => True) (fun n v W8 => match n with | 0 => ∃ g1, v = .slice (some ⟨g1, 0, none⟩) 1 1 ∧ Blk W8 g1 2 #[.int .i64 y] | 1 => (∃ A9 c9, v = .slice A9 (j + 1) c9) ∧ W8.ownsRow (v8.heap.size + 1 + 1) 2 1 v (j + 1) ((apL cbf j).map iv ++ [.int .i64 y]) ∧ ∃ W7, (ColF v8 (v8.heap.size + 1) v8.heap.size b.kind (L : Int) cbf j W7) ∧ Blk W7 (v8.heap.size + 1) 25 #[.int .i64 b.kind, .slice (some ⟨v8.heap.size, 0, none⟩) 1 1, .slice A j c] ∧ Keep (fun i => v8.heap.size + 1 + 1 ≤ i) W7 W8 | _ => True) [.pointer (some ⟨v8.heap.size + 1, 2, none⟩), .slice A j c, .pointer (some ⟨w.heap.size + 1, 2, none⟩), .slice (some adB) nB q1, .int .i64 (j : Int), .int .i64 (M : Int), .int .i64 (jM : Int), .int .i64 (m : Int), .int .i64 (s2 : Int), .pointer (some (adB.add s2)), .int .i64 y, undef, undef, .pointer (some ⟨v8.heap.size + 1, 2, none⟩), undef]) (by kernel_rfl) 154 rfl (by kernel_rfl) (SS.start (((Below.refl _ _).drew))) ?_ ?_
                · intro i hi
                  have hi2 : i < 15 := hi
                  clear hi
                  rcases i with _ | i
                  · refine ss_value rfl (by decide) (.pointer (some ⟨v8.heap.size + 1, 2, none⟩)) rfl 3 (.inl rfl) ?_
                    intro a8 w8 ns hns hT ho hn
                    have o18 : a8.tmps[18]? = some _ := (ho 18 (by kernel_rfl)).trans rfl
                    clear ho hn
                    refine ⟨wanted_free rfl, ?_⟩
                    have zz := 0
                    go_simp
                  rcases i with _ | i
                  · refine ss_value rfl (by decide) (.slice A j c) rfl 1 (.inr ⟨12, rfl, by kernel_rfl⟩) ?_
                    intro a8 w8 ns hns hT ho hn
                    obtain ⟨v117, n117, hq117⟩ := hn 0 117 (by kernel_rfl) rfl
                    obtain rfl := hq117.1 (by decide)
                    clear ho hn
                    refine ⟨wanted_free rfl, ?_⟩
                    have g2 := HGC.out w8 (by rcases ns with _ | _ | ns <;> first | exact hT | omega)
                    go_simp
                  rcases i with _ | i
                  · refine ss_value rfl (by decide) (.pointer (some ⟨w.heap.size + 1, 2, none⟩)) rfl 3 (.inl rfl) ?_
                    intro a8 w8 ns hns hT ho hn
                    have o7 : a8.tmps[7]? = some _ := (ho 7 (by kernel_rfl)).trans rfl
                    clear ho hn
                    refine ⟨wanted_free rfl, ?_⟩
                    go_simp
                  rcases i with _ | i
                  · refine ss_value rfl (by decide) (.slice (some adB) nB q1) rfl 3 (.inl rfl) ?_
                    intro a8 w8 ns hns hT ho hn
                    obtain ⟨v119, n119, hq119⟩ := hn 2 119 (by kernel_rfl) rfl
                    obtain rfl := hq119.1 (by decide)
                    clear ho hn
                    refine ⟨wanted_free rfl, ?_⟩
                    have hb9 : Below v8.heap.size v8 w8 := (by rcases ns with _ | _ | _ | ns <;> first | exact below_on HB9.out hT | exact hT | exact ColF.b hT)
                    obtain ⟨_, y0, y1, y2⟩ := HC.out w8 (I8.out.below hb9)
                    go_simp
                  rcases i with _ | i
                  · refine ss_value rfl (by decide) (.int .i64 (j : Int)) rfl 3 (.inl rfl) ?_
                    intro a8 w8 ns hns hT ho hn
                    have o19 : a8.tmps[19]? = some _ := (ho 19 (by kernel_rfl)).trans rfl
                    clear ho hn
                    refine ⟨wanted_free rfl, ?_⟩
                    go_simp
                  rcases i with _ | i
                  · refine ss_value rfl (by decide) (.int .i64 (M : Int)) rfl 3 (.inl rfl) ?_
                    intro a8 w8 ns hns hT ho hn
                    have o14 : a8.tmps[14]? = some _ := (ho 14 (by kernel_rfl)).trans rfl
                    clear ho hn
                    refine ⟨wanted_free rfl, ?_⟩
                    go_simp
                  rcases i with _ | i
                  · refine ss_value rfl (by decide) (.int .i64 (jM : Int)) rfl 3 (.inl rfl) ?_
                    intro a8 w8 ns hns hT ho hn
                    obtain ⟨v121, n121, hq121⟩ := hn 4 121 (by kernel_rfl) rfl
                    obtain rfl := hq121.1 (by decide)
                    obtain ⟨v122, n122, hq122⟩ := hn 5 122 (by kernel_rfl) rfl
                    obtain rfl := hq122.1 (by decide)
                    clear ho hn
                    refine ⟨wanted_free rfl, ?_⟩
                    go_simp
                  rcases i with _ | i
                  · refine ss_value rfl (by decide) (.int .i64 (m : Int)) rfl 3 (.inl rfl) ?_
                    intro a8 w8 ns hns hT ho hn
                    have o16 : a8.tmps[16]? = some _ := (ho 16 (by kernel_rfl)).trans rfl
                    clear ho hn
                    refine ⟨wanted_free rfl, ?_⟩
                    go_simp
                  rcases i with _ | i
                  · refine ss_value rfl (by decide) (.int .i64 (s2 : Int)) rfl 3 (.inl rfl) ?_
                    intro a8 w8 ns hns hT ho hn
                    obtain ⟨v123, n123, hq123⟩ := hn 6 123 (by kernel_rfl) rfl
                    obtain rfl := hq123.1 (by decide)
                    obtain ⟨v124, n124, hq124⟩ := hn 7 124 (by kernel_rfl) rfl
                    obtain rfl := hq124.1 (by decide)
                    clear ho hn
                    refine ⟨wanted_free rfl, ?_⟩
                    go_simp
                  rcases i with _ | i
                  · refine ss_value rfl (by decide) (.pointer (some (adB.add s2))) rfl 3 (.inl rfl) ?_
                    intro a8 w8 ns hns hT ho hn
                    obtain ⟨v120, n120, hq120⟩ := hn 3 120 (by kernel_rfl) rfl
                    obtain rfl := hq120.1 (by decide)
                    obtain ⟨v125, n125, hq125⟩ := hn 8 125 (by kernel_rfl) rfl
                    obtain rfl := hq125.1 (by decide)
                    clear ho hn
                    refine ⟨wanted_free rfl, ?_⟩
                    go_simp
                  rcases i with _ | i
                  · refine ss_value rfl (by decide) (.int .i64 y) rfl 0 (.inr ⟨11, rfl, by kernel_rfl⟩) ?_
                    intro a8 w8 ns hns hT ho hn
                    obtain ⟨v126, n126, hq126⟩ := hn 9 126 (by kernel_rfl) rfl
                    obtain rfl := hq126.1 (by decide)
                    clear ho hn
                    refine ⟨wanted_free rfl, ?_⟩
                    obtain rfl : ns = 0 := by omega
                    have y3 := HCY.out w8 hT
                    go_simp
                  rcases i with _ | i
                  · refine ss_make 0 (by decide) rfl rfl (.inl rfl) ?_
                    intro a8 w8 hT ho hn
                    obtain ⟨v127, n127, hq127⟩ := hn 10 127 (by kernel_rfl) rfl
                    obtain rfl := hq127.1 (by decide)
                    clear ho hn
                    refine ⟨wanted_free rfl, ?_⟩
                    have hT0 : Below wr.heap.size wr w8 := hT
                    exact ⟨.slice (some ⟨w8.heap.size, 0, none⟩) 1 1, w8.alloc (.cells #[.int .i64 y] 2), (by go_simp), hT0.alloc hT0.size _, trivial, w8.heap.size, rfl, Blk.new w8 _ _⟩
                  rcases i with _ | i
                  · refine ss_make 1 (by decide) rfl rfl (.inr ⟨11, 128, rfl, by kernel_rfl, rfl⟩) ?_
                    intro a8 w8 hT ho hn
                    obtain ⟨v118, n118, hq118⟩ := hn 1 118 (by kernel_rfl) rfl
                    obtain rfl := hq118.1 (by decide)
                    obtain ⟨v128, n128, hq128⟩ := hn 11 128 (by kernel_rfl) rfl
                    have hv128 := hq128.2 0 rfl
                    clear ho hn
                    refine ⟨wanted_free rfl, ?_⟩
                    obtain ⟨g1, rfl, hn1⟩ := hv128.2.2 rfl
                    obtain ⟨VA, W8, hrun, hbv, hV⟩ := HAP.out w8 g1 hT hn1
                    exact ⟨VA, W8, exec_append _ _ 23 rfl (eval_of n118) (eval_of n128) hrun, hbv, trivial, hV⟩
                  rcases i with _ | i
                  · refine ss_value rfl (by decide) (.pointer (some ⟨v8.heap.size + 1, 2, none⟩)) rfl 3 (.inl rfl) ?_
                    intro a8 w8 ns hns hT ho hn
                    have o18 : a8.tmps[18]? = some _ := (ho 18 (by kernel_rfl)).trans rfl
                    clear ho hn
                    refine ⟨wanted_free rfl, ?_⟩
                    go_simp
                  rcases i with _ | i
                  · refine ss_store 2 (by decide) rfl rfl rfl (.inr ⟨12, 129, rfl, by kernel_rfl, rfl⟩) ?_
                    intro a8 w8 hT ho hn
                    obtain ⟨v130, n130, hq130⟩ := hn 13 130 (by kernel_rfl) rfl
                    obtain rfl := hq130.1 (by decide)
                    obtain ⟨v129, n129, hq129⟩ := hn 12 129 (by kernel_rfl) rfl
                    have hv129 := hq129.2 1 rfl
                    clear ho hn
                    refine ⟨wanted_free rfl, ?_⟩
                    obtain ⟨⟨A9, c9, rfl⟩, ho9, W7, hc7, he7, hk7⟩ := hv129.2.2 rfl
                    obtain ⟨q9, f9, _, hF9⟩ := hc7.push (Nat.le_succ _) (Nat.lt_succ_self _) he7 y HYJ.out _ ho9 hk7
                    refine ⟨w8.setCell ⟨v8.heap.size + 1, 2, none⟩ (.slice A9 (j + 1) c9), (by clear ho9 hc7 he7 hk7 hF9; go_simp), hF9, trivial, trivial⟩
                  omega
                · intro dn fv w5 hS5 hR5 hall
                  have hT5 := hS5.2
                  rw [stg_all (l := [11, 12, 14]) (by intro k hk; simp only [List.mem_cons, List.not_mem_nil, or_false] at hk; rcases hk with rfl | rfl | rfl <;> exact hall _ (by decide))] at hT5
                  simp only [putAll, List.foldl_cons, List.foldl_nil, Act.put, List.setIfInBounds_toArray, List.set_cons_succ, List.set_cons_zero]
                  clear hR5 hS5 hall
                  have hF5 : ColF v8 (v8.heap.size + 1) v8.heap.size b.kind (L : Int) cbf (j + 1) w5 := hT5
                  have HF5 := Lib.hid hF5
                  clear hT5 hF5
                  go_wp2
                  exact ⟨⟨j + 1, by go_num, by omega, HF5.out⟩, by simp [intOf]; omega⟩
              · obtain rfl : L = j := by omega
                obtain ⟨A, c, he, ho⟩ := hcol.o
                obtain ⟨V, hV⟩ : ∃ V, inGV f g a.kind b.kind a.el b.el L M (k * M + m) = V := ⟨_, rfl⟩
                obtain ⟨hcc, hcl1, hcn⟩ := HCA.out
                have hle := HHE.out
                have HIC : Hid (Calls Try.prog 42 #[.int .i64 f, .int .i64 g, .agg #[.int .i64 a.kind, .slice (some ⟨gsx, 0, none⟩) 1 1, .slice S L (k1 - lo)], .agg #[.int .i64 b.kind, .slice (some ⟨v8.heap.size, 0, none⟩) 1 1, .slice A L c]] wr fun e w' => ∃ r : AP, e = .returned (.tuple #[.agg #[.int .i64 1, .slice r.A0 0 r.c0, .slice r.A1 1 r.c1], .int .i64 0]) ∧ AEl w' ⟨1, [], [V]⟩ r ∧ Below wr.heap.size wr w') := Lib.hid (by
                  have hr0 := (I8.out.below hcol.b).ea.r1
                  rw [HPA.out, HNA.out] at hr0
                  have hr1 := reads_win (i := lo) (k := L) (cap := k1) hr0 (by omega) hcc
                  rw [HSL.out, ← HLO.out] at hr1
                  rw [← hV, ← HLO.out]
                  refine times_call HT.out hk hm wr S A gsx v8.heap.size c (k1 - k * L) _ (blk_up BG8.out hcol.b) hcol.g hr1 (by rw [HLO.out]; omega) (fun h => ?_) HFA.out HFB.out (by rw [HCB.out]; exact ho)
                  have h9 := HSL.out
                  rw [h] at h9
                  rw [HLO.out]
                  by_cases e : k1 = lo
                  · omega
                  · rw [if_neg e] at h9
                    rcases A1 with _ | ad
                    · have := hcn rfl
                      omega
                    · cases h9)
                have u0 := (blk_up BX8.out hcol.b).cell 0
                have u1 := (blk_up BX8.out hcol.b).cell 1
                have u2 := (blk_up BX8.out hcol.b).cell 2
                have t0 := he.cell 0
                have t1 := he.cell 1
                have t2 := he.cell 2
                have HB9 := Lib.hid hcol.b
                have HVI : Hid (-9223372036854775808 ≤ V ∧ V ≤ 9223372036854775807) := Lib.hid (by rw [← hV]; exact inGV_in HFA.out HFB.out _ _ _)
                have HVV := Lib.hid hV
                clear hV he ho hcol hcc hcl1 hcn hle
                go_upto_region 23 with (go_at_call 42; refine HIC.out.mono ?_; rintro e v10 ⟨r2, rfl, e10, b10⟩)
                have al := alloc_below v10 (.cells #[.int .i64 1, .slice r2.A0 0 r2.c0, .slice r2.A1 1 r2.c1] 25)
                obtain ⟨v11, hv11⟩ : ∃ v11, v10.alloc (.cells #[.int .i64 1, .slice r2.A0 0 r2.c0, .slice r2.A1 1 r2.c1] 25) = v11 := ⟨_, rfl⟩
                have E11 := Lib.hid (e10.below al)
                have Z11 := Lib.hid (Blk.new v10 25 #[.int .i64 1, .slice r2.A0 0 r2.c0, .slice r2.A1 1 r2.c1])
                have hb11 := below_on HB9.out (below_on b10 al)
                rw [hv11] at E11 Z11 hb11 ⊢
                have I11 := Lib.hid (I8.out.below hb11)
                have hx11 := blk_up X8.out hb11
                have O11 := Lib.hid (arown_stay O8.out hb11 (fun g hg => (arown_lt O8.out g hg).2))
                have X11Z := Lib.hid hx11
                have hM4 := HT.out.m4
                have hrm := HT.out.rm
                obtain ⟨kM, hkM⟩ : ∃ kM, k * M = kM := ⟨_, rfl⟩
                obtain ⟨t, ht⟩ : ∃ t, kM + m = t := ⟨_, rfl⟩
                have htn : t < R * M := by
                  have h5 := Nat.mul_le_mul_right M hk
                  rw [Nat.succ_mul, hkM] at h5
                  omega
                have hxel : X.el = apL (inGV f g a.kind b.kind a.el b.el L M) (R * M) := by rw [HXX.out]
                have hXl : X.el.length = R * M := by rw [hxel, apL_length]
                obtain ⟨nX, hnX⟩ : ∃ nX, X.el.length = nX := ⟨_, rfl⟩
                have hcx : ∀ W, Below v11.heap.size v11 W → ∃ ad, r.A1 = some ad ∧ W.cell? (ad.add t) = some (.int .i64 V) := fun W hb => by
                  have ho := Reads.of_own (arown_stay O11.out hb (fun g hg => (arown_lt O11.out g hg).2))
                  obtain ⟨ad, e, _, hc⟩ := ho.2 (by omega)
                  refine ⟨ad, e, hc t _ ?_⟩
                  rw [List.getElem?_map, hxel, apL_at htn, ← ht, ← hkM, HVV.out]
                  rfl
                obtain ⟨adX, hadX, _⟩ := hcx v11 (Below.refl _ _)
                have HCX : Hid (∀ W, Below v11.heap.size v11 W → W.cell? (adX.add t) = some (.int .i64 V)) := Lib.hid (fun W hb => by
                  obtain ⟨ad, e, hc⟩ := hcx W hb
                  rw [hadX] at e
                  injection e with e
                  subst e
                  exact hc)
                rw [hadX, hnX] at hx11
                have X11 := Lib.hid hx11
                have m3 : (k : Int) * (M : Int) = (kM : Int) := by rw [← hkM]; exact (Int.natCast_mul k M).symm
                have m4 : (kM : Int) + (m : Int) = (t : Int) := by omega
                have p4 : IntKind.i64.wrap (kM : Int) = (kM : Int) := by rw [IntKind.wrap_i64]; omega
                have p5 : IntKind.i64.wrap (t : Int) = (t : Int) := by rw [IntKind.wrap_i64]; omega
                have d7 : (t : Int) < (nX : Int) := by omega
                have HU : GU (lookU [(11, xw ⟨1, [], [V]⟩), (12, xv (.bool true))]) := lookU_stay (by
                  intro x hx
                  simp only [List.mem_cons, List.not_mem_nil, or_false] at hx
                  rcases hx with rfl | rfl <;> first | exact xw_stk _ | exact fun _ _ _ _ h => h)
                clear hv11 al e10 b10 hb11 hx11 hkM ht hxel hcx u0 u1 u2 t0 t1 t2 hXl hadX hrm
                refine wp_region_done_on (GS v11) (GR [11, 12] (lookU [(11, xw ⟨1, [], [V]⟩), (12, xv (.bool true))]) [.agg #[.int .i64 1, .slice r2.A0 0 r2.c0, .slice r2.A1 1 r2.c1], .int .i64 0, .pointer (some ⟨w4.heap.size, 2, none⟩), .slice (some adX) nX r.c1, .int .i64 (k : Int), .int .i64 (M : Int), .int .i64 (kM : Int), .int .i64 (m : Int), .int .i64 (t : Int), .pointer (some (adX.add t)), .int .i64 V, undef, undef, .bool false]) (by kernel_rfl) 154 rfl (by kernel_rfl) ((Below.refl _ _).drew) ?_ ?_
                · intro i hi
                  have hi2 : i < 14 := hi
                  clear hi
                  rcases i with _ | i
                  · refine gr_value rfl (by decide) (.agg #[.int .i64 1, .slice r2.A0 0 r2.c0, .slice r2.A1 1 r2.c1]) rfl ?_
                    intro a8 w8 hb8 ho hn
                    have o20 : a8.tmps[20]? = some _ := (ho 20 (by kernel_rfl)).trans rfl
                    clear ho hn
                    refine ⟨wanted_free rfl, ?_⟩
                    have z0 := (blk_up Z11.out hb8).cell 0
                    have z1 := (blk_up Z11.out hb8).cell 1
                    have z2 := (blk_up Z11.out hb8).cell 2
                    go_simp
                  rcases i with _ | i
                  · refine gr_value rfl (by decide) (.int .i64 0) rfl ?_
                    intro a8 w8 hb8 ho hn
                    have o21 : a8.tmps[21]? = some _ := (ho 21 (by kernel_rfl)).trans rfl
                    clear ho hn
                    refine ⟨wanted_free rfl, ?_⟩
                    go_simp
                  rcases i with _ | i
                  · refine gr_value rfl (by decide) (.pointer (some ⟨w4.heap.size, 2, none⟩)) rfl ?_
                    intro a8 w8 hb8 ho hn
                    have o10 : a8.tmps[10]? = some _ := (ho 10 (by kernel_rfl)).trans rfl
                    clear ho hn
                    refine ⟨wanted_free rfl, ?_⟩
                    go_simp
                  rcases i with _ | i
                  · refine gr_value rfl (by decide) (.slice (some adX) nX r.c1) rfl ?_
                    intro a8 w8 hb8 ho hn
                    obtain ⟨v141, n141, hq141⟩ := hn 2 141 (by kernel_rfl) rfl
                    obtain rfl := hq141.1 (by decide)
                    clear ho hn
                    refine ⟨wanted_free rfl, ?_⟩
                    have c2 := (blk_up X11.out hb8).cell 2
                    go_simp
                  rcases i with _ | i
                  · refine gr_value rfl (by decide) (.int .i64 (k : Int)) rfl ?_
                    intro a8 w8 hb8 ho hn
                    have o15 : a8.tmps[15]? = some _ := (ho 15 (by kernel_rfl)).trans rfl
                    clear ho hn
                    refine ⟨wanted_free rfl, ?_⟩
                    go_simp
                  rcases i with _ | i
                  · refine gr_value rfl (by decide) (.int .i64 (M : Int)) rfl ?_
                    intro a8 w8 hb8 ho hn
                    have o14 : a8.tmps[14]? = some _ := (ho 14 (by kernel_rfl)).trans rfl
                    clear ho hn
                    refine ⟨wanted_free rfl, ?_⟩
                    go_simp
                  rcases i with _ | i
                  · refine gr_value rfl (by decide) (.int .i64 (kM : Int)) rfl ?_
                    intro a8 w8 hb8 ho hn
                    obtain ⟨v143, n143, hq143⟩ := hn 4 143 (by kernel_rfl) rfl
                    obtain rfl := hq143.1 (by decide)
                    obtain ⟨v144, n144, hq144⟩ := hn 5 144 (by kernel_rfl) rfl
                    obtain rfl := hq144.1 (by decide)
                    clear ho hn
                    refine ⟨wanted_free rfl, ?_⟩
                    go_simp
                  rcases i with _ | i
                  · refine gr_value rfl (by decide) (.int .i64 (m : Int)) rfl ?_
                    intro a8 w8 hb8 ho hn
                    have o16 : a8.tmps[16]? = some _ := (ho 16 (by kernel_rfl)).trans rfl
                    clear ho hn
                    refine ⟨wanted_free rfl, ?_⟩
                    go_simp
                  rcases i with _ | i
                  · refine gr_value rfl (by decide) (.int .i64 (t : Int)) rfl ?_
                    intro a8 w8 hb8 ho hn
                    obtain ⟨v145, n145, hq145⟩ := hn 6 145 (by kernel_rfl) rfl
                    obtain rfl := hq145.1 (by decide)
                    obtain ⟨v146, n146, hq146⟩ := hn 7 146 (by kernel_rfl) rfl
                    obtain rfl := hq146.1 (by decide)
                    clear ho hn
                    refine ⟨wanted_free rfl, ?_⟩
                    go_simp
                  rcases i with _ | i
                  · refine gr_value rfl (by decide) (.pointer (some (adX.add t))) rfl ?_
                    intro a8 w8 hb8 ho hn
                    obtain ⟨v142, n142, hq142⟩ := hn 3 142 (by kernel_rfl) rfl
                    obtain rfl := hq142.1 (by decide)
                    obtain ⟨v147, n147, hq147⟩ := hn 8 147 (by kernel_rfl) rfl
                    obtain rfl := hq147.1 (by decide)
                    clear ho hn
                    refine ⟨wanted_free rfl, ?_⟩
                    go_simp
                  rcases i with _ | i
                  · refine gr_value rfl (by decide) (.int .i64 V) rfl ?_
                    intro a8 w8 hb8 ho hn
                    obtain ⟨v148, n148, hq148⟩ := hn 9 148 (by kernel_rfl) rfl
                    obtain rfl := hq148.1 (by decide)
                    clear ho hn
                    refine ⟨wanted_free rfl, ?_⟩
                    have k3 := HCX.out w8 hb8
                    go_simp
                  rcases i with _ | i
                  · refine gr_call HU 24 rfl (by decide) ?_
                    intro a8 w8 hb8 ho hn
                    obtain ⟨v149, n149, hq149⟩ := hn 10 149 (by kernel_rfl) rfl
                    obtain rfl := hq149.1 (by decide)
                    clear ho hn
                    refine ⟨wanted_free rfl, ?_⟩
                    refine ⟨#[.int .i64 V], (by go_simp), (arscalar_any V w8).mono ?_⟩
                    rintro e w9 ⟨v, rfl, r9, rfl, o9, b9⟩
                    exact ⟨_, rfl, b9, r9, rfl, o9.el (by show 0 ≤ _; omega) (by show 1 ≤ _; omega) (fun z hz => by rw [List.mem_singleton] at hz; subst hz; exact HVI.out)⟩
                  rcases i with _ | i
                  · refine gr_call HU 44 rfl (by decide) ?_
                    intro a8 w8 hb8 ho hn
                    obtain ⟨v139, n139, hq139⟩ := hn 0 139 (by kernel_rfl) rfl
                    obtain rfl := hq139.1 (by decide)
                    obtain ⟨v140, n140, hq140⟩ := hn 1 140 (by kernel_rfl) rfl
                    obtain rfl := hq140.1 (by decide)
                    obtain ⟨v150, n150, hq150⟩ := hn 11 150 (by kernel_rfl) rfl
                    have hv150 := hq150.2 (by decide)
                    clear ho hn
                    refine ⟨wanted_free rfl, ?_⟩
                    obtain ⟨p9, rfl, h9⟩ : xw ⟨1, [], [V]⟩ v150 w8 := hv150
                    refine ⟨#[.agg #[.int .i64 1, .slice r2.A0 0 r2.c0, .slice r2.A1 1 r2.c1], .int .i64 0, .agg (arC ⟨1, [], [V]⟩ p9)], (by go_simp), (l16is_yes ⟨1, [], [V]⟩ r2 p9 w8 (E11.out.below hb8) h9).mono ?_⟩
                    rintro e w9 ⟨rfl, b9⟩
                    exact ⟨_, rfl, b9, rfl⟩
                  rcases i with _ | i
                  · refine gr_value rfl (by decide) (.bool false) rfl ?_
                    intro a8 w8 hb8 ho hn
                    obtain ⟨v151, n151, hq151⟩ := hn 12 151 (by kernel_rfl) rfl
                    have hv151 := hq151.2 (by decide)
                    clear ho hn
                    refine ⟨wanted_free rfl, ?_⟩
                    obtain rfl : v151 = .bool true := hv151
                    clear hq151
                    go_simp
                  omega
                · intro dn fv w5 hb5 hR5 hall
                  have h152 : fv 152 = _ := (hR5 13 152 rfl).1 (by decide)
                  simp only [putAll, List.foldl_cons, List.foldl_nil, Act.put, List.setIfInBounds_toArray, List.set_cons_succ, List.set_cons_zero, h152, List.getD_cons_zero, List.getD_cons_succ]
                  clear hR5 hall
                  have I12 := Lib.hid (I11.out.below hb5)
                  have X12 := Lib.hid (blk_up X11Z.out hb5)
                  have O12 := Lib.hid (arown_stay O11.out hb5 (fun g hg => (arown_lt O11.out g hg).2))
                  clear hb5
                  go_wp2
                  exact ⟨⟨m + 1, by go_num, by omega, I12.out, X12.out, O12.out⟩, by simp [intOf]; omega⟩
        · obtain rfl : m = M := by omega
          go_wp2
          exact ⟨⟨k + 1, by go_num, by omega, hI, hX, hO⟩, by simp [intOf]; omega⟩
    · obtain rfl : k = R := by omega
      have hfb := Lib.hid hI.fb
      clear hI hX hO
      go_wp2
      go_ret
      exact ⟨rfl, hfb.out⟩
end Go.Proofs.Ytkabdkblcgklmaa.foldTimes

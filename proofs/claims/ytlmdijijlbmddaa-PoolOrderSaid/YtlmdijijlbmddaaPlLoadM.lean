/-
  The memory behind the pool of layer 10: Load.
-/
import Derived.Test.YtlmdijijlbmddaaPlMem
namespace Go.Proofs.Ytlmdijijlbmddaa.pool
open Go.RowKit

section
variable {N m : Nat} {w : World} {ml : ML} {L : List TV} {log : List LV}
/-- The memory's tiles as they are read. -/
theorem MemAt.tile (h : MemAt N w m ml L log) {j : Nat} {t : TV} (hj : L[j]? = some t) : ∃ lc g c, w.cell? ⟨m, 0, none⟩ = some (.slice (some ⟨ml.lg, 0, none⟩) L.length lc) ∧ w.cell? ⟨ml.lg, j * 4, none⟩ = some (.int .i64 t.file) ∧ w.cell? ⟨ml.lg, j * 4 + 1, none⟩ = some (.int .i64 t.no) ∧
    w.cell? ⟨ml.lg, j * 4 + 2, none⟩ = some (.int .i64 t.kind) ∧ w.cell? ⟨ml.lg, j * 4 + 3, none⟩ = some (.slice (some ⟨g, 0, none⟩) 4 c) ∧ El w g c t.el ∧ ml.l[j]? = some (g, c) := by
  obtain ⟨lc, logv, hb, ho, hlg, cur, hc, hcur⟩ := h.mem
  have hjl : j < ml.l.length := by rw [h.len]; exact (List.getElem?_eq_some_iff.1 hj).1
  obtain ⟨⟨g, c⟩, hgc⟩ : ∃ gc, ml.l[j]? = some gc := ⟨_, List.getElem?_eq_getElem hjl⟩
  obtain ⟨h0, h1, h2, h3⟩ := hcur j t g c hj hgc
  rw [Nat.mul_comm 4 j] at h0 h1 h2 h3
  exact ⟨lc, g, c, hb.cell 0, (hc.cell _).trans h0, (hc.cell _).trans h1, (hc.cell _).trans h2, (hc.cell _).trans h3, (h.el j t g c hj hgc).1, hgc⟩
theorem MemAt.head (h : MemAt N w m ml L log) : ∃ lc, w.cell? ⟨m, 0, none⟩ = some (.slice (some ⟨ml.lg, 0, none⟩) L.length lc) := by
  obtain ⟨lc, logv, hb, _⟩ := h.mem
  exact ⟨lc, hb.cell 0⟩
theorem MemAt.lt (h : MemAt N w m ml L log) : ml.lg < w.heap.size := by
  obtain ⟨lc, logv, hb, ho, hlg, cur, hc, _⟩ := h.mem
  exact hc.lt

/-- What Load answers. -/
def loadV (L : List TV) (f n : Int) (w' : World) (B : Nat) (v : Value) : Prop :=
  (∃ j t g c, L[j]? = some t ∧ t.is f n = true ∧ (∀ (i : Nat) (u : TV), i < j → L[i]? = some u → u.is f n = false) ∧ v = .tuple #[tvv t g c, .int .i64 0] ∧ B ≤ g ∧ El w' g c t.el) ∨
  ((∀ (i : Nat) (u : TV), L[i]? = some u → u.is f n = false) ∧ v = .tuple #[.agg #[.int .i64 0, .int .i64 0, .int .i64 0, .slice none 0 0], .int .i64 50])

set_option maxRecDepth 100000 in
set_option maxHeartbeats 4000000 in
theorem mload_any (f n : Int) (h : MemAt N w m ml L log) (hl : log.length ≤ 1000000) (hLl : L.length ≤ 1000000) (hN : N ≤ w.heap.size) : Calls Try.prog 167 #[pv m, kvv f n] w fun e w' => (∃ v, e = .returned v ∧ loadV L f n w' w.heap.size v) ∧ MemAt N w' m ml L (log ++ [⟨1, n, f⟩]) ∧ KT N [38, 40] w w' := by
  obtain ⟨w1, hw1⟩ : ∃ w1, (w.alloc (.cells #[.int .i64 f, .int .i64 n] 29)).alloc (.cells #[.int .i64 0, .int .i64 0, .int .i64 0, .slice none 0 0] 43) = w1 := ⟨_, rfl⟩
  have hb1 : Below w.heap.size w w1 := by rw [← hw1]; exact ((Below.refl _ _).alloc (Nat.le_refl _) _).alloc (by simp) _
  have hs1 : w1.heap.size = w.heap.size + 2 := by rw [← hw1]; simp
  have hx1 : Blk w1 w.heap.size 29 #[.int .i64 f, .int .i64 n] := by rw [← hw1]; exact (Blk.new w _ _).alloc _
  have hy1 : Blk w1 (w.heap.size + 1) 43 #[.int .i64 0, .int .i64 0, .int .i64 0, .slice none 0 0] := by
    rw [← hw1]
    have := Blk.new (w.alloc (.cells #[.int .i64 f, .int .i64 n] 29)) 43 #[.int .i64 0, .int .i64 0, .int .i64 0, .slice none 0 0]
    rwa [World.size_alloc] at this
  have HC := Lib.hid (count_any ⟨1, n, f⟩ (h.below hb1) hl (Nat.le_trans hN hb1.size))
  have a0 := hx1.cell 0
  have a1 := hx1.cell 1
  have HX1 := Lib.hid hx1
  have HY1 := Lib.hid hy1
  have HB1 := Lib.hid hb1
  have hlg := h.lt
  clear h hb1 hx1 hy1
  go_enter Try.func167, Try.ntmps167
  go_wp2_with (go_at_call 170; refine HC.out.mono ?_; rintro e w2 ⟨rfl, h2, k2⟩; have H2 := Lib.hid h2; have K2 := Lib.hid k2; have HX2 := Lib.hid (k2.blk HX1.out (by decide)); have HY2 := Lib.hid (k2.blk HY1.out (by decide)); have hs2 := k2.keep.size; clear h2 k2)
  clear a0 a1
  go_loopw [7] (fun x wr => ∃ j : Nat, j ≤ L.length ∧ x = .int .i64 (j : Int) ∧ (∀ (i : Nat) (u : TV), i < j → L[i]? = some u → u.is f n = false) ∧ Below w2.heap.size w2 wr) (fun x _ => L.length + 1 - (intOf x).toNat)
  case atStart => exact ⟨0, Nat.zero_le _, rfl, fun i u hi => by omega, Below.refl _ _⟩
  case round =>
    obtain ⟨j, hj, rfl, hno, hbw⟩ := hrel
    have hm := H2.out.below hbw
    have hx := HX2.out.below hbw (by omega)
    have hy := HY2.out.below hbw (by omega)
    have HNO := Lib.hid hno
    have HBW := Lib.hid hbw
    have HM := Lib.hid hm
    have HY := Lib.hid hy
    have k0 := hx.cell 0
    have k1 := hx.cell 1
    clear hno hbw hx hy hm
    by_cases hlt : j < L.length
    · obtain ⟨t, ht⟩ : ∃ t, L[j]? = some t := ⟨_, List.getElem?_eq_getElem hlt⟩
      obtain ⟨lc, g, c, c0, t0, t1, t2, t3, hel, _⟩ := HM.out.tile ht
      have HT := Lib.hid ht
      have HEL := Lib.hid hel
      obtain ⟨tf, tn, tk, el⟩ := t
      simp only at t0 t1 t2
      clear ht hel
      have hd : (j : Int) < (L.length : Int) := by omega
      obtain ⟨lg, hlge⟩ : ∃ lg, ml.lg = lg := ⟨_, rfl⟩
      rw [hlge] at c0 t0 t1 t2 t3 hlg
      have HLG := Lib.hid hlge
      clear hlge
      by_cases hfe : tf = f
      · by_cases hne : tn = n
        · subst hfe hne
          have HTW := Lib.hid (ptwin_any ⟨tf, tn, tk, el⟩ g c)
          unfold tvv at HTW
          simp only at HTW
          go_wp2
          go_quiet (fail)
          have HEL2 : Hid (El (wr.drewN nq) g c el) := Lib.hid (HEL.out.keep (Keep.of_below (S := fun _ => False) (below_drewN (Below.refl _ _) nq)) (fun h => h))
          have HM2 := Lib.hid (HM.out.below (below_drewN (Below.refl _ _) nq))
          have HY2' := Lib.hid (HY.out.drewN nq)
          have HBW2 := Lib.hid (below_drewN HBW.out nq)
          go_wp2_with (go_at_call 171; refine (HTW.out _ HEL2.out).mono ?_; rintro e w5 ⟨g', c', rfl, hg5, he5, hb5⟩; have hy5 := HY2'.out.below hb5 HY2'.out.lt; have y0 := hy5.cell 0; have y1 := hy5.cell 1; have y2 := hy5.cell 2; have y3 := hy5.cell 3; have g0 := hy5.frozen 0; have g1 := hy5.frozen 1; have g2 := hy5.frozen 2; have g3 := hy5.frozen 3; have HY5 := Lib.hid hy5; have HG5 := Lib.hid hg5; have HE5 := Lib.hid he5; have HB5 := Lib.hid hb5; clear hy5 hg5 he5 hb5)
          have hk4 := keep_tile w5 (w.heap.size + 1) (.int .i64 tf) (.int .i64 tn) (.int .i64 tk) (.slice (some ⟨g', 0, none⟩) 4 c')
          have hkt : KT N [38, 40] w w5 := (((KT.of_below HB1.out).trans K2.out).trans (KT.of_below HBW2.out)).trans (KT.of_below HB5.out)
          have hz := HBW2.out.size
          have hm5 := HM2.out.below HB5.out
          refine bodyPost_ret (results_tile2 rfl rfl rfl (blk_tile _ _ _ _ HY5.out)) rfl ?_
          exact ⟨⟨_, rfl, .inl ⟨j, ⟨tf, tn, tk, el⟩, g', c', HT.out, by simp [TV.is], HNO.out, rfl, by have := HG5.out; omega, HE5.out.box HY5.out.typ (by decide) hk4⟩⟩, hm5.box HY5.out.typ (by have := HLG.out; omega) hk4, hkt.newK (by omega) hk4⟩
        · have hno : (tn == n) = false := by simpa using hne
          subst hfe
          have HNE := Lib.hid hne
          clear hne
          go_wp2
          go_quiet (fail)
          go_wp2
          refine ⟨⟨j + 1, by omega, by go_num, fun i u hi hu => ?_, below_drewN HBW.out _⟩, by simp [intOf]; omega⟩
          rcases Nat.lt_or_ge i j with h1 | h1
          · exact HNO.out i u h1 hu
          · obtain rfl : i = j := by omega
            rw [HT.out] at hu
            injection hu with hu
            subst hu
            unfold TV.is
            rw [hno, Bool.and_false]
      · have hno : (tf == f) = false := by simpa using hfe
        have HFE := Lib.hid hfe
        clear hfe
        go_wp2
        go_quiet (fail)
        go_wp2
        refine ⟨⟨j + 1, by omega, by go_num, fun i u hi hu => ?_, below_drewN HBW.out _⟩, by simp [intOf]; omega⟩
        rcases Nat.lt_or_ge i j with h1 | h1
        · exact HNO.out i u h1 hu
        · obtain rfl : i = j := by omega
          rw [HT.out] at hu
          injection hu with hu
          subst hu
          unfold TV.is
          rw [hno, Bool.false_and]
    · obtain rfl : j = L.length := by omega
      obtain ⟨lc, c0⟩ := HM.out.head
      have y0 := HY.out.cell 0
      have y1 := HY.out.cell 1
      have y2 := HY.out.cell 2
      have y3 := HY.out.cell 3
      have g0 := HY.out.frozen 0
      have g1 := HY.out.frozen 1
      have g2 := HY.out.frozen 2
      have g3 := HY.out.frozen 3
      clear hlt
      obtain ⟨lg, hlge⟩ : ∃ lg, ml.lg = lg := ⟨_, rfl⟩
      rw [hlge] at c0 hlg
      have HLG := Lib.hid hlge
      clear hlge
      generalize hLL : L.length = n1 at *
      have HLL := Lib.hid hLL
      clear hLL
      go_wp2
      have hk4 := keep_tile wr (w.heap.size + 1) (.int .i64 0) (.int .i64 0) (.int .i64 0) (.slice none 0 0)
      have hkt : KT N [38, 40] w wr := ((KT.of_below HB1.out).trans K2.out).trans (KT.of_below HBW.out)
      refine bodyPost_ret (results_tile2 rfl rfl rfl (blk_tile _ _ _ _ HY.out)) rfl ?_
      exact ⟨⟨_, rfl, .inr ⟨fun i u hu => HNO.out i u (by have := (List.getElem?_eq_some_iff.1 hu).1; have := HLL.out; omega) hu, rfl⟩⟩, HM.out.box HY.out.typ (by have := HLG.out; omega) hk4, hkt.newK (by omega) hk4⟩
end
end Go.Proofs.Ytlmdijijlbmddaa.pool

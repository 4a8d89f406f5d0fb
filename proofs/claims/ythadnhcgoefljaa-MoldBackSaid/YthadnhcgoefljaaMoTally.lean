/-
  Layer 13 (mold): Tally.
-/
import Derived.Test.YthadnhcgoefljaaMoVec
namespace Go.Proofs.Ythadnhcgoefljaa.mo
open Go.RowKit Go.Proofs.Ythadnhcgoefljaa.arr

/-- Tally's error, and what it makes. -/
def tyN (a : AV) : Int := if a.sh.length = 0 then 1 else a.sh.getD 0 0
def tyE (a : AV) : Int := if okA a = true then 0 else 110
def tyA (a : AV) : AV := if okA a = true then ⟨1, [], [tyN a]⟩ else noA
set_option maxRecDepth 100000 in
set_option maxHeartbeats 4000000 in
theorem motally_any (a : AV) (p : AP) (w : World) (ha : AEl w a p) :
    Calls Try.prog 17 #[.agg (arC a p)] w (GiveE (tyA a) (tyE a) w) := by
  have hI := OnI.start ha
  obtain ⟨w1, hw1⟩ : ∃ w1, (w.alloc (.cells (arC a p) 25)).alloc (.cells #[.int .i64 0, .slice none 0 0, .slice none 0 0] 25) = w1 := ⟨_, rfl⟩
  rw [hw1] at hI
  have HCA := Lib.hid (fun W (h : OnI w a p W) => archeck_any a p W h.ea)
  have hca : checkE a = if okA a = true then 0 else 110 := rfl
  have hE : tyE a = if okA a = true then 0 else 110 := rfl
  have hA : tyA a = if okA a = true then ⟨1, [], [tyN a]⟩ else noA := rfl
  have hN : tyN a = if a.sh.length = 0 then 1 else a.sh.getD 0 0 := rfl
  have hLC : arC a p = #[.int .i64 a.kind, .slice p.A0 a.sh.length p.c0, .slice p.A1 a.el.length p.c1] := rfl
  have HI := Lib.hid hI
  have HC := Lib.hid (fun W (h : OnI w a p W) => h.cells)
  obtain ⟨⟨x0, x1, x2⟩, ⟨r0, r1, r2⟩, f0, f1, f2⟩ := HC.out w1 hI
  have HEL : Hid (0 < a.sh.length → ∃ ad, p.A0 = some ad ∧ ∀ W, OnI w a p W → W.cell? ad = some (.int .i64 (a.sh.getD 0 0))) := Lib.hid (fun hs => by
    obtain ⟨ad, e, _, _⟩ := ha.r0.2 (by omega)
    have hx : a.sh[0]? = some (a.sh.getD 0 0) := by
      rw [List.getD_eq_getElem?_getD, List.getElem?_eq_getElem hs]
      rfl
    refine ⟨ad, e, fun W h => ?_⟩
    obtain ⟨ad2, e2, _, hc⟩ := h.ea.r0.2 (by omega)
    rw [e] at e2
    injection e2 with e2
    subst e2
    have hq := hc 0 _ (by rw [List.getElem?_map, hx]; rfl)
    have e0 : ad.add 0 = ad := by
      unfold Addr.add
      simp
    rw [e0] at hq
    exact hq)
  have HSC : Hid (∀ (n : Int) (W : World), Calls Try.prog 46 #[.int .i64 n] W fun e w' => ∃ r : AP, e = .returned (.agg #[.int .i64 1, .slice r.A0 0 r.c0, .slice r.A1 1 r.c1]) ∧ AOwn W.heap.size w' ⟨1, [], [n]⟩ r ∧ Below W.heap.size W w') := Lib.hid (fun n W => (arscalar_any n W).mono (by
    rintro e w' ⟨v, rfl, r, rfl, o, b⟩
    exact ⟨r, rfl, o, b⟩))
  rw [hLC] at HCA hw1
  rw [hLC]
  generalize a.kind = ka at *
  obtain ⟨X, hX⟩ : ∃ X, tyA a = X := ⟨_, rfl⟩
  obtain ⟨E, hE2⟩ : ∃ E, tyE a = E := ⟨_, rfl⟩
  obtain ⟨x, hx⟩ : ∃ x, tyN a = x := ⟨_, rfl⟩
  rw [hX, hE2]
  rw [hX, hx] at hA
  rw [hE2] at hE
  rw [hx] at hN
  generalize a.sh.getD 0 0 = y at *
  clear ha hI hLC hX hE2 hx
  cases hoa : okA a
  · rw [hoa, if_neg (by decide)] at hca hE hA
    subst hE
    subst hA
    rw [hca] at HCA
    clear hca HEL hN
    go_enter Try.func17, Try.ntmps17
    go_wp2_with (go_at_call 55; (try rw [hw1]); refine (HCA.out _ HI.out).mono ?_; rintro e w2 ⟨rfl, b2⟩; have hI2 := HI.out.below b2; obtain ⟨⟨x0, x1, x2⟩, ⟨r0, r1, r2⟩, f0, f1, f2⟩ := HC.out w2 hI2; have HI2 := Lib.hid hI2; clear b2 hI2)
    refine bodyPost_ret (results_arr2 rfl rfl rfl (arblk_three _ _ _ HI2.out.r)) rfl ?_
    exact GiveE.no rfl (HI2.out.fin _ _ _)
  rw [hoa, if_pos rfl] at hca hE hA
  subst hE
  rw [hca] at HCA
  clear hca
  by_cases hs : a.sh.length = 0
  · rw [if_pos hs] at hN
    subst hN
    subst hA
    rw [hs] at HCA x1 HC hw1
    rw [hs]
    clear HEL hs
    go_enter Try.func17, Try.ntmps17
    go_wp2_with (first
      | (go_at_call 55; (try rw [hw1]); refine (HCA.out _ HI.out).mono ?_; rintro e w2 ⟨rfl, b2⟩; have hI2 := HI.out.below b2; obtain ⟨⟨x0, x1, x2⟩, _⟩ := HC.out w2 hI2; have HI2 := Lib.hid hI2; clear b2 hI2)
      | (go_at_call 46; refine (HSC.out 1 w2).mono ?_; rintro e w3 ⟨r, rfl, o3, b3⟩; have HGV := Lib.hid (HI2.out.give b3 o3); have hI3 := HI2.out.below b3; obtain ⟨_, ⟨r0, r1, r2⟩, f0, f1, f2⟩ := HC.out _ hI3; have HI3 := Lib.hid hI3; clear o3 b3 hI3))
    refine bodyPost_ret (results_arr2 rfl rfl rfl (arblk_three _ _ _ HI3.out.r)) rfl ?_
    exact ⟨r, rfl, HGV.out⟩
  · rw [if_neg hs] at hN
    subst hN
    subst hA
    obtain ⟨ad, hA0, hcell⟩ := HEL.out (by omega)
    have HCELL := Lib.hid hcell
    have hs2 : ((a.sh.length : Int) == 0) = false := by rw [beq_eq_false_iff_ne]; omega
    have hs3 : (0 : Int) < (a.sh.length : Int) := by omega
    rw [hA0] at HCA x1 HC hw1
    rw [hA0]
    clear HEL hs hcell hA0
    generalize a.sh.length = q at *
    go_enter Try.func17, Try.ntmps17
    go_wp2_with (first
      | (go_at_call 55; (try rw [hw1]); refine (HCA.out _ HI.out).mono ?_; rintro e w2 ⟨rfl, b2⟩; have hI2 := HI.out.below b2; obtain ⟨⟨x0, x1, x2⟩, _⟩ := HC.out w2 hI2; have y0 := HCELL.out w2 hI2; have HI2 := Lib.hid hI2; clear b2 hI2)
      | (go_at_call 46; refine (HSC.out _ w2).mono ?_; rintro e w3 ⟨r, rfl, o3, b3⟩; have HGV := Lib.hid (HI2.out.give b3 o3); have hI3 := HI2.out.below b3; obtain ⟨_, ⟨r0, r1, r2⟩, f0, f1, f2⟩ := HC.out _ hI3; have HI3 := Lib.hid hI3; clear o3 b3 hI3))
    refine bodyPost_ret (results_arr2 rfl rfl rfl (arblk_three _ _ _ HI3.out.r)) rfl ?_
    exact ⟨r, rfl, HGV.out⟩
end Go.Proofs.Ythadnhcgoefljaa.mo

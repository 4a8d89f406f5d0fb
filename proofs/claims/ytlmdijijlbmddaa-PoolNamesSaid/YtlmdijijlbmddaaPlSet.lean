/-
  The pool of layer 10: Set.
-/
import Derived.Test.YtlmdijijlbmddaaPlGet
namespace Go.Proofs.Ytlmdijijlbmddaa.pool
open Go.RowKit

theorem run_max (a b : Int) (ts : Array TypeId) (t : TypeId) (w : World) : (Builtin.max_ ts t #[.int .i64 a, .int .i64 b]).run Try.prog w = .ok (.int .i64 (max a b)) w := by
  rw [run_max_int2]
  congr 2
  split <;> omega

section
variable {N p m : Nat} {w : World} {s : PS}
set_option maxRecDepth 100000 in
set_option maxHeartbeats 4000000 in
theorem plset_any (f n i x num : Int) (h : PB N w p m s) (hN : N ≤ w.heap.size) :
    Calls Try.prog 15 #[pv p, kvv f n, .int .i64 i, .int .i64 x, .int .i64 num] w fun e w' => e = .returned (.int .i64 (s.set_ f n i x num).1) ∧ PB N w' p m (s.set_ f n i x num).2 ∧ KT N TT w w' := by
  obtain ⟨q, ml, h⟩ := h
  obtain ⟨R, hR⟩ : ∃ R, s.set_ f n i x num = R := ⟨_, rfl⟩
  rw [hR]
  obtain ⟨E, s'⟩ := R
  have HRR := Lib.hid hR
  obtain ⟨w1, hw1⟩ : ∃ w1, w.alloc (.cells #[.int .i64 f, .int .i64 n] 29) = w1 := ⟨_, rfl⟩
  have hb1 : Below w.heap.size w w1 := by rw [← hw1]; exact (Below.refl _ _).alloc (Nat.le_refl _) _
  have hx1 : Blk w1 w.heap.size 29 #[.int .i64 f, .int .i64 n] := by rw [← hw1]; exact Blk.new w _ _
  have h1 := h.below hb1
  have HU := Lib.hid (usable_any h1.pool)
  have HFI := Lib.hid (pinned_any f n h1.pool)
  have k0 := hx1.cell 0
  have k1 := hx1.cell 1
  have H1 := Lib.hid h1
  have HB1 := Lib.hid hb1
  have hN1 : N ≤ w1.heap.size := Nat.le_trans hN hb1.size
  clear h h1 hx1 hb1 hR
  simp only
  go_enter Try.func15, Try.ntmps15
  go_wp2_with (first
    | (go_at_call 47; refine HU.out.mono ?_; rintro e _ ⟨rfl, rfl⟩)
    | (go_at_call 52; refine HFI.out.mono ?_; rintro e w2 ⟨⟨xx, rfl, hx⟩, hb2⟩; have HX := Lib.hid hx; have HB2 := Lib.hid hb2; clear hx hb2))
  have hft := found_take HX.out
  rw [← H1.out.fr] at hft
  have hN2 : N ≤ w2.heap.size := Nat.le_trans hN1 HB2.out.size
  have HBA : Hid (KT N TT w w2) := Lib.hid (KT.of_below (HB1.out.trans (HB2.out.mono HB1.out.size)))
  rcases hft with ⟨pre, ⟨fl, v⟩, post, hq, hy, rfl, ht⟩ | ⟨rfl, ht⟩
  · have h2 := H1.out.below HB2.out
    have H2Q := Lib.hid h2
    rw [hq] at h2
    have H2 := Lib.hid h2
    have hfr : FrAt w2 fl v := (h2.pool.fr (fl, v) (by simp)).1
    have hNN : N ≤ fl.b ∧ N ≤ fl.g := (h2.pool.fr (fl, v) (by simp)).2
    have c3 : w2.cell? ⟨fl.b, 3, none⟩ = some (.slice (some ⟨fl.g, 0, none⟩) 4 fl.c) := hfr.blk.cell 3
    have c5 : w2.cell? ⟨fl.b, 5, none⟩ = some (.bool v.dirty) := hfr.blk.cell 5
    have c6 : w2.cell? ⟨fl.b, 6, none⟩ = some (.int .i64 v.num) := hfr.blk.cell 6
    have f5 := hfr.blk.frozen 5
    have f6 := hfr.blk.frozen 6
    have HHA := Lib.hid (phas_any fl v i w2 hfr)
    have HFR := Lib.hid hfr
    have HT := Lib.hid ht
    have hmx := run_max v.num num
    clear ht h2 hq hy hfr
    simp only [pv]
    by_cases hi : 0 ≤ i ∧ i < 4
    · rw [decide_eq_true hi] at HHA
      obtain ⟨h0, h4⟩ := hi
      obtain ⟨k, rfl⟩ := Int.eq_ofNat_of_zero_le h0
      have hk4 : k < 4 := by omega
      have hl4 : v.t.el.length = 4 := HFR.out.el.len
      have ck : ∃ u, w2.cell? ⟨fl.g, k, none⟩ = some u := ⟨_, HFR.out.el.at_ (List.getElem?_eq_getElem (by omega))⟩
      obtain ⟨u, ck⟩ := ck
      have fk : w2.frozen? ⟨fl.g, k, none⟩ = false := by
        obtain ⟨cur, hb, _⟩ := HFR.out.el.cur
        exact hb.frozen k
      have hbg : fl.b ≠ fl.g := fun e => absurd (Typ.ne HFR.out.blk.typ (e ▸ HFR.out.el.typ)) (by decide)
      -- what stands behind the three stores
      have hfin : PL N (((w2.setCell ⟨fl.g, k, none⟩ (.int .i64 x)).setCell ⟨fl.b, 5, none⟩ (.bool true)).setCell ⟨fl.b, 6, none⟩ (.int .i64 (max v.num num))) p m false (pre ++ (fl, v.set_ k x num) :: post) ml { s with fr := pre.map (·.2) ++ v.set_ k x num :: post.map (·.2) } ∧ KT N TT w2 (((w2.setCell ⟨fl.g, k, none⟩ (.int .i64 x)).setCell ⟨fl.b, 5, none⟩ (.bool true)).setCell ⟨fl.b, 6, none⟩ (.int .i64 (max v.num num))) := by
        have hS1 : Keep (fun i => i = fl.g) w2 (w2.setCell ⟨fl.g, k, none⟩ (.int .i64 x)) := (Keep.refl _ _).setCell _ _ (fun _ => rfl)
        have he1 := HFR.out.el.set_ hk4 x
        have hb1 := HFR.out.blk.far (p := ⟨fl.g, k, none⟩) hbg (.int .i64 x)
        have p1 := H2.out.pool.turn (v' := { v with t := { v.t with el := v.t.el.set k x } }) hS1 HFR.out.el.typ (.inr ⟨rfl, rfl⟩) ⟨hb1, he1⟩
        have hS2 : Keep (fun i => i = fl.b) (w2.setCell ⟨fl.g, k, none⟩ (.int .i64 x)) ((w2.setCell ⟨fl.g, k, none⟩ (.int .i64 x)).setCell ⟨fl.b, 5, none⟩ (.bool true)) := (Keep.refl _ _).setCell _ _ (fun _ => rfl)
        have hS3 : Keep (fun i => i = fl.b) (w2.setCell ⟨fl.g, k, none⟩ (.int .i64 x)) (((w2.setCell ⟨fl.g, k, none⟩ (.int .i64 x)).setCell ⟨fl.b, 5, none⟩ (.bool true)).setCell ⟨fl.b, 6, none⟩ (.int .i64 (max v.num num))) := hS2.setCell _ _ (fun _ => rfl)
        have p3 := p1.turn (v' := v.set_ k x num) hS3 hb1.typ (.inl ⟨rfl, rfl⟩) ⟨(hb1.set_ 5 (.bool true)).set_ 6 (.int .i64 (max v.num num)), he1.box hb1.typ (by decide) hS3⟩
        have hm3 : MemAt N (((w2.setCell ⟨fl.g, k, none⟩ (.int .i64 x)).setCell ⟨fl.b, 5, none⟩ (.bool true)).setCell ⟨fl.b, 6, none⟩ (.int .i64 (max v.num num))) m ml s.L s.log := by
          have hm1 : MemAt N (w2.setCell ⟨fl.g, k, none⟩ (.int .i64 x)) m ml s.L s.log := by
            obtain ⟨lc, logv, hb, ho, hlg, cur, hc, hcur⟩ := H2.out.mem.mem
            have ht := HFR.out.el.typ
            refine ⟨H2.out.mem.nm, ⟨lc, logv, hS1.blk hb (fun e => absurd (Typ.ne hb.typ (e ▸ ht)) (by decide)), hS1.own ho (fun j hj e => absurd (Typ.ne (own_typ_of ho hj).2 (e ▸ ht)) (by decide)), hlg, cur, hS1.blk hc (fun e => absurd (Typ.ne hc.typ (e ▸ ht)) (by decide)), hcur⟩, H2.out.mem.len, fun i t g c hi hm => ⟨(H2.out.mem.el i t g c hi hm).1.keep hS1 (fun e => ?_), (H2.out.mem.el i t g c hi hm).2⟩⟩
            exact H2.out.ap (fl, v) (by simp) (g, c) (List.mem_of_getElem? hm) e.symm
          exact hm1.keep (⟨hS3.more (fun i _ e => ⟨by rw [e]; exact hNN.1, 82, by decide, e ▸ hb1.typ⟩)⟩ : KT N [82] _ _) (by decide)
        refine ⟨⟨p3, hm3, fun y hy z hz => ?_, by simp⟩, ?_⟩
        · rcases List.mem_append.1 hy with hy | hy
          · exact H2.out.ap y (by simp [hy]) z hz
          · rcases List.mem_cons.1 hy with rfl | hy
            · exact H2.out.ap (fl, v) (by simp) z hz
            · exact H2.out.ap y (by simp [hy]) z hz
        · exact (⟨hS1.more (fun i _ e => ⟨by rw [e]; exact hNN.2, 2, by decide, e ▸ HFR.out.el.typ⟩)⟩ : KT N TT _ _).trans (⟨hS3.more (fun i _ e => ⟨by rw [e]; exact hNN.1, 82, by decide, e ▸ hb1.typ⟩)⟩ : KT N TT _ _)
      have HFIN := Lib.hid hfin
      clear hfin
      go_wp2_with (go_at_call 53; refine HHA.out.mono ?_; rintro e _ ⟨rfl, rfl⟩)
      go_ret
      have hR := HRR.out
      unfold PS.set_ at hR
      rw [HT.out] at hR
      have hcond : (0 : Int) ≤ (k : Int) ∧ (k : Int) < 4 := ⟨h0, h4⟩
      simp only [hcond, and_self, if_true, Int.toNat_natCast] at hR
      injection hR with e1 e2
      subst e1 e2
      exact ⟨rfl, ⟨_, ml, HFIN.out.1⟩, HBA.out.trans HFIN.out.2⟩
    · rw [decide_eq_false hi] at HHA
      have HI := Lib.hid hi
      clear hi
      go_wp2_with (go_at_call 53; refine HHA.out.mono ?_; rintro e _ ⟨rfl, rfl⟩)
      go_ret
      have hR := HRR.out
      unfold PS.set_ at hR
      rw [HT.out] at hR
      simp only [HI.out, if_false] at hR
      injection hR with e1 e2
      subst e1 e2
      exact ⟨rfl, ⟨q, ml, H2Q.out⟩, HBA.out⟩
  · have qn := fun w => run_eql_nilnil (P := Try.prog) w (tp := 79) (te := 82) Try.underlying79
    have h2 := H1.out.below HB2.out
    have HT := Lib.hid ht
    have H2 := Lib.hid h2
    clear ht h2
    simp [eqGuard, qn]
    go_wp2
    go_ret
    have hR := HRR.out
    unfold PS.set_ at hR
    rw [HT.out] at hR
    injection hR with e1 e2
    subst e1 e2
    exact ⟨rfl, ⟨q, ml, H2.out⟩, HBA.out⟩
end
end Go.Proofs.Ytlmdijijlbmddaa.pool

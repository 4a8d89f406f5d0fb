/-
  The space of layer 4: whether all sectors of an extent are in a state.
-/
import Derived.Test.YtjndbibbfcmgiaaEShare
namespace Go.Proofs.Ytjndbibbfcmgiaa
open Go.RowKit

theorem eql_ext (u v a n : Int) (W : World) : (binOp .eql 33 (.agg #[.int .i64 u, .int .i64 v]) (.agg #[.int .i64 a, .int .i64 n])).run Try.prog W = .ok (.bool (decide (u = a ∧ v = n))) W := by
  go_simp
  by_cases h1 : u = a <;> by_cases h2 : v = n <;> simp [h1, h2]

theorem below_of_drew {W W' : World} (h : Below W.drew.heap.size W.drew W') : Below W.heap.size W W' := ⟨h.os, h.tape, h.output, h.size, h.block⟩
theorem EI.next {w W W' : World} {q : Nat} {t : TypeId} {cs : Array Value} (h : EI w q t cs W) (hb : Below W.heap.size W W') : EI w q t cs W' :=
  ⟨h.keep.trans (Keep.of_below (S := fun _ => False) hb) (fun _ _ e => e.elim), h.box.below hb h.box.lt⟩
theorem keepsFrom_below {W W' : World} (B : Nat) (h : Below W.heap.size W W') : KeepsFrom B W W' :=
  ⟨h.size, fun k _ _ hk _ => (h.block k (Array.getElem?_eq_some_iff.1 hk).1).trans hk⟩

theorem fin_put {w W : World} {D : Nat} (hw : Below w.heap.size w W) (hD : w.heap.size ≤ D) : Below w.heap.size w (W.putObj D (.deferred none)) := by
  have hp : Keep (fun k => k = D) W (W.putObj D (.deferred none)) := (Keep.refl _ _).grown (grownBy_putObj' _ D _) (fun k e _ => by injection e with e; exact e.symm)
  exact hw.trans (hp.below hw.size (fun i hi e => by omega))

/-- A run has the extent whole, as the code asks it. -/
def inX (r : Nat × Nat) (A n : Nat) : Bool := decide (r.1 ≤ A ∧ A + n ≤ r.1 + r.2)
theorem inX_shared (f P M A n : Nat) : decide ((sharedE (f + P) M (f + A) n).1 = ((f + A : Nat) : Int) ∧ (sharedE (f + P) M (f + A) n).2 = (n : Int)) = inX (P, M) A n := by
  unfold sharedE inX
  refine decide_eq_decide.2 ?_
  simp only
  omega
theorem inRun_app {A n : Nat} {r : List (Nat × Nat)} : ∀ l : List (Nat × Nat), (∀ y ∈ l, inX y A n = false ∧ ¬ A < y.1) → inRun (l ++ r) A n = inRun r A n
  | [], _ => rfl
  | y :: l, h => by
    have h1 := h y (List.mem_cons_self ..)
    rw [List.cons_append]
    unfold inX at h1
    rw [inRun, if_neg (of_decide_eq_false h1.1), if_neg h1.2]
    exact inRun_app l (fun z hz => h z (List.mem_cons_of_mem _ hz))
theorem inRun_in {A n : Nat} {x : Nat × Nat} {r : List (Nat × Nat)} (h : inX x A n = true) : inRun (x :: r) A n = true := by
  unfold inX at h
  rw [inRun, if_pos (of_decide_eq_true h)]
theorem inRun_out {A n : Nat} {x : Nat × Nat} {r : List (Nat × Nat)} (h : inX x A n = false) (h2 : A < x.1) : inRun (x :: r) A n = false := by
  unfold inX at h
  rw [inRun, if_neg (of_decide_eq_false h), if_pos h2]

section
variable {w : World} {d : SpAt} {s : ESt}
attribute [local go_sem] Oper.semAt_some
set_option maxRecDepth 100000 in
set_option maxHeartbeats 4000000 in
theorem eall_any (a n : Nat) (al : Bool) (hc : s.f ≤ a ∧ 1 ≤ n ∧ a + n ≤ s.to) (h : EK w d s) : Calls Try.prog 37 #[.pointer (some ⟨d.b, 0, none⟩), .agg #[.int .i64 (a : Int), .int .i64 (n : Int)], .bool al] w fun e w' => e = .returned (.bool (decide (AllAre s.L (a - s.f) n al))) ∧ Below w.heap.size w w' := by
  obtain ⟨A, hA⟩ : ∃ A, a = s.f + A := ⟨a - s.f, by omega⟩
  have hAA : a - s.f = A := by omega
  rw [hAA]
  have HA := Lib.hid hA
  clear hA hAA
  have hfr : Fence.wide.fn 24 := trivial
  have hlt := h.lt
  have H := Lib.hid h
  clear h
  refine (callsIn_wide (n := 7)).1 ?_
  refine callsIn_of_wp_marks Try.func37 rfl trivial ?_
  simp only [Try.ntmps37, List.size_toArray, List.length_cons, List.length_nil, Nat.reduceAdd, Nat.reduceSub, Array.replicate_succ, Array.replicate_zero, List.push_toArray, List.append_toArray, List.nil_append, List.cons_append]
  gi_wp2
  refine wpIn_scope_w ?_
  gi_wp2
  refine wpIn_label ?_
  gi_wp2_with ((gi_at_call 24; refine (callsIn_wide.2 (eruns_any _ _ _)).mono ?_; rintro e w2 ⟨rfl, hw2⟩))
  rw [← hw2]
  obtain ⟨q, hq⟩ : ∃ q, w.heap.size = q := ⟨_, rfl⟩
  obtain ⟨W1, hW1⟩ : ∃ W1, ((w.alloc (.cells #[.int .i64 (a : Int), .int .i64 (n : Int)] 33)).alloc (.cells #[.bool false] 4)) = W1 := ⟨_, rfl⟩
  have hB1 : Below w.heap.size w W1 := by rw [← hW1]; exact ((Below.refl _ w).alloc (Nat.le_refl _) _).alloc (by simp) _
  have hx1 : Blk W1 (q + 1) 4 #[.bool false] := by rw [← hW1, ← hq]; exact blk_new2 w _ 4 _
  have hn1 : Blk W1 q 33 #[.int .i64 (a : Int), .int .i64 (n : Int)] := by rw [← hW1, ← hq]; exact (Blk.new w _ _).alloc _
  have hs1 : W1.heap.size = q + 2 := by rw [← hW1, ← hq]; simp
  have H1 := Lib.hid (H.out.below hB1)
  have HB1 := Lib.hid hB1
  have HX1 := Lib.hid hx1
  clear hB1 hx1
  rw [hW1] at hw2
  rw [hq]
  have hb2 : Below W1.heap.size W1 w2 := by rw [hw2]; exact ((Below.refl _ _).alloc (Nat.le_refl _) _).alloc (by simp) _
  have hsz2 : w2.heap.size = q + 4 := by rw [hw2]; simp [hs1]
  have hEK2 := H1.out.below hb2
  have hRA : RunsAt w2 (q + 1 + 1) (q + 1 + 1 + 1) d al := by
    rw [hw2]
    refine ⟨?_, ?_⟩
    · have := (Blk.new W1 23 #[.pointer (some ⟨d.b, 0, none⟩)]).alloc (.cells #[.bool al] 4)
      rwa [hs1] at this
    · have := blk_new2 W1 (.cells #[.pointer (some ⟨d.b, 0, none⟩)] 23) 4 #[.bool al]
      rwa [hs1] at this
  have hdb := hlt d.b (.inl rfl)
  have hdg := hlt d.g (.inr rfl)
  have hne : q + 1 + 1 ≠ q + 1 ∧ q + 1 + 1 + 1 ≠ q + 1 ∧ d.b ≠ q + 1 ∧ d.g ≠ q + 1 := by omega
  have hEI0 : EI w2 (q + 1) 4 #[.bool false] w2 := ⟨Keep.refl _ _, HX1.out.below hb2 (by omega)⟩
  have HN2 := Lib.hid (hn1.below hb2 (by omega))
  have HOK := Lib.hid hEK2.ok
  have HBW : Hid (Below w.heap.size w w2) := Lib.hid (HB1.out.trans (hb2.mono HB1.out.size))
  obtain ⟨hc1, hc2, hc3⟩ := hc
  have hto : s.to ≤ 4096 := HOK.out.few
  have HIN : Hid (inRun (runsAt s.L al 0) A n = decide (AllAre s.L A n al)) := Lib.hid (inRun_iff hc2 0 (Nat.zero_le _))
  clear hn1
  refine wpIn_rangeFunc_ownH rfl (by omega) (gf := 33) (lb := #[.pointer (some ⟨q + 1 + 1, 0, none⟩), .pointer (some ⟨q + 1 + 1 + 1, 0, none⟩)]) rfl trivial (enters_of Try.func33 (by kernel_rfl) rfl)
    (runs_stops 6 (by omega) (q + 1) (q + 1 + 1) (q + 1 + 1 + 1) d s al w2 hEK2 hRA hne) (fun h k => h.trans k) (fun W l o o' _ hl ho _ => KpE.putObj W l o o' hl ho) (Below.refl _ _) (fun _ => rfl)
    (fun (pre : List (Run s al)) W => EI w2 (q + 1) 4 #[.bool false] W ∧ ∀ y ∈ pre, inX y.1 A n = false ∧ ¬ A < y.1.1)
    (fun c (pre : List (Run s al)) W => c = .exit 0 ∧ ∃ (pre0 : List (Run s al)) (x : Run s al) (bb : Bool), pre = pre0 ++ [x] ∧ (∀ y ∈ pre0, inX y.1 A n = false ∧ ¬ A < y.1.1) ∧ inX x.1 A n = bb ∧ (bb = false → A < x.1.1) ∧ EI w2 (q + 1) 4 #[.bool bb] W)
    (fun pre W W' row hs hg hr => ⟨hs.1.turn (keepE hg (fun k e => (hr k e).1)) (by omega) (by omega), hs.2⟩)
    (fun c pre W W' row hs hg hr => by
      obtain ⟨h1, pre0, x, bb, h2, h3, h4, h5, h6⟩ := hs
      exact ⟨h1, pre0, x, bb, h2, h3, h4, h5, h6.turn (keepE hg (fun k e => (hr k e).1)) (by omega) (by omega)⟩)
    ⟨hEI0, fun y hy => by cases hy⟩
    (fun (x : Run s al) a' W => BoxX w2.heap.size s.f (fun rb => { tmps := #[.pointer (some ⟨d.b, 0, none⟩), .agg #[.int .i64 (a : Int), .int .i64 (n : Int)], .bool al, undef, .pointer (some ⟨q, 0, none⟩), undef, .bool false, .pointer (some ⟨q + 1, 0, none⟩), .pointer (some ⟨rb, 0, none⟩), .pointer (some ⟨d.b, 0, none⟩), .bool al, .func (.func 33) #[] #[.pointer (some ⟨q + 1 + 1, 0, none⟩), .pointer (some ⟨q + 1 + 1 + 1, 0, none⟩)], .agg #[.int .i64 ((s.f : Int) + (x.1.1 : Int)), .int .i64 (x.1.2 : Int)], undef, undef, undef, undef, undef, undef, undef, undef, undef, undef, undef, undef, undef], defers := [] }) x.1 a' W)
    (fun _ _ => BoxX.own) ?assign ?body ?done ?stop
  case assign =>
    intro l pre x W K hI hK
    have HK := Lib.hid hK
    have HI := Lib.hid hI
    clear hK hI
    unfold runV
    gi_wp2
    exact HK.out _ _ (keepsFrom_alloc _ _ _) (kpE_alloc _ _ _) ⟨HI.out.1.alloc _, HI.out.2⟩ ⟨W.heap.size, HI.out.1.keep.size, rfl, Blk.new W _ _⟩
  case body =>
    rintro l pre x a' W _ _ ⟨hI, hpre⟩ ⟨rb, hrb, rfl, hbx⟩ hpl
    have hmx : Try.prog.follows .mixedOrders = true := by kernel_rfl
    have hfs : Fence.wide.fn 38 := trivial
    have r0 := hbx.cell 0
    have r1 := hbx.cell 1
    have hxb := hI.keep.blk HN2.out (show ¬ q = q + 1 by omega)
    have n0 := hxb.cell 0
    have n1 := hxb.cell 1
    have HXB := Lib.hid hxb
    have HRB := Lib.hid hbx
    have hb := (x.bnd HOK.out).2
    have HPRE := Lib.hid hpre
    have HI := Lib.hid hI
    have hsh : ∀ W', Calls Try.prog 38 #[.agg #[.int .i64 ((s.f : Int) + (x.1.1 : Int)), .int .i64 (x.1.2 : Int)], .agg #[.int .i64 (a : Int), .int .i64 (n : Int)]] W' fun e w' => e = .returned (.agg #[.int .i64 (sharedE (s.f + x.1.1) x.1.2 a n).1, .int .i64 (sharedE (s.f + x.1.1) x.1.2 a n).2]) ∧ Below W'.heap.size W' w' := fun W' => eshared_any (s.f + x.1.1) x.1.2 a n W' (by omega)
    have hix := inX_shared s.f x.1.1 x.1.2 A n
    rw [← HA.out] at hix
    have HSH := Lib.hid hsh
    obtain ⟨u, hu⟩ : ∃ u, (sharedE (s.f + x.1.1) x.1.2 a n).1 = u := ⟨_, rfl⟩
    obtain ⟨v, hv⟩ : ∃ v, (sharedE (s.f + x.1.1) x.1.2 a n).2 = v := ⟨_, rfl⟩
    rw [hu, hv] at HSH hix
    have HIX := Lib.hid hix
    have heq := eql_ext u v (a : Int) (n : Int)
    rw [hix] at heq
    clear hI hbx hpre hsh hu hv hix hxb
    cases hbb : inX (x.1.1, x.1.2) A n
    · rw [hbb] at heq
      have HBB := Lib.hid hbb
      clear hbb
      by_cases hlt2 : A < x.1.1
      · have hd : decide ((a : Int) < (s.f : Int) + (x.1.1 : Int)) = true := decide_eq_true (by have := HA.out; omega)
        have HLT2 := Lib.hid hlt2
        clear hlt2
        gi_wp2
        gi_region_with_o (gi_at_call 38; refine (CallsIn.inRound l (callsIn_wide.2 (HSH.out _))).mono ?_; rintro e w9 ⟨rfl, hb9⟩; have hb99 := below_of_drew hb9; have HI9 := Lib.hid (HI.out.next hb99); have HKF := Lib.hid (keepsFrom_below w2.heap.size hb99); have HKP : Hid (KpE (q + 1) W w9) := Lib.hid (KpE.of_below hb99); have m0 := (HXB.out.below hb99 HXB.out.lt).cell 0; have m1 := (HXB.out.below hb99 HXB.out.lt).cell 1; have k0 := (HRB.out.below hb99 HRB.out.lt).cell 0; clear hb9 hb99)
        all_goals gi_wp2
        all_goals exact ⟨HKF.out, rfl, pre, x, false, rfl, HPRE.out, HBB.out, fun _ => HLT2.out, HI9.out⟩
      · have hd : decide ((a : Int) < (s.f : Int) + (x.1.1 : Int)) = false := decide_eq_false (by have := HA.out; omega)
        have HLT2 := Lib.hid hlt2
        clear hlt2
        gi_wp2
        gi_region_with_o (gi_at_call 38; refine (CallsIn.inRound l (callsIn_wide.2 (HSH.out _))).mono ?_; rintro e w9 ⟨rfl, hb9⟩; have hb99 := below_of_drew hb9; have HI9 := Lib.hid (HI.out.next hb99); have HKF := Lib.hid (keepsFrom_below w2.heap.size hb99); have HKP : Hid (KpE (q + 1) W w9) := Lib.hid (KpE.of_below hb99); have m0 := (HXB.out.below hb99 HXB.out.lt).cell 0; have m1 := (HXB.out.below hb99 HXB.out.lt).cell 1; have k0 := (HRB.out.below hb99 HRB.out.lt).cell 0; clear hb9 hb99)
        all_goals gi_wp2
        all_goals exact ⟨HKF.out, HKP.out, HI9.out, fun y hy => by
          rcases List.mem_append.1 hy with hy | hy
          · exact HPRE.out y hy
          · rw [List.mem_singleton.1 hy]
            exact ⟨HBB.out, HLT2.out⟩⟩
    · rw [hbb] at heq
      have HBB := Lib.hid hbb
      clear hbb
      gi_wp2
      gi_region_with_o (gi_at_call 38; refine (CallsIn.inRound l (callsIn_wide.2 (HSH.out _))).mono ?_; rintro e w9 ⟨rfl, hb9⟩; have hb99 := below_of_drew hb9; have HI9 := Lib.hid (HI.out.next hb99); have HKF := Lib.hid (keepsFrom_below w2.heap.size hb99); have HKP : Hid (KpE (q + 1) W w9) := Lib.hid (KpE.of_below hb99); have m0 := (HXB.out.below hb99 HXB.out.lt).cell 0; have m1 := (HXB.out.below hb99 HXB.out.lt).cell 1; have k0 := (HRB.out.below hb99 HRB.out.lt).cell 0; clear hb9 hb99)
      all_goals (have i0 := HI9.out.box.cell 0)
      all_goals (have i1 := HI9.out.box.frozen 0)
      all_goals gi_wp2
      all_goals exact ⟨HKF.out.trans (keepsFrom_keep (q := q + 1) ((Keep.refl _ _).setCell _ _ (fun _ => rfl)) (by omega)), rfl, pre, x, true, rfl, HPRE.out, HBB.out, (fun h => Bool.noConfusion h), HI9.out.set_ 0 (.bool true)⟩
  case done =>
    rintro D xs W hD hS ⟨hI, hall⟩ hK
    have hno : decide (AllAre s.L A n al) = false := by
      rw [← HIN.out, ← hS]
      have := inRun_app (A := A) (n := n) (r := []) (xs.map (·.1)) (fun y hy => by
        obtain ⟨x, hx, rfl⟩ := List.mem_map.1 hy
        exact hall x hx)
      rw [List.append_nil] at this
      exact this
    have HNO := Lib.hid hno
    have c0 := hI.box.cell 0
    have HE := Lib.hid (fin_put (HBW.out.trans (hI.keep.below (B := w.heap.size) (by omega) (fun i hi e => by omega))) (show w.heap.size ≤ D by omega))
    clear hS hI hall hno
    gi_wp2
    refine ⟨by simp, .inl ⟨_, _, rfl, run_takeDeferred hK, ?_⟩⟩
    exact ⟨_, results_tmp rfl _ _ _, by rw [HNO.out]; rfl, HE.out⟩
  case stop =>
    rintro D c pre W hD hSp ⟨rfl, pre0, x, bb, rfl, hlo, hbb, hfar, hI⟩ hK
    have hyes : decide (AllAre s.L A n al) = bb := by
      obtain ⟨t, ht⟩ := hSp
      rw [List.map_append, List.map_singleton, List.append_assoc] at ht
      rw [← HIN.out]
      refine (congrArg (fun l => inRun l A n) ht.symm).trans ?_
      refine (inRun_app _ (fun y hy => ?_)).trans ?_
      · obtain ⟨z, hz, rfl⟩ := List.mem_map.1 hy
        exact hlo z hz
      · cases bb
        · exact inRun_out hbb (hfar rfl)
        · exact inRun_in hbb
    have HNO := Lib.hid hyes
    have c0 := hI.box.cell 0
    have HE := Lib.hid (fin_put (HBW.out.trans (hI.keep.below (B := w.heap.size) (by omega) (fun i hi e => by omega))) (show w.heap.size ≤ D by omega))
    clear hSp hI hlo hbb hfar hyes
    gi_wp2
    refine ⟨by simp, .inl ⟨_, _, rfl, run_takeDeferred hK, ?_⟩⟩
    exact ⟨_, results_tmp rfl _ _ _, by rw [HNO.out]; rfl, HE.out⟩
end
end Go.Proofs.Ytjndbibbfcmgiaa

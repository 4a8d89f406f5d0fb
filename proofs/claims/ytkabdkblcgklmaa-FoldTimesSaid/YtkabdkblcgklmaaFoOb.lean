/-
  Layer 16 (fold), its laws: a region that draws its order, makes a box of three cells, and stores there at its end.
-/
import Derived.Test.YtkabdkblcgklmaaFoTw
namespace Go.Proofs.Ytkabdkblcgklmaa.fo
open Go.RowKit Go.Proofs.Ytkabdkblcgklmaa.arr Go.Proofs.Ytkabdkblcgklmaa.sc

structure ObB (w0 : World) (kb ks tb : Nat) (F : Array Value → World → Prop) (dn : Nat → Bool) (T : Array Value) (W : World) : Prop where
  b : Below w0.heap.size w0 W
  h : dn kb = true → ∃ g, T[tb]? = some (.pointer (some ⟨g, 0, none⟩)) ∧ w0.heap.size ≤ g ∧ (∃ u0 u1 u2, Blk W g 25 #[u0, u1, u2]) ∧ (dn ks = true → ∃ cs, Blk W g 25 cs ∧ F cs W)
  d : dn ks = true → dn kb = true
def obR (kb : Nat) (l : List Nat) (U : Nat → Value → World → Prop) (vals : List Value) (dn : Nat → Bool) (i : Nat) (v : Value) (W : World) : Prop :=
  (i ∉ l → i ≠ kb → v = vals.getD i undef) ∧ (i ∈ l → U i v W) ∧ (i = kb → dn kb = true)
/-- What is told of made values stays. -/
structure ObU (w0 : World) (U : Nat → Value → World → Prop) : Prop where
  b : GU U
  s : ∀ j v W g u0 u1 u2 x y z, w0.heap.size ≤ g → Blk W g 25 #[u0, u1, u2] → U j v W → U j v (((W.setCell ⟨g, 0, none⟩ x).setCell ⟨g, 1, none⟩ y).setCell ⟨g, 2, none⟩ z)
def stko (w0 : World) (P : Value → World → Prop) : Prop := stk P ∧ ∀ v W g u0 u1 u2 x y z, w0.heap.size ≤ g → Blk W g 25 #[u0, u1, u2] → P v W → P v (((W.setCell ⟨g, 0, none⟩ x).setCell ⟨g, 1, none⟩ y).setCell ⟨g, 2, none⟩ z)
theorem lookU_ob {w0 : World} {l : List (Nat × (Value → World → Prop))} (hl : ∀ x ∈ l, stko w0 x.2) : ObU w0 (lookU l) := by
  refine ⟨lookU_stay (fun x hx => (hl x hx).1), ?_⟩
  intro j v W g u0 u1 u2 x y z h1 h2 h3
  induction l with
  | nil => exact h3
  | cons e l ih =>
    obtain ⟨k, P⟩ := e
    unfold lookU at h3 ⊢
    by_cases hk : j = k
    · rw [if_pos hk] at h3 ⊢
      exact (hl (k, P) (List.mem_cons_self ..)).2 v W g u0 u1 u2 x y z h1 h2 h3
    · rw [if_neg hk] at h3 ⊢
      exact ih (fun x hx => hl x (List.mem_cons_of_mem _ hx)) h3

section
variable {P : Program} {ops : Array Oper} {Q : Exit → Act → World → Prop} {md : Region.Mode} {a0 : Act} {o : Oper} {i kb ks tb : Nat} {w0 : World} {F : Array Value → World → Prop} {l : List Nat} {U : Nat → Value → World → Prop} {vals : List Value}
theorem ObB.up (hF : ∀ cs W W', Below W.heap.size W W' → F cs W → F cs W') {dn : Nat → Bool} {T : Array Value} {W W' : World} (nb : i ≠ kb) (ns : i ≠ ks) {d : Nat} (hd : d ≠ tb) (v : Value) (h : ObB w0 kb ks tb F dn T W) (hW : Below W.heap.size W W') : ObB w0 kb ks tb F (upd dn i) (T.setIfInBounds d v) W' := by
  have eb := off_ (dn := dn) (Ne.symm nb)
  have es := off_ (dn := dn) (Ne.symm ns)
  refine ⟨below_on h.b hW, fun e => ?_, fun e => eb ▸ h.d (es ▸ e)⟩
  obtain ⟨g, h1, h2, ⟨u0, u1, u2, h3⟩, h4⟩ := h.h (eb ▸ e)
  refine ⟨g, by rw [Array.getElem?_setIfInBounds_ne hd]; exact h1, h2, ⟨u0, u1, u2, blk_up h3 hW⟩, fun e2 => ?_⟩
  obtain ⟨cs, h5, h6⟩ := h4 (es ▸ e2)
  exact ⟨cs, blk_up h5 hW, hF _ _ _ hW h6⟩
theorem obR_up (hU : ObU w0 U) {dn : Nat → Bool} {j : Nat} {u : Value} {W W' : World} (hb : Below W.heap.size W W') (h : obR kb l U vals dn j u W) : obR kb l U vals (upd dn i) j u W' := ⟨h.1, fun hm => hU.b _ _ _ _ hb (h.2.1 hm), fun e => on_ (h.2.2 e)⟩
theorem ob_value (hF : ∀ cs W W', Below W.heap.size W W' → F cs W → F cs W') (hU : ObU w0 U) (hi : ops[i]? = some o) (nb : i ≠ kb) (ns : i ≠ ks) (hl : i ∉ l) (d : Tmp) (hdst : dstOf ops i = some d) (hd : d ≠ tb) (v : Value) (hv : vals.getD i undef = v)
    (h : ∀ (a : Act) (w : World), Below w0.heap.size w0 w → (∀ t, free md ops i t = true → a.tmps[t]? = a0.tmps[t]?) → (∀ j d, behind md ops i j = true → dstOf ops j = some d → ∃ v, a.tmps[d]? = some v ∧ ((j ∉ l → j ≠ kb → v = vals.getD j undef) ∧ (j ∈ l → U j v w))) →
      Region.wanted o (yielded ops a.tmps) = true ∧ (execOp a.eval o).run P w = .ok (.value v) w) : DoneStepT P md ops Q (ObB w0 kb ks tb F) (obR kb l U vals) a0 i :=
  doneT_make hi (fun dn a w hS _ _ ho hn => by
    obtain ⟨h1, h2⟩ := h a w hS.b ho (fun j d hb hd => by
      obtain ⟨u, hu, hR⟩ := hn j d hb hd
      exact ⟨u, hu, hR.1, hR.2.1⟩)
    refine ⟨h1, v, w, h2, ?_, ⟨fun _ _ => hv.symm, fun hm => absurd hm hl, fun e => absurd e nb⟩, fun j u _ _ hR => obR_up hU (Below.refl _ _) hR⟩
    rw [hdst]
    exact hS.up hF nb ns hd v (Below.refl _ _))
theorem ob_make (hF : ∀ cs W W', Below W.heap.size W W' → F cs W → F cs W') (hU : ObU w0 U) (hi : ops[i]? = some o) (nb : i ≠ kb) (ns : i ≠ ks) (hl : i ∈ l) (d : Tmp) (hdst : dstOf ops i = some d) (hd : d ≠ tb)
    (h : ∀ (a : Act) (w : World), Below w0.heap.size w0 w → (∀ t, free md ops i t = true → a.tmps[t]? = a0.tmps[t]?) → (∀ j d, behind md ops i j = true → dstOf ops j = some d → ∃ v, a.tmps[d]? = some v ∧ ((j ∉ l → j ≠ kb → v = vals.getD j undef) ∧ (j ∈ l → U j v w))) →
      Region.wanted o (yielded ops a.tmps) = true ∧ ∃ v w', (execOp a.eval o).run P w = .ok (.value v) w' ∧ Below w.heap.size w w' ∧ U i v w') : DoneStepT P md ops Q (ObB w0 kb ks tb F) (obR kb l U vals) a0 i :=
  doneT_make hi (fun dn a w hS _ _ ho hn => by
    obtain ⟨h1, v, w', h2, h3, h4⟩ := h a w hS.b ho (fun j d hb hd => by
      obtain ⟨u, hu, hR⟩ := hn j d hb hd
      exact ⟨u, hu, hR.1, hR.2.1⟩)
    refine ⟨h1, v, w', h2, ?_, ⟨fun hm => absurd hl hm, fun _ => h4, fun e => absurd e nb⟩, fun j u _ _ hR => obR_up hU h3 hR⟩
    rw [hdst]
    exact hS.up hF nb ns hd v h3)
theorem ob_call (hF : ∀ cs W W', Below W.heap.size W W' → F cs W → F cs W') (hU : ObU w0 U) (f : FuncId) (hi : ops[i]? = some o) (nb : i ≠ kb) (ns : i ≠ ks) (hl : i ∈ l) (d : Tmp) (hdst : dstOf ops i = some d) (hd : d ≠ tb)
    (h : ∀ (a : Act) (w : World), Below w0.heap.size w0 w → (∀ t, free md ops i t = true → a.tmps[t]? = a0.tmps[t]?) → (∀ j d, behind md ops i j = true → dstOf ops j = some d → ∃ v, a.tmps[d]? = some v ∧ ((j ∉ l → j ≠ kb → v = vals.getD j undef) ∧ (j ∈ l → U j v w))) →
      Region.wanted o (yielded ops a.tmps) = true ∧ ∃ args, (execOp a.eval o).run P w = .ok (.enter f args) w ∧ Calls P f args w fun e w' => ∃ v, e = .returned v ∧ Below w.heap.size w w' ∧ U i v w') : DoneStepT P md ops Q (ObB w0 kb ks tb F) (obR kb l U vals) a0 i := by
  intro dn a w hS _ _ ho hn
  obtain ⟨h1, args, h2, h3⟩ := h a w hS.b ho (fun j d hb hd => by
      obtain ⟨u, hu, hR⟩ := hn j d hb hd
      exact ⟨u, hu, hR.1, hR.2.1⟩)
  unfold wpOp
  rw [hi]
  simp only [h1, if_true]
  refine .inl ?_
  unfold Oper.wp
  rw [h2, Oper.upon_enter]
  refine h3.mono ?_
  rintro e w' ⟨v, rfl, h4, h5⟩
  refine ⟨v, by simp [dstOf, hi], ?_, ⟨fun hm => absurd hl hm, fun _ => h5, fun e => absurd e nb⟩, fun j u _ _ hR => obR_up hU h4 hR⟩
  have hdo : o.dst = some d := by simpa [dstOf, hi] using hdst
  rw [hdo]
  exact hS.up hF nb ns hd v h4
theorem ob_alloc (hU : ObU w0 U) (hi : ops[kb]? = some o) (hl : kb ∉ l) (hkk : ks ≠ kb) (hdst : dstOf ops kb = some tb) (u0 u1 u2 : Value)
    (h : ∀ (a : Act) (w : World), (∀ t, free md ops kb t = true → a.tmps[t]? = a0.tmps[t]?) → tb < a.tmps.size ∧
      Region.wanted o (yielded ops a.tmps) = true ∧ (execOp a.eval o).run P w = .ok (.value (.pointer (some ⟨w.heap.size, 0, none⟩))) (w.alloc (.cells #[u0, u1, u2] 25))) : DoneStepT P md ops Q (ObB w0 kb ks tb F) (obR kb l U vals) a0 kb :=
  doneT_make hi (fun dn a w hS hd _ ho hn => by
    obtain ⟨h0, h1, h2⟩ := h a w ho
    have hns : dn ks = false := by
      cases e : dn ks with
      | false => rfl
      | true => rw [hS.d e] at hd; cases hd
    have es := off_ (dn := dn) (i := kb) (j := ks) hkk
    refine ⟨h1, _, _, h2, ?_, ⟨fun _ e => absurd rfl e, fun hm => absurd hm hl, fun _ => upd_self _ _⟩, fun j u _ _ hR => obR_up hU (alloc_below _ _) hR⟩
    rw [hdst]
    refine ⟨below_on hS.b (alloc_below _ _), fun _ => ⟨w.heap.size, ?_, hS.b.size, ⟨u0, u1, u2, Blk.new _ _ _⟩, fun e => ?_⟩, fun e => ?_⟩
    · show (a.tmps.setIfInBounds tb _)[tb]? = _
      simp [h0]
    · rw [es, hns] at e
      cases e
    · rw [es, hns] at e
      cases e)
theorem ob_store (hU : ObU w0 U) (hi : ops[ks]? = some o) (hdst : o.dst = none) (hl : ks ∉ l) (hkk : ks ≠ kb) (hv : vals.getD ks undef = undef) (hbk : behind md ops ks kb = true) (hdb : dstOf ops kb = some tb)
    (h : ∀ (a : Act) (w : World) (g : Nat) (u0 u1 u2 : Value), Blk w g 25 #[u0, u1, u2] → a.tmps[tb]? = some (.pointer (some ⟨g, 0, none⟩)) → (∀ j d, behind md ops ks j = true → dstOf ops j = some d → ∃ v, a.tmps[d]? = some v ∧ ((j ∉ l → j ≠ kb → v = vals.getD j undef) ∧ (j ∈ l → U j v w))) →
      Region.wanted o (yielded ops a.tmps) = true ∧ ∃ x y z, F #[x, y, z] (((w.setCell ⟨g, 0, none⟩ x).setCell ⟨g, 1, none⟩ y).setCell ⟨g, 2, none⟩ z) ∧ (execOp a.eval o).run P w = .ok .skip (((w.setCell ⟨g, 0, none⟩ x).setCell ⟨g, 1, none⟩ y).setCell ⟨g, 2, none⟩ z)) : DoneStepT P md ops Q (ObB w0 kb ks tb F) (obR kb l U vals) a0 ks :=
  doneT_store hi hdst (fun dn a w hS hd _ ho hn => by
    obtain ⟨v, hv1, hR⟩ := hn kb tb hbk hdb
    have hkb := hR.2.2 rfl
    obtain ⟨g, h1, h2, ⟨u0, u1, u2, h3⟩, _⟩ := hS.h hkb
    obtain ⟨k1, x, y, z, k2, k3⟩ := h a w g u0 u1 u2 h3 h1 (fun j d hb hd => by
      obtain ⟨u, hu, hR⟩ := hn j d hb hd
      exact ⟨u, hu, hR.1, hR.2.1⟩)
    have eb := off_ (dn := dn) (i := ks) (j := kb) (Ne.symm hkk)
    have hk3 := arkeep_three w g x y z
    refine ⟨k1, _, k3, ⟨hS.b.trans (hk3.below hS.b.size (fun i hi e => by omega)), fun _ => ⟨g, h1, h2, ⟨_, _, _, arblk_three _ _ _ h3⟩, fun _ => ⟨#[x, y, z], arblk_three _ _ _ h3, k2⟩⟩, fun _ => by rw [eb]; exact hkb⟩, ⟨fun _ _ => hv.symm, fun hm => absurd hm hl, fun e => absurd e hkk⟩, fun j u _ _ hR => ⟨hR.1, fun hm => hU.s _ _ _ _ _ _ _ _ _ _ h2 h3 (hR.2.1 hm), fun e => on_ (hR.2.2 e)⟩⟩)
end
end Go.Proofs.Ytkabdkblcgklmaa.fo

/-
  Layer 16 (fold): a region that draws its order, makes two boxes of one cell each, and stores into both.
-/
import Derived.Test.YtkabdkblcgklmaaFoIn1
namespace Go.Proofs.Ytkabdkblcgklmaa.fo
open Go.RowKit Go.Proofs.Ytkabdkblcgklmaa.arr Go.Proofs.Ytkabdkblcgklmaa.sc

theorem off_ {dn : Nat → Bool} {i j : Nat} (h : j ≠ i) : upd dn i j = dn j := by simp [upd, h]
theorem on_ {dn : Nat → Bool} {i j : Nat} (h : dn j = true) : upd dn i j = true := by simp [upd, h]
structure TwB (w0 : World) (t : TypeId) (X Y : Value) (dn : Nat → Bool) (T : Array Value) (W : World) : Prop where
  b : Below w0.heap.size w0 W
  x : dn 6 = true → ∃ g u, T[15]? = some (.pointer (some ⟨g, 0, none⟩)) ∧ w0.heap.size ≤ g ∧ Blk W g t #[u] ∧ (dn 8 = true → u = X)
  y : dn 7 = true → ∃ g u, T[16]? = some (.pointer (some ⟨g, 0, none⟩)) ∧ w0.heap.size ≤ g ∧ Blk W g t #[u] ∧ (dn 9 = true → u = Y)
  n : dn 6 = true → dn 7 = true → ∀ g g', T[15]? = some (.pointer (some ⟨g, 0, none⟩)) → T[16]? = some (.pointer (some ⟨g', 0, none⟩)) → g ≠ g'
  d8 : dn 8 = true → dn 6 = true
  d9 : dn 9 = true → dn 7 = true
def twR (vals : List Value) (dn : Nat → Bool) (i : Nat) (v : Value) (_ : World) : Prop := (i ≠ 6 → i ≠ 7 → v = vals.getD i undef) ∧ (i = 6 → dn 6 = true) ∧ (i = 7 → dn 7 = true)
theorem twR_up {vals : List Value} {dn : Nat → Bool} {i j : Nat} {u : Value} {W W' : World} (h : twR vals dn j u W) : twR vals (upd dn i) j u W' := ⟨h.1, fun e => on_ (h.2.1 e), fun e => on_ (h.2.2 e)⟩
section
variable {P : Program} {ops : Array Oper} {Q : Exit → Act → World → Prop} {md : Region.Mode} {a0 : Act} {o : Oper} {i : Nat} {w0 : World} {t : TypeId} {X Y : Value} {vals : List Value}
theorem TwB.up {dn : Nat → Bool} {T : Array Value} {W W' : World} (n6 : 6 ≠ i) (n7 : 7 ≠ i) (n8 : 8 ≠ i) (n9 : 9 ≠ i) {d : Nat} (h15 : d ≠ 15) (h16 : d ≠ 16) (v : Value) (h : TwB w0 t X Y dn T W) (hW : Below W.heap.size W W') : TwB w0 t X Y (upd dn i) (T.setIfInBounds d v) W' := by
  have e6 := off_ (dn := dn) n6
  have e7 := off_ (dn := dn) n7
  have e8 := off_ (dn := dn) n8
  have e9 := off_ (dn := dn) n9
  have t15 : (T.setIfInBounds d v)[15]? = T[15]? := Array.getElem?_setIfInBounds_ne h15
  have t16 : (T.setIfInBounds d v)[16]? = T[16]? := Array.getElem?_setIfInBounds_ne h16
  refine ⟨below_on h.b hW, fun e => ?_, fun e => ?_, fun e e' => ?_, fun e => by rw [e6]; exact h.d8 (e8 ▸ e), fun e => by rw [e7]; exact h.d9 (e9 ▸ e)⟩
  · obtain ⟨g, u, h1, h2, h3, h4⟩ := h.x (e6 ▸ e)
    exact ⟨g, u, t15.trans h1, h2, blk_up h3 hW, fun e2 => h4 (e8 ▸ e2)⟩
  · obtain ⟨g, u, h1, h2, h3, h4⟩ := h.y (e7 ▸ e)
    exact ⟨g, u, t16.trans h1, h2, blk_up h3 hW, fun e2 => h4 (e9 ▸ e2)⟩
  · rw [t15, t16]
    exact h.n (e6 ▸ e) (e7 ▸ e')
theorem tw_value (hi : ops[i]? = some o) (n6 : 6 ≠ i) (n7 : 7 ≠ i) (n8 : 8 ≠ i) (n9 : 9 ≠ i) (d : Tmp) (hdst : dstOf ops i = some d) (h15 : d ≠ 15) (h16 : d ≠ 16) (v : Value) (hv : vals.getD i undef = v)
    (h : ∀ (a : Act) (w : World), Below w0.heap.size w0 w → (∀ t, free md ops i t = true → a.tmps[t]? = a0.tmps[t]?) → (∀ j d, behind md ops i j = true → dstOf ops j = some d → ∃ v, a.tmps[d]? = some v ∧ (j ≠ 6 → j ≠ 7 → v = vals.getD j undef)) →
      Region.wanted o (yielded ops a.tmps) = true ∧ (execOp a.eval o).run P w = .ok (.value v) w) : DoneStepT P md ops Q (TwB w0 t X Y) (twR vals) a0 i :=
  doneT_make hi (fun dn a w hS _ _ ho hn => by
    obtain ⟨h1, h2⟩ := h a w hS.b ho (fun j d hb hd => by
      obtain ⟨u, hu, hR⟩ := hn j d hb hd
      exact ⟨u, hu, hR.1⟩)
    refine ⟨h1, v, w, h2, ?_, ⟨fun _ _ => hv.symm, fun e => absurd e.symm n6, fun e => absurd e.symm n7⟩, fun j u _ _ hR => twR_up hR⟩
    rw [hdst]
    exact hS.up n6 n7 n8 n9 h15 h16 v (Below.refl _ _))
theorem tw_call (f : FuncId) (hi : ops[i]? = some o) (n6 : 6 ≠ i) (n7 : 7 ≠ i) (n8 : 8 ≠ i) (n9 : 9 ≠ i) (d : Tmp) (hdst : dstOf ops i = some d) (h15 : d ≠ 15) (h16 : d ≠ 16) (v : Value) (hv : vals.getD i undef = v)
    (h : ∀ (a : Act) (w : World), Below w0.heap.size w0 w → (∀ t, free md ops i t = true → a.tmps[t]? = a0.tmps[t]?) → (∀ j d, behind md ops i j = true → dstOf ops j = some d → ∃ v, a.tmps[d]? = some v ∧ (j ≠ 6 → j ≠ 7 → v = vals.getD j undef)) →
      Region.wanted o (yielded ops a.tmps) = true ∧ ∃ args, (execOp a.eval o).run P w = .ok (.enter f args) w ∧ Calls P f args w fun e w' => e = .returned v ∧ Below w.heap.size w w') : DoneStepT P md ops Q (TwB w0 t X Y) (twR vals) a0 i := by
  intro dn a w hS _ _ ho hn
  obtain ⟨h1, args, h2, h3⟩ := h a w hS.b ho (fun j d hb hd => by
      obtain ⟨u, hu, hR⟩ := hn j d hb hd
      exact ⟨u, hu, hR.1⟩)
  unfold wpOp
  rw [hi]
  simp only [h1, if_true]
  refine .inl ?_
  unfold Oper.wp
  rw [h2, Oper.upon_enter]
  refine h3.mono ?_
  rintro e w' ⟨rfl, h4⟩
  refine ⟨v, by simp [dstOf, hi], ?_, ⟨fun _ _ => hv.symm, fun e => absurd e.symm n6, fun e => absurd e.symm n7⟩, fun j u _ _ hR => twR_up hR⟩
  have hdo : o.dst = some d := by simpa [dstOf, hi] using hdst
  rw [hdo]
  exact hS.up n6 n7 n8 n9 h15 h16 v h4
theorem tw_alloc6 (hi : ops[6]? = some o) (hdst : dstOf ops 6 = some 15) (z : Value)
    (h : ∀ (a : Act) (w : World), (∀ t, free md ops 6 t = true → a.tmps[t]? = a0.tmps[t]?) → 15 < a.tmps.size ∧
      Region.wanted o (yielded ops a.tmps) = true ∧ (execOp a.eval o).run P w = .ok (.value (.pointer (some ⟨w.heap.size, 0, none⟩))) (w.alloc (.cells #[z] t))) : DoneStepT P md ops Q (TwB w0 t X Y) (twR vals) a0 6 :=
  doneT_make hi (fun dn a w hS hd _ ho hn => by
    obtain ⟨h0, h1, h2⟩ := h a w ho
    have hal := alloc_below w (.cells #[z] t)
    have hns : dn 8 = false := by
      cases e : dn 8 with
      | false => rfl
      | true => rw [hS.d8 e] at hd; cases hd
    have es : upd dn 6 8 = dn 8 := off_ (by decide)
    have es2 : upd dn 6 9 = dn 9 := off_ (by decide)
    have ek2 : upd dn 6 7 = dn 7 := off_ (by decide)
    have tm : (a.tmps.setIfInBounds 15 (.pointer (some ⟨w.heap.size, 0, none⟩)))[15]? = some (.pointer (some ⟨w.heap.size, 0, none⟩)) := by simp [h0]
    have tz : (a.tmps.setIfInBounds 15 (.pointer (some ⟨w.heap.size, 0, none⟩)))[16]? = a.tmps[16]? := Array.getElem?_setIfInBounds_ne (by decide)
    have HM : ∃ g u, (a.tmps.setIfInBounds 15 (.pointer (some ⟨w.heap.size, 0, none⟩)))[15]? = some (.pointer (some ⟨g, 0, none⟩)) ∧ w0.heap.size ≤ g ∧ Blk (w.alloc (.cells #[z] t)) g t #[u] ∧ (upd dn 6 8 = true → u = X) := ⟨w.heap.size, z, tm, hS.b.size, Blk.new _ _ _, fun e => by rw [es, hns] at e; cases e⟩
    have HY : upd dn 6 7 = true → ∃ g u, (a.tmps.setIfInBounds 15 (.pointer (some ⟨w.heap.size, 0, none⟩)))[16]? = some (.pointer (some ⟨g, 0, none⟩)) ∧ w0.heap.size ≤ g ∧ Blk (w.alloc (.cells #[z] t)) g t #[u] ∧ (upd dn 6 9 = true → u = Y) := fun e => by
      obtain ⟨g, u, h3, h4, h5, h6⟩ := hS.y (ek2 ▸ e)
      exact ⟨g, u, tz.trans h3, h4, blk_up h5 hal, fun e2 => h6 (es2 ▸ e2)⟩
    have HN : upd dn 6 7 = true → ∀ g', (a.tmps.setIfInBounds 15 (.pointer (some ⟨w.heap.size, 0, none⟩)))[16]? = some (.pointer (some ⟨g', 0, none⟩)) → g' < w.heap.size := fun e g' hg => by
      obtain ⟨g, u, h3, h4, h5, h6⟩ := hS.y (ek2 ▸ e)
      rw [tz, h3] at hg
      injection hg with hg
      injection hg with hg
      injection hg with hg
      injection hg with hg
      subst hg
      exact h5.lt
    refine ⟨h1, _, _, h2, ?_, ⟨fun e => absurd rfl e, fun _ => by simp [upd], fun e => absurd e (by decide)⟩, fun j u _ _ hR => twR_up hR⟩
    rw [hdst]
    show TwB w0 t X Y (upd dn 6) (a.tmps.setIfInBounds 15 (.pointer (some ⟨w.heap.size, 0, none⟩))) _
    exact ⟨below_on hS.b hal, fun _ => HM, HY, fun e e' g g' h7 h8 => by
      have := HN e' _ h8
      rw [tm] at h7
      injection h7 with h7
      injection h7 with h7
      injection h7 with h7
      injection h7 with h7
      omega, fun e => by simp [upd], fun e => ek2 ▸ hS.d9 (es2 ▸ e)⟩)
theorem tw_alloc7 (hi : ops[7]? = some o) (hdst : dstOf ops 7 = some 16) (z : Value)
    (h : ∀ (a : Act) (w : World), (∀ t, free md ops 7 t = true → a.tmps[t]? = a0.tmps[t]?) → 16 < a.tmps.size ∧
      Region.wanted o (yielded ops a.tmps) = true ∧ (execOp a.eval o).run P w = .ok (.value (.pointer (some ⟨w.heap.size, 0, none⟩))) (w.alloc (.cells #[z] t))) : DoneStepT P md ops Q (TwB w0 t X Y) (twR vals) a0 7 :=
  doneT_make hi (fun dn a w hS hd _ ho hn => by
    obtain ⟨h0, h1, h2⟩ := h a w ho
    have hal := alloc_below w (.cells #[z] t)
    have hns : dn 9 = false := by
      cases e : dn 9 with
      | false => rfl
      | true => rw [hS.d9 e] at hd; cases hd
    have es : upd dn 7 9 = dn 9 := off_ (by decide)
    have es2 : upd dn 7 8 = dn 8 := off_ (by decide)
    have ek2 : upd dn 7 6 = dn 6 := off_ (by decide)
    have tm : (a.tmps.setIfInBounds 16 (.pointer (some ⟨w.heap.size, 0, none⟩)))[16]? = some (.pointer (some ⟨w.heap.size, 0, none⟩)) := by simp [h0]
    have tz : (a.tmps.setIfInBounds 16 (.pointer (some ⟨w.heap.size, 0, none⟩)))[15]? = a.tmps[15]? := Array.getElem?_setIfInBounds_ne (by decide)
    have HM : ∃ g u, (a.tmps.setIfInBounds 16 (.pointer (some ⟨w.heap.size, 0, none⟩)))[16]? = some (.pointer (some ⟨g, 0, none⟩)) ∧ w0.heap.size ≤ g ∧ Blk (w.alloc (.cells #[z] t)) g t #[u] ∧ (upd dn 7 9 = true → u = Y) := ⟨w.heap.size, z, tm, hS.b.size, Blk.new _ _ _, fun e => by rw [es, hns] at e; cases e⟩
    have HY : upd dn 7 6 = true → ∃ g u, (a.tmps.setIfInBounds 16 (.pointer (some ⟨w.heap.size, 0, none⟩)))[15]? = some (.pointer (some ⟨g, 0, none⟩)) ∧ w0.heap.size ≤ g ∧ Blk (w.alloc (.cells #[z] t)) g t #[u] ∧ (upd dn 7 8 = true → u = X) := fun e => by
      obtain ⟨g, u, h3, h4, h5, h6⟩ := hS.x (ek2 ▸ e)
      exact ⟨g, u, tz.trans h3, h4, blk_up h5 hal, fun e2 => h6 (es2 ▸ e2)⟩
    have HN : upd dn 7 6 = true → ∀ g', (a.tmps.setIfInBounds 16 (.pointer (some ⟨w.heap.size, 0, none⟩)))[15]? = some (.pointer (some ⟨g', 0, none⟩)) → g' < w.heap.size := fun e g' hg => by
      obtain ⟨g, u, h3, h4, h5, h6⟩ := hS.x (ek2 ▸ e)
      rw [tz, h3] at hg
      injection hg with hg
      injection hg with hg
      injection hg with hg
      injection hg with hg
      subst hg
      exact h5.lt
    refine ⟨h1, _, _, h2, ?_, ⟨fun _ e => absurd rfl e, fun e => absurd e (by decide), fun _ => by simp [upd]⟩, fun j u _ _ hR => twR_up hR⟩
    rw [hdst]
    show TwB w0 t X Y (upd dn 7) (a.tmps.setIfInBounds 16 (.pointer (some ⟨w.heap.size, 0, none⟩))) _
    exact ⟨below_on hS.b hal, HY, fun _ => HM, fun e e' g g' h7 h8 => by
      have := HN e _ h7
      rw [tm] at h8
      injection h8 with h7
      injection h7 with h7
      injection h7 with h7
      injection h7 with h7
      omega, fun e => ek2 ▸ hS.d8 (es2 ▸ e), fun e => by simp [upd]⟩)
theorem tw_store8 (hi : ops[8]? = some o) (hdst : o.dst = none) (hv : vals.getD 8 undef = undef) (hbk : behind md ops 8 6 = true) (hdb : dstOf ops 6 = some 15)
    (h : ∀ (a : Act) (w : World) (g : Nat) (u : Value), Blk w g t #[u] → a.tmps[15]? = some (.pointer (some ⟨g, 0, none⟩)) → (∀ j d, behind md ops 8 j = true → dstOf ops j = some d → ∃ v, a.tmps[d]? = some v ∧ (j ≠ 6 → j ≠ 7 → v = vals.getD j undef)) →
      Region.wanted o (yielded ops a.tmps) = true ∧ (execOp a.eval o).run P w = .ok .skip (w.setCell ⟨g, 0, none⟩ X)) : DoneStepT P md ops Q (TwB w0 t X Y) (twR vals) a0 8 :=
  doneT_store hi hdst (fun dn a w hS hd _ ho hn => by
    obtain ⟨v, hv1, hR⟩ := hn 6 15 hbk hdb
    have hkb : dn 6 = true := hR.2.1 rfl
    obtain ⟨g, u, h1, h2, h3, _⟩ := hS.x hkb
    obtain ⟨k1, k2⟩ := h a w g u h3 h1 (fun j d hb hd => by
      obtain ⟨u, hu, hR⟩ := hn j d hb hd
      exact ⟨u, hu, hR.1⟩)
    have ek : upd dn 8 6 = dn 6 := off_ (by decide)
    have ek2 : upd dn 8 7 = dn 7 := off_ (by decide)
    have es2 : upd dn 8 9 = dn 9 := off_ (by decide)
    have hk : Keep (fun i => i = g) w (w.setCell ⟨g, 0, none⟩ X) := (Keep.refl _ _).setCell _ _ (fun _ => rfl)
    have hbb : Below w0.heap.size w (w.setCell ⟨g, 0, none⟩ X) := hk.below hS.b.size (fun i hi e => by omega)
    have HM2 : upd dn 8 6 = true → ∃ g' u, a.tmps[15]? = some (.pointer (some ⟨g', 0, none⟩)) ∧ w0.heap.size ≤ g' ∧ Blk (w.setCell ⟨g, 0, none⟩ X) g' t #[u] ∧ (upd dn 8 8 = true → u = X) := fun _ => ⟨g, X, h1, h2, h3.set_ 0 X, fun _ => rfl⟩
    have HY : upd dn 8 7 = true → ∃ g' u, a.tmps[16]? = some (.pointer (some ⟨g', 0, none⟩)) ∧ w0.heap.size ≤ g' ∧ Blk (w.setCell ⟨g, 0, none⟩ X) g' t #[u] ∧ (upd dn 8 9 = true → u = Y) := fun e => by
      obtain ⟨g', u', h4, h5, h6, h7⟩ := hS.y (ek2 ▸ e)
      have hne : g' ≠ g := fun e2 => hS.n hkb (ek2 ▸ e) _ _ h1 h4 e2.symm
      exact ⟨g', u', h4, h5, hk.blk h6 hne, fun e2 => h7 (es2 ▸ e2)⟩
    refine ⟨k1, _, k2, ⟨hS.b.trans hbb, HM2, HY, fun e e' => hS.n (ek ▸ e) (ek2 ▸ e'), fun e => ek.trans hkb, fun e => ek2 ▸ hS.d9 (es2 ▸ e)⟩, ⟨fun _ _ => hv.symm, fun e => absurd e (by decide), fun e => absurd e (by decide)⟩, fun j u _ _ hR => twR_up hR⟩)
theorem tw_store9 (hi : ops[9]? = some o) (hdst : o.dst = none) (hv : vals.getD 9 undef = undef) (hbk : behind md ops 9 7 = true) (hdb : dstOf ops 7 = some 16)
    (h : ∀ (a : Act) (w : World) (g : Nat) (u : Value), Blk w g t #[u] → a.tmps[16]? = some (.pointer (some ⟨g, 0, none⟩)) → (∀ j d, behind md ops 9 j = true → dstOf ops j = some d → ∃ v, a.tmps[d]? = some v ∧ (j ≠ 6 → j ≠ 7 → v = vals.getD j undef)) →
      Region.wanted o (yielded ops a.tmps) = true ∧ (execOp a.eval o).run P w = .ok .skip (w.setCell ⟨g, 0, none⟩ Y)) : DoneStepT P md ops Q (TwB w0 t X Y) (twR vals) a0 9 :=
  doneT_store hi hdst (fun dn a w hS hd _ ho hn => by
    obtain ⟨v, hv1, hR⟩ := hn 7 16 hbk hdb
    have hkb : dn 7 = true := hR.2.2 rfl
    obtain ⟨g, u, h1, h2, h3, _⟩ := hS.y hkb
    obtain ⟨k1, k2⟩ := h a w g u h3 h1 (fun j d hb hd => by
      obtain ⟨u, hu, hR⟩ := hn j d hb hd
      exact ⟨u, hu, hR.1⟩)
    have ek : upd dn 9 7 = dn 7 := off_ (by decide)
    have ek2 : upd dn 9 6 = dn 6 := off_ (by decide)
    have es2 : upd dn 9 8 = dn 8 := off_ (by decide)
    have hk : Keep (fun i => i = g) w (w.setCell ⟨g, 0, none⟩ Y) := (Keep.refl _ _).setCell _ _ (fun _ => rfl)
    have hbb : Below w0.heap.size w (w.setCell ⟨g, 0, none⟩ Y) := hk.below hS.b.size (fun i hi e => by omega)
    have HM2 : upd dn 9 7 = true → ∃ g' u, a.tmps[16]? = some (.pointer (some ⟨g', 0, none⟩)) ∧ w0.heap.size ≤ g' ∧ Blk (w.setCell ⟨g, 0, none⟩ Y) g' t #[u] ∧ (upd dn 9 9 = true → u = Y) := fun _ => ⟨g, Y, h1, h2, h3.set_ 0 Y, fun _ => rfl⟩
    have HY : upd dn 9 6 = true → ∃ g' u, a.tmps[15]? = some (.pointer (some ⟨g', 0, none⟩)) ∧ w0.heap.size ≤ g' ∧ Blk (w.setCell ⟨g, 0, none⟩ Y) g' t #[u] ∧ (upd dn 9 8 = true → u = X) := fun e => by
      obtain ⟨g', u', h4, h5, h6, h7⟩ := hS.x (ek2 ▸ e)
      have hne : g' ≠ g := fun e2 => hS.n (ek2 ▸ e) hkb _ _ h4 h1 e2
      exact ⟨g', u', h4, h5, hk.blk h6 hne, fun e2 => h7 (es2 ▸ e2)⟩
    refine ⟨k1, _, k2, ⟨hS.b.trans hbb, HY, HM2, fun e e' => hS.n (ek2 ▸ e) (ek ▸ e'), fun e => ek2 ▸ hS.d8 (es2 ▸ e), fun e => ek.trans hkb⟩, ⟨fun _ _ => hv.symm, fun e => absurd e (by decide), fun e => absurd e (by decide)⟩, fun j u _ _ hR => twR_up hR⟩)
end
end Go.Proofs.Ytkabdkblcgklmaa.fo

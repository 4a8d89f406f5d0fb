/-
  A region that draws its order, whose operations read, make memory or call what makes memory, and one store at its end.
-/
import Derived.Test.YtceglhejmdiipaaGrowReg
namespace Go.Proofs.Ytceglhejmdiipaa
open Go.RowKit

section
variable {P : Program} {ops : Array Oper} {Q : Exit → Act → World → Prop} {md : Region.Mode} {a0 : Act} {i k : Nat} {o : Oper} {T F : World → Prop} {l : List Nat} {U : Nat → Value → World → Prop} {vals : List Value}
abbrev CS (T F : World → Prop) (k : Nat) (dn : Nat → Bool) (W : World) : Prop := T W ∧ (dn k = true → F W)
/-- What is told stays while memory is made. -/
structure CT (T F : World → Prop) (U : Nat → Value → World → Prop) : Prop where
  t : ∀ W W', Below W.heap.size W W' → T W → T W'
  f : ∀ W W', Below W.heap.size W W' → F W → F W'
  u : GU U
theorem cs_value (hik : k ≠ i) (hi : ops[i]? = some o) (hl : i ∉ l) (v : Value) (hv : vals.getD i undef = v)
    (h : ∀ (a : Act) (w : World), T w → (∀ t, free md ops i t = true → a.tmps[t]? = a0.tmps[t]?) → (∀ j d, behind md ops i j = true → dstOf ops j = some d → ∃ v, a.tmps[d]? = some v ∧ ((j ∉ l → v = vals.getD j undef) ∧ (j ∈ l → U j v w))) →
      Region.wanted o (yielded ops a.tmps) = true ∧ (execOp a.eval o).run P w = .ok (.value v) w) : DoneStep P md ops Q (CS T F k) (GR l U vals) a0 i :=
  done_value (fun _ _ h => ⟨h.1, fun e => h.2 (upd_ne e hik)⟩) (fun _ _ _ _ h => h) v hi (fun dn a w hS ho hn => by
    obtain ⟨h1, h2⟩ := h a w hS.1 ho hn
    exact ⟨h1, h2, fun _ => hv.symm, fun hm => absurd hm hl⟩)
theorem cs_make (hU : CT T F U) (hik : k ≠ i) (hi : ops[i]? = some o) (hl : i ∈ l)
    (h : ∀ (a : Act) (w : World), T w → (∀ t, free md ops i t = true → a.tmps[t]? = a0.tmps[t]?) → (∀ j d, behind md ops i j = true → dstOf ops j = some d → ∃ v, a.tmps[d]? = some v ∧ ((j ∉ l → v = vals.getD j undef) ∧ (j ∈ l → U j v w))) →
      Region.wanted o (yielded ops a.tmps) = true ∧ ∃ v w', (execOp a.eval o).run P w = .ok (.value v) w' ∧ Below w.heap.size w w' ∧ U i v w') : DoneStep P md ops Q (CS T F k) (GR l U vals) a0 i :=
  done_make hi (fun dn a w hS _ _ ho hn => by
    obtain ⟨h1, v, w', h2, h3, h4⟩ := h a w hS.1 ho hn
    exact ⟨h1, v, w', h2, ⟨hU.t _ _ h3 hS.1, fun e => hU.f _ _ h3 (hS.2 (upd_ne e hik))⟩, ⟨fun hn => absurd hl hn, fun _ => h4⟩, fun j u _ _ hR => ⟨hR.1, fun hm => hU.u _ _ _ _ h3 (hR.2 hm)⟩⟩)
theorem cs_call (hU : CT T F U) (f : FuncId) (hik : k ≠ i) (hi : ops[i]? = some o) (hl : i ∈ l)
    (h : ∀ (a : Act) (w : World), T w → (∀ t, free md ops i t = true → a.tmps[t]? = a0.tmps[t]?) → (∀ j d, behind md ops i j = true → dstOf ops j = some d → ∃ v, a.tmps[d]? = some v ∧ ((j ∉ l → v = vals.getD j undef) ∧ (j ∈ l → U j v w))) →
      Region.wanted o (yielded ops a.tmps) = true ∧ ∃ args, (execOp a.eval o).run P w = .ok (.enter f args) w ∧ Calls P f args w fun e w' => ∃ v, e = .returned v ∧ Below w.heap.size w w' ∧ U i v w') : DoneStep P md ops Q (CS T F k) (GR l U vals) a0 i := by
  intro dn a w hS hd _ ho hn
  obtain ⟨h1, args, h2, h3⟩ := h a w hS.1 ho hn
  unfold wpOp
  rw [hi]
  simp only [h1, if_true]
  refine .inl ?_
  unfold Oper.wp
  rw [h2, Oper.upon_enter]
  refine h3.mono ?_
  rintro e w' ⟨v, rfl, h4, h5⟩
  exact ⟨v, by simp [dstOf, hi], ⟨hU.t _ _ h4 hS.1, fun e => hU.f _ _ h4 (hS.2 (upd_ne e hik))⟩, ⟨fun hn => absurd hl hn, fun _ => h5⟩, fun j u _ _ hR => ⟨hR.1, fun hm => hU.u _ _ _ _ h4 (hR.2 hm)⟩⟩
theorem cs_store (hi : ops[i]? = some o) (hdst : o.dst = none) (hl : i ∉ l) (hv : vals.getD i undef = undef)
    (h : ∀ (a : Act) (w : World), T w → (∀ t, free md ops i t = true → a.tmps[t]? = a0.tmps[t]?) → (∀ j d, behind md ops i j = true → dstOf ops j = some d → ∃ v, a.tmps[d]? = some v ∧ ((j ∉ l → v = vals.getD j undef) ∧ (j ∈ l → U j v w))) →
      Region.wanted o (yielded ops a.tmps) = true ∧ ∃ w', (execOp a.eval o).run P w = .ok .skip w' ∧ T w' ∧ F w' ∧ ∀ j v, U j v w → U j v w') : DoneStep P md ops Q (CS T F i) (GR l U vals) a0 i :=
  done_store hi hdst (fun dn a w hS _ _ ho hn => by
    obtain ⟨h1, w', h2, h3, h4, h5⟩ := h a w hS.1 ho hn
    exact ⟨h1, w', h2, ⟨h3, fun _ => h4⟩, ⟨fun _ => hv.symm, fun hm => absurd hm hl⟩, fun j u _ _ hR => ⟨hR.1, fun hm => h5 _ _ (hR.2 hm)⟩⟩)
end
end Go.Proofs.Ytceglhejmdiipaa

/-
  A region that draws its order, whose operations only read, make memory, or call what makes memory: whatever the order, what was read stays.
-/
import Derived.Test.YtceglhejmdiipaaDone
namespace Go.Proofs.Ytceglhejmdiipaa
open Go.RowKit

section
variable {P : Program} {ops : Array Oper} {Q : Exit → Act → World → Prop} {md : Region.Mode} {a0 : Act} {i : Nat} {o : Oper} {w0 : World} {l : List Nat} {U : Nat → Value → World → Prop} {vals : List Value}
abbrev GS (w0 : World) (_ : Nat → Bool) (W : World) : Prop := Below w0.heap.size w0 W
abbrev GR (l : List Nat) (U : Nat → Value → World → Prop) (vals : List Value) (_ : Nat → Bool) (i : Nat) (v : Value) (W : World) : Prop := (i ∉ l → v = vals.getD i undef) ∧ (i ∈ l → U i v W)
/-- What is told of made values stays. -/
abbrev GU (U : Nat → Value → World → Prop) : Prop := ∀ i v W W', Below W.heap.size W W' → U i v W → U i v W'

theorem gr_value (hi : ops[i]? = some o) (hl : i ∉ l) (v : Value) (hv : vals.getD i undef = v)
    (h : ∀ (a : Act) (w : World), Below w0.heap.size w0 w → (∀ t, free md ops i t = true → a.tmps[t]? = a0.tmps[t]?) → (∀ j d, behind md ops i j = true → dstOf ops j = some d → ∃ v, a.tmps[d]? = some v ∧ ((j ∉ l → v = vals.getD j undef) ∧ (j ∈ l → U j v w))) →
      Region.wanted o (yielded ops a.tmps) = true ∧ (execOp a.eval o).run P w = .ok (.value v) w) : DoneStep P md ops Q (GS w0) (GR l U vals) a0 i :=
  done_value (fun _ _ h => h) (fun _ _ _ _ h => h) v hi (fun dn a w hS ho hn => by
    obtain ⟨h1, h2⟩ := h a w hS ho hn
    exact ⟨h1, h2, fun _ => hv.symm, fun hm => absurd hm hl⟩)
theorem gr_skip (hi : ops[i]? = some o) (hl : i ∉ l) (hv : vals.getD i undef = undef)
    (h : ∀ (a : Act) (w : World), (∀ j d, behind md ops i j = true → dstOf ops j = some d → ∃ v, a.tmps[d]? = some v ∧ ((j ∉ l → v = vals.getD j undef) ∧ (j ∈ l → U j v w))) →
      Region.wanted o (yielded ops a.tmps) = false) : DoneStep P md ops Q (GS w0) (GR l U vals) a0 i := by
  intro dn a w hS hd hx ho hn
  have h1 := h a w hn
  unfold wpOp
  rw [hi]
  simp only [h1]
  exact ⟨undef, by simp [dstOf, hi], hS, ⟨fun _ => hv.symm, fun hm => absurd hm hl⟩, fun _ _ _ _ h => h⟩
theorem gr_make (hU : GU U) (hi : ops[i]? = some o) (hl : i ∈ l)
    (h : ∀ (a : Act) (w : World), Below w0.heap.size w0 w → (∀ t, free md ops i t = true → a.tmps[t]? = a0.tmps[t]?) → (∀ j d, behind md ops i j = true → dstOf ops j = some d → ∃ v, a.tmps[d]? = some v ∧ ((j ∉ l → v = vals.getD j undef) ∧ (j ∈ l → U j v w))) →
      Region.wanted o (yielded ops a.tmps) = true ∧ ∃ v w', (execOp a.eval o).run P w = .ok (.value v) w' ∧ Below w.heap.size w w' ∧ U i v w') : DoneStep P md ops Q (GS w0) (GR l U vals) a0 i :=
  done_make hi (fun dn a w hS _ _ ho hn => by
    obtain ⟨h1, v, w', h2, h3, h4⟩ := h a w hS ho hn
    exact ⟨h1, v, w', h2, Below.trans hS (h3.mono hS.size), ⟨fun hn => absurd hl hn, fun _ => h4⟩, fun j u _ _ hR => ⟨hR.1, fun hm => hU _ _ _ _ h3 (hR.2 hm)⟩⟩)
theorem gr_call (hU : GU U) (f : FuncId) (hi : ops[i]? = some o) (hl : i ∈ l)
    (h : ∀ (a : Act) (w : World), Below w0.heap.size w0 w → (∀ t, free md ops i t = true → a.tmps[t]? = a0.tmps[t]?) → (∀ j d, behind md ops i j = true → dstOf ops j = some d → ∃ v, a.tmps[d]? = some v ∧ ((j ∉ l → v = vals.getD j undef) ∧ (j ∈ l → U j v w))) →
      Region.wanted o (yielded ops a.tmps) = true ∧ ∃ args, (execOp a.eval o).run P w = .ok (.enter f args) w ∧ Calls P f args w fun e w' => ∃ v, e = .returned v ∧ Below w.heap.size w w' ∧ U i v w') : DoneStep P md ops Q (GS w0) (GR l U vals) a0 i := by
  intro dn a w hS hd _ ho hn
  obtain ⟨h1, args, h2, h3⟩ := h a w hS ho hn
  unfold wpOp
  rw [hi]
  simp only [h1, if_true]
  refine .inl ?_
  unfold Oper.wp
  rw [h2, Oper.upon_enter]
  refine h3.mono ?_
  rintro e w' ⟨v, rfl, h4, h5⟩
  exact ⟨v, by simp [dstOf, hi], Below.trans hS (h4.mono hS.size), ⟨fun hn => absurd hl hn, fun _ => h5⟩, fun j u _ _ hR => ⟨hR.1, fun hm => hU _ _ _ _ h4 (hR.2 hm)⟩⟩
end
end Go.Proofs.Ytceglhejmdiipaa

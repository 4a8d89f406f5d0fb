/-
  A region that draws its order inside a fence, whose operations only look, but one that yields, and one behind it.
-/
import Derived.Test.YtceglhejmdiipaaDoneIn
namespace Go.Proofs.Ytceglhejmdiipaa
open Go.RowKit

section
variable {P : Program} {n : Nat} {ops : Array Oper} {Q : Exit → Act → World → Prop} {md : Region.Mode} {a0 : Act} {i m : Nat} {o : Oper} {w0 : World} {vs : List Value} {D : List (List Nat)} {J Jx : World → Prop}
structure YS (m : Nat) (w0 : World) (dn : Nat → Bool) (w : World) : Prop where
  pre : dn m = false → Below w0.heap.size w0 w
  all : dn m = true → ∀ j, j < m → dn j = true
/-- What a round says. -/
def YP (J Jx : World → Prop) (bb : Bool) (w : World) : Prop := (bb = true → J w) ∧ (bb = false → Jx w)
structure YR (m : Nat) (vs : List Value) (D : List (List Nat)) (J Jx : World → Prop) (dn : Nat → Bool) (i : Nat) (v : Value) (w : World) : Prop where
  val : i < m → v = vs.getD i undef
  am : i = m → ∃ bb, v = .bool bb ∧ YP J Jx bb w
  an : m < i → dn m = true ∧ ∃ bb, v = .bool (!bb) ∧ YP J Jx bb w
  dd : ∀ j ∈ D.getD i [], dn j = true
/-- Each place that D names for operation i is its own, or named for one that it comes behind. -/
def covers (md : Region.Mode) (ops : Array Oper) (D : List (List Nat)) (i : Nat) : Bool :=
  (D.getD i []).all fun j => j == i || (List.range i).any fun k => behind md ops i k && (dstOf ops k).isSome && (D.getD k []).contains j
theorem YS.start (m : Nat) (w : World) : YS m w (fun _ => false) w.drew := ⟨fun _ => (Below.refl _ _).drew, fun h => by cases h⟩
theorem ys_up (hi : i ≠ m) : ∀ dn w, YS m w0 dn w → YS m w0 (upd dn i) w := fun dn w h => by
  have hm : upd dn i m = dn m := by
    unfold upd
    have : (m == i) = false := by simpa using fun e => hi e.symm
    first | simp [this] | (rw [show (i == m) = false by simpa using hi]; simp)
  exact ⟨fun e => h.pre (hm ▸ e), fun e j hj => upd_on (h.all (hm ▸ e) j hj)⟩
theorem yr_up : ∀ dn j u w, YR m vs D J Jx dn j u w → YR m vs D J Jx (upd dn i) j u w := fun _ _ _ _ h =>
  ⟨h.val, h.am, fun e => ⟨upd_on (h.an e).1, (h.an e).2⟩, fun k hk => upd_on (h.dd k hk)⟩
theorem covers_dd {dn : Nat → Bool} {a : Act} {w : World} (hc : covers md ops D i = true) (hn : ∀ j d, behind md ops i j = true → dstOf ops j = some d → ∃ v, a.tmps[d]? = some v ∧ YR m vs D J Jx dn j v w) : ∀ j ∈ D.getD i [], upd dn i j = true := by
  intro j hj
  have h := List.all_eq_true.1 hc j hj
  rw [Bool.or_eq_true] at h
  rcases h with h | h
  · have : j = i := by simpa using h
    subst this
    exact upd_self _ _
  · obtain ⟨k, _, hk⟩ := List.any_eq_true.1 h
    rw [Bool.and_eq_true, Bool.and_eq_true] at hk
    obtain ⟨d, hd⟩ := Option.isSome_iff_exists.1 hk.1.2
    obtain ⟨v, _, hR⟩ := hn k d hk.1.1 hd
    exact upd_on (hR.dd j (by simpa using hk.2))

theorem y_value (hi : ops[i]? = some o) (hsem : ∀ ρ, o.semAt none ρ = execOp ρ o) (hlt : i < m) (v : Value) (hv : vs.getD i undef = v) (hc : covers md ops D i = true)
    (h : ∀ (a : Act) (w : World), Below w0.heap.size w0 w → (∀ t, free md ops i t = true → a.tmps[t]? = a0.tmps[t]?) → (∀ j d, behind md ops i j = true → dstOf ops j = some d → ∃ v, a.tmps[d]? = some v ∧ (j < m → v = vs.getD j undef)) →
      Region.wanted o (yielded ops a.tmps) = true ∧ (execOp a.eval o).run P w = .ok (.value v) w) : DoneStepIn n P md ops Q (YS m w0) (YR m vs D J Jx) a0 i :=
  doneIn_value (ys_up (by omega)) yr_up v hi hsem (fun dn a w hS hd ho hn => by
    have hm : dn m = false := by
      cases h0 : dn m with
      | false => rfl
      | true => rw [hS.all h0 i hlt] at hd; cases hd
    obtain ⟨h1, h2⟩ := h a w (hS.pre hm) ho (fun j d hb hdst => by
      obtain ⟨u, hu, hR⟩ := hn j d hb hdst
      exact ⟨u, hu, hR.val⟩)
    exact ⟨h1, h2, fun _ => hv.symm, fun e => by omega, fun e => by omega, covers_dd hc hn⟩)
theorem y_yield (hi : ops[m]? = some o) (hsem : ∀ ρ, o.semAt none ρ = execOp ρ o) (hc : covers md ops D m = true) (hall : (List.range m).all (fun j => (D.getD m []).contains j) = true)
    (h : ∀ (a : Act) (w : World), Below w0.heap.size w0 w → (∀ t, free md ops m t = true → a.tmps[t]? = a0.tmps[t]?) → (∀ j d, behind md ops m j = true → dstOf ops j = some d → ∃ v, a.tmps[d]? = some v ∧ (j < m → v = vs.getD j undef)) →
      Region.wanted o (yielded ops a.tmps) = true ∧ ∃ l fn tmps assign body, (execOp a.eval o).run P w = .ok (.round l fn tmps assign body) w ∧
      RoundIn Fence.wide (n - 1) P l fn tmps assign body w fun e w' => (e = .returned (.bool true) ∧ J w') ∨ (e = .returned (.bool false) ∧ Jx w')) : DoneStepIn n P md ops Q (YS m w0) (YR m vs D J Jx) a0 m := by
  refine doneIn_round hi hsem ?_
  intro dn a w hS hd ho hn
  obtain ⟨h1, l, fn, tmps, assign, body, h2, h3⟩ := h a w (hS.pre hd) ho (fun j d hb hdst => by
    obtain ⟨u, hu, hR⟩ := hn j d hb hdst
    exact ⟨u, hu, hR.val⟩)
  refine ⟨h1, l, fn, tmps, assign, body, h2, h3.mono ?_⟩
  have hdd := covers_dd hc hn
  have hS2 : ∀ w', YS m w0 (upd dn m) w' := fun w' => ⟨fun e => (by rw [upd_self] at e; cases e), fun _ j hj => hdd j (by simpa using List.all_eq_true.1 hall j (List.mem_range.2 hj))⟩
  have hst : ∀ w' j u, j ≠ m → dn j = true → YR m vs D J Jx dn j u w → YR m vs D J Jx (upd dn m) j u w' := fun w' j u hj _ hR =>
    ⟨hR.val, fun e => absurd e hj, fun e => (by have := (hR.an e).1; rw [hd] at this; cases this), fun k hk => upd_on (hR.dd k hk)⟩
  rintro e w' (⟨rfl, hJ⟩ | ⟨rfl, hJ⟩)
  · exact ⟨_, rfl, hS2 w', ⟨fun e => by omega, fun _ => ⟨true, rfl, (fun _ => hJ), (fun e => (by cases e))⟩, fun e => by omega, hdd⟩, fun j u hj hdj hR => hst w' j u hj hdj hR⟩
  · exact ⟨_, rfl, hS2 w', ⟨fun e => by omega, fun _ => ⟨false, rfl, (fun e => (by cases e)), (fun _ => hJ)⟩, fun e => by omega, hdd⟩, fun j u hj hdj hR => hst w' j u hj hdj hR⟩
theorem y_not (hi : ops[m + 1]? = some o) (hsem : ∀ ρ, o.semAt none ρ = execOp ρ o) (hc : covers md ops D (m + 1) = true) (hmm : m ∈ D.getD (m + 1) []) (d : Tmp) (hb : behind md ops (m + 1) m = true) (hd : dstOf ops m = some d)
    (h : ∀ (a : Act) (w : World) (bb : Bool), a.tmps[d]? = some (.bool bb) → Region.wanted o (yielded ops a.tmps) = true ∧ (execOp a.eval o).run P w = .ok (.value (.bool (!bb))) w) : DoneStepIn n P md ops Q (YS m w0) (YR m vs D J Jx) a0 (m + 1) :=
  doneIn_any (ys_up (by omega)) yr_up hi hsem (fun dn a w hS hdn ho hn => by
    obtain ⟨u, hu, hR⟩ := hn m d hb hd
    obtain ⟨bb, rfl, hbb⟩ := hR.am rfl
    obtain ⟨h1, h2⟩ := h a w bb hu
    have hdd := covers_dd hc hn
    exact ⟨h1, _, h2, fun e => by omega, fun e => by omega, fun _ => ⟨hdd m hmm, bb, rfl, hbb⟩, hdd⟩)
end
end Go.Proofs.Ytceglhejmdiipaa

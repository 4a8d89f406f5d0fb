/-
  Operations that call no function, inside a fence: what is shown of them without a fence holds inside one; a region that draws its order, with one writing operation at its end, inside a fence.
-/
import Derived.Test.YtkabdkblcgklmaaBase
import Derived.StillTailTactics
import Derived.OrdersIn
import Derived.Deep.MidRow
namespace Go.Proofs.Ytkabdkblcgklmaa
open Go.RowKit

section
variable {P : Program} {F : Fence} {n : Nat} {ops : Array Oper} {Q : Exit → Act → World → Prop} {md : Region.Mode}

/-- An operation that enters nothing, whatever it is handed. -/
structure Mute (P : Program) (o : Oper) : Prop where
  about : ∀ w ρ, o.about P w ρ = none
  sem : ∀ (ro : Option Nat) ρ, o.semAt ro ρ = execOp ρ o
  plain : ∀ ρ w, (∃ v w', (execOp ρ o).run P w = .ok (.value v) w') ∨ (∃ w', (execOp ρ o).run P w = .ok .skip w') ∨ ∃ h w', (execOp ρ o).run P w = .halt h w'

theorem Mute.wpIn {o : Oper} (hm : Mute P o) {a : Act} {w : World} {K : Act → World → Prop} (h : o.wp P a w K Q) : o.wpIn F n P a w K Q := by
  refine ⟨fun f hf => (by rw [hm.about] at hf; cases hf), ?_⟩
  rw [hm.sem]
  unfold Oper.wp at h
  rcases hm.plain a.eval w with ⟨v, w', e⟩ | ⟨w', e⟩ | ⟨x, w', e⟩
  · rw [e] at h ⊢; exact h
  · rw [e] at h ⊢; exact h
  · rw [e] at h ⊢
    cases x <;> first | exact h | exact h.elim

theorem Mute.op (hq : ¬ LetsOut Q) {o : Oper} {i : Nat} (hi : ops[i]? = some o) (hm : Mute P o) {a : Act} {w : World} {K : Act → World → Prop} (h : wpOp P ops Q i K a w) : wpOpIn F n P ops Q i K a w := by
  unfold wpOp at h
  unfold wpOpIn
  simp only [hi] at h ⊢
  split
  · rename_i hw
    rw [if_pos hw] at h
    exact hm.wpIn (h.resolve_right fun x => hq x.2)
  · rename_i hw
    rw [if_neg hw] at h
    exact ⟨fun f hf => (by rw [hm.about] at hf; cases hf), h⟩

theorem wpOpIn_of (hq : ¬ LetsOut Q) {i : Nat} (hm : ∀ o ∈ ops, Mute P o) {a : Act} {w : World} {K : Act → World → Prop} (h : wpOp P ops Q i K a w) : wpOpIn F n P ops Q i K a w := by
  cases hi : ops[i]? with
  | none =>
    unfold wpOp at h
    unfold wpOpIn
    simp only [hi] at h ⊢
    exact h
  | some o => exact Mute.op hq hi (hm o (Array.mem_of_getElem? hi)) h

theorem wpAnyIn_of (hq : ¬ LetsOut Q) (hm : ∀ o ∈ ops, Mute P o) : ∀ (fuel : Nat) (listed : Array Bool) (a : Act) (w : World), wpAny P md ops Q fuel listed a w → wpAnyIn F n P md ops Q fuel listed a w
  | 0, _, _, _, h => h
  | fuel + 1, _, _, _, h => ⟨h.1, fun i hi => wpOpIn_of hq hm (wpOp_mono (fun a' w' h' => wpAnyIn_of hq hm fuel _ a' w' h') (h.2 i hi))⟩

theorem wpListIn_of (hq : ¬ LetsOut Q) {l : List Oper} : (∀ o ∈ l, Mute P o) → ∀ {a : Act} {w : World}, wpList P ops Q l a w → wpListIn F n P ops Q l a w := by
  induction l with
  | nil => exact fun _ _ _ h => h
  | cons o l ih =>
    intro hm a w h
    have ho := hm o (List.mem_cons_self ..)
    have hl := fun {a w} => ih (fun o' h' => hm o' (List.mem_cons_of_mem _ h')) (a := a) (w := w)
    refine wpListIn_step fun K hK => ?_
    unfold wpList at h
    split
    · rename_i hw
      rw [if_pos hw] at h
      exact ho.wpIn (Oper.wp_mono (fun a' w' h' => hK a' w' (hl h')) (h.resolve_right fun x => hq x.2))
    · rename_i hw
      rw [if_neg hw] at h
      exact ⟨fun f hf => (by rw [ho.about] at hf; cases hf), hK _ _ (hl h)⟩

theorem wpIn_region_still_tail (hq : ¬ LetsOut Q) {id : Nat} {a : Act} {w : World} {l : List Oper} (k : Nat) (hm : P.follows .mixedOrders = true) (hB : Region.lexTailB .any l.toArray k = true) (hu : ∀ o ∈ l, Mute P o)
    (h : wpStill P l.toArray { w with drawn := w.drawn + 1 } (fun a' => wpList P l.toArray Q (l.drop k) a' { w with drawn := w.drawn + 1 }) (l.take k) a) : (Code.region id l.toArray true).wpIn F n P Q a w := by
  simp only [Region.lexTailB, Bool.and_eq_true, decide_eq_true_eq] at hB
  obtain ⟨⟨⟨⟨hsel, hn⟩, hs⟩, hc⟩, hlex⟩ := hB
  have htl : (l.take k).length = k := by simp at hn; simp; omega
  have hdl : (l.drop k).length = l.toArray.size - k := by simp
  have inv0 : HeadInv .any l.toArray k (Array.replicate l.toArray.size false) :=
    ⟨by simp, fun j oj _ hl => (by rw [getD_replicate_false] at hl; cases hl), fun t _ ht => getD_in (by simpa using ht) (getD_replicate_false _ _)⟩
  have H := wpAnyL_lex (md := .any) (g := l.toArray.size - k) hsel hs hc hn (l.take k) 0 _ a (fun j hj => by
    have hj' : j < k := by rw [htl] at hj; exact hj
    simp [hj']) (by simpa using htl) inv0 (by rw [htl]; exact hlex) h
  refine wpIn_region_any hm (wpAnyIn_of hq (fun o ho => hu o (by simpa using ho)) _ _ _ _ ?_)
  have := wpAny_of_head (Q' := Q) (g := l.toArray.size - k) (fun listed a' hL => by
    have := wpAny_of_seq (md := .any) (Q' := Q) (l.drop k) k listed a' { w with drawn := w.drawn + 1 } (fun j => by simp [List.getElem?_drop]) (by rw [hdl]; exact hL.1) hL.2
    rwa [hdl] at this) _ _ _ H
  rw [htl, show k + (l.toArray.size - k) = l.toArray.size by simp at hn; simp; omega] at this
  exact this

def PlainR (r : Result Next) : Prop := (∃ v w', r = .ok (.value v) w') ∨ (∃ w', r = .ok .skip w') ∨ ∃ h w', r = .halt h w'
theorem PlainR.bind {P : Program} {α : Type} (m : Sem α) (f : α → Sem Next) (w : World) (h : ∀ a w', PlainR ((f a).run P w')) : PlainR ((m >>= f).run P w) := by
  rw [Sem.run_bind]
  cases m.run P w with
  | ok a w' => exact h a w'
  | halt x w' => exact .inr (.inr ⟨x, w', rfl⟩)
theorem plain_value {P : Program} (m : Sem Value) (w : World) : (∃ v w', (do pure (Next.value (← m)) : Sem Next).run P w = .ok (.value v) w') ∨ (∃ w', (do pure (Next.value (← m)) : Sem Next).run P w = .ok .skip w') ∨ ∃ h w', (do pure (Next.value (← m)) : Sem Next).run P w = .halt h w' := by
  rw [Sem.run_bind]
  cases m.run P w with
  | ok v w' => exact .inl ⟨v, w', rfl⟩
  | halt h w' => exact .inr (.inr ⟨h, w', rfl⟩)
theorem plain_skip {P : Program} (m : Sem Unit) (w : World) : (∃ v w', (do m; pure Next.skip : Sem Next).run P w = .ok (.value v) w') ∨ (∃ w', (do m; pure Next.skip : Sem Next).run P w = .ok .skip w') ∨ ∃ h w', (do m; pure Next.skip : Sem Next).run P w = .halt h w' := by
  rw [Sem.run_bind]
  cases m.run P w with
  | ok v w' => exact .inr (.inl ⟨w', rfl⟩)
  | halt h w' => exact .inr (.inr ⟨h, w', rfl⟩)

section
variable {o : Oper}
theorem mute_move {x : Operand} (ho : o.op = .move x) : Mute P o :=
  ⟨fun w ρ => by simp [Oper.about, ho], fun ro ρ => Oper.semAt_eq ro ρ o (fun c h => by rw [ho] at h; cases h), fun ρ w => .inl ⟨ρ x, w, by unfold execOp; rw [ho]; rfl⟩⟩
theorem mute_load {t : TypeId} {x : Operand} (ho : o.op = .load t x) : Mute P o :=
  ⟨fun w ρ => by simp [Oper.about, ho], fun ro ρ => Oper.semAt_eq ro ρ o (fun c h => by rw [ho] at h; cases h), fun ρ w => by unfold execOp; rw [ho]; exact plain_value _ w⟩
theorem mute_store {t : TypeId} {x y : Operand} (ho : o.op = .store t x y) : Mute P o :=
  ⟨fun w ρ => by simp [Oper.about, ho], fun ro ρ => Oper.semAt_eq ro ρ o (fun c h => by rw [ho] at h; cases h), fun ρ w => by unfold execOp; rw [ho]; exact plain_skip _ w⟩
theorem mute_fieldAddr {t : TypeId} {x : Operand} {f : Nat} (ho : o.op = .fieldAddr t x f) : Mute P o :=
  ⟨fun w ρ => by simp [Oper.about, ho], fun ro ρ => Oper.semAt_eq ro ρ o (fun c h => by rw [ho] at h; cases h), fun ρ w => by unfold execOp; rw [ho]; exact plain_value _ w⟩
theorem mute_indexAddr {t : TypeId} {x y : Operand} (ho : o.op = .indexAddr t x y) : Mute P o :=
  ⟨fun w ρ => by simp [Oper.about, ho], fun ro ρ => Oper.semAt_eq ro ρ o (fun c h => by rw [ho] at h; cases h), fun ρ w => by unfold execOp; rw [ho]; exact plain_value _ w⟩
theorem mute_slice {t : TypeId} {x : Operand} {lo hi mx : Option Operand} (ho : o.op = .slice t x lo hi mx) : Mute P o :=
  ⟨fun w ρ => by simp [Oper.about, ho], fun ro ρ => Oper.semAt_eq ro ρ o (fun c h => by rw [ho] at h; cases h), fun ρ w => by unfold execOp; rw [ho]; exact plain_value _ w⟩
theorem mute_copy {xs : Array Operand} {ts : Array TypeId} (ho : o.op = .call { callee := .builtin .copy, args := xs, argTypes := ts }) : Mute P o :=
  ⟨fun w ρ => by simp [Oper.about, ho, resolve, Target.leads], fun ro ρ => Oper.semAt_eq ro ρ o (fun c h => by rw [ho] at h; cases h), fun ρ w => by unfold execOp; rw [ho]; exact plain_value _ w⟩
theorem mute_clear {xs : Array Operand} {ts : Array TypeId} (ho : o.op = .call { callee := .builtin .clear, args := xs, argTypes := ts }) : Mute P o :=
  ⟨fun w ρ => by simp [Oper.about, ho, resolve, Target.leads], fun ro ρ => Oper.semAt_eq ro ρ o (fun c h => by rw [ho] at h; cases h), fun ρ w => by unfold execOp; rw [ho]; exact plain_value _ w⟩
theorem mute_nilCheck {x : Operand} (ho : o.op = .nilCheck x) : Mute P o := by
  refine ⟨fun w ρ => by simp [Oper.about, ho], fun ro ρ => Oper.semAt_eq ro ρ o (fun c h => by rw [ho] at h; cases h), fun ρ w => ?_⟩
  unfold execOp
  rw [ho]
  dsimp only
  split
  · exact .inr (.inr ⟨_, _, rfl⟩)
  · exact .inr (.inr ⟨_, _, rfl⟩)
  · exact .inr (.inr ⟨_, _, rfl⟩)
  · split
    · exact .inr (.inr ⟨_, _, rfl⟩)
    · refine PlainR.bind _ _ w (fun a w1 => PlainR.bind _ _ w1 (fun b w2 => ?_))
      split
      · exact PlainR.bind _ _ w2 (fun _ w3 => .inl ⟨_, w3, rfl⟩)
      · exact .inl ⟨_, _, rfl⟩
    · exact .inl ⟨_, _, rfl⟩
  · exact .inl ⟨_, _, rfl⟩
end
end

section
variable {P : Program} {F : Fence} {n : Nat} {ops : Array Oper} {Q : Exit → Act → World → Prop} {a : Act} {w : World} {rest : List Oper} {o : Oper}
theorem wpListIn_load_row (hgd : o.guard = none) (ty : TypeId) (x : Operand) (ho : o.op = .load ty x)
    (g : Nat) (hx : a.eval x = .pointer (some ⟨g, 0, none⟩)) (t : TypeId) (cs : Array Value) (fr : Nat × Nat) (d : TypeDesc) (hg : w.heap[g]? = some (.cells cs t fr))
    (hu : P.underlying ty = some d) (hd : (match d with | .struct _ | .array _ _ => true | _ => false) = true) (hi : (P.info? ty).map (·.size) = some cs.size)
    (h : wpListIn F n P ops Q rest (a.put o.dst (.agg cs)) w) : wpListIn F n P ops Q (o :: rest) a w :=
  wpListIn_plain hgd fun _ hK => (mute_load ho).wpIn (wp_load_row ty x ho g hx t cs fr d hg hu hd hi (hK _ _ h))
theorem wpListIn_store_row (hgd : o.guard = none) (ty : TypeId) (x y : Operand) (ho : o.op = .store ty x y)
    (g : Nat) (cells : Array Value) (hx : a.eval x = .pointer (some ⟨g, 0, none⟩)) (hy : a.eval y = .agg cells) (t : TypeId) (old : Array Value) (hg : w.heap[g]? = some (.cells old t (0, 0)))
    (hi : (P.info? ty).map (·.size) = some cells.size) (hold : old.size = cells.size) (h1 : cells.all (·.oneCell') = true)
    (h : wpListIn F n P ops Q rest (a.put o.dst undef) (w.setRow g cells)) : wpListIn F n P ops Q (o :: rest) a w :=
  wpListIn_plain hgd fun _ hK => (mute_store ho).wpIn (wp_store_row ty x y ho g cells hx hy t old hg hi hold h1 (hK _ _ h))
theorem wpListIn_store_mid (hgd : o.guard = none) (ty : TypeId) (x y : Operand) (ho : o.op = .store ty x y)
    (b off : Nat) (cells : Array Value) (hx : a.eval x = .pointer (some ⟨b, off, none⟩)) (hy : a.eval y = .agg cells)
    (ht : w.there b off cells.size) (hi : (P.info? ty).map (·.size) = some cells.size) (h1 : cells.all (·.oneCell') = true)
    (h : wpListIn F n P ops Q rest (a.put o.dst undef) (w.setCells b off cells.toList)) : wpListIn F n P ops Q (o :: rest) a w :=
  wpListIn_plain hgd fun _ hK => (mute_store ho).wpIn (wp_store_mid ty x y ho b off cells hx hy ht hi h1 (hK _ _ h))
end

theorem wpIn_scope_w {n : Nat} {P : Program} {c : Code} {Q : Exit → Act → World → Prop} {a : Act} {w : World} (h : c.wpIn Fence.wide n P (Exit.noGoto Q) a w) : (Code.scope c).wpIn Fence.wide n P Q a w :=
  wpIn_wide.2 (wp_scope_straight (wpIn_wide.1 h))

end Go.Proofs.Ytkabdkblcgklmaa

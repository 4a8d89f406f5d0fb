/-
  A region that draws its order, walked operation by operation, where its operations call nothing: inside any fence.
-/
import Derived.Test.YtceglhejmdiipaaDoneIn
namespace Go.Proofs.Ytceglhejmdiipaa
open Go.RowKit

section
variable {P : Program} {F : Fence} {n : Nat} {ops : Array Oper} {Q : Exit → Act → World → Prop} {md : Region.Mode}
theorem wpIn_region_done_mute (hq : ¬ LetsOut Q) {id : Nat} {a0 : Act} {w : World} (S : (Nat → Bool) → World → Prop) (R : (Nat → Bool) → Nat → Value → World → Prop) (hm : P.follows .mixedOrders = true) (hu : ∀ o ∈ ops, Mute P o) (m : Nat) (hz : a0.tmps.size = m) (ht : anyText .any ops m = true) (h0 : S (fun _ => false) w.drew)
    (hs : ∀ i, i < ops.size → DoneStep P .any ops Q S R a0 i)
    (he : ∀ done a w, S done w → a.tmps.size = m → a.defers = a0.defers → (∀ t, outer ops t = true → a.tmps[t]? = a0.tmps[t]?) → (∀ j d, dstOf ops j = some d → ∃ v, a.tmps[d]? = some v ∧ R done j v w) → (∀ i, i < ops.size → done i = true) → Q .normal a w) :
    (Code.region id ops true).wpIn F n P Q a0 w := by
  refine wpIn_region_any hm (wpAnyIn_of hq hu _ _ _ _ ?_)
  subst hz
  have hz0 : (fun k => (Array.replicate ops.size false).getD k false) = fun _ => false := by
    funext k
    by_cases hk : k < ops.size <;> simp [hk]
  refine wpDone_steps ht hs he ops.size _ a0 _ (by simp) (by simp) ⟨by rw [hz0]; exact h0, rfl, rfl, fun _ _ => rfl, fun j hl => ?_, fun j d _ hl => ?_⟩
  · exfalso
    have : (Array.replicate ops.size false).getD j false = false := by
      by_cases hj : j < ops.size <;> simp [hj]
    rw [this] at hl
    cases hl
  exfalso
  have : (Array.replicate ops.size false).getD j false = false := by
    by_cases hj : j < ops.size <;> simp [hj]
  rw [this] at hl
  cases hl

theorem wpIn_region_done_mute_on (hq : ¬ LetsOut Q) {id : Nat} {a0 : Act} {w : World} (S : (Nat → Bool) → World → Prop) (R : (Nat → Bool) → Nat → Value → World → Prop) (hm : P.follows .mixedOrders = true) (hu : ∀ o ∈ ops, Mute P o) (m : Nat) (hz : a0.tmps.size = m) (ht : anyText .any ops m = true) (h0 : S (fun _ => false) w.drew)
    (hs : ∀ i, i < ops.size → DoneStep P .any ops Q S R a0 i)
    (he : ∀ (done : Nat → Bool) (f : Tmp → Value) (w : World), S done w → (∀ j d, dstOf ops j = some d → R done j (f d) w) → (∀ i, i < ops.size → done i = true) → Q .normal (putAll ops.toList f a0) w) :
    (Code.region id ops true).wpIn F n P Q a0 w := by
  refine wpIn_region_done_mute hq S R hm hu m hz ht h0 hs fun done a w hS hsz hd ho hn hall => ?_
  have h1 := he done (fun d => a.tmps.getD d undef) w hS (fun j d hj => by
    obtain ⟨v, hv, hR⟩ := hn j d hj
    have : a.tmps.getD d undef = v := by simp [hv]
    rw [this]
    exact hR) hall
  have h2 : putAll ops.toList (fun d => a.tmps.getD d undef) a0 = a := by
    have hsz' : (putAll ops.toList (fun d => a.tmps.getD d undef) a0).tmps.size = a.tmps.size := by rw [putAll_size, hsz, hz]
    have ht' : (putAll ops.toList (fun d => a.tmps.getD d undef) a0).tmps = a.tmps := by
      apply Array.ext_getElem?
      intro t
      by_cases hlt : t < m
      · have hlt' : t < a0.tmps.size := by rw [hz]; exact hlt
        rw [putAll_at ops.toList _ a0 t hlt']
        cases hany : ops.toList.any fun o => o.dst == some t with
        | true =>
          have : t < a.tmps.size := by omega
          simp [this]
        | false =>
          rw [if_neg (by simp), ← ho t ?_]
          unfold outer
          rw [← Array.all_toList, List.all_eq_true]
          intro o hm'
          have := List.any_eq_false.1 hany o hm'
          simpa [bne] using this
      · rw [Array.getElem?_eq_none (by rw [hsz', hsz]; omega), Array.getElem?_eq_none (by rw [hsz]; omega)]
    have hd' : (putAll ops.toList (fun d => a.tmps.getD d undef) a0).defers = a.defers := by rw [putAll_defers, hd]
    cases a
    cases hh : putAll ops.toList _ a0
    rw [hh] at ht' hd'
    simp only at ht' hd'
    rw [ht', hd']
  rw [h2] at h1
  exact h1

variable {o : Oper}
theorem mute_buildSlice {t : TypeId} {k : Nat} {es : Array (Nat × Operand)} (ho : o.op = .buildSlice t k es) : Mute P o :=
  ⟨fun w ρ => by simp [Oper.about, ho], fun ro ρ => Oper.semAt_eq ro ρ o (fun c h => by rw [ho] at h; cases h), fun ρ w => by unfold execOp; rw [ho]; exact plain_value _ w⟩
theorem mute_append {xs : Array Operand} {ts : Array TypeId} (ho : o.op = .call { callee := .builtin .append, args := xs, argTypes := ts }) : Mute P o :=
  ⟨fun w ρ => by simp [Oper.about, ho, resolve, Target.leads], fun ro ρ => Oper.semAt_eq ro ρ o (fun c h => by rw [ho] at h; cases h), fun ρ w => by unfold execOp; rw [ho]; exact plain_value _ w⟩

/-- The worlds of a drawn region that turns memory three times, one behind the other. -/
def pick4 (W0 W1 W2 W3 : World) (a b c : Nat) (dn : Nat → Bool) : World := if dn c = true then W3 else if dn b = true then W2 else if dn a = true then W1 else W0
theorem pick4_all {W0 W1 W2 W3 : World} {a b c : Nat} {P : World → Prop} (h0 : P W0) (h1 : P W1) (h2 : P W2) (h3 : P W3) (dn : Nat → Bool) : P (pick4 W0 W1 W2 W3 a b c dn) := by
  unfold pick4
  split
  · exact h3
  · split
    · exact h2
    · split
      · exact h1
      · exact h0
end
end Go.Proofs.Ytceglhejmdiipaa

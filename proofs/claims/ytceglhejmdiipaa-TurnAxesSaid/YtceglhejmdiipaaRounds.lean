/-
  A region that draws its order, in a loop's round: what is shown of it outside a round holds inside one, if it defers nothing.
-/
import Derived.Test.YtceglhejmdiipaaFence
import Derived.Test.YtceglhejmdiipaaDone
namespace Go.Proofs.Ytceglhejmdiipaa
open Go.RowKit

/-- No operation of them defers a call. -/
def noDefer (ops : Array Oper) : Bool := ops.all fun o => match o.op with
  | .defer _ => false
  | _ => true
theorem noDefer_out {ops : Array Oper} (h : noDefer ops = true) : ∀ o ∈ ops, ∀ c, o.op ≠ .defer c := by
  intro o ho c e
  unfold noDefer at h
  rw [Array.all_eq_true'] at h
  have := h o ho
  rw [e] at this
  cases this
section
variable {P : Program} {n l : Nat} {ops : Array Oper} {Q : Exit → Act → World → Prop} {md : Region.Mode}
theorem upon_round {o : Oper} {a : Act} {K : Act → World → Prop} {r : Result Next} (h : o.upon P a K Q r) : o.uponIn (Fence.wide.inRound l) n P a K Q r := by
  cases r with
  | ok x w' =>
    cases x with
    | value v => exact h
    | skip => exact h
    | «defer» d => exact h
    | enter f args => exact ⟨fun e => (by cases e), CallsIn.inRound l (callsIn_wide.2 h)⟩
    | row row args => exact ⟨fun e => (by cases e), fun c cs _ => let ⟨v, w1, q, s⟩ := h c cs; ⟨v, w1, q, stepsIn_wide.2 s⟩⟩
    | _ => exact h.elim
  | halt x w' => cases x <;> first | exact h | exact h.elim
theorem wpIn_round {o : Oper} (hd : ∀ c, o.op ≠ .defer c) {a : Act} {w : World} {K : Act → World → Prop} (h : o.wp P a w K Q) : o.wpIn (Fence.wide.inRound l) n P a w K Q :=
  ⟨fun _ _ => trivial, by rw [Oper.semAt_eq _ _ _ hd]; exact upon_round h⟩
theorem wpOpIn_round (hq : ¬ LetsOut Q) (hd : ∀ o ∈ ops, ∀ c, o.op ≠ .defer c) {i : Nat} {a : Act} {w : World} {K : Act → World → Prop} (h : wpOp P ops Q i K a w) : wpOpIn (Fence.wide.inRound l) n P ops Q i K a w := by
  unfold wpOp at h
  unfold wpOpIn
  cases hi : ops[i]? with
  | none => simp only [hi] at h ⊢; exact h
  | some o =>
    simp only [hi] at h ⊢
    split
    · rename_i hw
      rw [if_pos hw] at h
      exact wpIn_round (hd o (Array.mem_of_getElem? hi)) (h.resolve_right fun x => hq x.2)
    · rename_i hw
      rw [if_neg hw] at h
      exact ⟨fun _ _ => trivial, h⟩
theorem wpAnyIn_round (hq : ¬ LetsOut Q) (hd : ∀ o ∈ ops, ∀ c, o.op ≠ .defer c) : ∀ (fuel : Nat) (listed : Array Bool) (a : Act) (w : World), wpAny P md ops Q fuel listed a w → wpAnyIn (Fence.wide.inRound l) n P md ops Q fuel listed a w
  | 0, _, _, _, h => h
  | fuel + 1, _, _, _, h => ⟨h.1, fun i hi => wpOpIn_round hq hd (wpOp_mono (fun a' w' h' => wpAnyIn_round hq hd fuel _ a' w' h') (h.2 i hi))⟩
theorem wpAny_done {a0 : Act} {w : World} (S : (Nat → Bool) → World → Prop) (R : (Nat → Bool) → Nat → Value → World → Prop) (m : Nat) (hz : a0.tmps.size = m) (ht : anyText .any ops m = true) (h0 : S (fun _ => false) w.drew)
    (hs : ∀ i, i < ops.size → DoneStep P .any ops Q S R a0 i)
    (he : ∀ done a w, S done w → a.tmps.size = m → a.defers = a0.defers → (∀ t, outer ops t = true → a.tmps[t]? = a0.tmps[t]?) → (∀ j d, dstOf ops j = some d → ∃ v, a.tmps[d]? = some v ∧ R done j v w) → (∀ i, i < ops.size → done i = true) → Q .normal a w) :
    wpAny P .any ops Q ops.size (Array.replicate ops.size false) a0 w.drew := by
  subst hz
  have hz0 : (fun k => (Array.replicate ops.size false).getD k false) = fun _ => false := by
    funext k
    by_cases hk : k < ops.size <;> simp [hk]
  refine wpDone_steps ht hs he ops.size _ a0 _ (by simp) (by simp) ⟨by rw [hz0]; exact h0, rfl, rfl, fun _ _ => rfl, fun j hl => ?_, fun j d _ hl => ?_⟩
  · exfalso
    have : (Array.replicate ops.size false).getD j false = false := by
      by_cases hj : j < ops.size <;> simp [hj]
    rw [this] at hl
    cases hl
  exfalso
  have : (Array.replicate ops.size false).getD j false = false := by
    by_cases hj : j < ops.size <;> simp [hj]
  rw [this] at hl
  cases hl

theorem wpAny_done_on {a0 : Act} {w : World} (S : (Nat → Bool) → World → Prop) (R : (Nat → Bool) → Nat → Value → World → Prop) (m : Nat) (hz : a0.tmps.size = m) (ht : anyText .any ops m = true) (h0 : S (fun _ => false) w.drew)
    (hs : ∀ i, i < ops.size → DoneStep P .any ops Q S R a0 i)
    (he : ∀ (done : Nat → Bool) (f : Tmp → Value) (w : World), S done w → (∀ j d, dstOf ops j = some d → R done j (f d) w) → (∀ i, i < ops.size → done i = true) → Q .normal (putAll ops.toList f a0) w) :
    wpAny P .any ops Q ops.size (Array.replicate ops.size false) a0 w.drew := by
  refine wpAny_done S R m hz ht h0 hs fun done a w hS hsz hd ho hn hall => ?_
  have h1 := he done (fun d => a.tmps.getD d undef) w hS (fun j d hj => by
    obtain ⟨v, hv, hR⟩ := hn j d hj
    have : a.tmps.getD d undef = v := by simp [hv]
    rw [this]
    exact hR) hall
  have h2 : putAll ops.toList (fun d => a.tmps.getD d undef) a0 = a := by
    have hsz' : (putAll ops.toList (fun d => a.tmps.getD d undef) a0).tmps.size = a.tmps.size := by rw [putAll_size, hsz, hz]
    have ht' : (putAll ops.toList (fun d => a.tmps.getD d undef) a0).tmps = a.tmps := by
      apply Array.ext_getElem?
      intro t
      by_cases hlt : t < m
      · have hlt' : t < a0.tmps.size := by rw [hz]; exact hlt
        rw [putAll_at ops.toList _ a0 t hlt']
        cases hany : ops.toList.any fun o => o.dst == some t with
        | true =>
          have : t < a.tmps.size := by omega
          simp [this]
        | false =>
          rw [if_neg (by simp), ← ho t ?_]
          unfold outer
          rw [← Array.all_toList, List.all_eq_true]
          intro o hm'
          have := List.any_eq_false.1 hany o hm'
          simpa [bne] using this
      · rw [Array.getElem?_eq_none (by rw [hsz', hsz]; omega), Array.getElem?_eq_none (by rw [hsz]; omega)]
    have hd' : (putAll ops.toList (fun d => a.tmps.getD d undef) a0).defers = a.defers := by rw [putAll_defers, hd]
    cases a
    cases hh : putAll ops.toList _ a0
    rw [hh] at ht' hd'
    simp only at ht' hd'
    rw [ht', hd']
  rw [h2] at h1
  exact h1

/-- By way of a bare postcondition: a region of a round, walked as one outside of it. -/
theorem wpIn_region_round (hq : ¬ LetsOut Q) (hd : noDefer ops = true) {id : Nat} {a0 : Act} {w : World} (S : (Nat → Bool) → World → Prop) (R : (Nat → Bool) → Nat → Value → World → Prop) (hm : P.follows .mixedOrders = true) (m : Nat) (hz : a0.tmps.size = m) (ht : anyText .any ops m = true) (h0 : S (fun _ => false) w.drew)
    (hs : ∀ i, i < ops.size → DoneStep P .any ops Q S R a0 i)
    (he : ∀ (done : Nat → Bool) (f : Tmp → Value) (w : World), S done w → (∀ j d, dstOf ops j = some d → R done j (f d) w) → (∀ i, i < ops.size → done i = true) → Q .normal (putAll ops.toList f a0) w) :
    (Code.region id ops true).wpIn (Fence.wide.inRound l) n P Q a0 w := by
  refine wpIn_region_any hm (wpAnyIn_round hq (noDefer_out hd) _ _ _ _ ?_)
  exact wpAny_done_on S R m hz ht h0 hs he
end
end Go.Proofs.Ytceglhejmdiipaa

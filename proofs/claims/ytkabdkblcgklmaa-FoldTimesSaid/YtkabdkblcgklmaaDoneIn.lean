/-
  A region that draws its order, walked operation by operation as in Done, inside a fence: with the call of a round (yield) among its operations.
  A region that draws its order, walked operation by operation, where its operations call nothing: inside any fence.
  A region that draws its order inside a fence, whose operations only look, but one that yields, and one behind it.
  A region that draws its order, in a loop's round: what is shown of it outside a round holds inside one, if it defers nothing.
-/
import Derived.Test.YtkabdkblcgklmaaDone
import Derived.Test.YtkabdkblcgklmaaFence
import Derived.OrdersIn
import Derived.CallsIn
namespace Go.Proofs.Ytkabdkblcgklmaa
open Go.RowKit

section
variable {P : Program} {n : Nat} {ops : Array Oper} {Q : Exit → Act → World → Prop} {md : Region.Mode}

/-- What is to be shown of operation i. -/
def DoneStepIn (n : Nat) (P : Program) (md : Region.Mode) (ops : Array Oper) (Q : Exit → Act → World → Prop) (S : (Nat → Bool) → World → Prop) (R : (Nat → Bool) → Nat → Value → World → Prop) (a0 : Act) (i : Nat) : Prop :=
  ∀ done a w, S done w → done i = false → (∀ j, behind md ops j i = true → done j = false) → (∀ t, free md ops i t = true → a.tmps[t]? = a0.tmps[t]?) →
    (∀ j d, behind md ops i j = true → dstOf ops j = some d → ∃ v, a.tmps[d]? = some v ∧ R done j v w) →
    wpOpIn Fence.wide n P ops Q i (fun a' w' => ∃ v, a' = a.put (dstOf ops i) v ∧ S (upd done i) w' ∧ R (upd done i) i v w' ∧ ∀ j u, j ≠ i → done j = true → R done j u w → R (upd done i) j u w') a w

theorem wpDoneIn_steps {S : (Nat → Bool) → World → Prop} {R : (Nat → Bool) → Nat → Value → World → Prop} {a0 : Act} (ht : anyText md ops a0.tmps.size = true)
    (hs : ∀ i, i < ops.size → DoneStepIn n P md ops Q S R a0 i)
    (he : ∀ done a w, S done w → a.tmps.size = a0.tmps.size → a.defers = a0.defers → (∀ t, outer ops t = true → a.tmps[t]? = a0.tmps[t]?) → (∀ j d, dstOf ops j = some d → ∃ v, a.tmps[d]? = some v ∧ R done j v w) → (∀ i, i < ops.size → done i = true) → Q .normal a w) :
    ∀ (fuel : Nat) (listed : Array Bool) (a : Act) (w : World), listed.size = ops.size → listed.toList.count false ≤ fuel → DoneInv md ops S R a0 listed a w → wpAnyIn Fence.wide n P md ops Q fuel listed a w := by
  unfold anyText at ht
  simp only [Bool.and_eq_true, List.all_eq_true, List.mem_range] at ht
  obtain ⟨⟨hback, hne⟩, hin⟩ := ht
  have hback' : ∀ i o, ops[i]? = some o → ∀ e ∈ o.after, Region.binds md e = true → e.on < i := by
    intro i o ho e hm hb
    have h := hback i (Array.getElem?_eq_some_iff.1 ho).1
    rw [ho] at h
    simp only [Option.map_some, Option.getD_some, Array.all_eq_true'] at h
    have := h e hm
    simpa [hb] using this
  have hne' : ∀ i j d, dstOf ops i = some d → dstOf ops j = some d → i = j := by
    intro i j d hi hj
    have h := hne i (dstOf_lt hi) j (dstOf_lt hj)
    simpa [hi, hj] using h
  have hin' : ∀ i d, dstOf ops i = some d → d < a0.tmps.size := by
    intro i d hi
    unfold dstOf at hi
    cases ho : ops[i]? with
    | none => rw [ho] at hi; simp at hi
    | some o =>
      rw [ho] at hi
      have hd : o.dst = some d := by simpa using hi
      have hm : o ∈ ops := Array.mem_of_getElem? ho
      have := Array.all_eq_true'.1 hin o hm
      simpa [hd] using this
  have hall : ∀ (listed : Array Bool), listed.size = ops.size → Region.ready md ops listed = [] → ∀ i, i < ops.size → listed.getD i false = true := by
    intro listed hl hr i
    induction i using Nat.strongRecOn with
    | _ i ih =>
      intro hi
      cases h : listed.getD i false with
      | true => rfl
      | false =>
        exfalso
        have hmem : i ∈ Region.ready md ops listed := by
          rw [mem_ready]
          refine ⟨?_, ops[i], Array.getElem?_eq_getElem hi, fun e hm hb => ?_⟩
          · have : i < listed.size := by omega
            simpa [this] using h
          · exact ih e.on (hback' i _ (Array.getElem?_eq_getElem hi) e hm hb) (by have := hback' i _ (Array.getElem?_eq_getElem hi) e hm hb; omega)
        rw [hr] at hmem
        cases hmem
  have hend : ∀ listed a w, listed.size = ops.size → DoneInv md ops S R a0 listed a w → Region.ready md ops listed = [] → Q .normal a w := by
    intro listed a w hl inv hr
    exact he _ a w inv.world inv.size inv.defers (fun t ht => inv.old t fun j hj => absurd hj (outer_no ht j)) (fun j d hd => inv.new j d hd (hall listed hl hr j (dstOf_lt hd))) (hall listed hl hr)
  intro fuel
  induction fuel with
  | zero =>
    intro listed a w hl hc inv
    have hr : Region.ready md ops listed = [] := by
      rw [List.eq_nil_iff_forall_not_mem]
      intro i hi
      obtain ⟨hun, o, ho, _⟩ := mem_ready.1 hi
      have hlt : i < listed.size := by rw [hl]; exact (Array.getElem?_eq_some_iff.1 ho).1
      have hf : listed.toList[i]? = some false := by
        have : listed[i]'hlt = false := by simpa [hlt] using hun
        rw [Array.getElem?_toList, Array.getElem?_eq_getElem hlt, this]
      have := count_set _ _ hf
      omega
    exact ⟨hr, hend listed a w hl inv hr⟩
  | succ fuel ih =>
    intro listed a w hl hc inv
    refine ⟨hend listed a w hl inv, fun i hi => ?_⟩
    obtain ⟨hun, o, ho, haft⟩ := mem_ready.1 hi
    have hilt : i < ops.size := (Array.getElem?_eq_some_iff.1 ho).1
    have hlt : i < listed.size := by omega
    have hund : listed.getD i false = false := by
      have : listed[i]'hlt = false := by simpa [hlt] using hun
      simpa [hlt] using this
    have hnext : ∀ j, behind md ops j i = true → listed.getD j false = false := fun j hb => by
      cases hl' : listed.getD j false with
      | false => rfl
      | true =>
        have := inv.closed j hl' i hb
        rw [hund] at this
        cases this
    have hold : ∀ t, free md ops i t = true → a.tmps[t]? = a0.tmps[t]? := fun t ht => inv.old t fun j hd => by
      have hf := List.all_eq_true.1 ht j (List.mem_range.2 (dstOf_lt hd))
      simp only [hd, bne_self_eq_false, Bool.false_or] at hf
      cases hl' : listed.getD j false with
      | false => rfl
      | true =>
        have := inv.closed j hl' i hf
        have hu : listed.getD i false = false := by
          have : listed[i]'hlt = false := by simpa [hlt] using hun
          simpa [hlt] using this
        rw [hu] at this
        cases this
    refine wpOpIn_mono ?_ (hs i hilt _ a w inv.world hund hnext hold fun j d hb hd => inv.new j d hd ?_)
    · rintro a' w' ⟨v, rfl, hS, hR, hst⟩
      have hup : (fun k => (listed.setIfInBounds i true).getD k false) = upd (fun k => listed.getD k false) i := by
        funext k
        unfold upd
        by_cases hki : k = i
        · subst hki; simp [hlt]
        · by_cases hks : k < listed.size
          · simp [hks, Ne.symm hki, hki]
          · simp [hks, hki]
      have hS' : S (fun k => (listed.setIfInBounds i true).getD k false) w' := by rw [hup]; exact hS
      refine ih _ _ _ (by simp [hl]) ?_ ⟨hS', ?_, ?_, ?_, ?_, ?_⟩
      · have hf : listed.toList[i]? = some false := by
          have : listed[i]'hlt = false := by simpa [hlt] using hun
          rw [Array.getElem?_toList, Array.getElem?_eq_getElem hlt, this]
        have := count_set _ _ hf
        rw [Array.toList_setIfInBounds]
        omega
      · rw [← inv.size]
        unfold Act.put
        cases dstOf ops i <;> simp
      · rw [← inv.defers]
        unfold Act.put
        cases dstOf ops i <;> rfl
      · intro t ht
        have hti : ¬ dstOf ops i = some t := fun e => by
          have := ht i e
          simp [hlt] at this
        rw [← inv.old t fun j hd => by
          have := ht j hd
          by_cases hji : j = i
          · subst hji; exact absurd hd hti
          · by_cases hjs : j < listed.size
            · simpa [hjs, Array.getElem_setIfInBounds, Ne.symm hji] using this
            · simp [hjs]]
        unfold Act.put
        cases hd : dstOf ops i with
        | none => rfl
        | some d =>
          have hne : d ≠ t := fun e => hti (by rw [hd, e])
          exact Array.getElem?_setIfInBounds_ne hne
      · intro j hj k hb
        have hk : listed.getD k false = true := by
          by_cases hji : j = i
          · subst hji
            unfold behind at hb
            rw [ho] at hb
            simp only [Option.map_some, Option.getD_some, Array.any_eq_true', Bool.and_eq_true, beq_iff_eq] at hb
            obtain ⟨e, hm, hbi, rfl⟩ := hb
            exact haft e hm hbi
          · refine inv.closed j ?_ k hb
            by_cases hjs : j < listed.size
            · simpa [hjs, Array.getElem_setIfInBounds, Ne.symm hji] using hj
            · simp [hjs] at hj
        by_cases hks : k < listed.size
        · by_cases hki : i = k
          · subst hki; simp [hks]
          · simpa [hks, Array.getElem_setIfInBounds, hki] using hk
        · simp [hks] at hk
      · intro j d hd hj
        by_cases hji : j = i
        · subst hji
          refine ⟨v, ?_, by rw [hup]; exact hR⟩
          unfold Act.put
          rw [hd]
          have hds : d < a.tmps.size := by rw [inv.size]; exact hin' _ _ hd
          simp [hds]
        · have hjl : listed.getD j false = true := by
            have hjs : j < listed.size := by rw [hl]; exact dstOf_lt hd
            simpa [hjs, Array.getElem_setIfInBounds, Ne.symm hji] using hj
          obtain ⟨u, hu, hRu⟩ := inv.new j d hd hjl
          refine ⟨u, ?_, by rw [hup]; exact hst j u hji hjl hRu⟩
          rw [← hu]
          unfold Act.put
          cases hdi : dstOf ops i with
          | none => rfl
          | some d' =>
            have hne : d' ≠ d := fun e => hji (hne' j i d hd (by rw [hdi, e]))
            exact Array.getElem?_setIfInBounds_ne hne
    · unfold behind at hb
      rw [ho] at hb
      simp only [Option.map_some, Option.getD_some, Array.any_eq_true', Bool.and_eq_true, beq_iff_eq] at hb
      obtain ⟨e, hm, hbi, rfl⟩ := hb
      exact haft e hm hbi

/-- A region that draws its order, operation by operation. -/
theorem wpIn_region_done {id : Nat} {a0 : Act} {w : World} (S : (Nat → Bool) → World → Prop) (R : (Nat → Bool) → Nat → Value → World → Prop) (hm : P.follows .mixedOrders = true) (m : Nat) (hz : a0.tmps.size = m) (ht : anyText .any ops m = true) (h0 : S (fun _ => false) w.drew)
    (hs : ∀ i, i < ops.size → DoneStepIn n P .any ops Q S R a0 i)
    (he : ∀ done a w, S done w → a.tmps.size = m → a.defers = a0.defers → (∀ t, outer ops t = true → a.tmps[t]? = a0.tmps[t]?) → (∀ j d, dstOf ops j = some d → ∃ v, a.tmps[d]? = some v ∧ R done j v w) → (∀ i, i < ops.size → done i = true) → Q .normal a w) :
    (Code.region id ops true).wpIn Fence.wide n P Q a0 w := by
  refine wpIn_region_any hm ?_
  subst hz
  have hz0 : (fun k => (Array.replicate ops.size false).getD k false) = fun _ => false := by
    funext k
    by_cases hk : k < ops.size <;> simp [hk]
  refine wpDoneIn_steps ht hs he ops.size _ a0 _ (by simp) (by simp) ⟨by rw [hz0]; exact h0, rfl, rfl, fun _ _ => rfl, fun j hl => ?_, fun j d _ hl => ?_⟩
  · exfalso
    have : (Array.replicate ops.size false).getD j false = false := by
      by_cases hj : j < ops.size <;> simp [hj]
    rw [this] at hl
    cases hl
  exfalso
  have : (Array.replicate ops.size false).getD j false = false := by
    by_cases hj : j < ops.size <;> simp [hj]
  rw [this] at hl
  cases hl

/-- .. and what stands behind it goes on over a frame that is written out. -/
theorem wpIn_region_done_on {id : Nat} {a0 : Act} {w : World} (S : (Nat → Bool) → World → Prop) (R : (Nat → Bool) → Nat → Value → World → Prop) (hm : P.follows .mixedOrders = true) (m : Nat) (hz : a0.tmps.size = m) (ht : anyText .any ops m = true) (h0 : S (fun _ => false) w.drew)
    (hs : ∀ i, i < ops.size → DoneStepIn n P .any ops Q S R a0 i)
    (he : ∀ (done : Nat → Bool) (f : Tmp → Value) (w : World), S done w → (∀ j d, dstOf ops j = some d → R done j (f d) w) → (∀ i, i < ops.size → done i = true) → Q .normal (putAll ops.toList f a0) w) :
    (Code.region id ops true).wpIn Fence.wide n P Q a0 w := by
  refine wpIn_region_done S R hm m hz ht h0 hs fun done a w hS hsz hd ho hn hall => ?_
  have h1 := he done (fun d => a.tmps.getD d undef) w hS (fun j d hj => by
    obtain ⟨v, hv, hR⟩ := hn j d hj
    have : a.tmps.getD d undef = v := by simp [hv]
    rw [this]
    exact hR) hall
  have h2 : putAll ops.toList (fun d => a.tmps.getD d undef) a0 = a := by
    have hsz' : (putAll ops.toList (fun d => a.tmps.getD d undef) a0).tmps.size = a.tmps.size := by rw [putAll_size, hsz, hz]
    have ht' : (putAll ops.toList (fun d => a.tmps.getD d undef) a0).tmps = a.tmps := by
      apply Array.ext_getElem?
      intro t
      by_cases hlt : t < m
      · have hlt' : t < a0.tmps.size := by rw [hz]; exact hlt
        rw [putAll_at ops.toList _ a0 t hlt']
        cases hany : ops.toList.any fun o => o.dst == some t with
        | true =>
          have : t < a.tmps.size := by omega
          simp [this]
        | false =>
          rw [if_neg (by simp), ← ho t ?_]
          unfold outer
          rw [← Array.all_toList, List.all_eq_true]
          intro o hm'
          have := List.any_eq_false.1 hany o hm'
          simpa [bne] using this
      · rw [Array.getElem?_eq_none (by rw [hsz', hsz]; omega), Array.getElem?_eq_none (by rw [hsz]; omega)]
    have hd' : (putAll ops.toList (fun d => a.tmps.getD d undef) a0).defers = a.defers := by rw [putAll_defers, hd]
    cases a
    cases hh : putAll ops.toList _ a0
    rw [hh] at ht' hd'
    simp only at ht' hd'
    rw [ht', hd']
  rw [h2] at h1
  exact h1


variable {S : (Nat → Bool) → World → Prop} {R : (Nat → Bool) → Nat → Value → World → Prop} {a0 : Act} {i : Nat} {o : Oper}
theorem doneIn_value (hS : ∀ done w, S done w → S (upd done i) w) (hR : ∀ done j u w, R done j u w → R (upd done i) j u w) (v : Value) (hi : ops[i]? = some o) (hsem : ∀ ρ, o.semAt none ρ = execOp ρ o)
    (h : ∀ (done : Nat → Bool) (a : Act) (w : World), S done w → done i = false → (∀ t, free md ops i t = true → a.tmps[t]? = a0.tmps[t]?) → (∀ j d, behind md ops i j = true → dstOf ops j = some d → ∃ v, a.tmps[d]? = some v ∧ R done j v w) →
      Region.wanted o (yielded ops a.tmps) = true ∧ (execOp a.eval o).run P w = .ok (.value v) w ∧ R (upd done i) i v w) : DoneStepIn n P md ops Q S R a0 i := by
  intro done a w hs hd _ ho hn
  obtain ⟨h1, h2, h3⟩ := h done a w hs hd ho hn
  unfold wpOpIn
  rw [hi]
  simp only [h1, if_true]
  refine ⟨fun _ _ => trivial, ?_⟩
  show o.uponIn Fence.wide n P a _ Q ((o.semAt none a.eval).run P w)
  rw [hsem, h2]
  exact ⟨v, by simp [dstOf, hi], hS _ _ hs, h3, fun _ _ _ _ h => hR _ _ _ _ h⟩
theorem doneIn_any (hS : ∀ done w, S done w → S (upd done i) w) (hR : ∀ done j u w, R done j u w → R (upd done i) j u w) (hi : ops[i]? = some o) (hsem : ∀ ρ, o.semAt none ρ = execOp ρ o)
    (h : ∀ (done : Nat → Bool) (a : Act) (w : World), S done w → done i = false → (∀ t, free md ops i t = true → a.tmps[t]? = a0.tmps[t]?) → (∀ j d, behind md ops i j = true → dstOf ops j = some d → ∃ v, a.tmps[d]? = some v ∧ R done j v w) →
      Region.wanted o (yielded ops a.tmps) = true ∧ ∃ v, (execOp a.eval o).run P w = .ok (.value v) w ∧ R (upd done i) i v w) : DoneStepIn n P md ops Q S R a0 i := by
  intro done a w hs hd _ ho hn
  obtain ⟨h1, v, h2, h3⟩ := h done a w hs hd ho hn
  unfold wpOpIn
  rw [hi]
  simp only [h1, if_true]
  refine ⟨fun _ _ => trivial, ?_⟩
  show o.uponIn Fence.wide n P a _ Q ((o.semAt none a.eval).run P w)
  rw [hsem, h2]
  exact ⟨v, by simp [dstOf, hi], hS _ _ hs, h3, fun _ _ _ _ h => hR _ _ _ _ h⟩
theorem upd_on {done : Nat → Bool} {i k : Nat} (h : done k = true) : upd done i k = true := by
  unfold upd
  rw [h, Bool.or_true]
theorem doneIn_skip (hS : ∀ done w, S done w → S (upd done i) w) (hR : ∀ done j u w, R done j u w → R (upd done i) j u w) (hi : ops[i]? = some o)
    (h : ∀ (done : Nat → Bool) (a : Act) (w : World), S done w → done i = false → (∀ t, free md ops i t = true → a.tmps[t]? = a0.tmps[t]?) → (∀ j d, behind md ops i j = true → dstOf ops j = some d → ∃ v, a.tmps[d]? = some v ∧ R done j v w) →
      Region.wanted o (yielded ops a.tmps) = false ∧ R (upd done i) i undef w) : DoneStepIn n P md ops Q S R a0 i := by
  intro done a w hs hd _ ho hn
  obtain ⟨h1, h3⟩ := h done a w hs hd ho hn
  unfold wpOpIn
  rw [hi]
  simp only [h1]
  exact ⟨fun _ _ => trivial, undef, by simp [dstOf, hi], hS _ _ hs, h3, fun _ _ _ _ h => hR _ _ _ _ h⟩
theorem doneIn_round (hi : ops[i]? = some o) (hsem : ∀ ρ, o.semAt none ρ = execOp ρ o)
    (h : ∀ (done : Nat → Bool) (a : Act) (w : World), S done w → done i = false → (∀ t, free md ops i t = true → a.tmps[t]? = a0.tmps[t]?) → (∀ j d, behind md ops i j = true → dstOf ops j = some d → ∃ v, a.tmps[d]? = some v ∧ R done j v w) →
      Region.wanted o (yielded ops a.tmps) = true ∧ ∃ l fn tmps assign body, (execOp a.eval o).run P w = .ok (.round l fn tmps assign body) w ∧
      RoundIn Fence.wide (n - 1) P l fn tmps assign body w fun e w' => ∃ v, e = .returned v ∧ S (upd done i) w' ∧ R (upd done i) i v w' ∧ ∀ j u, j ≠ i → done j = true → R done j u w → R (upd done i) j u w') : DoneStepIn n P md ops Q S R a0 i := by
  intro done a w hS hd _ ho hn
  obtain ⟨h1, l, fn, tmps, assign, body, h2, h3⟩ := h done a w hS hd ho hn
  unfold wpOpIn
  rw [hi]
  simp only [h1, if_true]
  refine ⟨fun _ _ => trivial, ?_⟩
  show o.uponIn Fence.wide n P a _ Q ((o.semAt none a.eval).run P w)
  rw [hsem, h2]
  refine ⟨(fun h => Bool.noConfusion h), h3.mono ?_⟩
  rintro e w' ⟨v, rfl, hS', hR, hst⟩
  exact ⟨v, by simp [dstOf, hi], hS', hR, hst⟩
end
section
variable {P : Program} {n : Nat} {ops : Array Oper} {Q : Exit → Act → World → Prop} {md : Region.Mode} {S : (Nat → Bool) → World → Prop} {R : (Nat → Bool) → Nat → Value → World → Prop} {a0 : Act} {i : Nat} {o : Oper}
theorem doneIn_call (f : FuncId) (args : Array Value) (hi : ops[i]? = some o) (hsem : ∀ ρ, o.semAt none ρ = execOp ρ o)
    (h : ∀ (done : Nat → Bool) (a : Act) (w : World), S done w → done i = false → (∀ t, free md ops i t = true → a.tmps[t]? = a0.tmps[t]?) → (∀ j d, behind md ops i j = true → dstOf ops j = some d → ∃ v, a.tmps[d]? = some v ∧ R done j v w) →
      Region.wanted o (yielded ops a.tmps) = true ∧ (execOp a.eval o).run P w = .ok (.enter f args) w ∧
      Calls P f args w fun e w' => ∃ v, e = .returned v ∧ S (upd done i) w' ∧ R (upd done i) i v w' ∧ ∀ j u, j ≠ i → done j = true → R done j u w → R (upd done i) j u w') : DoneStepIn n P md ops Q S R a0 i := by
  intro done a w hS hd _ ho hn
  obtain ⟨h1, h2, h3⟩ := h done a w hS hd ho hn
  unfold wpOpIn
  rw [hi]
  simp only [h1, if_true]
  refine ⟨fun _ _ => trivial, ?_⟩
  show o.uponIn Fence.wide n P a _ Q ((o.semAt none a.eval).run P w)
  rw [hsem, h2]
  refine ⟨(fun h => Bool.noConfusion h), (callsIn_wide.2 h3).mono ?_⟩
  rintro e w' ⟨v, rfl, hS', hR, hst⟩
  exact ⟨v, by simp [dstOf, hi], hS', hR, hst⟩
end
end Go.Proofs.Ytkabdkblcgklmaa

namespace Go.Proofs.Ytkabdkblcgklmaa
open Go.RowKit

section
variable {P : Program} {F : Fence} {n : Nat} {ops : Array Oper} {Q : Exit → Act → World → Prop} {md : Region.Mode}
theorem wpIn_region_done_mute (hq : ¬ LetsOut Q) {id : Nat} {a0 : Act} {w : World} (S : (Nat → Bool) → World → Prop) (R : (Nat → Bool) → Nat → Value → World → Prop) (hm : P.follows .mixedOrders = true) (hu : ∀ o ∈ ops, Mute P o) (m : Nat) (hz : a0.tmps.size = m) (ht : anyText .any ops m = true) (h0 : S (fun _ => false) w.drew)
    (hs : ∀ i, i < ops.size → DoneStep P .any ops Q S R a0 i)
    (he : ∀ done a w, S done w → a.tmps.size = m → a.defers = a0.defers → (∀ t, outer ops t = true → a.tmps[t]? = a0.tmps[t]?) → (∀ j d, dstOf ops j = some d → ∃ v, a.tmps[d]? = some v ∧ R done j v w) → (∀ i, i < ops.size → done i = true) → Q .normal a w) :
    (Code.region id ops true).wpIn F n P Q a0 w := by
  refine wpIn_region_any hm (wpAnyIn_of hq hu _ _ _ _ ?_)
  subst hz
  have hz0 : (fun k => (Array.replicate ops.size false).getD k false) = fun _ => false := by
    funext k
    by_cases hk : k < ops.size <;> simp [hk]
  refine wpDone_steps ht hs he ops.size _ a0 _ (by simp) (by simp) ⟨by rw [hz0]; exact h0, rfl, rfl, fun _ _ => rfl, fun j hl => ?_, fun j d _ hl => ?_⟩
  · exfalso
    have : (Array.replicate ops.size false).getD j false = false := by
      by_cases hj : j < ops.size <;> simp [hj]
    rw [this] at hl
    cases hl
  exfalso
  have : (Array.replicate ops.size false).getD j false = false := by
    by_cases hj : j < ops.size <;> simp [hj]
  rw [this] at hl
  cases hl

theorem wpIn_region_done_mute_on (hq : ¬ LetsOut Q) {id : Nat} {a0 : Act} {w : World} (S : (Nat → Bool) → World → Prop) (R : (Nat → Bool) → Nat → Value → World → Prop) (hm : P.follows .mixedOrders = true) (hu : ∀ o ∈ ops, Mute P o) (m : Nat) (hz : a0.tmps.size = m) (ht : anyText .any ops m = true) (h0 : S (fun _ => false) w.drew)
    (hs : ∀ i, i < ops.size → DoneStep P .any ops Q S R a0 i)
    (he : ∀ (done : Nat → Bool) (f : Tmp → Value) (w : World), S done w → (∀ j d, dstOf ops j = some d → R done j (f d) w) → (∀ i, i < ops.size → done i = true) → Q .normal (putAll ops.toList f a0) w) :
    (Code.region id ops true).wpIn F n P Q a0 w := by
  refine wpIn_region_done_mute hq S R hm hu m hz ht h0 hs fun done a w hS hsz hd ho hn hall => ?_
  have h1 := he done (fun d => a.tmps.getD d undef) w hS (fun j d hj => by
    obtain ⟨v, hv, hR⟩ := hn j d hj
    have : a.tmps.getD d undef = v := by simp [hv]
    rw [this]
    exact hR) hall
  have h2 : putAll ops.toList (fun d => a.tmps.getD d undef) a0 = a := by
    have hsz' : (putAll ops.toList (fun d => a.tmps.getD d undef) a0).tmps.size = a.tmps.size := by rw [putAll_size, hsz, hz]
    have ht' : (putAll ops.toList (fun d => a.tmps.getD d undef) a0).tmps = a.tmps := by
      apply Array.ext_getElem?
      intro t
      by_cases hlt : t < m
      · have hlt' : t < a0.tmps.size := by rw [hz]; exact hlt
        rw [putAll_at ops.toList _ a0 t hlt']
        cases hany : ops.toList.any fun o => o.dst == some t with
        | true =>
          have : t < a.tmps.size := by omega
          simp [this]
        | false =>
          rw [if_neg (by simp), ← ho t ?_]
          unfold outer
          rw [← Array.all_toList, List.all_eq_true]
          intro o hm'
          have := List.any_eq_false.1 hany o hm'
          simpa [bne] using this
      · rw [Array.getElem?_eq_none (by rw [hsz', hsz]; omega), Array.getElem?_eq_none (by rw [hsz]; omega)]
    have hd' : (putAll ops.toList (fun d => a.tmps.getD d undef) a0).defers = a.defers := by rw [putAll_defers, hd]
    cases a
    cases hh : putAll ops.toList _ a0
    rw [hh] at ht' hd'
    simp only at ht' hd'
    rw [ht', hd']
  rw [h2] at h1
  exact h1

variable {o : Oper}
theorem mute_buildSlice {t : TypeId} {k : Nat} {es : Array (Nat × Operand)} (ho : o.op = .buildSlice t k es) : Mute P o :=
  ⟨fun w ρ => by simp [Oper.about, ho], fun ro ρ => Oper.semAt_eq ro ρ o (fun c h => by rw [ho] at h; cases h), fun ρ w => by unfold execOp; rw [ho]; exact plain_value _ w⟩
theorem mute_append {xs : Array Operand} {ts : Array TypeId} (ho : o.op = .call { callee := .builtin .append, args := xs, argTypes := ts }) : Mute P o :=
  ⟨fun w ρ => by simp [Oper.about, ho, resolve, Target.leads], fun ro ρ => Oper.semAt_eq ro ρ o (fun c h => by rw [ho] at h; cases h), fun ρ w => by unfold execOp; rw [ho]; exact plain_value _ w⟩

/-- The worlds of a drawn region that turns memory three times, one behind the other. -/
def pick4 (W0 W1 W2 W3 : World) (a b c : Nat) (dn : Nat → Bool) : World := if dn c = true then W3 else if dn b = true then W2 else if dn a = true then W1 else W0
theorem pick4_all {W0 W1 W2 W3 : World} {a b c : Nat} {P : World → Prop} (h0 : P W0) (h1 : P W1) (h2 : P W2) (h3 : P W3) (dn : Nat → Bool) : P (pick4 W0 W1 W2 W3 a b c dn) := by
  unfold pick4
  split
  · exact h3
  · split
    · exact h2
    · split
      · exact h1
      · exact h0
end
end Go.Proofs.Ytkabdkblcgklmaa

namespace Go.Proofs.Ytkabdkblcgklmaa
open Go.RowKit

section
variable {P : Program} {n : Nat} {ops : Array Oper} {Q : Exit → Act → World → Prop} {md : Region.Mode} {a0 : Act} {i m : Nat} {o : Oper} {w0 : World} {vs : List Value} {D : List (List Nat)} {J Jx : World → Prop}
structure YS (m : Nat) (w0 : World) (dn : Nat → Bool) (w : World) : Prop where
  pre : dn m = false → Below w0.heap.size w0 w
  all : dn m = true → ∀ j, j < m → dn j = true
/-- What a round says. -/
def YP (J Jx : World → Prop) (bb : Bool) (w : World) : Prop := (bb = true → J w) ∧ (bb = false → Jx w)
structure YR (m : Nat) (vs : List Value) (D : List (List Nat)) (J Jx : World → Prop) (dn : Nat → Bool) (i : Nat) (v : Value) (w : World) : Prop where
  val : i < m → v = vs.getD i undef
  am : i = m → ∃ bb, v = .bool bb ∧ YP J Jx bb w
  an : m < i → dn m = true ∧ ∃ bb, v = .bool (!bb) ∧ YP J Jx bb w
  dd : ∀ j ∈ D.getD i [], dn j = true
/-- Each place that D names for operation i is its own, or named for one that it comes behind. -/
def covers (md : Region.Mode) (ops : Array Oper) (D : List (List Nat)) (i : Nat) : Bool :=
  (D.getD i []).all fun j => j == i || (List.range i).any fun k => behind md ops i k && (dstOf ops k).isSome && (D.getD k []).contains j
theorem YS.start (m : Nat) (w : World) : YS m w (fun _ => false) w.drew := ⟨fun _ => (Below.refl _ _).drew, fun h => by cases h⟩
theorem ys_up (hi : i ≠ m) : ∀ dn w, YS m w0 dn w → YS m w0 (upd dn i) w := fun dn w h => by
  have hm : upd dn i m = dn m := by
    unfold upd
    have : (m == i) = false := by simpa using fun e => hi e.symm
    first | simp [this] | (rw [show (i == m) = false by simpa using hi]; simp)
  exact ⟨fun e => h.pre (hm ▸ e), fun e j hj => upd_on (h.all (hm ▸ e) j hj)⟩
theorem yr_up : ∀ dn j u w, YR m vs D J Jx dn j u w → YR m vs D J Jx (upd dn i) j u w := fun _ _ _ _ h =>
  ⟨h.val, h.am, fun e => ⟨upd_on (h.an e).1, (h.an e).2⟩, fun k hk => upd_on (h.dd k hk)⟩
theorem covers_dd {dn : Nat → Bool} {a : Act} {w : World} (hc : covers md ops D i = true) (hn : ∀ j d, behind md ops i j = true → dstOf ops j = some d → ∃ v, a.tmps[d]? = some v ∧ YR m vs D J Jx dn j v w) : ∀ j ∈ D.getD i [], upd dn i j = true := by
  intro j hj
  have h := List.all_eq_true.1 hc j hj
  rw [Bool.or_eq_true] at h
  rcases h with h | h
  · have : j = i := by simpa using h
    subst this
    exact upd_self _ _
  · obtain ⟨k, _, hk⟩ := List.any_eq_true.1 h
    rw [Bool.and_eq_true, Bool.and_eq_true] at hk
    obtain ⟨d, hd⟩ := Option.isSome_iff_exists.1 hk.1.2
    obtain ⟨v, _, hR⟩ := hn k d hk.1.1 hd
    exact upd_on (hR.dd j (by simpa using hk.2))

theorem y_value (hi : ops[i]? = some o) (hsem : ∀ ρ, o.semAt none ρ = execOp ρ o) (hlt : i < m) (v : Value) (hv : vs.getD i undef = v) (hc : covers md ops D i = true)
    (h : ∀ (a : Act) (w : World), Below w0.heap.size w0 w → (∀ t, free md ops i t = true → a.tmps[t]? = a0.tmps[t]?) → (∀ j d, behind md ops i j = true → dstOf ops j = some d → ∃ v, a.tmps[d]? = some v ∧ (j < m → v = vs.getD j undef)) →
      Region.wanted o (yielded ops a.tmps) = true ∧ (execOp a.eval o).run P w = .ok (.value v) w) : DoneStepIn n P md ops Q (YS m w0) (YR m vs D J Jx) a0 i :=
  doneIn_value (ys_up (by omega)) yr_up v hi hsem (fun dn a w hS hd ho hn => by
    have hm : dn m = false := by
      cases h0 : dn m with
      | false => rfl
      | true => rw [hS.all h0 i hlt] at hd; cases hd
    obtain ⟨h1, h2⟩ := h a w (hS.pre hm) ho (fun j d hb hdst => by
      obtain ⟨u, hu, hR⟩ := hn j d hb hdst
      exact ⟨u, hu, hR.val⟩)
    exact ⟨h1, h2, fun _ => hv.symm, fun e => by omega, fun e => by omega, covers_dd hc hn⟩)
theorem y_yield (hi : ops[m]? = some o) (hsem : ∀ ρ, o.semAt none ρ = execOp ρ o) (hc : covers md ops D m = true) (hall : (List.range m).all (fun j => (D.getD m []).contains j) = true)
    (h : ∀ (a : Act) (w : World), Below w0.heap.size w0 w → (∀ t, free md ops m t = true → a.tmps[t]? = a0.tmps[t]?) → (∀ j d, behind md ops m j = true → dstOf ops j = some d → ∃ v, a.tmps[d]? = some v ∧ (j < m → v = vs.getD j undef)) →
      Region.wanted o (yielded ops a.tmps) = true ∧ ∃ l fn tmps assign body, (execOp a.eval o).run P w = .ok (.round l fn tmps assign body) w ∧
      RoundIn Fence.wide (n - 1) P l fn tmps assign body w fun e w' => (e = .returned (.bool true) ∧ J w') ∨ (e = .returned (.bool false) ∧ Jx w')) : DoneStepIn n P md ops Q (YS m w0) (YR m vs D J Jx) a0 m := by
  refine doneIn_round hi hsem ?_
  intro dn a w hS hd ho hn
  obtain ⟨h1, l, fn, tmps, assign, body, h2, h3⟩ := h a w (hS.pre hd) ho (fun j d hb hdst => by
    obtain ⟨u, hu, hR⟩ := hn j d hb hdst
    exact ⟨u, hu, hR.val⟩)
  refine ⟨h1, l, fn, tmps, assign, body, h2, h3.mono ?_⟩
  have hdd := covers_dd hc hn
  have hS2 : ∀ w', YS m w0 (upd dn m) w' := fun w' => ⟨fun e => (by rw [upd_self] at e; cases e), fun _ j hj => hdd j (by simpa using List.all_eq_true.1 hall j (List.mem_range.2 hj))⟩
  have hst : ∀ w' j u, j ≠ m → dn j = true → YR m vs D J Jx dn j u w → YR m vs D J Jx (upd dn m) j u w' := fun w' j u hj _ hR =>
    ⟨hR.val, fun e => absurd e hj, fun e => (by have := (hR.an e).1; rw [hd] at this; cases this), fun k hk => upd_on (hR.dd k hk)⟩
  rintro e w' (⟨rfl, hJ⟩ | ⟨rfl, hJ⟩)
  · exact ⟨_, rfl, hS2 w', ⟨fun e => by omega, fun _ => ⟨true, rfl, (fun _ => hJ), (fun e => (by cases e))⟩, fun e => by omega, hdd⟩, fun j u hj hdj hR => hst w' j u hj hdj hR⟩
  · exact ⟨_, rfl, hS2 w', ⟨fun e => by omega, fun _ => ⟨false, rfl, (fun e => (by cases e)), (fun _ => hJ)⟩, fun e => by omega, hdd⟩, fun j u hj hdj hR => hst w' j u hj hdj hR⟩
theorem y_not (hi : ops[m + 1]? = some o) (hsem : ∀ ρ, o.semAt none ρ = execOp ρ o) (hc : covers md ops D (m + 1) = true) (hmm : m ∈ D.getD (m + 1) []) (d : Tmp) (hb : behind md ops (m + 1) m = true) (hd : dstOf ops m = some d)
    (h : ∀ (a : Act) (w : World) (bb : Bool), a.tmps[d]? = some (.bool bb) → Region.wanted o (yielded ops a.tmps) = true ∧ (execOp a.eval o).run P w = .ok (.value (.bool (!bb))) w) : DoneStepIn n P md ops Q (YS m w0) (YR m vs D J Jx) a0 (m + 1) :=
  doneIn_any (ys_up (by omega)) yr_up hi hsem (fun dn a w hS hdn ho hn => by
    obtain ⟨u, hu, hR⟩ := hn m d hb hd
    obtain ⟨bb, rfl, hbb⟩ := hR.am rfl
    obtain ⟨h1, h2⟩ := h a w bb hu
    have hdd := covers_dd hc hn
    exact ⟨h1, _, h2, fun e => by omega, fun e => by omega, fun _ => ⟨hdd m hmm, bb, rfl, hbb⟩, hdd⟩)
end
end Go.Proofs.Ytkabdkblcgklmaa

namespace Go.Proofs.Ytkabdkblcgklmaa
open Go.RowKit

/-- No operation of them defers a call. -/
def noDefer (ops : Array Oper) : Bool := ops.all fun o => match o.op with
  | .defer _ => false
  | _ => true
theorem noDefer_out {ops : Array Oper} (h : noDefer ops = true) : ∀ o ∈ ops, ∀ c, o.op ≠ .defer c := by
  intro o ho c e
  unfold noDefer at h
  rw [Array.all_eq_true'] at h
  have := h o ho
  rw [e] at this
  cases this
section
variable {P : Program} {n l : Nat} {ops : Array Oper} {Q : Exit → Act → World → Prop} {md : Region.Mode}
theorem upon_round {o : Oper} {a : Act} {K : Act → World → Prop} {r : Result Next} (h : o.upon P a K Q r) : o.uponIn (Fence.wide.inRound l) n P a K Q r := by
  cases r with
  | ok x w' =>
    cases x with
    | value v => exact h
    | skip => exact h
    | enter f args => exact ⟨fun e => (by cases e), CallsIn.inRound l (callsIn_wide.2 h)⟩
    | row row args => exact ⟨fun e => (by cases e), fun c cs _ => let ⟨v, w1, q, s⟩ := h c cs; ⟨v, w1, q, stepsIn_wide.2 s⟩⟩
    | _ => first | exact h | exact h.elim
  | halt x w' => cases x <;> first | exact h | exact h.elim
theorem wpIn_round {o : Oper} (hd : ∀ c, o.op ≠ .defer c) {a : Act} {w : World} {K : Act → World → Prop} (h : o.wp P a w K Q) : o.wpIn (Fence.wide.inRound l) n P a w K Q :=
  ⟨fun _ _ => trivial, by rw [Oper.semAt_eq _ _ _ hd]; exact upon_round h⟩
theorem wpOpIn_round (hq : ¬ LetsOut Q) (hd : ∀ o ∈ ops, ∀ c, o.op ≠ .defer c) {i : Nat} {a : Act} {w : World} {K : Act → World → Prop} (h : wpOp P ops Q i K a w) : wpOpIn (Fence.wide.inRound l) n P ops Q i K a w := by
  unfold wpOp at h
  unfold wpOpIn
  cases hi : ops[i]? with
  | none => simp only [hi] at h ⊢; exact h
  | some o =>
    simp only [hi] at h ⊢
    split
    · rename_i hw
      rw [if_pos hw] at h
      exact wpIn_round (hd o (Array.mem_of_getElem? hi)) (h.resolve_right fun x => hq x.2)
    · rename_i hw
      rw [if_neg hw] at h
      exact ⟨fun _ _ => trivial, h⟩
theorem wpAnyIn_round (hq : ¬ LetsOut Q) (hd : ∀ o ∈ ops, ∀ c, o.op ≠ .defer c) : ∀ (fuel : Nat) (listed : Array Bool) (a : Act) (w : World), wpAny P md ops Q fuel listed a w → wpAnyIn (Fence.wide.inRound l) n P md ops Q fuel listed a w
  | 0, _, _, _, h => h
  | fuel + 1, _, _, _, h => ⟨h.1, fun i hi => wpOpIn_round hq hd (wpOp_mono (fun a' w' h' => wpAnyIn_round hq hd fuel _ a' w' h') (h.2 i hi))⟩
theorem wpAny_done {a0 : Act} {w : World} (S : (Nat → Bool) → World → Prop) (R : (Nat → Bool) → Nat → Value → World → Prop) (m : Nat) (hz : a0.tmps.size = m) (ht : anyText .any ops m = true) (h0 : S (fun _ => false) w.drew)
    (hs : ∀ i, i < ops.size → DoneStep P .any ops Q S R a0 i)
    (he : ∀ done a w, S done w → a.tmps.size = m → a.defers = a0.defers → (∀ t, outer ops t = true → a.tmps[t]? = a0.tmps[t]?) → (∀ j d, dstOf ops j = some d → ∃ v, a.tmps[d]? = some v ∧ R done j v w) → (∀ i, i < ops.size → done i = true) → Q .normal a w) :
    wpAny P .any ops Q ops.size (Array.replicate ops.size false) a0 w.drew := by
  subst hz
  have hz0 : (fun k => (Array.replicate ops.size false).getD k false) = fun _ => false := by
    funext k
    by_cases hk : k < ops.size <;> simp [hk]
  refine wpDone_steps ht hs he ops.size _ a0 _ (by simp) (by simp) ⟨by rw [hz0]; exact h0, rfl, rfl, fun _ _ => rfl, fun j hl => ?_, fun j d _ hl => ?_⟩
  · exfalso
    have : (Array.replicate ops.size false).getD j false = false := by
      by_cases hj : j < ops.size <;> simp [hj]
    rw [this] at hl
    cases hl
  exfalso
  have : (Array.replicate ops.size false).getD j false = false := by
    by_cases hj : j < ops.size <;> simp [hj]
  rw [this] at hl
  cases hl

theorem wpAny_done_on {a0 : Act} {w : World} (S : (Nat → Bool) → World → Prop) (R : (Nat → Bool) → Nat → Value → World → Prop) (m : Nat) (hz : a0.tmps.size = m) (ht : anyText .any ops m = true) (h0 : S (fun _ => false) w.drew)
    (hs : ∀ i, i < ops.size → DoneStep P .any ops Q S R a0 i)
    (he : ∀ (done : Nat → Bool) (f : Tmp → Value) (w : World), S done w → (∀ j d, dstOf ops j = some d → R done j (f d) w) → (∀ i, i < ops.size → done i = true) → Q .normal (putAll ops.toList f a0) w) :
    wpAny P .any ops Q ops.size (Array.replicate ops.size false) a0 w.drew := by
  refine wpAny_done S R m hz ht h0 hs fun done a w hS hsz hd ho hn hall => ?_
  have h1 := he done (fun d => a.tmps.getD d undef) w hS (fun j d hj => by
    obtain ⟨v, hv, hR⟩ := hn j d hj
    have : a.tmps.getD d undef = v := by simp [hv]
    rw [this]
    exact hR) hall
  have h2 : putAll ops.toList (fun d => a.tmps.getD d undef) a0 = a := by
    have hsz' : (putAll ops.toList (fun d => a.tmps.getD d undef) a0).tmps.size = a.tmps.size := by rw [putAll_size, hsz, hz]
    have ht' : (putAll ops.toList (fun d => a.tmps.getD d undef) a0).tmps = a.tmps := by
      apply Array.ext_getElem?
      intro t
      by_cases hlt : t < m
      · have hlt' : t < a0.tmps.size := by rw [hz]; exact hlt
        rw [putAll_at ops.toList _ a0 t hlt']
        cases hany : ops.toList.any fun o => o.dst == some t with
        | true =>
          have : t < a.tmps.size := by omega
          simp [this]
        | false =>
          rw [if_neg (by simp), ← ho t ?_]
          unfold outer
          rw [← Array.all_toList, List.all_eq_true]
          intro o hm'
          have := List.any_eq_false.1 hany o hm'
          simpa [bne] using this
      · rw [Array.getElem?_eq_none (by rw [hsz', hsz]; omega), Array.getElem?_eq_none (by rw [hsz]; omega)]
    have hd' : (putAll ops.toList (fun d => a.tmps.getD d undef) a0).defers = a.defers := by rw [putAll_defers, hd]
    cases a
    cases hh : putAll ops.toList _ a0
    rw [hh] at ht' hd'
    simp only at ht' hd'
    rw [ht', hd']
  rw [h2] at h1
  exact h1

/-- By way of a bare postcondition: a region of a round, walked as one outside of it. -/
theorem wpIn_region_round (hq : ¬ LetsOut Q) (hd : noDefer ops = true) {id : Nat} {a0 : Act} {w : World} (S : (Nat → Bool) → World → Prop) (R : (Nat → Bool) → Nat → Value → World → Prop) (hm : P.follows .mixedOrders = true) (m : Nat) (hz : a0.tmps.size = m) (ht : anyText .any ops m = true) (h0 : S (fun _ => false) w.drew)
    (hs : ∀ i, i < ops.size → DoneStep P .any ops Q S R a0 i)
    (he : ∀ (done : Nat → Bool) (f : Tmp → Value) (w : World), S done w → (∀ j d, dstOf ops j = some d → R done j (f d) w) → (∀ i, i < ops.size → done i = true) → Q .normal (putAll ops.toList f a0) w) :
    (Code.region id ops true).wpIn (Fence.wide.inRound l) n P Q a0 w := by
  refine wpIn_region_any hm (wpAnyIn_round hq (noDefer_out hd) _ _ _ _ ?_)
  exact wpAny_done_on S R m hz ht h0 hs he
end
end Go.Proofs.Ytkabdkblcgklmaa

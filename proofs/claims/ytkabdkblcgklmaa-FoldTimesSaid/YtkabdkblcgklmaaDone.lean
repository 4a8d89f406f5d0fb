/-
  A region that draws its order, walked operation by operation (Any.lean), where what stands of the world may tell which operations have come up: for regions that append to a slice of their own.
  As Done: what stands may tell of the slots, too (which of two blocks that were made in either order is whose).
  A region that draws its order, whose operations only read, make memory, or call what makes memory: whatever the order, what was read stays.
  A region that draws its order, whose operations read, make memory or call what makes memory, and one store at its end.
-/
import Derived.Test.YtkabdkblcgklmaaAny
namespace Go.Proofs.Ytkabdkblcgklmaa

section
variable {P : Program} {ops : Array Oper} {Q : Exit → Act → World → Prop} {md : Region.Mode}

/-- Operation i has come up, too. -/
def upd (done : Nat → Bool) (i : Nat) : Nat → Bool := fun k => k == i || done k
theorem upd_self (done : Nat → Bool) (i : Nat) : upd done i i = true := by simp [upd]
theorem upd_ne {done : Nat → Bool} {i k : Nat} (h : upd done i k = true) (hne : k ≠ i) : done k = true := by
  unfold upd at h
  simpa [hne] using h
theorem upd_false {done : Nat → Bool} {i k : Nat} (h : upd done i k = false) : done k = false := by
  unfold upd at h
  simp at h
  exact h.2

/-- What stands once the operations in 'listed' have come up: S of the world, R of each one's value. -/
structure DoneInv (md : Region.Mode) (ops : Array Oper) (S : (Nat → Bool) → World → Prop) (R : (Nat → Bool) → Nat → Value → World → Prop) (a0 : Act) (listed : Array Bool) (a : Act) (w : World) : Prop where
  world : S (fun k => listed.getD k false) w
  size : a.tmps.size = a0.tmps.size
  defers : a.defers = a0.defers
  old : ∀ t, (∀ j, dstOf ops j = some t → listed.getD j false = false) → a.tmps[t]? = a0.tmps[t]?
  closed : ∀ j, listed.getD j false = true → ∀ i, behind md ops j i = true → listed.getD i false = true
  new : ∀ j d, dstOf ops j = some d → listed.getD j false = true → ∃ v, a.tmps[d]? = some v ∧ R (fun k => listed.getD k false) j v w

/-- What is to be shown of operation i. -/
def DoneStep (P : Program) (md : Region.Mode) (ops : Array Oper) (Q : Exit → Act → World → Prop) (S : (Nat → Bool) → World → Prop) (R : (Nat → Bool) → Nat → Value → World → Prop) (a0 : Act) (i : Nat) : Prop :=
  ∀ done a w, S done w → done i = false → (∀ j, behind md ops j i = true → done j = false) → (∀ t, free md ops i t = true → a.tmps[t]? = a0.tmps[t]?) →
    (∀ j d, behind md ops i j = true → dstOf ops j = some d → ∃ v, a.tmps[d]? = some v ∧ R done j v w) →
    wpOp P ops Q i (fun a' w' => ∃ v, a' = a.put (dstOf ops i) v ∧ S (upd done i) w' ∧ R (upd done i) i v w' ∧ ∀ j u, j ≠ i → done j = true → R done j u w → R (upd done i) j u w') a w

theorem wpDone_steps {S : (Nat → Bool) → World → Prop} {R : (Nat → Bool) → Nat → Value → World → Prop} {a0 : Act} (ht : anyText md ops a0.tmps.size = true)
    (hs : ∀ i, i < ops.size → DoneStep P md ops Q S R a0 i)
    (he : ∀ done a w, S done w → a.tmps.size = a0.tmps.size → a.defers = a0.defers → (∀ t, outer ops t = true → a.tmps[t]? = a0.tmps[t]?) → (∀ j d, dstOf ops j = some d → ∃ v, a.tmps[d]? = some v ∧ R done j v w) → (∀ i, i < ops.size → done i = true) → Q .normal a w) :
    ∀ (fuel : Nat) (listed : Array Bool) (a : Act) (w : World), listed.size = ops.size → listed.toList.count false ≤ fuel → DoneInv md ops S R a0 listed a w → wpAny P md ops Q fuel listed a w := by
  unfold anyText at ht
  simp only [Bool.and_eq_true, List.all_eq_true, List.mem_range] at ht
  obtain ⟨⟨hback, hne⟩, hin⟩ := ht
  have hback' : ∀ i o, ops[i]? = some o → ∀ e ∈ o.after, Region.binds md e = true → e.on < i := by
    intro i o ho e hm hb
    have h := hback i (Array.getElem?_eq_some_iff.1 ho).1
    rw [ho] at h
    simp only [Option.map_some, Option.getD_some, Array.all_eq_true'] at h
    have := h e hm
    simpa [hb] using this
  have hne' : ∀ i j d, dstOf ops i = some d → dstOf ops j = some d → i = j := by
    intro i j d hi hj
    have h := hne i (dstOf_lt hi) j (dstOf_lt hj)
    simpa [hi, hj] using h
  have hin' : ∀ i d, dstOf ops i = some d → d < a0.tmps.size := by
    intro i d hi
    unfold dstOf at hi
    cases ho : ops[i]? with
    | none => rw [ho] at hi; simp at hi
    | some o =>
      rw [ho] at hi
      have hd : o.dst = some d := by simpa using hi
      have hm : o ∈ ops := Array.mem_of_getElem? ho
      have := Array.all_eq_true'.1 hin o hm
      simpa [hd] using this
  have hall : ∀ (listed : Array Bool), listed.size = ops.size → Region.ready md ops listed = [] → ∀ i, i < ops.size → listed.getD i false = true := by
    intro listed hl hr i
    induction i using Nat.strongRecOn with
    | _ i ih =>
      intro hi
      cases h : listed.getD i false with
      | true => rfl
      | false =>
        exfalso
        have hmem : i ∈ Region.ready md ops listed := by
          rw [mem_ready]
          refine ⟨?_, ops[i], Array.getElem?_eq_getElem hi, fun e hm hb => ?_⟩
          · have : i < listed.size := by omega
            simpa [this] using h
          · exact ih e.on (hback' i _ (Array.getElem?_eq_getElem hi) e hm hb) (by have := hback' i _ (Array.getElem?_eq_getElem hi) e hm hb; omega)
        rw [hr] at hmem
        cases hmem
  have hend : ∀ listed a w, listed.size = ops.size → DoneInv md ops S R a0 listed a w → Region.ready md ops listed = [] → Q .normal a w := by
    intro listed a w hl inv hr
    exact he _ a w inv.world inv.size inv.defers (fun t ht => inv.old t fun j hj => absurd hj (outer_no ht j)) (fun j d hd => inv.new j d hd (hall listed hl hr j (dstOf_lt hd))) (hall listed hl hr)
  intro fuel
  induction fuel with
  | zero =>
    intro listed a w hl hc inv
    have hr : Region.ready md ops listed = [] := by
      rw [List.eq_nil_iff_forall_not_mem]
      intro i hi
      obtain ⟨hun, o, ho, _⟩ := mem_ready.1 hi
      have hlt : i < listed.size := by rw [hl]; exact (Array.getElem?_eq_some_iff.1 ho).1
      have hf : listed.toList[i]? = some false := by
        have : listed[i]'hlt = false := by simpa [hlt] using hun
        rw [Array.getElem?_toList, Array.getElem?_eq_getElem hlt, this]
      have := count_set _ _ hf
      omega
    exact ⟨hr, hend listed a w hl inv hr⟩
  | succ fuel ih =>
    intro listed a w hl hc inv
    refine ⟨hend listed a w hl inv, fun i hi => ?_⟩
    obtain ⟨hun, o, ho, haft⟩ := mem_ready.1 hi
    have hilt : i < ops.size := (Array.getElem?_eq_some_iff.1 ho).1
    have hlt : i < listed.size := by omega
    have hund : listed.getD i false = false := by
      have : listed[i]'hlt = false := by simpa [hlt] using hun
      simpa [hlt] using this
    have hnext : ∀ j, behind md ops j i = true → listed.getD j false = false := fun j hb => by
      cases hl' : listed.getD j false with
      | false => rfl
      | true =>
        have := inv.closed j hl' i hb
        rw [hund] at this
        cases this
    have hold : ∀ t, free md ops i t = true → a.tmps[t]? = a0.tmps[t]? := fun t ht => inv.old t fun j hd => by
      have hf := List.all_eq_true.1 ht j (List.mem_range.2 (dstOf_lt hd))
      simp only [hd, bne_self_eq_false, Bool.false_or] at hf
      cases hl' : listed.getD j false with
      | false => rfl
      | true =>
        have := inv.closed j hl' i hf
        have hu : listed.getD i false = false := by
          have : listed[i]'hlt = false := by simpa [hlt] using hun
          simpa [hlt] using this
        rw [hu] at this
        cases this
    refine wpOp_mono ?_ (hs i hilt _ a w inv.world hund hnext hold fun j d hb hd => inv.new j d hd ?_)
    · rintro a' w' ⟨v, rfl, hS, hR, hst⟩
      have hup : (fun k => (listed.setIfInBounds i true).getD k false) = upd (fun k => listed.getD k false) i := by
        funext k
        unfold upd
        by_cases hki : k = i
        · subst hki; simp [hlt]
        · by_cases hks : k < listed.size
          · simp [hks, Ne.symm hki, hki]
          · simp [hks, hki]
      have hS' : S (fun k => (listed.setIfInBounds i true).getD k false) w' := by rw [hup]; exact hS
      refine ih _ _ _ (by simp [hl]) ?_ ⟨hS', ?_, ?_, ?_, ?_, ?_⟩
      · have hf : listed.toList[i]? = some false := by
          have : listed[i]'hlt = false := by simpa [hlt] using hun
          rw [Array.getElem?_toList, Array.getElem?_eq_getElem hlt, this]
        have := count_set _ _ hf
        rw [Array.toList_setIfInBounds]
        omega
      · rw [← inv.size]
        unfold Act.put
        cases dstOf ops i <;> simp
      · rw [← inv.defers]
        unfold Act.put
        cases dstOf ops i <;> rfl
      · intro t ht
        have hti : ¬ dstOf ops i = some t := fun e => by
          have := ht i e
          simp [hlt] at this
        rw [← inv.old t fun j hd => by
          have := ht j hd
          by_cases hji : j = i
          · subst hji; exact absurd hd hti
          · by_cases hjs : j < listed.size
            · simpa [hjs, Array.getElem_setIfInBounds, Ne.symm hji] using this
            · simp [hjs]]
        unfold Act.put
        cases hd : dstOf ops i with
        | none => rfl
        | some d =>
          have hne : d ≠ t := fun e => hti (by rw [hd, e])
          exact Array.getElem?_setIfInBounds_ne hne
      · intro j hj k hb
        have hk : listed.getD k false = true := by
          by_cases hji : j = i
          · subst hji
            unfold behind at hb
            rw [ho] at hb
            simp only [Option.map_some, Option.getD_some, Array.any_eq_true', Bool.and_eq_true, beq_iff_eq] at hb
            obtain ⟨e, hm, hbi, rfl⟩ := hb
            exact haft e hm hbi
          · refine inv.closed j ?_ k hb
            by_cases hjs : j < listed.size
            · simpa [hjs, Array.getElem_setIfInBounds, Ne.symm hji] using hj
            · simp [hjs] at hj
        by_cases hks : k < listed.size
        · by_cases hki : i = k
          · subst hki; simp [hks]
          · simpa [hks, Array.getElem_setIfInBounds, hki] using hk
        · simp [hks] at hk
      · intro j d hd hj
        by_cases hji : j = i
        · subst hji
          refine ⟨v, ?_, by rw [hup]; exact hR⟩
          unfold Act.put
          rw [hd]
          have hds : d < a.tmps.size := by rw [inv.size]; exact hin' _ _ hd
          simp [hds]
        · have hjl : listed.getD j false = true := by
            have hjs : j < listed.size := by rw [hl]; exact dstOf_lt hd
            simpa [hjs, Array.getElem_setIfInBounds, Ne.symm hji] using hj
          obtain ⟨u, hu, hRu⟩ := inv.new j d hd hjl
          refine ⟨u, ?_, by rw [hup]; exact hst j u hji hjl hRu⟩
          rw [← hu]
          unfold Act.put
          cases hdi : dstOf ops i with
          | none => rfl
          | some d' =>
            have hne : d' ≠ d := fun e => hji (hne' j i d hd (by rw [hdi, e]))
            exact Array.getElem?_setIfInBounds_ne hne
    · unfold behind at hb
      rw [ho] at hb
      simp only [Option.map_some, Option.getD_some, Array.any_eq_true', Bool.and_eq_true, beq_iff_eq] at hb
      obtain ⟨e, hm, hbi, rfl⟩ := hb
      exact haft e hm hbi

/-- A region that draws its order, operation by operation. -/
theorem wp_region_done {id : Nat} {a0 : Act} {w : World} (S : (Nat → Bool) → World → Prop) (R : (Nat → Bool) → Nat → Value → World → Prop) (hm : P.follows .mixedOrders = true) (m : Nat) (hz : a0.tmps.size = m) (ht : anyText .any ops m = true) (h0 : S (fun _ => false) w.drew)
    (hs : ∀ i, i < ops.size → DoneStep P .any ops Q S R a0 i)
    (he : ∀ done a w, S done w → a.tmps.size = m → a.defers = a0.defers → (∀ t, outer ops t = true → a.tmps[t]? = a0.tmps[t]?) → (∀ j d, dstOf ops j = some d → ∃ v, a.tmps[d]? = some v ∧ R done j v w) → (∀ i, i < ops.size → done i = true) → Q .normal a w) :
    (Code.region id ops true).wp P Q a0 w := by
  refine wp_region_any hm ?_
  subst hz
  have hz0 : (fun k => (Array.replicate ops.size false).getD k false) = fun _ => false := by
    funext k
    by_cases hk : k < ops.size <;> simp [hk]
  refine wpDone_steps ht hs he ops.size _ a0 _ (by simp) (by simp) ⟨by rw [hz0]; exact h0, rfl, rfl, fun _ _ => rfl, fun j hl => ?_, fun j d _ hl => ?_⟩
  · exfalso
    have : (Array.replicate ops.size false).getD j false = false := by
      by_cases hj : j < ops.size <;> simp [hj]
    rw [this] at hl
    cases hl
  exfalso
  have : (Array.replicate ops.size false).getD j false = false := by
    by_cases hj : j < ops.size <;> simp [hj]
  rw [this] at hl
  cases hl

/-- .. and what stands behind it goes on over a frame that is written out. -/
theorem wp_region_done_on {id : Nat} {a0 : Act} {w : World} (S : (Nat → Bool) → World → Prop) (R : (Nat → Bool) → Nat → Value → World → Prop) (hm : P.follows .mixedOrders = true) (m : Nat) (hz : a0.tmps.size = m) (ht : anyText .any ops m = true) (h0 : S (fun _ => false) w.drew)
    (hs : ∀ i, i < ops.size → DoneStep P .any ops Q S R a0 i)
    (he : ∀ (done : Nat → Bool) (f : Tmp → Value) (w : World), S done w → (∀ j d, dstOf ops j = some d → R done j (f d) w) → (∀ i, i < ops.size → done i = true) → Q .normal (putAll ops.toList f a0) w) :
    (Code.region id ops true).wp P Q a0 w := by
  refine wp_region_done S R hm m hz ht h0 hs fun done a w hS hsz hd ho hn hall => ?_
  have h1 := he done (fun d => a.tmps.getD d undef) w hS (fun j d hj => by
    obtain ⟨v, hv, hR⟩ := hn j d hj
    have : a.tmps.getD d undef = v := by simp [hv]
    rw [this]
    exact hR) hall
  have h2 : putAll ops.toList (fun d => a.tmps.getD d undef) a0 = a := by
    have hsz' : (putAll ops.toList (fun d => a.tmps.getD d undef) a0).tmps.size = a.tmps.size := by rw [putAll_size, hsz, hz]
    have ht' : (putAll ops.toList (fun d => a.tmps.getD d undef) a0).tmps = a.tmps := by
      apply Array.ext_getElem?
      intro t
      by_cases hlt : t < m
      · have hlt' : t < a0.tmps.size := by rw [hz]; exact hlt
        rw [putAll_at ops.toList _ a0 t hlt']
        cases hany : ops.toList.any fun o => o.dst == some t with
        | true =>
          have : t < a.tmps.size := by omega
          simp [this]
        | false =>
          rw [if_neg (by simp), ← ho t ?_]
          unfold outer
          rw [← Array.all_toList, List.all_eq_true]
          intro o hm'
          have := List.any_eq_false.1 hany o hm'
          simpa [bne] using this
      · rw [Array.getElem?_eq_none (by rw [hsz', hsz]; omega), Array.getElem?_eq_none (by rw [hsz]; omega)]
    have hd' : (putAll ops.toList (fun d => a.tmps.getD d undef) a0).defers = a.defers := by rw [putAll_defers, hd]
    cases a
    cases hh : putAll ops.toList _ a0
    rw [hh] at ht' hd'
    simp only at ht' hd'
    rw [ht', hd']
  rw [h2] at h1
  exact h1

/-- An operation that yields a value and leaves the world. -/
theorem done_value {S : (Nat → Bool) → World → Prop} {R : (Nat → Bool) → Nat → Value → World → Prop} {a0 : Act} {i : Nat} {o : Oper} (hS : ∀ done w, S done w → S (upd done i) w) (hR : ∀ done j u w, R done j u w → R (upd done i) j u w) (v : Value) (hi : ops[i]? = some o)
    (h : ∀ (done : Nat → Bool) (a : Act) (w : World), S done w → (∀ t, free md ops i t = true → a.tmps[t]? = a0.tmps[t]?) → (∀ j d, behind md ops i j = true → dstOf ops j = some d → ∃ v, a.tmps[d]? = some v ∧ R done j v w) →
      Region.wanted o (yielded ops a.tmps) = true ∧ (execOp a.eval o).run P w = .ok (.value v) w ∧ R (upd done i) i v w) : DoneStep P md ops Q S R a0 i := by
  intro done a w hs hd _ ho hn
  obtain ⟨h1, h2, h3⟩ := h done a w hs ho hn
  unfold wpOp
  rw [hi]
  simp only [h1, if_true]
  refine .inl ?_
  unfold Oper.wp
  rw [h2]
  exact ⟨v, by simp [dstOf, hi], hS _ _ hs, h3, fun _ _ _ _ h => hR _ _ _ _ h⟩

/-- .. where what it reads hangs on what has not come up yet. -/
theorem done_read {S : (Nat → Bool) → World → Prop} {R : (Nat → Bool) → Nat → Value → World → Prop} {a0 : Act} {i : Nat} {o : Oper} (hS : ∀ done w, S done w → S (upd done i) w) (hR : ∀ done j u w, R done j u w → R (upd done i) j u w) (v : Value) (hi : ops[i]? = some o)
    (h : ∀ (done : Nat → Bool) (a : Act) (w : World), S done w → (∀ j, behind md ops j i = true → done j = false) → (∀ t, free md ops i t = true → a.tmps[t]? = a0.tmps[t]?) → (∀ j d, behind md ops i j = true → dstOf ops j = some d → ∃ v, a.tmps[d]? = some v ∧ R done j v w) →
      Region.wanted o (yielded ops a.tmps) = true ∧ (execOp a.eval o).run P w = .ok (.value v) w ∧ R (upd done i) i v w) : DoneStep P md ops Q S R a0 i := by
  intro done a w hs _ hx ho hn
  obtain ⟨h1, h2, h3⟩ := h done a w hs hx ho hn
  unfold wpOp
  rw [hi]
  simp only [h1, if_true]
  refine .inl ?_
  unfold Oper.wp
  rw [h2]
  exact ⟨v, by simp [dstOf, hi], hS _ _ hs, h3, fun _ _ _ _ h => hR _ _ _ _ h⟩

/-- An operation that calls a function. -/
theorem done_call {S : (Nat → Bool) → World → Prop} {R : (Nat → Bool) → Nat → Value → World → Prop} {a0 : Act} {i : Nat} {o : Oper} (f : FuncId) (args : Array Value) (hi : ops[i]? = some o)
    (h : ∀ (done : Nat → Bool) (a : Act) (w : World), S done w → done i = false → (∀ j, behind md ops j i = true → done j = false) → (∀ t, free md ops i t = true → a.tmps[t]? = a0.tmps[t]?) → (∀ j d, behind md ops i j = true → dstOf ops j = some d → ∃ v, a.tmps[d]? = some v ∧ R done j v w) →
      Region.wanted o (yielded ops a.tmps) = true ∧ (execOp a.eval o).run P w = .ok (.enter f args) w ∧
      Calls P f args w fun e w' => ∃ v, e = .returned v ∧ S (upd done i) w' ∧ R (upd done i) i v w' ∧ ∀ j u, j ≠ i → done j = true → R done j u w → R (upd done i) j u w') : DoneStep P md ops Q S R a0 i := by
  intro done a w hs hd hx ho hn
  obtain ⟨h1, h2, h3⟩ := h done a w hs hd hx ho hn
  unfold wpOp
  rw [hi]
  simp only [h1, if_true]
  refine .inl ?_
  unfold Oper.wp
  rw [h2, Oper.upon_enter]
  refine h3.mono ?_
  rintro e w' ⟨v, rfl, hS', hR, hst⟩
  exact ⟨v, by simp [dstOf, hi], hS', hR, hst⟩

/-- An operation that yields a value, and may make or turn memory. -/
theorem done_make {S : (Nat → Bool) → World → Prop} {R : (Nat → Bool) → Nat → Value → World → Prop} {a0 : Act} {i : Nat} {o : Oper} (hi : ops[i]? = some o)
    (h : ∀ (done : Nat → Bool) (a : Act) (w : World), S done w → done i = false → (∀ j, behind md ops j i = true → done j = false) → (∀ t, free md ops i t = true → a.tmps[t]? = a0.tmps[t]?) → (∀ j d, behind md ops i j = true → dstOf ops j = some d → ∃ v, a.tmps[d]? = some v ∧ R done j v w) →
      Region.wanted o (yielded ops a.tmps) = true ∧ ∃ v w', (execOp a.eval o).run P w = .ok (.value v) w' ∧ S (upd done i) w' ∧ R (upd done i) i v w' ∧ ∀ j u, j ≠ i → done j = true → R done j u w → R (upd done i) j u w') : DoneStep P md ops Q S R a0 i := by
  intro done a w hs hd hx ho hn
  obtain ⟨h1, v, w', h2, h3, h4, h5⟩ := h done a w hs hd hx ho hn
  unfold wpOp
  rw [hi]
  simp only [h1, if_true]
  refine .inl ?_
  unfold Oper.wp
  rw [h2]
  exact ⟨v, by simp [dstOf, hi], h3, h4, h5⟩

/-- An operation that stores. -/
theorem done_store {S : (Nat → Bool) → World → Prop} {R : (Nat → Bool) → Nat → Value → World → Prop} {a0 : Act} {i : Nat} {o : Oper} (hi : ops[i]? = some o) (hdst : o.dst = none)
    (h : ∀ (done : Nat → Bool) (a : Act) (w : World), S done w → done i = false → (∀ j, behind md ops j i = true → done j = false) → (∀ t, free md ops i t = true → a.tmps[t]? = a0.tmps[t]?) → (∀ j d, behind md ops i j = true → dstOf ops j = some d → ∃ v, a.tmps[d]? = some v ∧ R done j v w) →
      Region.wanted o (yielded ops a.tmps) = true ∧ ∃ w', (execOp a.eval o).run P w = .ok .skip w' ∧ S (upd done i) w' ∧ R (upd done i) i undef w' ∧ ∀ j u, j ≠ i → done j = true → R done j u w → R (upd done i) j u w') : DoneStep P md ops Q S R a0 i := by
  intro done a w hs hd hx ho hn
  obtain ⟨h1, w', h2, h3, h4, h5⟩ := h done a w hs hd hx ho hn
  unfold wpOp
  rw [hi]
  simp only [h1, if_true]
  refine .inl ?_
  unfold Oper.wp
  rw [h2]
  exact ⟨undef, by simp [dstOf, hi, hdst, Act.put], h3, h4, h5⟩

/-- An append, carried out. -/
theorem exec_append {o : Oper} {a : Act} {w w' : World} {u v v' : Value} (s x : Operand) (t : TypeId) (ho : o.op = .call { callee := .builtin .append, args := #[s, x], argTypes := #[t, t] })
    (hs : a.eval s = v) (hx : a.eval x = u) (hrun : (Builtin.append_ #[t, t] o.type #[v, u]).run P w = .ok v' w') : (execOp a.eval o).run P w = .ok (.value v') w' := by
  unfold execOp
  simp only [ho, resolve, invoke, builtin, Sem.run_bind, Sem.run_pure, Result.andThen_ok, List.map_toArray, List.map_cons, List.map_nil, hs, hx, hrun]
end

end Go.Proofs.Ytkabdkblcgklmaa

namespace Go.Proofs.Ytkabdkblcgklmaa

section
variable {P : Program} {ops : Array Oper} {Q : Exit → Act → World → Prop} {md : Region.Mode}

/-- What stands once the operations in 'listed' have come up: S of the world, R of each one's value. -/
structure DoneInvT (md : Region.Mode) (ops : Array Oper) (S : (Nat → Bool) → Array Value → World → Prop) (R : (Nat → Bool) → Nat → Value → World → Prop) (a0 : Act) (listed : Array Bool) (a : Act) (w : World) : Prop where
  world : S (fun k => listed.getD k false) a.tmps w
  size : a.tmps.size = a0.tmps.size
  defers : a.defers = a0.defers
  old : ∀ t, (∀ j, dstOf ops j = some t → listed.getD j false = false) → a.tmps[t]? = a0.tmps[t]?
  closed : ∀ j, listed.getD j false = true → ∀ i, behind md ops j i = true → listed.getD i false = true
  new : ∀ j d, dstOf ops j = some d → listed.getD j false = true → ∃ v, a.tmps[d]? = some v ∧ R (fun k => listed.getD k false) j v w

/-- What is to be shown of operation i. -/
def DoneStepT (P : Program) (md : Region.Mode) (ops : Array Oper) (Q : Exit → Act → World → Prop) (S : (Nat → Bool) → Array Value → World → Prop) (R : (Nat → Bool) → Nat → Value → World → Prop) (a0 : Act) (i : Nat) : Prop :=
  ∀ done a w, S done a.tmps w → done i = false → (∀ j, behind md ops j i = true → done j = false) → (∀ t, free md ops i t = true → a.tmps[t]? = a0.tmps[t]?) →
    (∀ j d, behind md ops i j = true → dstOf ops j = some d → ∃ v, a.tmps[d]? = some v ∧ R done j v w) →
    wpOp P ops Q i (fun a' w' => ∃ v, a' = a.put (dstOf ops i) v ∧ S (upd done i) a'.tmps w' ∧ R (upd done i) i v w' ∧ ∀ j u, j ≠ i → done j = true → R done j u w → R (upd done i) j u w') a w

theorem wpDoneT_steps {S : (Nat → Bool) → Array Value → World → Prop} {R : (Nat → Bool) → Nat → Value → World → Prop} {a0 : Act} (ht : anyText md ops a0.tmps.size = true)
    (hs : ∀ i, i < ops.size → DoneStepT P md ops Q S R a0 i)
    (he : ∀ done a w, S done a.tmps w → a.tmps.size = a0.tmps.size → a.defers = a0.defers → (∀ t, outer ops t = true → a.tmps[t]? = a0.tmps[t]?) → (∀ j d, dstOf ops j = some d → ∃ v, a.tmps[d]? = some v ∧ R done j v w) → (∀ i, i < ops.size → done i = true) → Q .normal a w) :
    ∀ (fuel : Nat) (listed : Array Bool) (a : Act) (w : World), listed.size = ops.size → listed.toList.count false ≤ fuel → DoneInvT md ops S R a0 listed a w → wpAny P md ops Q fuel listed a w := by
  unfold anyText at ht
  simp only [Bool.and_eq_true, List.all_eq_true, List.mem_range] at ht
  obtain ⟨⟨hback, hne⟩, hin⟩ := ht
  have hback' : ∀ i o, ops[i]? = some o → ∀ e ∈ o.after, Region.binds md e = true → e.on < i := by
    intro i o ho e hm hb
    have h := hback i (Array.getElem?_eq_some_iff.1 ho).1
    rw [ho] at h
    simp only [Option.map_some, Option.getD_some, Array.all_eq_true'] at h
    have := h e hm
    simpa [hb] using this
  have hne' : ∀ i j d, dstOf ops i = some d → dstOf ops j = some d → i = j := by
    intro i j d hi hj
    have h := hne i (dstOf_lt hi) j (dstOf_lt hj)
    simpa [hi, hj] using h
  have hin' : ∀ i d, dstOf ops i = some d → d < a0.tmps.size := by
    intro i d hi
    unfold dstOf at hi
    cases ho : ops[i]? with
    | none => rw [ho] at hi; simp at hi
    | some o =>
      rw [ho] at hi
      have hd : o.dst = some d := by simpa using hi
      have hm : o ∈ ops := Array.mem_of_getElem? ho
      have := Array.all_eq_true'.1 hin o hm
      simpa [hd] using this
  have hall : ∀ (listed : Array Bool), listed.size = ops.size → Region.ready md ops listed = [] → ∀ i, i < ops.size → listed.getD i false = true := by
    intro listed hl hr i
    induction i using Nat.strongRecOn with
    | _ i ih =>
      intro hi
      cases h : listed.getD i false with
      | true => rfl
      | false =>
        exfalso
        have hmem : i ∈ Region.ready md ops listed := by
          rw [mem_ready]
          refine ⟨?_, ops[i], Array.getElem?_eq_getElem hi, fun e hm hb => ?_⟩
          · have : i < listed.size := by omega
            simpa [this] using h
          · exact ih e.on (hback' i _ (Array.getElem?_eq_getElem hi) e hm hb) (by have := hback' i _ (Array.getElem?_eq_getElem hi) e hm hb; omega)
        rw [hr] at hmem
        cases hmem
  have hend : ∀ listed a w, listed.size = ops.size → DoneInvT md ops S R a0 listed a w → Region.ready md ops listed = [] → Q .normal a w := by
    intro listed a w hl inv hr
    exact he _ a w inv.world inv.size inv.defers (fun t ht => inv.old t fun j hj => absurd hj (outer_no ht j)) (fun j d hd => inv.new j d hd (hall listed hl hr j (dstOf_lt hd))) (hall listed hl hr)
  intro fuel
  induction fuel with
  | zero =>
    intro listed a w hl hc inv
    have hr : Region.ready md ops listed = [] := by
      rw [List.eq_nil_iff_forall_not_mem]
      intro i hi
      obtain ⟨hun, o, ho, _⟩ := mem_ready.1 hi
      have hlt : i < listed.size := by rw [hl]; exact (Array.getElem?_eq_some_iff.1 ho).1
      have hf : listed.toList[i]? = some false := by
        have : listed[i]'hlt = false := by simpa [hlt] using hun
        rw [Array.getElem?_toList, Array.getElem?_eq_getElem hlt, this]
      have := count_set _ _ hf
      omega
    exact ⟨hr, hend listed a w hl inv hr⟩
  | succ fuel ih =>
    intro listed a w hl hc inv
    refine ⟨hend listed a w hl inv, fun i hi => ?_⟩
    obtain ⟨hun, o, ho, haft⟩ := mem_ready.1 hi
    have hilt : i < ops.size := (Array.getElem?_eq_some_iff.1 ho).1
    have hlt : i < listed.size := by omega
    have hund : listed.getD i false = false := by
      have : listed[i]'hlt = false := by simpa [hlt] using hun
      simpa [hlt] using this
    have hnext : ∀ j, behind md ops j i = true → listed.getD j false = false := fun j hb => by
      cases hl' : listed.getD j false with
      | false => rfl
      | true =>
        have := inv.closed j hl' i hb
        rw [hund] at this
        cases this
    have hold : ∀ t, free md ops i t = true → a.tmps[t]? = a0.tmps[t]? := fun t ht => inv.old t fun j hd => by
      have hf := List.all_eq_true.1 ht j (List.mem_range.2 (dstOf_lt hd))
      simp only [hd, bne_self_eq_false, Bool.false_or] at hf
      cases hl' : listed.getD j false with
      | false => rfl
      | true =>
        have := inv.closed j hl' i hf
        have hu : listed.getD i false = false := by
          have : listed[i]'hlt = false := by simpa [hlt] using hun
          simpa [hlt] using this
        rw [hu] at this
        cases this
    refine wpOp_mono ?_ (hs i hilt _ a w inv.world hund hnext hold fun j d hb hd => inv.new j d hd ?_)
    · rintro a' w' ⟨v, rfl, hS, hR, hst⟩
      have hup : (fun k => (listed.setIfInBounds i true).getD k false) = upd (fun k => listed.getD k false) i := by
        funext k
        unfold upd
        by_cases hki : k = i
        · subst hki; simp [hlt]
        · by_cases hks : k < listed.size
          · simp [hks, Ne.symm hki, hki]
          · simp [hks, hki]
      have hS' : S (fun k => (listed.setIfInBounds i true).getD k false) (a.put (dstOf ops i) v).tmps w' := by rw [hup]; exact hS
      refine ih _ _ _ (by simp [hl]) ?_ ⟨hS', ?_, ?_, ?_, ?_, ?_⟩
      · have hf : listed.toList[i]? = some false := by
          have : listed[i]'hlt = false := by simpa [hlt] using hun
          rw [Array.getElem?_toList, Array.getElem?_eq_getElem hlt, this]
        have := count_set _ _ hf
        rw [Array.toList_setIfInBounds]
        omega
      · rw [← inv.size]
        unfold Act.put
        cases dstOf ops i <;> simp
      · rw [← inv.defers]
        unfold Act.put
        cases dstOf ops i <;> rfl
      · intro t ht
        have hti : ¬ dstOf ops i = some t := fun e => by
          have := ht i e
          simp [hlt] at this
        rw [← inv.old t fun j hd => by
          have := ht j hd
          by_cases hji : j = i
          · subst hji; exact absurd hd hti
          · by_cases hjs : j < listed.size
            · simpa [hjs, Array.getElem_setIfInBounds, Ne.symm hji] using this
            · simp [hjs]]
        unfold Act.put
        cases hd : dstOf ops i with
        | none => rfl
        | some d =>
          have hne : d ≠ t := fun e => hti (by rw [hd, e])
          exact Array.getElem?_setIfInBounds_ne hne
      · intro j hj k hb
        have hk : listed.getD k false = true := by
          by_cases hji : j = i
          · subst hji
            unfold behind at hb
            rw [ho] at hb
            simp only [Option.map_some, Option.getD_some, Array.any_eq_true', Bool.and_eq_true, beq_iff_eq] at hb
            obtain ⟨e, hm, hbi, rfl⟩ := hb
            exact haft e hm hbi
          · refine inv.closed j ?_ k hb
            by_cases hjs : j < listed.size
            · simpa [hjs, Array.getElem_setIfInBounds, Ne.symm hji] using hj
            · simp [hjs] at hj
        by_cases hks : k < listed.size
        · by_cases hki : i = k
          · subst hki; simp [hks]
          · simpa [hks, Array.getElem_setIfInBounds, hki] using hk
        · simp [hks] at hk
      · intro j d hd hj
        by_cases hji : j = i
        · subst hji
          refine ⟨v, ?_, by rw [hup]; exact hR⟩
          unfold Act.put
          rw [hd]
          have hds : d < a.tmps.size := by rw [inv.size]; exact hin' _ _ hd
          simp [hds]
        · have hjl : listed.getD j false = true := by
            have hjs : j < listed.size := by rw [hl]; exact dstOf_lt hd
            simpa [hjs, Array.getElem_setIfInBounds, Ne.symm hji] using hj
          obtain ⟨u, hu, hRu⟩ := inv.new j d hd hjl
          refine ⟨u, ?_, by rw [hup]; exact hst j u hji hjl hRu⟩
          rw [← hu]
          unfold Act.put
          cases hdi : dstOf ops i with
          | none => rfl
          | some d' =>
            have hne : d' ≠ d := fun e => hji (hne' j i d hd (by rw [hdi, e]))
            exact Array.getElem?_setIfInBounds_ne hne
    · unfold behind at hb
      rw [ho] at hb
      simp only [Option.map_some, Option.getD_some, Array.any_eq_true', Bool.and_eq_true, beq_iff_eq] at hb
      obtain ⟨e, hm, hbi, rfl⟩ := hb
      exact haft e hm hbi

/-- A region that draws its order, operation by operation. -/
theorem wp_region_doneT {id : Nat} {a0 : Act} {w : World} (S : (Nat → Bool) → Array Value → World → Prop) (R : (Nat → Bool) → Nat → Value → World → Prop) (hm : P.follows .mixedOrders = true) (m : Nat) (hz : a0.tmps.size = m) (ht : anyText .any ops m = true) (h0 : S (fun _ => false) a0.tmps w.drew)
    (hs : ∀ i, i < ops.size → DoneStepT P .any ops Q S R a0 i)
    (he : ∀ done a w, S done a.tmps w → a.tmps.size = m → a.defers = a0.defers → (∀ t, outer ops t = true → a.tmps[t]? = a0.tmps[t]?) → (∀ j d, dstOf ops j = some d → ∃ v, a.tmps[d]? = some v ∧ R done j v w) → (∀ i, i < ops.size → done i = true) → Q .normal a w) :
    (Code.region id ops true).wp P Q a0 w := by
  refine wp_region_any hm ?_
  subst hz
  have hz0 : (fun k => (Array.replicate ops.size false).getD k false) = fun _ => false := by
    funext k
    by_cases hk : k < ops.size <;> simp [hk]
  refine wpDoneT_steps ht hs he ops.size _ a0 _ (by simp) (by simp) ⟨by rw [hz0]; exact h0, rfl, rfl, fun _ _ => rfl, fun j hl => ?_, fun j d _ hl => ?_⟩
  · exfalso
    have : (Array.replicate ops.size false).getD j false = false := by
      by_cases hj : j < ops.size <;> simp [hj]
    rw [this] at hl
    cases hl
  exfalso
  have : (Array.replicate ops.size false).getD j false = false := by
    by_cases hj : j < ops.size <;> simp [hj]
  rw [this] at hl
  cases hl

/-- .. and what stands behind it goes on over a frame that is written out. -/
theorem wp_region_doneT_on {id : Nat} {a0 : Act} {w : World} (S : (Nat → Bool) → Array Value → World → Prop) (R : (Nat → Bool) → Nat → Value → World → Prop) (hm : P.follows .mixedOrders = true) (m : Nat) (hz : a0.tmps.size = m) (ht : anyText .any ops m = true) (h0 : S (fun _ => false) a0.tmps w.drew)
    (hs : ∀ i, i < ops.size → DoneStepT P .any ops Q S R a0 i)
    (he : ∀ (done : Nat → Bool) (f : Tmp → Value) (w : World), S done (putAll ops.toList f a0).tmps w → (∀ j d, dstOf ops j = some d → R done j (f d) w) → (∀ i, i < ops.size → done i = true) → Q .normal (putAll ops.toList f a0) w) :
    (Code.region id ops true).wp P Q a0 w := by
  refine wp_region_doneT S R hm m hz ht h0 hs fun done a w hS hsz hd ho hn hall => ?_
  have h2 : putAll ops.toList (fun d => a.tmps.getD d undef) a0 = a := by
    have hsz' : (putAll ops.toList (fun d => a.tmps.getD d undef) a0).tmps.size = a.tmps.size := by rw [putAll_size, hsz, hz]
    have ht' : (putAll ops.toList (fun d => a.tmps.getD d undef) a0).tmps = a.tmps := by
      apply Array.ext_getElem?
      intro t
      by_cases hlt : t < m
      · have hlt' : t < a0.tmps.size := by rw [hz]; exact hlt
        rw [putAll_at ops.toList _ a0 t hlt']
        cases hany : ops.toList.any fun o => o.dst == some t with
        | true =>
          have : t < a.tmps.size := by omega
          simp [this]
        | false =>
          rw [if_neg (by simp), ← ho t ?_]
          unfold outer
          rw [← Array.all_toList, List.all_eq_true]
          intro o hm'
          have := List.any_eq_false.1 hany o hm'
          simpa [bne] using this
      · rw [Array.getElem?_eq_none (by rw [hsz', hsz]; omega), Array.getElem?_eq_none (by rw [hsz]; omega)]
    have hd' : (putAll ops.toList (fun d => a.tmps.getD d undef) a0).defers = a.defers := by rw [putAll_defers, hd]
    cases a
    cases hh : putAll ops.toList _ a0
    rw [hh] at ht' hd'
    simp only at ht' hd'
    rw [ht', hd']
  have h1 := he done (fun d => a.tmps.getD d undef) w (by rw [h2]; exact hS) (fun j d hj => by
    obtain ⟨v, hv, hR⟩ := hn j d hj
    have : a.tmps.getD d undef = v := by simp [hv]
    rw [this]
    exact hR) hall
  rw [h2] at h1
  exact h1

/-- An operation that yields a value and leaves the world. -/
theorem doneT_make {S : (Nat → Bool) → Array Value → World → Prop} {R : (Nat → Bool) → Nat → Value → World → Prop} {a0 : Act} {i : Nat} {o : Oper} (hi : ops[i]? = some o)
    (h : ∀ (done : Nat → Bool) (a : Act) (w : World), S done a.tmps w → done i = false → (∀ j, behind md ops j i = true → done j = false) → (∀ t, free md ops i t = true → a.tmps[t]? = a0.tmps[t]?) → (∀ j d, behind md ops i j = true → dstOf ops j = some d → ∃ v, a.tmps[d]? = some v ∧ R done j v w) →
      Region.wanted o (yielded ops a.tmps) = true ∧ ∃ v w', (execOp a.eval o).run P w = .ok (.value v) w' ∧ S (upd done i) (a.put (dstOf ops i) v).tmps w' ∧ R (upd done i) i v w' ∧ ∀ j u, j ≠ i → done j = true → R done j u w → R (upd done i) j u w') : DoneStepT P md ops Q S R a0 i := by
  intro done a w hs hd hx ho hn
  obtain ⟨h1, v, w', h2, h3, h4, h5⟩ := h done a w hs hd hx ho hn
  unfold wpOp
  rw [hi]
  simp only [h1, if_true]
  refine .inl ?_
  unfold Oper.wp
  rw [h2]
  have hdo : dstOf ops i = o.dst := by simp [dstOf, hi]
  rw [hdo] at h3
  exact ⟨v, by simp [dstOf, hi], h3, h4, h5⟩

/-- An operation that stores. -/
theorem doneT_store {S : (Nat → Bool) → Array Value → World → Prop} {R : (Nat → Bool) → Nat → Value → World → Prop} {a0 : Act} {i : Nat} {o : Oper} (hi : ops[i]? = some o) (hdst : o.dst = none)
    (h : ∀ (done : Nat → Bool) (a : Act) (w : World), S done a.tmps w → done i = false → (∀ j, behind md ops j i = true → done j = false) → (∀ t, free md ops i t = true → a.tmps[t]? = a0.tmps[t]?) → (∀ j d, behind md ops i j = true → dstOf ops j = some d → ∃ v, a.tmps[d]? = some v ∧ R done j v w) →
      Region.wanted o (yielded ops a.tmps) = true ∧ ∃ w', (execOp a.eval o).run P w = .ok .skip w' ∧ S (upd done i) a.tmps w' ∧ R (upd done i) i undef w' ∧ ∀ j u, j ≠ i → done j = true → R done j u w → R (upd done i) j u w') : DoneStepT P md ops Q S R a0 i := by
  intro done a w hs hd hx ho hn
  obtain ⟨h1, w', h2, h3, h4, h5⟩ := h done a w hs hd hx ho hn
  unfold wpOp
  rw [hi]
  simp only [h1, if_true]
  refine .inl ?_
  unfold Oper.wp
  rw [h2]
  exact ⟨undef, by simp [dstOf, hi, hdst, Act.put], (by rw [hdst]; exact h3), h4, h5⟩
end
end Go.Proofs.Ytkabdkblcgklmaa

namespace Go.Proofs.Ytkabdkblcgklmaa
open Go.RowKit

section
variable {P : Program} {ops : Array Oper} {Q : Exit → Act → World → Prop} {md : Region.Mode} {a0 : Act} {i : Nat} {o : Oper} {w0 : World} {l : List Nat} {U : Nat → Value → World → Prop} {vals : List Value}
abbrev GS (w0 : World) (_ : Nat → Bool) (W : World) : Prop := Below w0.heap.size w0 W
abbrev GR (l : List Nat) (U : Nat → Value → World → Prop) (vals : List Value) (_ : Nat → Bool) (i : Nat) (v : Value) (W : World) : Prop := (i ∉ l → v = vals.getD i undef) ∧ (i ∈ l → U i v W)
/-- What is told of made values stays. -/
abbrev GU (U : Nat → Value → World → Prop) : Prop := ∀ i v W W', Below W.heap.size W W' → U i v W → U i v W'

theorem gr_value (hi : ops[i]? = some o) (hl : i ∉ l) (v : Value) (hv : vals.getD i undef = v)
    (h : ∀ (a : Act) (w : World), Below w0.heap.size w0 w → (∀ t, free md ops i t = true → a.tmps[t]? = a0.tmps[t]?) → (∀ j d, behind md ops i j = true → dstOf ops j = some d → ∃ v, a.tmps[d]? = some v ∧ ((j ∉ l → v = vals.getD j undef) ∧ (j ∈ l → U j v w))) →
      Region.wanted o (yielded ops a.tmps) = true ∧ (execOp a.eval o).run P w = .ok (.value v) w) : DoneStep P md ops Q (GS w0) (GR l U vals) a0 i :=
  done_value (fun _ _ h => h) (fun _ _ _ _ h => h) v hi (fun dn a w hS ho hn => by
    obtain ⟨h1, h2⟩ := h a w hS ho hn
    exact ⟨h1, h2, fun _ => hv.symm, fun hm => absurd hm hl⟩)
theorem gr_skip (hi : ops[i]? = some o) (hl : i ∉ l) (hv : vals.getD i undef = undef)
    (h : ∀ (a : Act) (w : World), (∀ j d, behind md ops i j = true → dstOf ops j = some d → ∃ v, a.tmps[d]? = some v ∧ ((j ∉ l → v = vals.getD j undef) ∧ (j ∈ l → U j v w))) →
      Region.wanted o (yielded ops a.tmps) = false) : DoneStep P md ops Q (GS w0) (GR l U vals) a0 i := by
  intro dn a w hS hd hx ho hn
  have h1 := h a w hn
  unfold wpOp
  rw [hi]
  simp only [h1]
  exact ⟨undef, by simp [dstOf, hi], hS, ⟨fun _ => hv.symm, fun hm => absurd hm hl⟩, fun _ _ _ _ h => h⟩
theorem gr_make (hU : GU U) (hi : ops[i]? = some o) (hl : i ∈ l)
    (h : ∀ (a : Act) (w : World), Below w0.heap.size w0 w → (∀ t, free md ops i t = true → a.tmps[t]? = a0.tmps[t]?) → (∀ j d, behind md ops i j = true → dstOf ops j = some d → ∃ v, a.tmps[d]? = some v ∧ ((j ∉ l → v = vals.getD j undef) ∧ (j ∈ l → U j v w))) →
      Region.wanted o (yielded ops a.tmps) = true ∧ ∃ v w', (execOp a.eval o).run P w = .ok (.value v) w' ∧ Below w.heap.size w w' ∧ U i v w') : DoneStep P md ops Q (GS w0) (GR l U vals) a0 i :=
  done_make hi (fun dn a w hS _ _ ho hn => by
    obtain ⟨h1, v, w', h2, h3, h4⟩ := h a w hS ho hn
    exact ⟨h1, v, w', h2, Below.trans hS (h3.mono hS.size), ⟨fun hn => absurd hl hn, fun _ => h4⟩, fun j u _ _ hR => ⟨hR.1, fun hm => hU _ _ _ _ h3 (hR.2 hm)⟩⟩)
theorem gr_call (hU : GU U) (f : FuncId) (hi : ops[i]? = some o) (hl : i ∈ l)
    (h : ∀ (a : Act) (w : World), Below w0.heap.size w0 w → (∀ t, free md ops i t = true → a.tmps[t]? = a0.tmps[t]?) → (∀ j d, behind md ops i j = true → dstOf ops j = some d → ∃ v, a.tmps[d]? = some v ∧ ((j ∉ l → v = vals.getD j undef) ∧ (j ∈ l → U j v w))) →
      Region.wanted o (yielded ops a.tmps) = true ∧ ∃ args, (execOp a.eval o).run P w = .ok (.enter f args) w ∧ Calls P f args w fun e w' => ∃ v, e = .returned v ∧ Below w.heap.size w w' ∧ U i v w') : DoneStep P md ops Q (GS w0) (GR l U vals) a0 i := by
  intro dn a w hS hd _ ho hn
  obtain ⟨h1, args, h2, h3⟩ := h a w hS ho hn
  unfold wpOp
  rw [hi]
  simp only [h1, if_true]
  refine .inl ?_
  unfold Oper.wp
  rw [h2, Oper.upon_enter]
  refine h3.mono ?_
  rintro e w' ⟨v, rfl, h4, h5⟩
  exact ⟨v, by simp [dstOf, hi], Below.trans hS (h4.mono hS.size), ⟨fun hn => absurd hl hn, fun _ => h5⟩, fun j u _ _ hR => ⟨hR.1, fun hm => hU _ _ _ _ h4 (hR.2 hm)⟩⟩
end
end Go.Proofs.Ytkabdkblcgklmaa

namespace Go.Proofs.Ytkabdkblcgklmaa
open Go.RowKit

section
variable {P : Program} {ops : Array Oper} {Q : Exit → Act → World → Prop} {md : Region.Mode} {a0 : Act} {i k : Nat} {o : Oper} {T F : World → Prop} {l : List Nat} {U : Nat → Value → World → Prop} {vals : List Value}
abbrev CS (T F : World → Prop) (k : Nat) (dn : Nat → Bool) (W : World) : Prop := T W ∧ (dn k = true → F W)
/-- What is told stays while memory is made. -/
structure CT (T F : World → Prop) (U : Nat → Value → World → Prop) : Prop where
  t : ∀ W W', Below W.heap.size W W' → T W → T W'
  f : ∀ W W', Below W.heap.size W W' → F W → F W'
  u : GU U
theorem cs_value (hik : k ≠ i) (hi : ops[i]? = some o) (hl : i ∉ l) (v : Value) (hv : vals.getD i undef = v)
    (h : ∀ (a : Act) (w : World), T w → (∀ t, free md ops i t = true → a.tmps[t]? = a0.tmps[t]?) → (∀ j d, behind md ops i j = true → dstOf ops j = some d → ∃ v, a.tmps[d]? = some v ∧ ((j ∉ l → v = vals.getD j undef) ∧ (j ∈ l → U j v w))) →
      Region.wanted o (yielded ops a.tmps) = true ∧ (execOp a.eval o).run P w = .ok (.value v) w) : DoneStep P md ops Q (CS T F k) (GR l U vals) a0 i :=
  done_value (fun _ _ h => ⟨h.1, fun e => h.2 (upd_ne e hik)⟩) (fun _ _ _ _ h => h) v hi (fun dn a w hS ho hn => by
    obtain ⟨h1, h2⟩ := h a w hS.1 ho hn
    exact ⟨h1, h2, fun _ => hv.symm, fun hm => absurd hm hl⟩)
theorem cs_make (hU : CT T F U) (hik : k ≠ i) (hi : ops[i]? = some o) (hl : i ∈ l)
    (h : ∀ (a : Act) (w : World), T w → (∀ t, free md ops i t = true → a.tmps[t]? = a0.tmps[t]?) → (∀ j d, behind md ops i j = true → dstOf ops j = some d → ∃ v, a.tmps[d]? = some v ∧ ((j ∉ l → v = vals.getD j undef) ∧ (j ∈ l → U j v w))) →
      Region.wanted o (yielded ops a.tmps) = true ∧ ∃ v w', (execOp a.eval o).run P w = .ok (.value v) w' ∧ Below w.heap.size w w' ∧ U i v w') : DoneStep P md ops Q (CS T F k) (GR l U vals) a0 i :=
  done_make hi (fun dn a w hS _ _ ho hn => by
    obtain ⟨h1, v, w', h2, h3, h4⟩ := h a w hS.1 ho hn
    exact ⟨h1, v, w', h2, ⟨hU.t _ _ h3 hS.1, fun e => hU.f _ _ h3 (hS.2 (upd_ne e hik))⟩, ⟨fun hn => absurd hl hn, fun _ => h4⟩, fun j u _ _ hR => ⟨hR.1, fun hm => hU.u _ _ _ _ h3 (hR.2 hm)⟩⟩)
theorem cs_call (hU : CT T F U) (f : FuncId) (hik : k ≠ i) (hi : ops[i]? = some o) (hl : i ∈ l)
    (h : ∀ (a : Act) (w : World), T w → (∀ t, free md ops i t = true → a.tmps[t]? = a0.tmps[t]?) → (∀ j d, behind md ops i j = true → dstOf ops j = some d → ∃ v, a.tmps[d]? = some v ∧ ((j ∉ l → v = vals.getD j undef) ∧ (j ∈ l → U j v w))) →
      Region.wanted o (yielded ops a.tmps) = true ∧ ∃ args, (execOp a.eval o).run P w = .ok (.enter f args) w ∧ Calls P f args w fun e w' => ∃ v, e = .returned v ∧ Below w.heap.size w w' ∧ U i v w') : DoneStep P md ops Q (CS T F k) (GR l U vals) a0 i := by
  intro dn a w hS hd _ ho hn
  obtain ⟨h1, args, h2, h3⟩ := h a w hS.1 ho hn
  unfold wpOp
  rw [hi]
  simp only [h1, if_true]
  refine .inl ?_
  unfold Oper.wp
  rw [h2, Oper.upon_enter]
  refine h3.mono ?_
  rintro e w' ⟨v, rfl, h4, h5⟩
  exact ⟨v, by simp [dstOf, hi], ⟨hU.t _ _ h4 hS.1, fun e => hU.f _ _ h4 (hS.2 (upd_ne e hik))⟩, ⟨fun hn => absurd hl hn, fun _ => h5⟩, fun j u _ _ hR => ⟨hR.1, fun hm => hU.u _ _ _ _ h4 (hR.2 hm)⟩⟩
theorem cs_store (hi : ops[i]? = some o) (hdst : o.dst = none) (hl : i ∉ l) (hv : vals.getD i undef = undef)
    (h : ∀ (a : Act) (w : World), T w → (∀ t, free md ops i t = true → a.tmps[t]? = a0.tmps[t]?) → (∀ j d, behind md ops i j = true → dstOf ops j = some d → ∃ v, a.tmps[d]? = some v ∧ ((j ∉ l → v = vals.getD j undef) ∧ (j ∈ l → U j v w))) →
      Region.wanted o (yielded ops a.tmps) = true ∧ ∃ w', (execOp a.eval o).run P w = .ok .skip w' ∧ T w' ∧ F w' ∧ ∀ j v, U j v w → U j v w') : DoneStep P md ops Q (CS T F i) (GR l U vals) a0 i :=
  done_store hi hdst (fun dn a w hS _ _ ho hn => by
    obtain ⟨h1, w', h2, h3, h4, h5⟩ := h a w hS.1 ho hn
    exact ⟨h1, w', h2, ⟨h3, fun _ => h4⟩, ⟨fun _ => hv.symm, fun hm => absurd hm hl⟩, fun j u _ _ hR => ⟨hR.1, fun hm => h5 _ _ (hR.2 hm)⟩⟩)
end
end Go.Proofs.Ytkabdkblcgklmaa

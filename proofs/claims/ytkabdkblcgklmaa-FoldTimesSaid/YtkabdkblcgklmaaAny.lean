/-
  A region that draws its order, walked operation by operation over a frame that is a variable: each operation has its value (or a property of it) in whatever order they come up. For wide frames, and for regions that call functions which make memory.
-/
import Derived.Test.YtkabdkblcgklmaaBase
import Derived.ProofKit
import Derived.Deep.Draws
namespace Go.Proofs.Ytkabdkblcgklmaa

section
variable {P : Program} {ops : Array Oper} {Q : Exit → Act → World → Prop} {md : Region.Mode}

/-- The slot that operation j writes. -/
def dstOf (ops : Array Oper) (j : Nat) : Option Tmp := (ops[j]?).bind (·.dst)
/-- No operation writes slot t. -/
def outer (ops : Array Oper) (t : Tmp) : Bool := ops.all fun o => o.dst != some t
/-- Operation i comes behind operation j. -/
def behind (md : Region.Mode) (ops : Array Oper) (i j : Nat) : Bool := ((ops[i]?).map fun o => o.after.any fun e => Region.binds md e && e.on == j).getD false

/-- Slot t stands as it stood when operation i comes up: each operation that writes it comes behind i. -/
def free (md : Region.Mode) (ops : Array Oper) (i : Nat) (t : Tmp) : Bool := (List.range ops.size).all fun j => dstOf ops j != some t || behind md ops j i

/-- What stands once the operations in 'listed' have come up: S of the world, R of each one's value. -/
structure AnyInv (md : Region.Mode) (ops : Array Oper) (S : World → Prop) (R : Nat → Value → World → Prop) (a0 : Act) (listed : Array Bool) (a : Act) (w : World) : Prop where
  world : S w
  size : a.tmps.size = a0.tmps.size
  defers : a.defers = a0.defers
  old : ∀ t, (∀ j, dstOf ops j = some t → listed.getD j false = false) → a.tmps[t]? = a0.tmps[t]?
  closed : ∀ j, listed.getD j false = true → ∀ i, behind md ops j i = true → listed.getD i false = true
  new : ∀ j d, dstOf ops j = some d → listed.getD j false = true → ∃ v, a.tmps[d]? = some v ∧ R j v w

/-- What is to be shown of operation i. -/
def AnyStep (P : Program) (md : Region.Mode) (ops : Array Oper) (Q : Exit → Act → World → Prop) (S : World → Prop) (R : Nat → Value → World → Prop) (a0 : Act) (i : Nat) : Prop :=
  ∀ a w, S w → (∀ t, free md ops i t = true → a.tmps[t]? = a0.tmps[t]?) →
    (∀ j d, behind md ops i j = true → dstOf ops j = some d → ∃ v, a.tmps[d]? = some v ∧ R j v w) →
    wpOp P ops Q i (fun a' w' => ∃ v, a' = a.put (dstOf ops i) v ∧ S w' ∧ R i v w' ∧ ∀ j u, j ≠ i → R j u w → R j u w') a w

/-- Closed facts on a region's text: what an operation comes behind stands ahead of it; no two write one slot; the slots lie in a frame of m. -/
def anyText (md : Region.Mode) (ops : Array Oper) (m : Nat) : Bool :=
  ((List.range ops.size).all fun i => ((ops[i]?).map fun o => o.after.all fun e => !Region.binds md e || decide (e.on < i)).getD true) &&
  ((List.range ops.size).all fun i => (List.range ops.size).all fun j => i == j || ((dstOf ops i).isNone || dstOf ops i != dstOf ops j)) &&
  (ops.all fun o => (o.dst.map fun d => decide (d < m)).getD true)

theorem count_set : ∀ (l : List Bool) (i : Nat), l[i]? = some false → (l.set i true).count false + 1 = l.count false
  | [], i, h => by simp at h
  | x :: l, 0, h => by
    simp at h
    subst h
    simp
  | x :: l, i + 1, h => by
    have := count_set l i (by simpa using h)
    rw [List.set_cons_succ, List.count_cons, List.count_cons]
    omega

theorem dstOf_lt {ops : Array Oper} {j : Nat} {d : Tmp} (h : dstOf ops j = some d) : j < ops.size := by
  unfold dstOf at h
  cases ho : ops[j]? with
  | none => rw [ho] at h; simp at h
  | some o => exact (Array.getElem?_eq_some_iff.1 ho).1

theorem outer_no {ops : Array Oper} {t : Tmp} (h : outer ops t = true) (j : Nat) : ¬ dstOf ops j = some t := by
  intro hd
  unfold dstOf at hd
  cases ho : ops[j]? with
  | none => rw [ho] at hd; simp at hd
  | some o =>
    rw [ho] at hd
    have hd' : o.dst = some t := by simpa using hd
    have := Array.all_eq_true'.1 h o (Array.mem_of_getElem? ho)
    simp [hd'] at this

theorem wpAny_steps {S : World → Prop} {R : Nat → Value → World → Prop} {a0 : Act} (ht : anyText md ops a0.tmps.size = true)
    (hs : ∀ i, i < ops.size → AnyStep P md ops Q S R a0 i)
    (he : ∀ a w, S w → a.tmps.size = a0.tmps.size → a.defers = a0.defers → (∀ t, outer ops t = true → a.tmps[t]? = a0.tmps[t]?) → (∀ j d, dstOf ops j = some d → ∃ v, a.tmps[d]? = some v ∧ R j v w) → Q .normal a w) :
    ∀ (fuel : Nat) (listed : Array Bool) (a : Act) (w : World), listed.size = ops.size → listed.toList.count false ≤ fuel → AnyInv md ops S R a0 listed a w → wpAny P md ops Q fuel listed a w := by
  unfold anyText at ht
  simp only [Bool.and_eq_true, List.all_eq_true, List.mem_range] at ht
  obtain ⟨⟨hback, hne⟩, hin⟩ := ht
  have hback' : ∀ i o, ops[i]? = some o → ∀ e ∈ o.after, Region.binds md e = true → e.on < i := by
    intro i o ho e hm hb
    have h := hback i (Array.getElem?_eq_some_iff.1 ho).1
    rw [ho] at h
    simp only [Option.map_some, Option.getD_some, Array.all_eq_true'] at h
    have := h e hm
    simpa [hb] using this
  have hne' : ∀ i j d, dstOf ops i = some d → dstOf ops j = some d → i = j := by
    intro i j d hi hj
    have h := hne i (dstOf_lt hi) j (dstOf_lt hj)
    simpa [hi, hj] using h
  have hin' : ∀ i d, dstOf ops i = some d → d < a0.tmps.size := by
    intro i d hi
    unfold dstOf at hi
    cases ho : ops[i]? with
    | none => rw [ho] at hi; simp at hi
    | some o =>
      rw [ho] at hi
      have hd : o.dst = some d := by simpa using hi
      have hm : o ∈ ops := Array.mem_of_getElem? ho
      have := Array.all_eq_true'.1 hin o hm
      simpa [hd] using this
  have hall : ∀ (listed : Array Bool), listed.size = ops.size → Region.ready md ops listed = [] → ∀ i, i < ops.size → listed.getD i false = true := by
    intro listed hl hr i
    induction i using Nat.strongRecOn with
    | _ i ih =>
      intro hi
      cases h : listed.getD i false with
      | true => rfl
      | false =>
        exfalso
        have hmem : i ∈ Region.ready md ops listed := by
          rw [mem_ready]
          refine ⟨?_, ops[i], Array.getElem?_eq_getElem hi, fun e hm hb => ?_⟩
          · have : i < listed.size := by omega
            simpa [this] using h
          · exact ih e.on (hback' i _ (Array.getElem?_eq_getElem hi) e hm hb) (by have := hback' i _ (Array.getElem?_eq_getElem hi) e hm hb; omega)
        rw [hr] at hmem
        cases hmem
  have hend : ∀ listed a w, listed.size = ops.size → AnyInv md ops S R a0 listed a w → Region.ready md ops listed = [] → Q .normal a w := by
    intro listed a w hl inv hr
    exact he a w inv.world inv.size inv.defers (fun t ht => inv.old t fun j hj => absurd hj (outer_no ht j)) fun j d hd => inv.new j d hd (hall listed hl hr j (dstOf_lt hd))
  intro fuel
  induction fuel with
  | zero =>
    intro listed a w hl hc inv
    have hr : Region.ready md ops listed = [] := by
      rw [List.eq_nil_iff_forall_not_mem]
      intro i hi
      obtain ⟨hun, o, ho, _⟩ := mem_ready.1 hi
      have hlt : i < listed.size := by rw [hl]; exact (Array.getElem?_eq_some_iff.1 ho).1
      have hf : listed.toList[i]? = some false := by
        have : listed[i]'hlt = false := by simpa [hlt] using hun
        rw [Array.getElem?_toList, Array.getElem?_eq_getElem hlt, this]
      have := count_set _ _ hf
      omega
    exact ⟨hr, hend listed a w hl inv hr⟩
  | succ fuel ih =>
    intro listed a w hl hc inv
    refine ⟨hend listed a w hl inv, fun i hi => ?_⟩
    obtain ⟨hun, o, ho, haft⟩ := mem_ready.1 hi
    have hilt : i < ops.size := (Array.getElem?_eq_some_iff.1 ho).1
    have hlt : i < listed.size := by omega
    have hold : ∀ t, free md ops i t = true → a.tmps[t]? = a0.tmps[t]? := fun t ht => inv.old t fun j hd => by
      have hf := List.all_eq_true.1 ht j (List.mem_range.2 (dstOf_lt hd))
      simp only [hd, bne_self_eq_false, Bool.false_or] at hf
      cases hl' : listed.getD j false with
      | false => rfl
      | true =>
        have := inv.closed j hl' i hf
        have hu : listed.getD i false = false := by
          have : listed[i]'hlt = false := by simpa [hlt] using hun
          simpa [hlt] using this
        rw [hu] at this
        cases this
    refine wpOp_mono ?_ (hs i hilt a w inv.world hold fun j d hb hd => inv.new j d hd ?_)
    · rintro a' w' ⟨v, rfl, hS, hR, hst⟩
      refine ih _ _ _ (by simp [hl]) ?_ ⟨hS, ?_, ?_, ?_, ?_, ?_⟩
      · have hf : listed.toList[i]? = some false := by
          have : listed[i]'hlt = false := by simpa [hlt] using hun
          rw [Array.getElem?_toList, Array.getElem?_eq_getElem hlt, this]
        have := count_set _ _ hf
        rw [Array.toList_setIfInBounds]
        omega
      · rw [← inv.size]
        unfold Act.put
        cases dstOf ops i <;> simp
      · rw [← inv.defers]
        unfold Act.put
        cases dstOf ops i <;> rfl
      · intro t ht
        have hti : ¬ dstOf ops i = some t := fun e => by
          have := ht i e
          simp [hlt] at this
        rw [← inv.old t fun j hd => by
          have := ht j hd
          by_cases hji : j = i
          · subst hji; exact absurd hd hti
          · by_cases hjs : j < listed.size
            · simpa [hjs, Array.getElem_setIfInBounds, Ne.symm hji] using this
            · simp [hjs]]
        unfold Act.put
        cases hd : dstOf ops i with
        | none => rfl
        | some d =>
          have hne : d ≠ t := fun e => hti (by rw [hd, e])
          exact Array.getElem?_setIfInBounds_ne hne
      · intro j hj k hb
        have hk : listed.getD k false = true := by
          by_cases hji : j = i
          · subst hji
            unfold behind at hb
            rw [ho] at hb
            simp only [Option.map_some, Option.getD_some, Array.any_eq_true', Bool.and_eq_true, beq_iff_eq] at hb
            obtain ⟨e, hm, hbi, rfl⟩ := hb
            exact haft e hm hbi
          · refine inv.closed j ?_ k hb
            by_cases hjs : j < listed.size
            · simpa [hjs, Array.getElem_setIfInBounds, Ne.symm hji] using hj
            · simp [hjs] at hj
        by_cases hks : k < listed.size
        · by_cases hki : i = k
          · subst hki; simp [hks]
          · simpa [hks, Array.getElem_setIfInBounds, hki] using hk
        · simp [hks] at hk
      · intro j d hd hj
        by_cases hji : j = i
        · subst hji
          refine ⟨v, ?_, hR⟩
          unfold Act.put
          rw [hd]
          have hds : d < a.tmps.size := by rw [inv.size]; exact hin' _ _ hd
          simp [hds]
        · have hjl : listed.getD j false = true := by
            have hjs : j < listed.size := by rw [hl]; exact dstOf_lt hd
            simpa [hjs, Array.getElem_setIfInBounds, Ne.symm hji] using hj
          obtain ⟨u, hu, hRu⟩ := inv.new j d hd hjl
          refine ⟨u, ?_, hst j u hji hRu⟩
          rw [← hu]
          unfold Act.put
          cases hdi : dstOf ops i with
          | none => rfl
          | some d' =>
            have hne : d' ≠ d := fun e => hji (hne' j i d hd (by rw [hdi, e]))
            exact Array.getElem?_setIfInBounds_ne hne
    · unfold behind at hb
      rw [ho] at hb
      simp only [Option.map_some, Option.getD_some, Array.any_eq_true', Bool.and_eq_true, beq_iff_eq] at hb
      obtain ⟨e, hm, hbi, rfl⟩ := hb
      exact haft e hm hbi

/-- A region that draws its order, operation by operation. -/
theorem wp_region_steps {id : Nat} {a0 : Act} {w : World} (S : World → Prop) (R : Nat → Value → World → Prop) (hm : P.follows .mixedOrders = true) (m : Nat) (hz : a0.tmps.size = m) (ht : anyText .any ops m = true) (h0 : S w.drew)
    (hs : ∀ i, i < ops.size → AnyStep P .any ops Q S R a0 i)
    (he : ∀ a w, S w → a.tmps.size = m → a.defers = a0.defers → (∀ t, outer ops t = true → a.tmps[t]? = a0.tmps[t]?) → (∀ j d, dstOf ops j = some d → ∃ v, a.tmps[d]? = some v ∧ R j v w) → Q .normal a w) :
    (Code.region id ops true).wp P Q a0 w := by
  refine wp_region_any hm ?_
  subst hz
  refine wpAny_steps ht hs he ops.size _ a0 _ (by simp) (by simp) ⟨h0, rfl, rfl, fun _ _ => rfl, fun j hl => ?_, fun j d _ hl => ?_⟩
  · exfalso
    have : (Array.replicate ops.size false).getD j false = false := by
      by_cases hj : j < ops.size <;> simp [hj]
    rw [this] at hl
    cases hl
  exfalso
  have : (Array.replicate ops.size false).getD j false = false := by
    by_cases hj : j < ops.size <;> simp [hj]
  rw [this] at hl
  cases hl

/-- The frame behind a region: each operation's slot has what f says. -/
def putAll (ops : List Oper) (f : Tmp → Value) (a : Act) : Act := ops.foldl (fun a o => match o.dst with | some d => a.put (some d) (f d) | none => a) a

theorem putAll_size : ∀ (l : List Oper) (f : Tmp → Value) (a : Act), (putAll l f a).tmps.size = a.tmps.size
  | [], _, _ => rfl
  | o :: l, f, a => by
    unfold putAll
    rw [List.foldl_cons]
    refine (putAll_size l f _).trans ?_
    cases o.dst <;> simp [Act.put]
theorem putAll_defers : ∀ (l : List Oper) (f : Tmp → Value) (a : Act), (putAll l f a).defers = a.defers
  | [], _, _ => rfl
  | o :: l, f, a => by
    unfold putAll
    rw [List.foldl_cons]
    refine (putAll_defers l f _).trans ?_
    cases o.dst <;> rfl
theorem putAll_at : ∀ (l : List Oper) (f : Tmp → Value) (a : Act) (t : Tmp), t < a.tmps.size →
    (putAll l f a).tmps[t]? = if (l.any fun o => o.dst == some t) = true then some (f t) else a.tmps[t]?
  | [], _, _, _, _ => rfl
  | o :: l, f, a, t, ht => by
    unfold putAll
    rw [List.foldl_cons]
    cases hd : o.dst with
    | none =>
      refine (putAll_at l f a t ht).trans ?_
      rw [List.any_cons, hd]
      rfl
    | some d =>
      refine (putAll_at l f (a.put (some d) (f d)) t (by simpa [Act.put] using ht)).trans ?_
      rw [List.any_cons, hd]
      by_cases hdt : d = t
      · subst hdt
        simp [Act.put, ht]
      · have h1 : (some d == some t) = false := by simpa using hdt
        rw [h1, Bool.false_or]
        simp [Act.put, Array.getElem?_setIfInBounds_ne hdt]

/-- .. and what stands behind it goes on over a frame that is written out. -/
theorem wp_region_steps_on {id : Nat} {a0 : Act} {w : World} (S : World → Prop) (R : Nat → Value → World → Prop) (hm : P.follows .mixedOrders = true) (m : Nat) (hz : a0.tmps.size = m) (ht : anyText .any ops m = true) (h0 : S w.drew)
    (hs : ∀ i, i < ops.size → AnyStep P .any ops Q S R a0 i)
    (he : ∀ (f : Tmp → Value) (w : World), S w → (∀ j d, dstOf ops j = some d → R j (f d) w) → Q .normal (putAll ops.toList f a0) w) :
    (Code.region id ops true).wp P Q a0 w := by
  refine wp_region_steps S R hm m hz ht h0 hs fun a w hS hsz hd ho hn => ?_
  have h1 := he (fun d => a.tmps.getD d undef) w hS fun j d hj => by
    obtain ⟨v, hv, hR⟩ := hn j d hj
    have : a.tmps.getD d undef = v := by simp [hv]
    rw [this]
    exact hR
  have h2 : putAll ops.toList (fun d => a.tmps.getD d undef) a0 = a := by
    have hsz' : (putAll ops.toList (fun d => a.tmps.getD d undef) a0).tmps.size = a.tmps.size := by rw [putAll_size, hsz, hz]
    have ht' : (putAll ops.toList (fun d => a.tmps.getD d undef) a0).tmps = a.tmps := by
      apply Array.ext_getElem?
      intro t
      by_cases hlt : t < m
      · have hlt' : t < a0.tmps.size := by rw [hz]; exact hlt
        rw [putAll_at ops.toList _ a0 t hlt']
        cases hany : ops.toList.any fun o => o.dst == some t with
        | true =>
          have : t < a.tmps.size := by omega
          simp [this]
        | false =>
          rw [if_neg (by simp), ← ho t ?_]
          unfold outer
          rw [← Array.all_toList, List.all_eq_true]
          intro o hm'
          have := List.any_eq_false.1 hany o hm'
          simpa [bne] using this
      · rw [Array.getElem?_eq_none (by rw [hsz', hsz]; omega), Array.getElem?_eq_none (by rw [hsz]; omega)]
    have hd' : (putAll ops.toList (fun d => a.tmps.getD d undef) a0).defers = a.defers := by rw [putAll_defers, hd]
    cases a
    cases hh : putAll ops.toList _ a0
    rw [hh] at ht' hd'
    simp only at ht' hd'
    rw [ht', hd']
  rw [h2] at h1
  exact h1

theorem eval_of {a : Act} {t : Tmp} {v : Value} (h : a.tmps[t]? = some v) : a.eval (.tmp t) = v := by
  simp [Act.eval, h]

/-- A guard that is as it is wanted. -/
theorem wanted_of {o : Oper} {tmps : Array Value} {want : Bool} (g : Nat) (d : Tmp) (hg : o.guard = some (g, want)) (hd : dstOf ops g = some d) (e : tmps[d]? = some (.bool want)) : Region.wanted o (yielded ops tmps) = true := by
  unfold Region.wanted yielded
  unfold dstOf at hd
  simp [hg, hd, e]
theorem unwanted_of {o : Oper} {tmps : Array Value} {want got : Bool} (g : Nat) (d : Tmp) (hg : o.guard = some (g, want)) (hd : dstOf ops g = some d) (e : tmps[d]? = some (.bool got)) (hne : (got == want) = false) : Region.wanted o (yielded ops tmps) = false := by
  unfold Region.wanted yielded
  unfold dstOf at hd
  cases got <;> cases want <;> simp_all
theorem wanted_free {o : Oper} {y : Nat → Option Bool} (hg : o.guard = none) : Region.wanted o y = true := by
  unfold Region.wanted
  simp [hg]

/-- An operation that yields a value and leaves the world. -/
theorem step_value {S : World → Prop} {R : Nat → Value → World → Prop} {a0 : Act} {i : Nat} {o : Oper} (v : Value) (hi : ops[i]? = some o)
    (h : ∀ (a : Act) (w : World), S w → (∀ t, free md ops i t = true → a.tmps[t]? = a0.tmps[t]?) → (∀ j d, behind md ops i j = true → dstOf ops j = some d → ∃ v, a.tmps[d]? = some v ∧ R j v w) →
      Region.wanted o (yielded ops a.tmps) = true ∧ (execOp a.eval o).run P w = .ok (.value v) w ∧ R i v w) : AnyStep P md ops Q S R a0 i := by
  intro a w hS ho hn
  obtain ⟨h1, h2, h3⟩ := h a w hS ho hn
  unfold wpOp
  rw [hi]
  simp only [h1, if_true]
  refine .inl ?_
  unfold Oper.wp
  rw [h2]
  exact ⟨v, by simp [dstOf, hi], hS, h3, fun _ _ _ h => h⟩

/-- An operation that its guard passes over. -/
theorem step_skip {S : World → Prop} {R : Nat → Value → World → Prop} {a0 : Act} {i : Nat} {o : Oper} (hi : ops[i]? = some o)
    (h : ∀ (a : Act) (w : World), S w → (∀ t, free md ops i t = true → a.tmps[t]? = a0.tmps[t]?) → (∀ j d, behind md ops i j = true → dstOf ops j = some d → ∃ v, a.tmps[d]? = some v ∧ R j v w) →
      Region.wanted o (yielded ops a.tmps) = false ∧ R i undef w) : AnyStep P md ops Q S R a0 i := by
  intro a w hS ho hn
  obtain ⟨h1, h3⟩ := h a w hS ho hn
  unfold wpOp
  rw [hi]
  simp only [h1, Bool.false_eq_true, if_false]
  exact ⟨undef, by simp [dstOf, hi], hS, h3, fun _ _ _ h => h⟩

/-- An operation that yields a value, and may make memory. -/
theorem step_make {S : World → Prop} {R : Nat → Value → World → Prop} {a0 : Act} {i : Nat} {o : Oper} (hi : ops[i]? = some o)
    (h : ∀ (a : Act) (w : World), S w → (∀ t, free md ops i t = true → a.tmps[t]? = a0.tmps[t]?) → (∀ j d, behind md ops i j = true → dstOf ops j = some d → ∃ v, a.tmps[d]? = some v ∧ R j v w) →
      Region.wanted o (yielded ops a.tmps) = true ∧ ∃ v w', (execOp a.eval o).run P w = .ok (.value v) w' ∧ S w' ∧ R i v w' ∧ ∀ j u, j ≠ i → R j u w → R j u w') : AnyStep P md ops Q S R a0 i := by
  intro a w hS ho hn
  obtain ⟨h1, v, w', h2, h3, h4, h5⟩ := h a w hS ho hn
  unfold wpOp
  rw [hi]
  simp only [h1, if_true]
  refine .inl ?_
  unfold Oper.wp
  rw [h2]
  exact ⟨v, by simp [dstOf, hi], h3, h4, h5⟩

/-- An operation that calls a function. -/
theorem step_call {S : World → Prop} {R : Nat → Value → World → Prop} {a0 : Act} {i : Nat} {o : Oper} (f : FuncId) (args : Array Value) (hi : ops[i]? = some o)
    (h : ∀ (a : Act) (w : World), S w → (∀ t, free md ops i t = true → a.tmps[t]? = a0.tmps[t]?) → (∀ j d, behind md ops i j = true → dstOf ops j = some d → ∃ v, a.tmps[d]? = some v ∧ R j v w) →
      Region.wanted o (yielded ops a.tmps) = true ∧ (execOp a.eval o).run P w = .ok (.enter f args) w ∧
      Calls P f args w fun e w' => ∃ v, e = .returned v ∧ S w' ∧ R i v w' ∧ ∀ j u, j ≠ i → R j u w → R j u w') : AnyStep P md ops Q S R a0 i := by
  intro a w hS ho hn
  obtain ⟨h1, h2, h3⟩ := h a w hS ho hn
  unfold wpOp
  rw [hi]
  simp only [h1, if_true]
  refine .inl ?_
  unfold Oper.wp
  rw [h2, Oper.upon_enter]
  refine h3.mono ?_
  rintro e w' ⟨v, rfl, hS', hR, hst⟩
  exact ⟨v, by simp [dstOf, hi], hS', hR, hst⟩
end

end Go.Proofs.Ytkabdkblcgklmaa

/-
  A region that draws its order, some of whose operations turn memory in a forced order, its stages; all others only look. What stands is told by how many stages are over.
-/
import Derived.Test.YtkabdkblcgklmaaDone
namespace Go.Proofs.Ytkabdkblcgklmaa

/-- How many of the stages are over. -/
def stg : List Nat → (Nat → Bool) → Nat
  | [], _ => 0
  | k :: l, dn => if dn k = true then stg l dn + 1 else 0
theorem stg_le : ∀ (l : List Nat) (dn : Nat → Bool), stg l dn ≤ l.length
  | [], _ => Nat.le_refl _
  | k :: l, dn => by
    unfold stg
    split
    · have := stg_le l dn
      simp only [List.length_cons]
      omega
    · exact Nat.zero_le _
theorem stg_other {i : Nat} {dn : Nat → Bool} : ∀ {l : List Nat}, i ∉ l → stg l (upd dn i) = stg l dn
  | [], _ => rfl
  | k :: l, h => by
    have h1 : k ≠ i := fun e => h (e ▸ List.mem_cons_self ..)
    have h2 : upd dn i k = dn k := by unfold upd; simp [h1]
    unfold stg
    rw [h2, stg_other (fun e => h (List.mem_cons_of_mem _ e))]
theorem stg_false {l : List Nat} {dn : Nat → Bool} {j k : Nat} (h : l[j]? = some k) (hd : dn k = false) : stg l dn ≤ j := by
  induction l generalizing j with
  | nil => simp at h
  | cons x l ih =>
    unfold stg
    cases j with
    | zero =>
      simp only [List.getElem?_cons_zero, Option.some.injEq] at h
      subst h
      rw [hd]
      simp
    | succ j =>
      rw [List.getElem?_cons_succ] at h
      have := ih h
      split <;> omega
/-- What stands. -/
def Chain (l : List Nat) (dn : Nat → Bool) : Prop := ∀ k ∈ l.drop (stg l dn), dn k = false
theorem Chain.start (l : List Nat) : Chain l (fun _ => false) := fun _ _ => rfl
theorem stg_start : ∀ l : List Nat, stg l (fun _ => false) = 0
  | [] => rfl
  | _ :: _ => by unfold stg; simp
theorem Chain.other {l : List Nat} {dn : Nat → Bool} {i : Nat} (h : Chain l dn) (hi : i ∉ l) : Chain l (upd dn i) := by
  intro k hk
  rw [stg_other hi] at hk
  have hk2 : k ≠ i := fun e => hi (e ▸ List.mem_of_mem_drop hk)
  unfold upd
  simp [hk2, h k hk]
theorem stg_next {i : Nat} {dn : Nat → Bool} : ∀ {l : List Nat} {j : Nat}, l.Nodup → l[j]? = some i → stg l dn = j → Chain l dn → stg l (upd dn i) = j + 1 ∧ Chain l (upd dn i)
  | [], j, _, h, _, _ => by simp at h
  | x :: l, j, hnd, h, hs, hc => by
    rw [List.nodup_cons] at hnd
    cases j with
    | zero =>
      simp only [List.getElem?_cons_zero, Option.some.injEq] at h
      subst h
      have h0 : dn x = false := by
        cases hd : dn x
        · rfl
        · unfold stg at hs; rw [if_pos hd] at hs; omega
      have hrest : ∀ k ∈ l, dn k = false := fun k hk => hc k (by rw [hs]; exact List.mem_cons_of_mem _ hk)
      have hl0 : stg l (upd dn x) = 0 := by
        cases l with
        | nil => rfl
        | cons y l =>
          have hy : upd dn x y = false := by
            unfold upd
            have hne : y ≠ x := fun e => hnd.1 (e ▸ List.mem_cons_self ..)
            simp [hne, hrest y (List.mem_cons_self ..)]
          unfold stg
          rw [hy]
          simp
      have h1 : stg (x :: l) (upd dn x) = 0 + 1 := by
        unfold stg
        rw [if_pos (upd_self dn x), hl0]
      refine ⟨h1, fun k hk => ?_⟩
      rw [h1] at hk
      have hk' : k ∈ l := by simpa using hk
      have hne : k ≠ x := fun e => hnd.1 (e ▸ hk')
      unfold upd
      simp [hne, hrest k hk']
    | succ j =>
      rw [List.getElem?_cons_succ] at h
      have hx : dn x = true := by
        cases hd : dn x
        · unfold stg at hs; rw [hd] at hs; simp at hs
        · rfl
      have hs' : stg l dn = j := by unfold stg at hs; rw [if_pos hx] at hs; omega
      have hc' : Chain l dn := fun k hk => hc k (by unfold stg; rw [if_pos hx]; exact hk)
      obtain ⟨h1, h2⟩ := stg_next hnd.2 h hs' hc'
      have hxu : upd dn i x = true := by unfold upd; rw [hx, Bool.or_true]
      have h3 : stg (x :: l) (upd dn i) = j + 1 + 1 := by
        unfold stg
        rw [if_pos hxu, h1]
      refine ⟨h3, fun k hk => ?_⟩
      rw [h3] at hk
      exact h2 k (by rw [h1]; simpa using hk)

theorem stg_all {dn : Nat → Bool} : ∀ {l : List Nat}, (∀ k ∈ l, dn k = true) → stg l dn = l.length
  | [], _ => rfl
  | k :: l, h => by
    unfold stg
    rw [if_pos (h k (List.mem_cons_self ..)), stg_all (fun k hk => h k (List.mem_cons_of_mem _ hk)), List.length_cons]

section
variable {P : Program} {ops : Array Oper} {Q : Exit → Act → World → Prop} {md : Region.Mode} {a0 : Act} {i : Nat} {o : Oper}
/-- T n: what stands behind n stages; U j: what is told of the value of stage j; V j: .. while no later one has come. -/
abbrev SS (l : List Nat) (T : Nat → World → Prop) (dn : Nat → Bool) (W : World) : Prop := Chain l dn ∧ T (stg l dn) W
abbrev RR (l : List Nat) (U : Nat → Value → Prop) (V : Nat → Value → World → Prop) (vals : List Value) (dn : Nat → Bool) (i : Nat) (v : Value) (W : World) : Prop :=
  (i ∉ l → v = vals.getD i undef) ∧ ∀ j, l[j]? = some i → j < stg l dn ∧ U j v ∧ (stg l dn = j + 1 → V j v W)

variable {l : List Nat} {T : Nat → World → Prop} {U : Nat → Value → Prop} {V : Nat → Value → World → Prop} {vals : List Value}
theorem SS.start {w : World} (h : T 0 w) : SS l T (fun _ => false) w := ⟨Chain.start l, by rw [stg_start]; exact h⟩
theorem ss_up {dn : Nat → Bool} {w : World} (hi : i ∉ l) (h : SS l T dn w) : SS l T (upd dn i) w := ⟨h.1.other hi, by rw [stg_other hi]; exact h.2⟩
theorem rr_up {dn : Nat → Bool} {j : Nat} {u : Value} {w : World} (hi : i ∉ l) (h : RR l U V vals dn j u w) : RR l U V vals (upd dn i) j u w :=
  ⟨h.1, fun k hk => by rw [stg_other hi]; exact h.2 k hk⟩
theorem rr_val {dn : Nat → Bool} {w : World} {v : Value} (hi : i ∉ l) (hv : vals.getD i undef = v) : RR l U V vals dn i v w :=
  ⟨fun _ => hv.symm, fun _ hj => absurd (List.mem_of_getElem? hj) hi⟩

/-- An operation that only looks; m: at most so many stages are over. -/
theorem ss_value (hi : ops[i]? = some o) (hl : i ∉ l) (v : Value) (hv : vals.getD i undef = v) (m : Nat) (hm : m = l.length ∨ ∃ k, l[m]? = some k ∧ behind md ops k i = true)
    (h : ∀ (a : Act) (w : World) (n : Nat), n ≤ m → T n w → (∀ t, free md ops i t = true → a.tmps[t]? = a0.tmps[t]?) → (∀ j d, behind md ops i j = true → dstOf ops j = some d → ∃ v, a.tmps[d]? = some v ∧ ((j ∉ l → v = vals.getD j undef) ∧ ∀ k, l[k]? = some j → k < n ∧ U k v ∧ (n = k + 1 → V k v w))) →
      Region.wanted o (yielded ops a.tmps) = true ∧ (execOp a.eval o).run P w = .ok (.value v) w) : DoneStep P md ops Q (SS l T) (RR l U V vals) a0 i :=
  done_read (fun _ _ h => ss_up hl h) (fun _ _ _ _ h => rr_up hl h) v hi (fun dn a w hS hx ho hn => by
    have hle : stg l dn ≤ m := by
      rcases hm with rfl | ⟨k, hk, hb⟩
      · exact stg_le l dn
      · exact stg_false hk (hx k hb)
    obtain ⟨h1, h2⟩ := h a w (stg l dn) hle hS.2 ho hn
    exact ⟨h1, h2, rr_val hl hv⟩)
/-- One that is passed over. -/
theorem ss_skip (hi : ops[i]? = some o) (hl : i ∉ l) (hv : vals.getD i undef = undef)
    (h : ∀ (a : Act) (w : World) (n : Nat), T n w → (∀ j d, behind md ops i j = true → dstOf ops j = some d → ∃ v, a.tmps[d]? = some v ∧ ((j ∉ l → v = vals.getD j undef) ∧ ∀ k, l[k]? = some j → k < n ∧ U k v ∧ (n = k + 1 → V k v w))) →
      Region.wanted o (yielded ops a.tmps) = false) : DoneStep P md ops Q (SS l T) (RR l U V vals) a0 i := by
  intro dn a w hS hd hx ho hn
  have h1 := h a w (stg l dn) hS.2 hn
  unfold wpOp
  rw [hi]
  simp only [h1]
  exact ⟨undef, by simp [dstOf, hi], ss_up hl hS, rr_val hl hv, fun _ _ _ _ h => rr_up hl h⟩
/-- What a stage finds. -/
theorem ss_at {dn : Nat → Bool} {a : Act} {w : World} {j : Nat} (hj : l[j]? = some i) (hp : j = 0 ∨ ∃ k d, l[j - 1]? = some k ∧ behind md ops i k = true ∧ dstOf ops k = some d) (hd : dn i = false)
    (hn : ∀ j d, behind md ops i j = true → dstOf ops j = some d → ∃ v, a.tmps[d]? = some v ∧ RR l U V vals dn j v w) : stg l dn = j := by
  have h1 := stg_false hj hd
  rcases hp with rfl | ⟨k, d, hk, hb, hdd⟩
  · omega
  · obtain ⟨v, _, hR⟩ := hn k d hb hdd
    have := (hR.2 _ hk).1
    omega
/-- A stage that makes or turns memory. -/
theorem ss_make (j : Nat) (hnd : l.Nodup) (hi : ops[i]? = some o) (hj : l[j]? = some i) (hp : j = 0 ∨ ∃ k d, l[j - 1]? = some k ∧ behind md ops i k = true ∧ dstOf ops k = some d)
    (h : ∀ (a : Act) (w : World), T j w → (∀ t, free md ops i t = true → a.tmps[t]? = a0.tmps[t]?) → (∀ q d, behind md ops i q = true → dstOf ops q = some d → ∃ v, a.tmps[d]? = some v ∧ ((q ∉ l → v = vals.getD q undef) ∧ ∀ k, l[k]? = some q → k < j ∧ U k v ∧ (j = k + 1 → V k v w))) →
      Region.wanted o (yielded ops a.tmps) = true ∧ ∃ v w', (execOp a.eval o).run P w = .ok (.value v) w' ∧ T (j + 1) w' ∧ U j v ∧ V j v w') : DoneStep P md ops Q (SS l T) (RR l U V vals) a0 i :=
  done_make hi (fun dn a w hS hd hx ho hn => by
    have hs := ss_at hj hp hd hn
    obtain ⟨h1, v, w', h2, h3, h5, h4⟩ := h a w (hs ▸ hS.2) ho (by rw [← hs]; exact hn)
    obtain ⟨e1, e2⟩ := stg_next hnd hj hs hS.1
    refine ⟨h1, v, w', h2, ⟨e2, by rw [e1]; exact h3⟩, ⟨fun e => absurd (List.mem_of_getElem? hj) e, fun k hk => ?_⟩, fun q u hne hdq hR => ⟨hR.1, fun k hk => ?_⟩⟩
    · have hlj : j < l.length := (List.getElem?_eq_some_iff.1 hj).1
      obtain rfl : j = k := (List.getElem?_inj hlj hnd).1 (hj.trans hk.symm)
      rw [e1]
      exact ⟨Nat.lt_succ_self _, h5, fun _ => h4⟩
    · have hk2 := (hR.2 k hk).1
      rw [e1]
      exact ⟨by omega, (hR.2 k hk).2.1, fun e => absurd e (by omega)⟩)
theorem ss_store (j : Nat) (hnd : l.Nodup) (hi : ops[i]? = some o) (hdst : o.dst = none) (hj : l[j]? = some i) (hp : j = 0 ∨ ∃ k d, l[j - 1]? = some k ∧ behind md ops i k = true ∧ dstOf ops k = some d)
    (h : ∀ (a : Act) (w : World), T j w → (∀ t, free md ops i t = true → a.tmps[t]? = a0.tmps[t]?) → (∀ q d, behind md ops i q = true → dstOf ops q = some d → ∃ v, a.tmps[d]? = some v ∧ ((q ∉ l → v = vals.getD q undef) ∧ ∀ k, l[k]? = some q → k < j ∧ U k v ∧ (j = k + 1 → V k v w))) →
      Region.wanted o (yielded ops a.tmps) = true ∧ ∃ w', (execOp a.eval o).run P w = .ok .skip w' ∧ T (j + 1) w' ∧ U j undef ∧ V j undef w') : DoneStep P md ops Q (SS l T) (RR l U V vals) a0 i :=
  done_store hi hdst (fun dn a w hS hd hx ho hn => by
    have hs := ss_at hj hp hd hn
    obtain ⟨h1, w', h2, h3, h5, h4⟩ := h a w (hs ▸ hS.2) ho (by rw [← hs]; exact hn)
    obtain ⟨e1, e2⟩ := stg_next hnd hj hs hS.1
    refine ⟨h1, w', h2, ⟨e2, by rw [e1]; exact h3⟩, ⟨fun e => absurd (List.mem_of_getElem? hj) e, fun k hk => ?_⟩, fun q u hne hdq hR => ⟨hR.1, fun k hk => ?_⟩⟩
    · have hlj : j < l.length := (List.getElem?_eq_some_iff.1 hj).1
      obtain rfl : j = k := (List.getElem?_inj hlj hnd).1 (hj.trans hk.symm)
      rw [e1]
      exact ⟨Nat.lt_succ_self _, h5, fun _ => h4⟩
    · have hk2 := (hR.2 k hk).1
      rw [e1]
      exact ⟨by omega, (hR.2 k hk).2.1, fun e => absurd e (by omega)⟩)
theorem ss_call (j : Nat) (hnd : l.Nodup) (f : FuncId) (hi : ops[i]? = some o) (hj : l[j]? = some i) (hp : j = 0 ∨ ∃ k d, l[j - 1]? = some k ∧ behind md ops i k = true ∧ dstOf ops k = some d)
    (h : ∀ (a : Act) (w : World), T j w → (∀ t, free md ops i t = true → a.tmps[t]? = a0.tmps[t]?) → (∀ q d, behind md ops i q = true → dstOf ops q = some d → ∃ v, a.tmps[d]? = some v ∧ ((q ∉ l → v = vals.getD q undef) ∧ ∀ k, l[k]? = some q → k < j ∧ U k v ∧ (j = k + 1 → V k v w))) →
      Region.wanted o (yielded ops a.tmps) = true ∧ ∃ args, (execOp a.eval o).run P w = .ok (.enter f args) w ∧ Calls P f args w fun e w' => ∃ v, e = .returned v ∧ T (j + 1) w' ∧ U j v ∧ V j v w') : DoneStep P md ops Q (SS l T) (RR l U V vals) a0 i := by
  intro dn a w hS hd _ ho hn
  have hs := ss_at hj hp hd hn
  obtain ⟨h1, args, h2, h3⟩ := h a w (hs ▸ hS.2) ho (by rw [← hs]; exact hn)
  obtain ⟨e1, e2⟩ := stg_next hnd hj hs hS.1
  unfold wpOp
  rw [hi]
  simp only [h1, if_true]
  refine .inl ?_
  unfold Oper.wp
  rw [h2, Oper.upon_enter]
  refine h3.mono ?_
  rintro e w' ⟨v, rfl, h4, h6, h5⟩
  refine ⟨v, by simp [dstOf, hi], ⟨e2, by rw [e1]; exact h4⟩, ⟨fun e => absurd (List.mem_of_getElem? hj) e, fun k hk => ?_⟩, fun q u hne hdq hR => ⟨hR.1, fun k hk => ?_⟩⟩
  · have hlj : j < l.length := (List.getElem?_eq_some_iff.1 hj).1
    obtain rfl : j = k := (List.getElem?_inj hlj hnd).1 (hj.trans hk.symm)
    rw [e1]
    exact ⟨Nat.lt_succ_self _, h6, fun _ => h5⟩
  · have hk2 := (hR.2 k hk).1
    rw [e1]
    exact ⟨by omega, (hR.2 k hk).2.1, fun e => absurd e (by omega)⟩

/-- What a value that is no stage's has; and a stage's, right behind it. -/
theorem rr_plain {n q : Nat} {v : Value} {w : World} (h : (q ∉ l → v = vals.getD q undef) ∧ ∀ k, l[k]? = some q → k < n ∧ U k v ∧ (n = k + 1 → V k v w)) (hq : q ∉ l) : v = vals.getD q undef := h.1 hq
theorem rr_stage {q k : Nat} {v : Value} {w : World} (h : (q ∉ l → v = vals.getD q undef) ∧ ∀ k', l[k']? = some q → k' < k + 1 ∧ U k' v ∧ (k + 1 = k' + 1 → V k' v w)) (hq : l[k]? = some q) : U k v ∧ V k v w := ⟨(h.2 k hq).2.1, (h.2 k hq).2.2 rfl⟩
theorem rr_told {n q k : Nat} {v : Value} {w : World} (h : (q ∉ l → v = vals.getD q undef) ∧ ∀ k', l[k']? = some q → k' < n ∧ U k' v ∧ (n = k' + 1 → V k' v w)) (hq : l[k]? = some q) : k < n ∧ U k v ∧ (n = k + 1 → V k v w) := h.2 k hq
end
end Go.Proofs.Ytkabdkblcgklmaa

/-
  The pool of layer 10: what holds of every state that the statements reach.
-/
import Derived.Test.YtlmdijijlbmddaaPlKeq
namespace Go.Proofs.Ytlmdijijlbmddaa.pool
open Go.RowKit

def TV.key (t : TV) : Int × Int := (t.file, t.no)
theorem is_key {t : TV} {f n : Int} : t.is f n = true ↔ t.key = (f, n) := by
  unfold TV.is TV.key
  simp
theorem idxT_map {f n : Int} : ∀ {L L' : List TV}, L.map TV.key = L'.map TV.key → idxT f n L = idxT f n L'
  | [], [], _ => rfl
  | [], _ :: _, h => by simp at h
  | _ :: _, [], h => by simp at h
  | t :: L, u :: L', h => by
    simp only [List.map_cons, List.cons.injEq] at h
    have e : t.is f n = u.is f n := by
      have h1 := h.1
      rw [Bool.eq_iff_iff, is_key, is_key, h1]
    unfold idxT
    rw [e, idxT_map h.2]
theorem idx0 {f n : Int} (hf : 1 ≤ f ∧ f ≤ 3) (hn : 0 ≤ n ∧ n ≤ 3) : idxT f n L0 = some (4 * (f - 1) + n).toNat := by
  have h1 : f = 1 ∨ f = 2 ∨ f = 3 := by omega
  have h2 : n = 0 ∨ n = 1 ∨ n = 2 ∨ n = 3 := by omega
  rcases h1 with rfl | rfl | rfl <;> rcases h2 with rfl | rfl | rfl | rfl <;> decide +kernel

/-- What K calls can have made of a state. -/
structure G (K : Nat) (s : PS) : Prop where
  keys : s.L.map TV.key = L0.map TV.key
  els : ∀ t ∈ s.L, t.el.length = 4
  fr : ∀ v ∈ s.fr, (∃ j, idxT v.t.file v.t.no L0 = some j) ∧ v.t.el.length = 4 ∧ v.pins ≤ K
  log : s.log.length ≤ 3 * K
  room : s.fr.length ≤ s.size
theorem G.ok {K : Nat} {s : PS} (h : G K s) (hK : K ≤ 100000) : Ok s := by
  have hl : s.L.length = 12 := by
    have := congrArg List.length h.keys
    rw [List.length_map, List.length_map] at this
    exact this
  refine ⟨by have := h.log; omega, by omega, fun v hv => ?_, fun v hv => by have := (h.fr v hv).2.2; omega, h.room⟩
  rw [idxT_map h.keys]
  exact (h.fr v hv).1
theorem G.zero (n : Nat) : G 0 (ps0 n) := ⟨rfl, fun t ht => by obtain ⟨i, hi, rfl⟩ := List.mem_iff_getElem.1 ht; exact (by rw [(L0_at (List.getElem?_eq_getElem hi)).1]; rfl), fun v hv => (by cases hv), Nat.le_refl _, Nat.zero_le _⟩
theorem storeL_keys (L : List TV) (t : TV) : (storeL L t).map TV.key = L.map TV.key := by
  unfold storeL
  cases h : idxT t.file t.no L with
  | none => rfl
  | some j =>
    obtain ⟨u, hu, hk, _⟩ := idxT_some h
    rw [is_key] at hk
    show (L.set j t).map TV.key = _
    rw [List.map_set]
    apply List.ext_getElem?
    intro i
    by_cases hij : j = i
    · subst hij
      have hj : j < L.length := (List.getElem?_eq_some_iff.1 hu).1
      rw [List.getElem?_set_self (by simpa using hj), List.getElem?_map, hu]
      show some (t.file, t.no) = some u.key
      rw [hk]
    · rw [List.getElem?_set_ne hij]
theorem storeL_els {L : List TV} {t : TV} (h : ∀ u ∈ L, u.el.length = 4) (ht : t.el.length = 4) : ∀ u ∈ storeL L t, u.el.length = 4 := by
  intro u hu
  unfold storeL at hu
  cases hi : idxT t.file t.no L with
  | none => rw [hi] at hu; exact h u hu
  | some j =>
    rw [hi] at hu
    rcases List.mem_or_eq_of_mem_set hu with hu | rfl
    · exact h u hu
    · exact ht
section
variable {K : Nat} {s s1 : PS} {f n : Int}
theorem G.le {K' : Nat} (h : G K s) (hk : K ≤ K') : G K' s := ⟨h.keys, h.els, fun v hv => ⟨(h.fr v hv).1, (h.fr v hv).2.1, by have := (h.fr v hv).2.2; omega⟩, by have := h.log; omega, h.room⟩
/-- Other frames, fewer or as many, each as good. -/
theorem G.frames (h : G K s) {fr : List FV} (hf : ∀ v ∈ fr, (∃ j, idxT v.t.file v.t.no L0 = some j) ∧ v.t.el.length = 4 ∧ v.pins ≤ K) (hr : fr.length ≤ s.size) : G K { s with fr := fr } := ⟨h.keys, h.els, hf, h.log, hr⟩
theorem G.wr (h : G K s) {x : FV} (hx : x.t.el.length = 4) : (s.wr x).L.map TV.key = L0.map TV.key ∧ (∀ t ∈ (s.wr x).L, t.el.length = 4) ∧ (s.wr x).log.length ≤ 3 * K + 2 ∧ (s.wr x).fr = s.fr ∧ (s.wr x).size = s.size := by
  unfold PS.wr
  split
  · exact ⟨(storeL_keys _ _).trans h.keys, storeL_els h.els hx, by rw [List.length_append]; have := h.log; simp; omega, rfl, rfl⟩
  · exact ⟨h.keys, h.els, by have := h.log; omega, rfl, rfl⟩
theorem G.free (h : G K s) (hf : s.free = some s1) : s1.L.map TV.key = L0.map TV.key ∧ (∀ t ∈ s1.L, t.el.length = 4) ∧ s1.log.length ≤ 3 * K + 2 ∧ (∀ v ∈ s1.fr, v ∈ s.fr) ∧ s1.fr.length < s1.size := by
  have hroom := free_room hf h.room
  unfold PS.free at hf
  split at hf
  · injection hf with hf
    subst hf
    exact ⟨h.keys, h.els, by have := h.log; omega, fun v hv => hv, hroom⟩
  · split at hf
    · rename_i a x b ht
      injection hf with hf
      obtain ⟨e, _, _⟩ := takeF_some ht
      have hx := h.wr ((h.fr x (by rw [e]; simp)).2.1)
      subst hf
      refine ⟨hx.1, hx.2.1, hx.2.2.1, fun v hv => ?_, hroom⟩
      rw [e]
      simp only [List.mem_append, List.mem_cons] at hv ⊢
      rcases hv with h | h
      · exact .inl h
      · exact .inr (.inr h)
    · cases hf
theorem G.pin (h : G K s) (f n : Int) : G (K + 1) (s.pin f n).2 := by
  unfold PS.pin
  cases ht : takeF (fun v => v.is f n) s.fr with
  | some r =>
    obtain ⟨a, x, b⟩ := r
    obtain ⟨e, _, _⟩ := takeF_some ht
    refine (h.le (Nat.le_succ K)).frames (fun v hv => ?_) ?_
    · simp only [List.mem_append, List.mem_singleton] at hv
      rcases hv with (hv | hv) | rfl
      · have := h.fr v (by rw [e]; simp [hv]); exact ⟨this.1, this.2.1, by omega⟩
      · have := h.fr v (by rw [e]; simp [hv]); exact ⟨this.1, this.2.1, by omega⟩
      · have := h.fr x (by rw [e]; simp); exact ⟨this.1, this.2.1, by show x.pins + 1 ≤ K + 1; omega⟩
    · have := h.room
      rw [e] at this
      simp only [List.length_append, List.length_cons, List.length_nil] at this ⊢
      omega
  | none =>
    cases hfr : s.free with
    | none => exact h.le (Nat.le_succ K)
    | some s1 =>
      obtain ⟨g1, g2, g3, g4, g5⟩ := h.free hfr
      have hold : ∀ v ∈ s1.fr, (∃ j, idxT v.t.file v.t.no L0 = some j) ∧ v.t.el.length = 4 ∧ v.pins ≤ K + 1 := fun v hv => by
        have := h.fr v (g4 v hv); exact ⟨this.1, this.2.1, by omega⟩
      show G (K + 1) (match idxT f n s1.L with | none => _ | some j => _ : Int × PS).2
      cases hi : idxT f n s1.L with
      | none => exact ⟨g1, g2, hold, by simp only [List.length_append, List.length_cons, List.length_nil]; omega, Nat.le_of_lt g5⟩
      | some j =>
        obtain ⟨u, hu, hk, _⟩ := idxT_some hi
        have hug : s1.L.getD j ⟨0, 0, 0, []⟩ = u := by rw [List.getD_eq_getElem?_getD, hu]; rfl
        rw [is_key] at hk
        refine ⟨g1, g2, fun v hv => ?_, by simp only [List.length_append, List.length_cons, List.length_nil]; omega, by simp only [List.length_append, List.length_cons, List.length_nil]; omega⟩
        simp only [List.mem_append, List.mem_singleton] at hv
        rcases hv with hv | rfl
        · exact hold v hv
        · refine ⟨⟨j, ?_⟩, ?_, Nat.le_add_left ..⟩
          · show idxT (s1.L.getD j ⟨0, 0, 0, []⟩).file (s1.L.getD j ⟨0, 0, 0, []⟩).no L0 = some j
            rw [hug]
            unfold TV.key at hk
            injection hk with k1 k2
            rw [k1, k2, ← idxT_map g1, hi]
          · show (s1.L.getD j ⟨0, 0, 0, []⟩).el.length = 4
            rw [hug]
            exact g2 u (List.mem_of_getElem? hu)
/-- One frame in another's place. -/
theorem G.swap (h : G K s) {a b : List FV} {x y : FV} (e : s.fr = a ++ x :: b) (hk : y.t.file = x.t.file ∧ y.t.no = x.t.no) (hl : y.t.el.length = 4) (hp : y.pins ≤ K) {fr : List FV} (hm : ∀ v ∈ fr, v = y ∨ v ∈ a ∨ v ∈ b) (hr : fr.length ≤ s.fr.length) : G K { s with fr := fr } := by
  refine h.frames (fun v hv => ?_) (Nat.le_trans hr h.room)
  rcases hm v hv with rfl | h1 | h1
  · have := h.fr x (by rw [e]; simp)
    rw [hk.1, hk.2]
    exact ⟨this.1, hl, hp⟩
  · exact h.fr v (by rw [e]; simp [h1])
  · exact h.fr v (by rw [e]; simp [h1])
theorem G.unpin (h : G K s) (f n : Int) : G K (s.unpin f n).2 := by
  unfold PS.unpin
  cases ht : takeF (fun v => v.pinned f n) s.fr with
  | none => exact h
  | some r =>
    obtain ⟨a, x, b⟩ := r
    obtain ⟨e, _, _⟩ := takeF_some ht
    have hx := h.fr x (by rw [e]; simp)
    refine h.swap (y := { x with pins := x.pins - 1 }) e ⟨rfl, rfl⟩ hx.2.1 (by show x.pins - 1 ≤ K; omega) (fun v hv => ?_) (by rw [e]; simp)
    simp only [List.mem_append, List.mem_singleton] at hv
    rcases hv with (hv | hv) | rfl
    · exact .inr (.inl hv)
    · exact .inr (.inr hv)
    · exact .inl rfl
theorem G.set_ (h : G K s) (f n i v num : Int) : G K (s.set_ f n i v num).2 := by
  unfold PS.set_
  cases ht : takeF (fun v => v.pinned f n) s.fr with
  | none => exact h
  | some r =>
    obtain ⟨a, x, b⟩ := r
    obtain ⟨e, _, _⟩ := takeF_some ht
    have hx := h.fr x (by rw [e]; simp)
    show G K (if 0 ≤ i ∧ i < 4 then _ else _ : Int × PS).2
    split
    · refine h.swap (y := x.set_ i.toNat v num) e ⟨rfl, rfl⟩ (by show (x.t.el.set i.toNat v).length = 4; rw [List.length_set]; exact hx.2.1) hx.2.2 (fun u hu => ?_) (by rw [e]; simp)
      simp only [List.mem_append, List.mem_cons] at hu
      rcases hu with hu | rfl | hu
      · exact .inr (.inl hu)
      · exact .inl rfl
      · exact .inr (.inr hu)
    · exact h
theorem G.clean (h : G K s) (f n : Int) : G (K + 1) (s.clean f n).2 := by
  unfold PS.clean
  cases ht : takeF (fun v => v.is f n) s.fr with
  | none => exact h.le (Nat.le_succ K)
  | some r =>
    obtain ⟨a, x, b⟩ := r
    obtain ⟨e, _, _⟩ := takeF_some ht
    have hx := h.fr x (by rw [e]; simp)
    show G (K + 1) (if x.dirty = true then _ else _ : Int × PS).2
    split
    · obtain ⟨g1, g2, g3, g4, g5⟩ := h.wr hx.2.1
      have hg : G (K + 1) (s.wr x) := ⟨g1, g2, fun v hv => by rw [g4] at hv; have := h.fr v hv; exact ⟨this.1, this.2.1, by omega⟩, by omega, by rw [g4, g5]; exact h.room⟩
      refine hg.swap (y := x.clean) (g4.trans e) ⟨rfl, rfl⟩ hx.2.1 (by show x.pins ≤ K + 1; omega) (fun u hu => ?_) (by rw [g4, e]; simp)
      simp only [List.mem_append, List.mem_cons] at hu
      rcases hu with hu | rfl | hu
      · exact .inr (.inl hu)
      · exact .inl rfl
      · exact .inr (.inr hu)
    · exact h.le (Nat.le_succ K)
theorem G.drop (h : G K s) (f n : Int) : G K (s.drop f n).2 := by
  unfold PS.drop
  cases ht : takeF (fun v => v.is f n) s.fr with
  | none => exact h
  | some r =>
    obtain ⟨a, x, b⟩ := r
    obtain ⟨e, _, _⟩ := takeF_some ht
    show G K (if 0 < x.pins then _ else _ : Int × PS).2
    split
    · exact h
    · refine h.frames (fun v hv => h.fr v (by rw [e]; simp only [List.mem_append, List.mem_cons] at hv ⊢; rcases hv with hv | hv <;> simp [hv])) ?_
      have := h.room
      rw [e] at this
      simp only [List.length_append, List.length_cons] at this ⊢
      omega
end
end Go.Proofs.Ytlmdijijlbmddaa.pool

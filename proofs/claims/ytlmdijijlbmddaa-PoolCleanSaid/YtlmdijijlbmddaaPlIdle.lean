/-
  The pool of layer 10: a pool that nobody uses: no tile is pinned, none has been set; what pinning and unpinning make of it.
-/
import Derived.Test.YtlmdijijlbmddaaPlInv
namespace Go.Proofs.Ytlmdijijlbmddaa.pool
open Go.RowKit

/-- No frame is pinned or was set, and each holds another tile. -/
structure Idle (s : PS) : Prop where
  fr : ∀ v ∈ s.fr, v.pins = 0 ∧ v.dirty = false
  nd : (s.fr.map (fun v => v.t.key)).Nodup
/-- One tile is pinned, once; its frame is the last. -/
structure One (s : PS) (f n : Int) (a : List FV) (x : FV) : Prop where
  fr : s.fr = a ++ [x]
  is_ : x.is f n = true
  pins : x.pins = 1
  idle : ∀ y ∈ a, y.pins = 0 ∧ y.dirty = false ∧ y.is f n = false
  nd : (a.map (fun v => v.t.key)).Nodup
  clean : x.dirty = false
theorem Idle.wr {s : PS} {x : FV} (h : x.dirty = false) : s.wr x = s := by unfold PS.wr; rw [h]; rfl
theorem One.nodup {s : PS} {f n : Int} {a : List FV} {x : FV} (h : One s f n a x) : ((a ++ [x]).map (fun v => v.t.key)).Nodup := by
  rw [List.map_append, List.nodup_append]
  refine ⟨h.nd, by simp, fun u hu v hv e => ?_⟩
  obtain ⟨y, hy, rfl⟩ := List.mem_map.1 hu
  simp only [List.map_cons, List.map_nil, List.mem_singleton] at hv
  subst hv
  have h1 := (h.idle y hy).2.2
  have h2 := h.is_
  unfold FV.is at h1 h2
  rw [is_key] at h2
  have h3 : y.t.is f n = true := is_key.2 (e.trans h2)
  rw [h1] at h3
  cases h3
theorem Idle.free {s : PS} (h : Idle s) (hs : 1 ≤ s.size) : ∃ s1, s.free = some s1 ∧ s1.L = s.L ∧ s1.size = s.size ∧ s1.log = s.log ∧ s1.fr.Sublist s.fr := by
  unfold PS.free
  split
  · exact ⟨s, rfl, rfl, rfl, rfl, List.Sublist.refl _⟩
  · rename_i hlt
    cases hfr : s.fr with
    | nil => rw [hfr] at hlt; exact absurd hs (by simpa using hlt)
    | cons y l =>
      have hy := h.fr y (by rw [hfr]; simp)
      have ht : takeF (fun v => decide (v.pins = 0)) (y :: l) = some ([], y, l) := takeF_hit (a := []) (fun z hz => by cases hz) (by simp [hy.1])
      rw [ht]
      refine ⟨_, rfl, ?_, ?_, ?_, ?_⟩
      · show (s.wr y).L = s.L
        rw [Idle.wr hy.2]
      · show (s.wr y).size = s.size
        rw [Idle.wr hy.2]
      · show (s.wr y).log = s.log
        rw [Idle.wr hy.2]
      · exact List.Sublist.cons _ (List.Sublist.refl _)
section
variable {s : PS} {f n : Int}
/-- What a pin of a tile makes of it. -/
theorem Idle.pin (h : Idle s) (hs : 1 ≤ s.size) : ((s.pin f n).1 ≠ 0 ∧ Idle (s.pin f n).2 ∧ (s.pin f n).2.L = s.L ∧ (s.pin f n).2.size = s.size) ∨ ((s.pin f n).1 = 0 ∧ (s.pin f n).2.L = s.L ∧ (s.pin f n).2.size = s.size ∧ ∃ a x, One (s.pin f n).2 f n a x) := by
  cases ht : takeF (fun v => v.is f n) s.fr with
  | some r =>
    obtain ⟨a, x, b⟩ := r
    have epin : s.pin f n = (0, { s with fr := a ++ b ++ [{ x with pins := x.pins + 1 }] }) := by unfold PS.pin; rw [ht]
    rw [epin]
    obtain ⟨e, hx, ha⟩ := takeF_some ht
    have hnd := h.nd
    rw [e, List.map_append, List.map_cons, List.nodup_append] at hnd
    obtain ⟨n1, n2, n3⟩ := hnd
    rw [List.nodup_cons] at n2
    have hxx := h.fr x (by rw [e]; simp)
    have hkx : x.t.key = (f, n) := is_key.1 hx
    refine .inr ⟨rfl, rfl, rfl, a ++ b, { x with pins := x.pins + 1 }, rfl, hx, by rw [hxx.1], fun y hy => ?_, ?_, hxx.2⟩
    · rcases List.mem_append.1 hy with hy | hy
      · have := h.fr y (by rw [e]; simp [hy])
        exact ⟨this.1, this.2, ha y hy⟩
      · have := h.fr y (by rw [e]; simp [hy])
        refine ⟨this.1, this.2, ?_⟩
        cases hc : y.is f n with
        | false => rfl
        | true =>
          have : y.t.key = (f, n) := is_key.1 hc
          exact absurd (List.mem_map.2 ⟨y, hy, this.trans hkx.symm⟩) n2.1
    · rw [List.map_append, List.nodup_append]
      exact ⟨n1, n2.2, fun u hu v hv => n3 u hu v (List.mem_cons_of_mem _ hv)⟩
  | none =>
    obtain ⟨s1, hf, hL, hsz, hlg, hsub⟩ := h.free hs
    have hno := takeF_none ht
    have hi1 : ∀ v ∈ s1.fr, v.pins = 0 ∧ v.dirty = false ∧ v.is f n = false := fun v hv => by
      have hm := hsub.subset hv
      exact ⟨(h.fr v hm).1, (h.fr v hm).2, hno v hm⟩
    have hn1 : (s1.fr.map (fun v => v.t.key)).Nodup := h.nd.sublist (hsub.map _)
    cases hi : idxT f n s1.L with
    | none =>
      have epin : s.pin f n = (50, { s1 with log := s1.log ++ [⟨1, n, f⟩] }) := by unfold PS.pin; rw [ht]; simp only [hf, hi]
      rw [epin]
      exact .inl ⟨by show (50 : Int) ≠ 0; decide, ⟨fun v hv => ⟨(hi1 v hv).1, (hi1 v hv).2.1⟩, hn1⟩, hL, hsz⟩
    | some j =>
      have epin : s.pin f n = (0, { s1 with log := s1.log ++ [⟨1, n, f⟩], fr := s1.fr ++ [⟨s1.L.getD j ⟨0, 0, 0, []⟩, 1, false, 0⟩] }) := by unfold PS.pin; rw [ht]; simp only [hf, hi]
      rw [epin]
      obtain ⟨u, hu, hk, _⟩ := idxT_some hi
      have hug : s1.L.getD j ⟨0, 0, 0, []⟩ = u := by rw [List.getD_eq_getElem?_getD, hu]; rfl
      exact .inr ⟨rfl, hL, hsz, s1.fr, ⟨s1.L.getD j ⟨0, 0, 0, []⟩, 1, false, 0⟩, rfl, by show (s1.L.getD j ⟨0, 0, 0, []⟩).is f n = true; rw [hug]; exact hk, rfl, hi1, hn1, rfl⟩
/-- A tile that there is can be pinned. -/
theorem Idle.pin_ok (h : Idle s) (hs : 1 ≤ s.size) {j : Nat} (hj : idxT f n s.L = some j) : (s.pin f n).1 = 0 := by
  unfold PS.pin
  cases ht : takeF (fun v => v.is f n) s.fr with
  | some r => rfl
  | none =>
    obtain ⟨s1, hf, hL, _⟩ := h.free hs
    rw [hf]
    rw [← hL] at hj
    simp only [hj]
variable {a : List FV} {x : FV}
theorem One.pinned (h : One s f n a x) {y : FV} (hk : y.t.key = x.t.key) (hp : 0 < y.pins) : takeF (fun v => v.pinned f n) (a ++ [y]) = some (a, y, []) := by
  refine takeF_hit (fun z hz => ?_) ?_
  · unfold FV.pinned
    have := (h.idle z hz).2.2
    unfold FV.is at this
    rw [this]
    rfl
  · unfold FV.pinned
    have : y.t.is f n = true := is_key.2 (hk.trans (is_key.1 h.is_))
    rw [this]
    simpa using hp
theorem One.found (h : One s f n a x) {y : FV} (hk : y.t.key = x.t.key) : takeF (fun v => v.is f n) (a ++ [y]) = some (a, y, []) :=
  takeF_hit (fun z hz => (h.idle z hz).2.2) (is_key.2 (hk.trans (is_key.1 h.is_)))
/-- .. and unpinning it. -/
theorem One.unpin (h : One s f n a x) : (s.unpin f n).1 = 0 ∧ Idle (s.unpin f n).2 ∧ (s.unpin f n).2.L = s.L ∧ (s.unpin f n).2.size = s.size := by
  unfold PS.unpin
  rw [h.fr, h.pinned rfl (by rw [h.pins]; decide)]
  refine ⟨rfl, ⟨fun v hv => ?_, ?_⟩, rfl, rfl⟩
  · simp only [List.append_nil, List.mem_append, List.mem_singleton] at hv
    rcases hv with hv | rfl
    · exact ⟨(h.idle v hv).1, (h.idle v hv).2.1⟩
    · exact ⟨by show x.pins - 1 = 0; rw [h.pins], h.clean⟩
  · show ((a ++ [] ++ [{ x with pins := x.pins - 1 }]).map (fun v : FV => v.t.key)).Nodup
    have := h.nodup
    rw [List.append_nil]
    rw [List.map_append] at this ⊢
    exact this
/-- A tile that is pinned once: set, cleaned, set, unpinned, dropped, and pinned again. -/
theorem One.cleaned (h : One s f n a x) {i j : Nat} (v u : Int) (hi : i < 4) (hj : idxT f n s.L = some j) (hl : x.t.el.length = 4) (hr : s.fr.length ≤ s.size) :
    let s1 := s.set_ f n i v 1
    let s2 := s1.2.clean f n
    let s3 := s2.2.set_ f n i u 2
    let s4 := s3.2.unpin f n
    let s5 := s4.2.drop f n
    let s6 := s5.2.pin f n
    s1.1 = 0 ∧ s2.1 = 0 ∧ s3.1 = 0 ∧ s4.1 = 0 ∧ s5.1 = 0 ∧ s6.1 = 0 ∧ s6.2.get f n i = (v, 0) ∧ ∃ t, s2.2.L[j]? = some t ∧ t.el[i]? = some v := by
  intro s1 s2 s3 s4 s5 s6
  have hi0 : (0 : Int) ≤ (i : Int) ∧ (i : Int) < 4 := by omega
  have hkx : x.t.key = (f, n) := is_key.1 h.is_
  have hp1 : 0 < x.pins := by rw [h.pins]; decide
  have e1 : s1 = (0, { s with fr := a ++ [x.set_ i v 1] }) := by
    show s.set_ f n i v 1 = _
    unfold PS.set_
    rw [h.fr, h.pinned rfl hp1]
    simp only [hi0, and_self, if_true, Int.toNat_natCast]
  have hkey1 : (x.set_ i v 1).t.key = x.t.key := rfl
  obtain ⟨t0, ht0, hk0, _⟩ := idxT_some hj
  have hjl : j < s.L.length := (List.getElem?_eq_some_iff.1 ht0).1
  have hix : idxT (x.set_ i v 1).t.file (x.set_ i v 1).t.no s.L = some j := by
    have : (x.t.file, x.t.no) = (f, n) := hkx
    injection this with k1 k2
    show idxT x.t.file x.t.no s.L = some j
    rw [k1, k2]
    exact hj
  have hst : storeL s.L (x.set_ i v 1).t = s.L.set j (x.set_ i v 1).t := by unfold storeL; rw [hix]
  have e2 : s2 = (0, { s with fr := a ++ [(x.set_ i v 1).clean], L := s.L.set j (x.set_ i v 1).t, log := s.log ++ [⟨2, (x.set_ i v 1).num, 0⟩, ⟨3, (x.set_ i v 1).t.no, (x.set_ i v 1).t.file⟩] }) := by
    show s1.2.clean f n = _
    rw [e1]
    unfold PS.clean
    simp only [h.found hkey1]
    have hd : (x.set_ i v 1).dirty = true := rfl
    simp only [hd, if_true]
    unfold PS.wr
    simp only [hd, if_true, hst]
  have e3 : s3 = (0, { s2.2 with fr := a ++ [(x.set_ i v 1).clean.set_ i u 2] }) := by
    show s2.2.set_ f n i u 2 = _
    have hfr : s2.2.fr = a ++ [(x.set_ i v 1).clean] := by rw [e2]
    unfold PS.set_
    rw [hfr, h.pinned (y := (x.set_ i v 1).clean) rfl hp1]
    simp only [hi0, and_self, if_true, Int.toNat_natCast]
  have e4 : s4 = (0, { s2.2 with fr := a ++ [] ++ [{ (x.set_ i v 1).clean.set_ i u 2 with pins := x.pins - 1 }] }) := by
    show s3.2.unpin f n = _
    have hfr : s3.2.fr = a ++ [(x.set_ i v 1).clean.set_ i u 2] := by rw [e3]
    unfold PS.unpin
    rw [hfr, h.pinned (y := (x.set_ i v 1).clean.set_ i u 2) rfl hp1, e3]
    rfl
  have e5 : s5 = (0, { s2.2 with fr := a ++ [] }) := by
    show s4.2.drop f n = _
    have hfr : s4.2.fr = a ++ [{ (x.set_ i v 1).clean.set_ i u 2 with pins := x.pins - 1 }] := by rw [e4]; simp
    unfold PS.drop
    rw [hfr, h.found (y := { (x.set_ i v 1).clean.set_ i u 2 with pins := x.pins - 1 }) rfl, e4]
    have hz : ¬ 0 < x.pins - 1 := by rw [h.pins]; decide
    simp only [hz, if_false]
  have hL2 : s2.2.L = s.L.set j (x.set_ i v 1).t := by rw [e2]
  have hidx : idxT f n s2.2.L = some j := by
    rw [hL2, ← hst, idxT_map (storeL_keys s.L (x.set_ i v 1).t)]
    exact hj
  have hsz : s2.2.size = s.size := by rw [e2]
  have hroom : a.length < s.size := by
    rw [h.fr] at hr
    simp only [List.length_append, List.length_cons, List.length_nil] at hr
    omega
  have e6 : s6 = (0, { s2.2 with fr := a ++ [⟨s2.2.L.getD j ⟨0, 0, 0, []⟩, 1, false, 0⟩], log := s2.2.log ++ [⟨1, n, f⟩] }) := by
    show s5.2.pin f n = _
    have hno : takeF (fun v => v.is f n) a = none := takeF_no (fun y hy => (h.idle y hy).2.2)
    rw [e5, List.append_nil]
    have hfree : ({ s2.2 with fr := a } : PS).free = some { s2.2 with fr := a } := by
      unfold PS.free
      rw [if_pos (show a.length < s2.2.size by rw [hsz]; exact hroom)]
    unfold PS.pin
    simp only [hno, hfree, hidx]
  have ht2 : s2.2.L[j]? = some (x.set_ i v 1).t := by rw [hL2, List.getElem?_set_self hjl]
  have hel : (x.set_ i v 1).t.el[i]? = some v := by
    show (x.t.el.set i v)[i]? = some v
    rw [List.getElem?_set_self (by rw [hl]; exact hi)]
  have hgd : s2.2.L.getD j ⟨0, 0, 0, []⟩ = (x.set_ i v 1).t := by rw [List.getD_eq_getElem?_getD, ht2]; rfl
  refine ⟨by rw [e1], by rw [e2], by rw [e3], by rw [e4], by rw [e5], by rw [e6], ?_, _, ht2, hel⟩
  rw [e6]
  unfold PS.get
  simp only [hgd]
  rw [h.pinned (y := ⟨(x.set_ i v 1).t, 1, false, 0⟩) rfl Nat.one_pos]
  simp only [hi0, and_self, if_true, Int.toNat_natCast]
  rw [List.getD_eq_getElem?_getD, hel]
  rfl
end
end Go.Proofs.Ytlmdijijlbmddaa.pool

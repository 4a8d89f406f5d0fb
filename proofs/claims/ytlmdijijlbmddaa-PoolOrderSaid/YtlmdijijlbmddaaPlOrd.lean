/-
  The pool of layer 10: the opening of a list of keys; a pool all of whose frames are pinned.
-/
import Derived.Test.YtlmdijijlbmddaaPlOpen
namespace Go.Proofs.Ytlmdijijlbmddaa.pool
open Go.ChangeShapes Go.WideShapes Go.ChangeAt Go.RowKit Go.Deep

/-- A slice of length n at A that reads as these keys. -/
def PKeys (W : World) (B : Nat) (A : Option Addr) (n : Nat) (l : List (Int × Int)) : Prop :=
  l.length = n ∧ (0 < n → ∃ ad, A = some ad ∧ ad.block < B ∧ ∀ i x, l[i]? = some x → W.cell? (ad.add (i * 2)) = some (.int .i64 x.1) ∧ W.cell? ⟨(ad.add (i * 2)).block, (ad.add (i * 2)).off + 1, none⟩ = some (.int .i64 x.2))
theorem PKeys.below {w w' : World} {B n : Nat} {A : Option Addr} {l : List (Int × Int)} (h : PKeys w B A n l) (hk : Below B w w') : PKeys w' B A n l :=
  ⟨h.1, fun h0 => by
    obtain ⟨ad, e, hb, hc⟩ := h.2 h0
    refine ⟨ad, e, hb, fun i o ho => ?_⟩
    have d := hc i o ho
    exact ⟨(hk.cell (by rw [block_of_add]; exact hb)).trans d.1, (hk.cell (by dsimp only; rw [block_of_add]; exact hb)).trans d.2⟩⟩
theorem PKeys.at_ {w : World} {B n k : Nat} {A : Option Addr} {l : List (Int × Int)} (h : PKeys w B A n l) (hk : k < n) : ∃ ad x, A = some ad ∧ ad.block < B ∧ w.cell? (ad.add (k * 2)) = some (.int .i64 (x : Int × Int).1) ∧ w.cell? ⟨(ad.add (k * 2)).block, (ad.add (k * 2)).off + 1, none⟩ = some (.int .i64 x.2) := by
  obtain ⟨ad, e, hb, hc⟩ := h.2 (by omega)
  have := hc k _ (List.getElem?_eq_getElem (by rw [h.1]; exact hk))
  exact ⟨ad, l[k]'(by rw [h.1]; exact hk), e, hb, this.1, this.2⟩
section
variable {H : Type} {enc : TypeId × Value → H} {W : World} {base : Nat}
set_option maxRecDepth 100000 in
/-- A list of keys, opened. -/
theorem open_keys {v : Value} {d : DataW H} {p : List MemPlace} (hval : Value.okWide Try.prog W .any base 33 v)
    (h : DataW.Trod enc Try.prog W 0 (fun _ => true) true 33 v d p) : ∃ A n c l, v = .slice A n c ∧ PKeys W W.heap.size A n l ∧ n ≤ 9223372036854775807 := by
  obtain ⟨a0, len, cap, rfl⟩ := okWide_slice Try.underlying33 hval
  obtain ⟨fuel, hf⟩ := h
  have hC : Try.prog.cellsOf 29 = 2 := by kernel_rfl
  rcases open_slice Try.underlying33 hf with ⟨hcs, hx⟩ | ⟨a, len', cap', m, n, D, Pl, hcs, _, hl, hm, hmm, hx, hi⟩
  · simp [Value.cells] at hcs
    obtain ⟨rfl, rfl, rfl⟩ := hcs
    exact ⟨none, 0, 0, [], rfl, ⟨rfl, (fun h => by omega)⟩, by omega⟩
  · simp [Value.cells] at hcs
    obtain ⟨rfl, rfl, rfl⟩ := hcs
    simp only [if_true] at hmm
    subst hmm
    have hmx : len ≤ 9223372036854775807 := by unfold maxLen at hm; omega
    have hall : ∀ i, i < len → ∃ x : Int × Int, W.cell? (a.add (i * 2)) = some (.int .i64 x.1) ∧ W.cell? ⟨(a.add (i * 2)).block, (a.add (i * 2)).off + 1, none⟩ = some (.int .i64 x.2) := by
      intro i hil
      obtain ⟨cs', hc, ht'⟩ := hi i (by omega)
      rw [hC] at hc
      obtain ⟨f, n, _, _, rfl⟩ := key_of_trod ht'
      obtain ⟨_, _, hat⟩ := World.cells?_some hc
      exact ⟨(f, n), hat 0 (by omega), hat 1 (by omega)⟩
    obtain ⟨l, hll, hp⟩ := exists_list len hall
    refine ⟨some a, len, _, l, rfl, ⟨hll, fun h0 => ⟨a, rfl, ?_, fun i o ho => hp i o ho⟩⟩, hmx⟩
    have := lt_of_cell (hp 0 l[0] (List.getElem?_eq_getElem (by omega))).1
    rwa [block_of_add] at this
end

theorem nodup_len {α : Type} [BEq α] [LawfulBEq α] : ∀ {l P : List α}, l.Nodup → (∀ k ∈ l, k ∈ P) → l.length ≤ P.length
  | [], _, _, _ => Nat.zero_le _
  | x :: l, P, h, hs => by
    rw [List.nodup_cons] at h
    have hx := hs x (List.mem_cons_self ..)
    have ih := nodup_len (P := P.erase x) h.2 (fun k hk => (List.mem_erase_of_ne (a := k) (b := x) (fun e => h.1 (by rw [← e]; exact hk))).2 (hs k (List.mem_cons_of_mem _ hk)))
    rw [List.length_erase_of_mem hx] at ih
    have := List.length_pos_of_mem hx
    rw [List.length_cons]
    omega
/-- Of i frames each is pinned once, and no other is: those that are not were never set. -/
structure Half (s : PS) (P : List (Int × Int)) : Prop where
  fr : ∀ v ∈ s.fr, v.dirty = false ∧ (v.pins = 0 ∨ v.t.key ∈ P)
  nd : (s.fr.map (fun v => v.t.key)).Nodup
  pd : P.Nodup
  all : ∀ k ∈ P, ∃ v ∈ s.fr, v.t.key = k ∧ v.pins = 1
theorem Half.start {s : PS} (h : Idle s) : Half s [] := ⟨fun v hv => ⟨(h.fr v hv).2, .inl (h.fr v hv).1⟩, h.nd, List.nodup_nil, fun k hk => by cases hk⟩
/-- Fewer are pinned than there are frames: there is room for one more. -/
theorem Half.free {s : PS} {P : List (Int × Int)} (h : Half s P) (hs : P.length < s.size) : ∃ s1, s.free = some s1 ∧ s1.L = s.L ∧ s1.size = s.size ∧ s1.log = s.log ∧ s1.fr.Sublist s.fr ∧ ∀ v ∈ s.fr, 0 < v.pins → v ∈ s1.fr := by
  unfold PS.free
  split
  · exact ⟨s, rfl, rfl, rfl, rfl, List.Sublist.refl _, fun v hv _ => hv⟩
  · rename_i hlt
    cases ht : takeF (fun v => decide (v.pins = 0)) s.fr with
    | some r =>
      obtain ⟨a, x, b⟩ := r
      obtain ⟨e, hx, ha⟩ := takeF_some ht
      have hd : x.dirty = false := (h.fr x (by rw [e]; simp)).1
      refine ⟨_, rfl, by show (s.wr x).L = s.L; rw [Idle.wr hd], by show (s.wr x).size = s.size; rw [Idle.wr hd], by show (s.wr x).log = s.log; rw [Idle.wr hd], ?_, fun v hv hp => ?_⟩
      · show (a ++ b).Sublist s.fr
        rw [e]
        exact List.Sublist.append (List.Sublist.refl _) (List.Sublist.cons _ (List.Sublist.refl _))
      · show v ∈ a ++ b
        rw [e] at hv
        simp only [List.mem_append, List.mem_cons] at hv ⊢
        rcases hv with hv | rfl | hv
        · exact .inl hv
        · simp only [decide_eq_true_eq] at hx
          omega
        · exact .inr hv
    | none =>
      exfalso
      have hno := takeF_none ht
      have hsub : ∀ k ∈ s.fr.map (fun v => v.t.key), k ∈ P := fun k hk => by
        obtain ⟨v, hv, rfl⟩ := List.mem_map.1 hk
        rcases (h.fr v hv).2 with h0 | h0
        · have := hno v hv
          simp [h0] at this
        · exact h0
      have hle := nodup_len h.nd hsub
      rw [List.length_map] at hle
      omega
section
variable {s : PS} {P : List (Int × Int)} {f n : Int}
/-- One more tile is pinned. -/
theorem Half.pin (h : Half s P) (hs : P.length < s.size) (hk : (f, n) ∉ P) {j : Nat} (hj : idxT f n s.L = some j) : (s.pin f n).1 = 0 ∧ Half (s.pin f n).2 ((f, n) :: P) ∧ (s.pin f n).2.L = s.L ∧ (s.pin f n).2.size = s.size := by
  cases ht : takeF (fun v => v.is f n) s.fr with
  | some r =>
    obtain ⟨a, x, b⟩ := r
    have epin : s.pin f n = (0, { s with fr := a ++ b ++ [{ x with pins := x.pins + 1 }] }) := by unfold PS.pin; rw [ht]
    rw [epin]
    obtain ⟨e, hx, ha⟩ := takeF_some ht
    have hkx : x.t.key = (f, n) := is_key.1 hx
    have hxx := h.fr x (by rw [e]; simp)
    have hx0 : x.pins = 0 := hxx.2.resolve_right (fun hm => hk (hkx ▸ hm))
    have hnd := h.nd
    rw [e, List.map_append, List.map_cons, List.nodup_append] at hnd
    obtain ⟨n1, n2, n3⟩ := hnd
    rw [List.nodup_cons] at n2
    refine ⟨rfl, ⟨fun v hv => ?_, ?_, List.nodup_cons.2 ⟨hk, h.pd⟩, fun k hkm => ?_⟩, rfl, rfl⟩
    · have hv2 : v ∈ a ++ b ++ [{ x with pins := x.pins + 1 }] := hv
      simp only [List.mem_append, List.mem_singleton] at hv2
      rcases hv2 with (hv2 | hv2) | rfl
      · have := h.fr v (by rw [e]; simp [hv2])
        exact ⟨this.1, this.2.imp id (List.mem_cons_of_mem _)⟩
      · have := h.fr v (by rw [e]; simp [hv2])
        exact ⟨this.1, this.2.imp id (List.mem_cons_of_mem _)⟩
      · exact ⟨hxx.1, .inr (by show x.t.key ∈ _; rw [hkx]; exact List.mem_cons_self ..)⟩
    · show ((a ++ b ++ [{ x with pins := x.pins + 1 }]).map (fun v : FV => v.t.key)).Nodup
      rw [List.map_append, List.map_append, List.nodup_append, List.nodup_append]
      refine ⟨⟨n1, n2.2, fun u hu v hv => n3 u hu v (List.mem_cons_of_mem _ hv)⟩, by simp, fun u hu v hv => ?_⟩
      simp only [List.map_cons, List.map_nil, List.mem_singleton] at hv
      subst hv
      rcases List.mem_append.1 hu with hu | hu
      · exact n3 u hu _ (List.mem_cons_self ..)
      · exact fun e2 => n2.1 (e2 ▸ hu)
    · rcases List.mem_cons.1 hkm with rfl | hkm
      · exact ⟨{ x with pins := x.pins + 1 }, by simp, hkx, by show x.pins + 1 = 1; omega⟩
      · obtain ⟨v, hv, e1, e2⟩ := h.all k hkm
        refine ⟨v, ?_, e1, e2⟩
        show v ∈ a ++ b ++ [{ x with pins := x.pins + 1 }]
        rw [e] at hv
        simp only [List.mem_append, List.mem_cons] at hv ⊢
        rcases hv with hv | rfl | hv
        · exact .inl (.inl hv)
        · exact absurd e2 (by omega)
        · exact .inl (.inr hv)
  | none =>
    obtain ⟨s1, hf, hL, hsz, hlg, hsub, hkeep⟩ := h.free hs
    have hno := takeF_none ht
    have hi : idxT f n s1.L = some j := by rw [hL]; exact hj
    have epin : s.pin f n = (0, { s1 with log := s1.log ++ [⟨1, n, f⟩], fr := s1.fr ++ [⟨s1.L.getD j ⟨0, 0, 0, []⟩, 1, false, 0⟩] }) := by unfold PS.pin; rw [ht]; simp only [hf, hi]
    rw [epin]
    obtain ⟨u, hu, hku, _⟩ := idxT_some hi
    have hug : s1.L.getD j ⟨0, 0, 0, []⟩ = u := by rw [List.getD_eq_getElem?_getD, hu]; rfl
    rw [hug]
    have hkk : u.key = (f, n) := is_key.1 hku
    refine ⟨rfl, ⟨fun v hv => ?_, ?_, List.nodup_cons.2 ⟨hk, h.pd⟩, fun k hkm => ?_⟩, hL, hsz⟩
    · have hv2 : v ∈ s1.fr ++ [⟨u, 1, false, 0⟩] := hv
      simp only [List.mem_append, List.mem_singleton] at hv2
      rcases hv2 with hv2 | rfl
      · have := h.fr v (hsub.subset hv2)
        exact ⟨this.1, this.2.imp id (List.mem_cons_of_mem _)⟩
      · exact ⟨rfl, .inr (by show u.key ∈ _; rw [hkk]; exact List.mem_cons_self ..)⟩
    · show ((s1.fr ++ [FV.mk u 1 false 0]).map (fun v : FV => v.t.key)).Nodup
      rw [List.map_append, List.nodup_append]
      refine ⟨h.nd.sublist (hsub.map _), by simp, fun x hx v hv e2 => ?_⟩
      simp only [List.map_cons, List.map_nil, List.mem_singleton] at hv
      subst hv
      obtain ⟨y, hy, rfl⟩ := List.mem_map.1 hx
      have h1 := hno y (hsub.subset hy)
      have h2 : y.is f n = true := is_key.2 (e2.trans hkk)
      rw [h1] at h2
      cases h2
    · rcases List.mem_cons.1 hkm with rfl | hkm
      · exact ⟨FV.mk u 1 false 0, by simp, hkk, rfl⟩
      · obtain ⟨v, hv, e1, e2⟩ := h.all k hkm
        exact ⟨v, List.mem_append_left _ (hkeep v hv (by omega)), e1, e2⟩
/-- All frames are pinned: another tile has no room. -/
theorem Half.full (h : Half s P) (hs : s.size ≤ P.length) (hr : s.fr.length ≤ s.size) (hk : (f, n) ∉ P) : s.pin f n = (101, s) ∧ s.fr.length = s.size ∧ s.pins = s.size := by
  have hle : P.length ≤ (s.fr.map (fun v => v.t.key)).length := nodup_len h.pd (fun k hk => by
    obtain ⟨v, hv, e, _⟩ := h.all k hk
    exact List.mem_map.2 ⟨v, hv, e⟩)
  rw [List.length_map] at hle
  have hlen : s.fr.length = s.size := by omega
  have hone : ∀ v ∈ s.fr, v.pins = 1 ∧ v.t.key ∈ P := by
    intro v hv
    have hmem : ∀ k ∈ s.fr.map (fun v => v.t.key), k ∈ P := by
      intro k hk2
      refine Classical.byContradiction fun hn => ?_
      have h1 : ∀ k' ∈ P, k' ∈ (s.fr.map (fun v => v.t.key)).erase k := fun k' hk' => by
        obtain ⟨v, hv, e, _⟩ := h.all k' hk'
        exact (List.mem_erase_of_ne (a := k') (b := k) (fun e2 => hn (by rw [← e2]; exact hk'))).2 (List.mem_map.2 ⟨v, hv, e⟩)
      have h2 := nodup_len h.pd h1
      rw [List.length_erase_of_mem hk2, List.length_map] at h2
      have := List.length_pos_of_mem hk2
      rw [List.length_map] at this
      omega
    have hkP := hmem v.t.key (List.mem_map.2 ⟨v, hv, rfl⟩)
    obtain ⟨v2, hv2, e, hp⟩ := h.all _ hkP
    have : v2 = v := by
      obtain ⟨i, hi, e1⟩ := List.mem_iff_getElem.1 hv
      obtain ⟨i2, hi2, e2⟩ := List.mem_iff_getElem.1 hv2
      have hnd := h.nd
      have h3 := (List.getElem_inj (xs := s.fr.map (fun v => v.t.key)) (i := i2) (j := i) (h₀ := by simpa using hi2) (h₁ := by simpa using hi) hnd).1 (by simp [e1, e2, e])
      subst h3
      rw [← e1, ← e2]
    subst this
    exact ⟨hp, hkP⟩
  refine ⟨?_, hlen, ?_⟩
  · have h1 : takeF (fun v => v.is f n) s.fr = none := takeF_no (fun v hv => by
      cases hc : v.is f n with
      | false => rfl
      | true => exact absurd ((is_key.1 hc) ▸ (hone v hv).2) hk)
    have h2 : takeF (fun v => decide (v.pins = 0)) s.fr = none := takeF_no (fun v hv => by simp [(hone v hv).1])
    have hfree : s.free = none := by
      unfold PS.free
      rw [if_neg (by omega), h2]
    unfold PS.pin
    rw [h1]
    simp only [hfree]
  · rw [← hlen]
    unfold PS.pins
    have h3 : s.fr.map (·.pins) = s.fr.map (fun _ => 1) := List.map_congr_left (fun v hv => (hone v hv).1)
    rw [h3, List.map_const', List.sum_replicate_nat]
    simp
end
end Go.Proofs.Ytlmdijijlbmddaa.pool

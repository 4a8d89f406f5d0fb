/-
  Layer 16 (fold), its laws: the inner product of a row and a column.
-/
import Derived.Test.YtkabdkblcgklmaaFoCol
namespace Go.Proofs.Ytkabdkblcgklmaa.foldTimes
open Go.RowKit Go.Proofs.Ytkabdkblcgklmaa.arr Go.Proofs.Ytkabdkblcgklmaa.sc Go.Proofs.Ytkabdkblcgklmaa.fo

theorem one_reads {W : World} {g : Nat} {L : Int} (h : Blk W g 3 #[.int .i64 L]) : Reads W W.heap.size 1 (some ⟨g, 0, none⟩) 1 ([L].map iv) := by
  refine ⟨rfl, fun _ => ⟨_, rfl, h.lt, fun j u hu => ?_⟩⟩
  rw [Addr.add_mid, Nat.zero_add, h.cell j]
  rcases j with _ | j
  · exact hu
  · simp at hu
theorem getD_inR {l : List Int} (h : ∀ z ∈ l, InR z) (i : Nat) : InR (l.getD i 0) := by
  rw [List.getD_eq_getElem?_getD]
  cases e : l[i]? with
  | none => show InR 0; unfold InR; omega
  | some y => exact h y (List.mem_of_getElem? e)
theorem inGV_in {f g ka kb : Int} {la lb : List Int} (ha : ∀ z ∈ la, InR z) (hb : ∀ z ∈ lb, InR z) (L M n : Nat) : InR (inGV f g ka kb la lb L M n) := by
  unfold inGV
  split
  · show InR 0
    unfold InR
    omega
  · refine rowV_in (fun x hx => ?_)
    unfold apL at hx
    rw [List.mem_map] at hx
    obtain ⟨i, _, rfl⟩ := hx
    exact mixV_in (getD_inR ha _) (getD_inR hb _)
theorem times_call {f g : Int} {a b : AV} {R L M k m : Nat} (hT : TwoOk f g a b R L M) (hk : k < R) (hm : m < M) (W : World) (S A : Option Addr) (gx gs c c1 B : Nat) (hx : Blk W gx 3 #[.int .i64 (L : Int)]) (hs : Blk W gs 3 #[.int .i64 (L : Int)])
    (hrx : Reads W W.heap.size 1 S L (((a.el.drop (k * L)).take L).map iv)) (hlx : L ≤ c1) (hnx : S = none → c1 = 0) (hA : ∀ z ∈ a.el, InR z) (hB : ∀ z ∈ b.el, InR z) (ho : W.ownsRow B 2 1 (.slice A L c) L ((apL (fun j => b.el.getD (j * M + m) 0) L).map iv)) :
    Calls Try.prog 42 #[.int .i64 f, .int .i64 g, .agg #[.int .i64 a.kind, .slice (some ⟨gx, 0, none⟩) 1 1, .slice S L c1], .agg #[.int .i64 b.kind, .slice (some ⟨gs, 0, none⟩) 1 1, .slice A L c]] W fun e w' => ∃ r : AP, e = .returned (.tuple #[.agg #[.int .i64 1, .slice r.A0 0 r.c0, .slice r.A1 1 r.c1], .int .i64 0]) ∧ AEl w' ⟨1, [], [inGV f g a.kind b.kind a.el b.el L M (k * M + m)]⟩ r ∧ Below W.heap.size W w' := by
  have hl := hT.l4
  obtain ⟨o1, l1, _⟩ := row_ok hT hk
  obtain ⟨o2, l2, _⟩ := col_ok hT hm
  have e1 : AEl W (rowA a L k) ⟨some ⟨gx, 0, none⟩, 1, S, c1⟩ := ⟨one_reads hx, by rw [l1]; exact hrx, by show 1 ≤ _; omega, by rw [l1]; omega, fun z hz => hA z (List.mem_of_mem_drop (List.mem_of_mem_take hz))⟩
  have e2 : AEl W (colB b L M m) ⟨some ⟨gs, 0, none⟩, 1, A, c⟩ := ⟨one_reads hs, by rw [l2]; exact Reads.of_own ho, by show 1 ≤ _; omega, by rw [l2]; omega, fun z hz => by
    have hz2 : z ∈ apL (fun j => b.el.getD (j * M + m) 0) L := hz
    unfold apL at hz2
    obtain ⟨i, _, rfl⟩ := List.mem_map.1 hz2
    exact getD_inR hB _⟩
  have c3 : Cap2 (rowA a L k) ⟨some ⟨gx, 0, none⟩, 1, S, c1⟩ := ⟨Nat.le_refl _, by rw [l1]; exact hlx, (fun h => by cases h), hnx⟩
  have c4 : Cap2 (colB b L M m) ⟨some ⟨gs, 0, none⟩, 1, A, c⟩ := ⟨Nat.le_refl _, by rw [l2]; exact (own_cap ho).1, (fun h => by cases h), (own_cap ho).2⟩
  have h := foinner_any f g (rowA a L k) (colB b L M m) ⟨some ⟨gx, 0, none⟩, 1, S, c1⟩ ⟨some ⟨gs, 0, none⟩, 1, A, c⟩ W e1 e2 c3 c4 (Nat.zero_lt_one) (Nat.zero_lt_one)
  obtain ⟨t1, t2⟩ := times_is hT hk hm
  rw [t1, t2] at h
  unfold arC at h
  rw [l1, l2] at h
  refine h.mono ?_
  rintro e w' ⟨r, rfl, o, bb⟩
  exact ⟨r, rfl, o.el (by show 0 ≤ _; omega) (by show 1 ≤ _; omega) (fun z hz => by
    rw [List.mem_singleton] at hz
    subst hz
    exact inGV_in hA hB _ _ _), bb⟩
end Go.Proofs.Ytkabdkblcgklmaa.foldTimes

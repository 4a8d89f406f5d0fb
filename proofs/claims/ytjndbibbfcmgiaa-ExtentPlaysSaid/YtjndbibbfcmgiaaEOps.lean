/-
  Calls of a space as layer 4's statements take them: how they lie in memory; a space of 300 sectors behind calls.
-/
import Derived.Test.YtjndbibbfcmgiaaELaw
namespace Go.Proofs.Ytjndbibbfcmgiaa
open Go.RowKit

/-- A call: its kind, its extent. -/
structure EOp where
  kind : Int
  at_ : Int
  n : Int
def EOp.Fine (o : EOp) : Prop := -9223372036854775808 ≤ o.n ∧ o.n ≤ 9223372036854775807
/-- The three cells of a call at ad. -/
structure ECells (W : World) (ad : Addr) (o : EOp) : Prop where
  kind : W.cell? ad = some (.int .i64 o.kind)
  at_ : W.cell? ⟨ad.block, ad.off + 1, none⟩ = some (.int .i64 o.at_)
  n : W.cell? ⟨ad.block, ad.off + 2, none⟩ = some (.int .i64 o.n)
/-- The slice of length n at A holds the calls. -/
def EOps (W : World) (B : Nat) (A : Option Addr) (n : Nat) (l : List EOp) : Prop :=
  l.length = n ∧ (∀ o ∈ l, o.Fine) ∧ (0 < n → ∃ ad, A = some ad ∧ ad.block < B ∧ ∀ i o, l[i]? = some o → ECells W (ad.add (i * 3)) o)
theorem EOps.below {w w' : World} {B n : Nat} {A : Option Addr} {l : List EOp} (h : EOps w B A n l) (hk : Below B w w') : EOps w' B A n l :=
  ⟨h.1, h.2.1, fun h0 => by
    obtain ⟨ad, e, hb, hc⟩ := h.2.2 h0
    refine ⟨ad, e, hb, fun i o ho => ?_⟩
    have d := hc i o ho
    have same : ∀ j, w'.cell? ⟨(ad.add (i * 3)).block, (ad.add (i * 3)).off + j, none⟩ = w.cell? ⟨(ad.add (i * 3)).block, (ad.add (i * 3)).off + j, none⟩ := fun j => hk.cell (by dsimp only; rw [block_of_add]; exact hb)
    have same0 : w'.cell? (ad.add (i * 3)) = w.cell? (ad.add (i * 3)) := hk.cell (by rw [block_of_add]; exact hb)
    exact ⟨same0.trans d.kind, (same 1).trans d.at_, (same 2).trans d.n⟩⟩
theorem EOps.more {w : World} {B B' n : Nat} {A : Option Addr} {l : List EOp} (h : EOps w B A n l) (hB : B ≤ B') : EOps w B' A n l :=
  ⟨h.1, h.2.1, fun h0 => by
    obtain ⟨ad, e, hb, hc⟩ := h.2.2 h0
    exact ⟨ad, e, by omega, hc⟩⟩
theorem EOps.at_ {w : World} {B n k : Nat} {A : Option Addr} {l : List EOp} (h : EOps w B A n l) (hk : k < n) : ∃ ad, A = some ad ∧ ad.block < B ∧ ECells w (ad.add (k * 3)) (l[k]'(by rw [h.1]; exact hk)) ∧ (l[k]'(by rw [h.1]; exact hk)).Fine := by
  obtain ⟨ad, e, hb, hc⟩ := h.2.2 (by omega)
  exact ⟨ad, e, hb, hc k _ (List.getElem?_eq_getElem (by rw [h.1]; exact hk)), h.2.1 _ (List.getElem_mem _)⟩
theorem EOps.nil (w : World) (B : Nat) : EOps w B none 0 [] := ⟨rfl, (fun o ho => by cases ho), (fun h => by omega)⟩

/-- A space of the 300 sectors from 5 on. -/
structure Is300 (s : ESt) : Prop where
  f : s.f = 5
  l : s.L.length = 300
theorem Is300.put {s : ESt} (h : Is300 s) (q m : Nat) (v : Bool) : Is300 (s.put q m v) := ⟨h.f, (setR_length ..).trans h.l⟩
theorem Is300.take {s : ESt} (h : Is300 s) (n : Int) : Is300 (takeS s n) := by
  unfold takeS
  split
  · exact h
  · split
    · exact h.put _ _ _
    · exact h
theorem Is300.turn {s : ESt} (h : Is300 s) (a n : Int) (v : Bool) : Is300 (turnS s a n v) := by
  unfold turnS
  split
  · exact h.put _ _ _
  · exact h
theorem Is300.new : Is300 (newE 5 305) := ⟨rfl, List.length_replicate⟩

end Go.Proofs.Ytjndbibbfcmgiaa

/-
  Rows of byte slices: what each of them reads as; blocks told apart by the type of their cells.
-/
import Derived.Test.YtkabdkblcgklmaaInts
namespace Go.Proofs.Ytkabdkblcgklmaa
open Go.RowKit

/-- Block k holds cells of type t. -/
def Typ (w : World) (k : Nat) (t : TypeId) : Prop := ∃ cs fr, w.heap[k]? = some (.cells cs t fr)
theorem Blk.typ {w : World} {g : Nat} {t : TypeId} {cs : Array Value} (h : Blk w g t cs) : Typ w g t := ⟨cs, (0, 0), h⟩
theorem Typ.ne {w : World} {k : Nat} {t t' : TypeId} (h : Typ w k t) (h' : Typ w k t') : t = t' := by
  obtain ⟨cs, fr, h⟩ := h
  obtain ⟨cs', fr', h'⟩ := h'
  rw [h] at h'
  injection h' with h'
  injection h'
theorem Typ.lt {w : World} {k : Nat} {t : TypeId} (h : Typ w k t) : k < w.heap.size := by
  obtain ⟨cs, fr, h⟩ := h
  exact (Array.getElem?_eq_some_iff.1 h).1
theorem Typ.keep {w w' : World} {S : Nat → Prop} {k : Nat} {t : TypeId} (h : Typ w k t) (hk : Keep S w w') (hn : ¬ S k) : Typ w' k t := by
  have hlt := h.lt
  obtain ⟨cs, fr, h⟩ := h
  exact ⟨cs, fr, (hk.block k hlt hn).trans h⟩

/-- The slice v reads as the cells xs, and lies in a block of their type. -/
def Head (w : World) (t : TypeId) (xs : List Value) (v : Value) : Prop :=
  ∃ A c, v = .slice A xs.length c ∧ xs.length ≤ c ∧ c ≤ 9223372036854775807 ∧ Reads w w.heap.size 1 A xs.length xs ∧ ∀ ad, A = some ad → Typ w ad.block t

theorem Head.keep {w w' : World} {S : Nat → Prop} {t : TypeId} {xs : List Value} {v : Value} (h : Head w t xs v) (hk : Keep S w w') (hS : ∀ k, S k → ¬ Typ w k t) : Head w' t xs v := by
  obtain ⟨A, c, rfl, h1, h2, h3, h4⟩ := h
  have hn : ∀ ad, A = some ad → ¬ S ad.block := fun ad e hs => hS _ hs (h4 ad e)
  exact ⟨A, c, rfl, h1, h2, (h3.keepS hk (Nat.le_refl _) hn).more hk.size, fun ad e => (h4 ad e).keep hk (hn ad e)⟩
theorem Head.nil (w : World) (t : TypeId) : Head w t [] (.slice none 0 0) := ⟨none, 0, rfl, Nat.le_refl _, by omega, Reads.none_, (fun ad e => by cases e)⟩
theorem Head.own {w : World} {base : Nat} {t : TypeId} {A : Option Addr} {n c : Nat} {xs : List Value} (h : w.ownsRow base t 1 (.slice A n c) n xs) : Head w t xs (.slice A n c) := by
  have hl : xs.length = n := by have := h.1; omega
  have hr := Reads.of_own h
  rcases h.2 with ⟨e, h0⟩ | ⟨g, cap, cur, e, _, hh, hc, hm, _⟩
  · injection e with e1 e2 e3
    subst e1 e2 e3
    have : xs = [] := List.eq_nil_of_length_eq_zero hl
    subst this
    exact Head.nil w t
  · injection e with e1 e2 e3
    subst e1 e3
    subst hl
    exact ⟨_, _, rfl, hc, by unfold maxLen at hm; omega, hr, fun ad e => by injection e with e; subst e; exact ⟨cur, (0, 0), hh⟩⟩

/-- Each of the slices reads as its bytes. -/
def Heads (w : World) (ls : List (List UInt8)) (vs : List Value) : Prop :=
  vs.length = ls.length ∧ ∀ (i : Nat) (l : List UInt8), ls[i]? = some l → ∃ v, vs[i]? = some v ∧ Head w 5 (l.map bv) v

theorem Heads.keep {w w' : World} {S : Nat → Prop} {ls : List (List UInt8)} {vs : List Value} (h : Heads w ls vs) (hk : Keep S w w') (hS : ∀ k, S k → ¬ Typ w k 5) : Heads w' ls vs :=
  ⟨h.1, fun i l hl => by
    obtain ⟨v, hv, hh⟩ := h.2 i l hl
    exact ⟨v, hv, hh.keep hk hS⟩⟩
theorem Heads.set_ {w : World} {ls : List (List UInt8)} {vs : List Value} (h : Heads w ls vs) (i : Nat) {l : List UInt8} {v : Value} (hv : Head w 5 (l.map bv) v) : Heads w (ls.set i l) (vs.set i v) := by
  refine ⟨by rw [List.length_set, List.length_set]; exact h.1, fun j m hm => ?_⟩
  by_cases hij : i = j
  · subst hij
    have hlt : i < ls.length := by
      have := (List.getElem?_eq_some_iff.1 hm).1
      rwa [List.length_set] at this
    rw [List.getElem?_set_self hlt] at hm
    injection hm with hm
    subst hm
    exact ⟨v, List.getElem?_set_self (by rw [h.1]; exact hlt), hv⟩
  · rw [List.getElem?_set_ne hij] at hm
    obtain ⟨u, hu, hh⟩ := h.2 j m hm
    exact ⟨u, by rw [List.getElem?_set_ne hij]; exact hu, hh⟩

theorem own_at {w : World} {base e g n c j : Nat} {xs : List Value} {v : Value} (h : w.ownsRow base e 1 (.slice (some ⟨g, 0, none⟩) n c) n xs) (hv : xs[j]? = some v) : w.cell? ⟨g, j, none⟩ = some v ∧ w.frozen? ⟨g, j, none⟩ = false := by
  have hc := h.cells (g := g) rfl j v hv
  have hp : (⟨g, 0, none⟩ : Addr).add j = ⟨g, j, none⟩ := by unfold Addr.add; split <;> simp_all
  rw [hp] at hc
  refine ⟨hc, ?_⟩
  rcases h.2 with ⟨e1, _⟩ | ⟨g', cap, cur, e1, _, hh, _⟩
  · cases e1
  · injection e1 with e1
    injection e1 with e1
    injection e1 with e1 _ _
    subst e1
    exact (show Blk w g e cur from hh).frozen j
theorem own_put {w : World} {base e g n c j : Nat} {xs : List Value} (h : w.ownsRow base e 1 (.slice (some ⟨g, 0, none⟩) n c) n xs) (u : Value) : (w.setCell ⟨g, j, none⟩ u).ownsRow base e 1 (.slice (some ⟨g, 0, none⟩) n c) n (xs.set j u) := by
  refine ⟨by rw [List.length_set]; exact h.1, ?_⟩
  rcases h.2 with ⟨e1, _⟩ | ⟨g1, cap, cur, e1, hb, hh, hc, hm, hs, ht⟩
  · cases e1
  · have e2 := e1
    injection e2 with e2 _ e3
    injection e2 with e2
    injection e2 with e2 _ _
    subst e2 e3
    refine .inr ⟨g, c, cur.setIfInBounds j u, rfl, hb, (show Blk w g e cur from hh).set_ j u, hc, hm, by simpa using hs, ?_⟩
    rw [Array.toList_setIfInBounds, ← ht, Nat.mul_one, List.take_set]
theorem own_typ {w : World} {base e g n c : Nat} {xs : List Value} (h : w.ownsRow base e 1 (.slice (some ⟨g, 0, none⟩) n c) n xs) : Typ w g e := by
  rcases h.2 with ⟨e1, _⟩ | ⟨g', cap, cur, e1, _, hh, _⟩
  · cases e1
  · injection e1 with e1
    injection e1 with e1
    injection e1 with e1 _ _
    subst e1
    exact ⟨cur, (0, 0), hh⟩

end Go.Proofs.Ytkabdkblcgklmaa

/-
  Layer 9: what NoteLogs needs of memory: rows that lie apart and are written to.
-/
import Derived.Test.YtdjneiboeehclaaNtMore
import Derived.Test.YtdjneiboeehclaaNtRefDn
import Derived.Test.YtdjneiboeehclaaNtRefL
namespace Go.Proofs.Ytdjneiboeehclaa.noteLogs
open Go.RowKit Go.Proofs.Ytdjneiboeehclaa.crc Go.Proofs.Ytdjneiboeehclaa.root Go.Proofs.Ytdjneiboeehclaa.note

def Sep (vs : List Value) : Prop := ∀ (i j : Nat) (u v : Value), i < j → vs[i]? = some u → vs[j]? = some v → ∀ g, u.ownBlock = some g → v.ownBlock ≠ some g
theorem Sep.nil : Sep [] := fun i j u v _ h => by simp at h
theorem Sep.snoc {vs : List Value} {u : Value} {B : Nat} (h : Sep vs) (hv : ∀ v ∈ vs, ∀ g, v.ownBlock = some g → g < B) (hu : ∀ g, u.ownBlock = some g → B ≤ g) : Sep (vs ++ [u]) := by
  intro i j a b hij ha hb g hg
  have hj : j < (vs ++ [u]).length := (List.getElem?_eq_some_iff.1 hb).1
  rw [List.length_append, List.length_cons, List.length_nil] at hj
  rw [List.getElem?_append_left (by omega)] at ha
  by_cases h1 : j < vs.length
  · rw [List.getElem?_append_left h1] at hb
    exact h i j a b hij ha hb g hg
  · rw [List.getElem?_append_right (by omega)] at hb
    have h0 : j - vs.length = 0 := by omega
    rw [h0] at hb
    injection hb with hb
    subst hb
    intro e
    have := hv a (List.mem_of_getElem? ha) g hg
    have := hu g e
    omega
theorem Grows.lt {w0 w : World} {ls : List (List UInt8)} {n : Nat} {v : Value} {vs : List Value} (h : Grows w0 w ls n v vs) : ∀ u ∈ vs, ∀ g, u.ownBlock = some g → w0.heap.size ≤ g ∧ g < w.heap.size ∧ Typ w g 5 := by
  intro u hu g hg
  obtain ⟨i, hi⟩ := List.getElem?_of_mem hu
  have hil := (List.getElem?_eq_some_iff.1 hi).1
  have hl := h.owns.1
  obtain ⟨B, d, e1, e2⟩ := h.owns.2 i (ls[i]'(by omega)) (List.getElem?_eq_getElem (by omega))
  rw [e1] at hi
  injection hi with hi
  subst hi
  obtain ⟨h1, h2, cur, h3⟩ := own_is e2 g hg
  exact ⟨h1, h2, h3.typ⟩
theorem own_emptyU (w : World) : (w.alloc (.cells #[] 5)).ownsRow w.heap.size 5 1 (.slice (some ⟨w.heap.size, 0, none⟩) 0 0) 0 (([] : List UInt8).map bv) := World.ownsRow_made w #[] 0 (Nat.le_refl _) (Nat.zero_le _) rfl
theorem own_atS {w : World} {base e g n c j s : Nat} {xs : List Value} {v : Value} (h : w.ownsRow base e s (.slice (some ⟨g, 0, none⟩) n c) n xs) (hv : xs[j]? = some v) : w.cell? ⟨g, j, none⟩ = some v ∧ w.frozen? ⟨g, j, none⟩ = false := by
  have hc := h.cells (g := g) rfl j v hv
  have hp : (⟨g, 0, none⟩ : Addr).add j = ⟨g, j, none⟩ := by unfold Addr.add; split <;> simp_all
  rw [hp] at hc
  refine ⟨hc, ?_⟩
  rcases h.2 with ⟨e1, _⟩ | ⟨g', cap, cur, e1, _, hh, _⟩
  · cases e1
  · injection e1 with e1
    injection e1 with e1
    injection e1 with e1 _ _
    subst e1
    exact (show Blk w g e cur from hh).frozen j
theorem own_putS {w : World} {base e g n c j s : Nat} {xs : List Value} (h : w.ownsRow base e s (.slice (some ⟨g, 0, none⟩) n c) n xs) (u : Value) : (w.setCell ⟨g, j, none⟩ u).ownsRow base e s (.slice (some ⟨g, 0, none⟩) n c) n (xs.set j u) := by
  refine ⟨by rw [List.length_set]; exact h.1, ?_⟩
  rcases h.2 with ⟨e1, _⟩ | ⟨g1, cap, cur, e1, hb, hh, hc, hm, hs, ht⟩
  · cases e1
  · have e2 := e1
    injection e2 with e2 _ e3
    injection e2 with e2
    injection e2 with e2 _ _
    subst e2 e3
    refine .inr ⟨g, c, cur.setIfInBounds j u, rfl, hb, (show Blk w g e cur from hh).set_ j u, hc, hm, by simpa using hs, ?_⟩
    rw [Array.toList_setIfInBounds, ← ht, List.take_set]
theorem own_some {w : World} {base e s n c : Nat} {A : Option Addr} {xs : List Value} (h : w.ownsRow base e s (.slice A n c) n xs) (hn : 0 < n) : ∃ g, A = some ⟨g, 0, none⟩ := by
  rcases h.2 with ⟨e1, h0⟩ | ⟨g, cap, cur, e1, _⟩
  · exfalso
    rw [h0] at h
    have := h.1
    simp at this
    omega
  · injection e1 with e1
    exact ⟨g, e1⟩

/-- The blocks of rows. -/
def SB (vs : List Value) (g : Nat) : Prop := ∃ u ∈ vs, u.ownBlock = some g
/-- The rows from the j-th one on are as they were. -/
def OL (base : Nat) (W : World) (ls : List (List UInt8)) (vs : List Value) (j : Nat) : Prop := ∀ (i : Nat) (p : List UInt8), j ≤ i → ls[i]? = some p → ∃ B d, vs[i]? = some (.slice B p.length d) ∧ W.ownsRow base 5 1 (.slice B p.length d) p.length (p.map bv)
theorem OL.keep {base : Nat} {W W' : World} {ls : List (List UInt8)} {vs : List Value} {j : Nat} {S : Nat → Prop} (h : OL base W ls vs j) (hk : Keep S W W') (hS : ∀ i u g, j ≤ i → vs[i]? = some u → u.ownBlock = some g → ¬ S g) : OL base W' ls vs j := fun i p hij hp => by
  obtain ⟨B, d, h1, h2⟩ := h i p hij hp
  exact ⟨B, d, h1, hk.own h2 (fun g hg => hS i _ g hij h1 hg)⟩
theorem OL.succ {base : Nat} {W : World} {ls : List (List UInt8)} {vs : List Value} {j : Nat} (h : OL base W ls vs j) : OL base W ls vs (j + 1) := fun i p hij hp => h i p (by omega) hp
theorem OL.of {w0 w : World} {ls : List (List UInt8)} {n : Nat} {v : Value} {vs : List Value} (h : Grows w0 w ls n v vs) : OL w0.heap.size w ls vs 0 := fun i p _ hp => by
  obtain ⟨B, d, h1, h2⟩ := h.owns.2 i p hp
  exact ⟨B, d, h1, h2⟩
/-- The j-th row, its first k bytes turned. -/
def RowK (base : Nat) (W : World) (B : Option Addr) (m d : Nat) (p : List UInt8) (k : Nat) : Prop := ∃ xs, W.ownsRow base 5 1 (.slice B m d) m xs ∧ ∀ q, k ≤ q → xs[q]? = (p.map bv)[q]?
theorem RowK.store {base k m d g : Nat} {W : World} {p : List UInt8} (h : RowK base W (some ⟨g, 0, none⟩) m d p k) (u : Value) : RowK base (W.setCell ⟨g, k, none⟩ u) (some ⟨g, 0, none⟩) m d p (k + 1) := by
  obtain ⟨xs, h1, h2⟩ := h
  exact ⟨_, own_putS h1 u, fun q hq => by rw [List.getElem?_set_ne (by omega)]; exact h2 q (by omega)⟩
theorem RowK.drew {base k m d : Nat} {W : World} {B : Option Addr} {p : List UInt8} (h : RowK base W B m d p k) : RowK base W.drew B m d p k := h
end Go.Proofs.Ytdjneiboeehclaa.noteLogs

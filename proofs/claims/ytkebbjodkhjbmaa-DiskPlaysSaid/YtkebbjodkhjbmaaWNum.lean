/-
  The Writer's Num, whole: an error and nothing written, or the number's bytes behind what was written.
-/
import Derived.Test.YtkebbjodkhjbmaaNum
import Derived.WalkMore
namespace Go.Proofs.Ytkebbjodkhjbmaa
open Go.RowKit

/-- The room of eight bytes, k rounds over. -/
def roomArr (size n k : Nat) : Array Value := ((List.range 8).map fun i => if size ≤ i + k ∧ i < size then bv (lowByte n (size - 1 - i)) else .int .u8 0).toArray

theorem roomArr_zero (size n : Nat) : roomArr size n 0 = #[.int .u8 0, .int .u8 0, .int .u8 0, .int .u8 0, .int .u8 0, .int .u8 0, .int .u8 0, .int .u8 0] := by
  have h : ∀ i, ¬ (size ≤ i + 0 ∧ i < size) := fun i => by omega
  unfold roomArr
  simp only [if_neg (h _)]
  rfl

theorem roomArr_step (size n k r : Nat) (h : r + 1 + k = size) (h8 : size ≤ 8) : (roomArr size n k).setIfInBounds r (bv (lowByte n k)) = roomArr size n (k + 1) := by
  apply Array.ext
  · simp [roomArr]
  · intro i h1 h2
    have hi : i < 8 := by simpa [roomArr] using h2
    rw [Array.getElem_setIfInBounds (by simpa [roomArr] using hi)]
    simp only [roomArr, List.getElem_toArray, List.getElem_map, List.getElem_range]
    by_cases e : r = i
    · subst e
      rw [if_pos rfl, if_pos ⟨by omega, by omega⟩]
      congr 2
      omega
    · rw [if_neg e]
      by_cases g : size ≤ i + k ∧ i < size
      · rw [if_pos g, if_pos ⟨by omega, g.2⟩]
      · rw [if_neg g, if_neg (by omega)]

theorem blk_own {W W' : World} {B g : Nat} {t : TypeId} {cs : Array Value} {row : Option Nat} (h : Blk W g t cs) (hg : W.grownBy W' row) (hr : ∀ r, row = some r → B ≤ r ∧ ∃ o : Obj, W.heap[r]? = some o ∧ o.isCells = false) : Blk W' g t cs :=
  h.grown hg (fun e => by
    obtain ⟨_, o, ho, hc⟩ := hr g e.symm
    rw [show W.heap[g]? = _ from h] at ho
    cases ho
    cases hc)

theorem wpIn_scope_wide {n : Nat} {P : Program} {c : Code} {Q : Exit → Act → World → Prop} {a : Act} {w : World} (h : c.wpIn Fence.wide n P (Exit.noGoto Q) a w) : (Code.scope c).wpIn Fence.wide n P Q a w :=
  wpIn_wide.2 (wp_scope_straight (wpIn_wide.1 h))

theorem sized_of {size : Nat} (hs : size = 1 ∨ size = 2 ∨ size = 4 ∨ size = 8) : sized (size : Int) = true := by
  unfold sized
  rcases hs with rfl | rfl | rfl | rfl <;> rfl

section
attribute [local go_sem] Oper.semAt_some
end
end Go.Proofs.Ytkebbjodkhjbmaa

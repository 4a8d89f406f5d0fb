/-
  Layer 11 (array): the texts of numbers, and of lists of them.
-/
import Derived.Test.YtkabdkblcgklmaaArTextF
import Derived.Test.YtkabdkblcgklmaaArDoor
import Derived.Test.YtkabdkblcgklmaaArLook
import Derived.Test.YtkabdkblcgklmaaPut
import Derived.Test.YtkabdkblcgklmaaShelfA
import Derived.Lib.AppendIntMem
import Derived.Deep.MidRow
namespace Go.Proofs.Ytkabdkblcgklmaa.arr
open Go.RowKit

theorem arown_stay {w w1 : World} {base e size n B : Nat} {v : Value} {xs : List Value} (h : w.ownsRow base e size v n xs) (hb : Below B w w1) (hB : ∀ g, v.ownBlock = some g → g < B) : w1.ownsRow base e size v n xs := by
  refine ⟨h.1, ?_⟩
  rcases h.2 with hv | ⟨g, cap, cur, rfl, h0, hh, h1, h2, h3, h4⟩
  · exact .inl hv
  · exact .inr ⟨g, cap, cur, rfl, h0, (hb.block g (hB g (by simp [Value.ownBlock]))).trans hh, h1, h2, h3, h4⟩
theorem arown_lt {w : World} {base e size n : Nat} {v : Value} {xs : List Value} (h : w.ownsRow base e size v n xs) : ∀ g, v.ownBlock = some g → base ≤ g ∧ g < w.heap.size := by
  intro g hg
  rcases h.2 with ⟨rfl, _⟩ | ⟨g', cap, cur, rfl, h0, hh, _⟩
  · simp [Value.ownBlock] at hg
  · simp [Value.ownBlock] at hg
    subst hg
    exact ⟨h0, (Array.getElem?_eq_some_iff.1 hh).1⟩

/-- A number's text as a cell. -/
def nv (z : Int) : Value := .string ⟨(numB z).toArray⟩
theorem arInfoStr : (Try.prog.info? 9).map (fun i => (i.zero, i.size, i.bytes)) = some (some (.string ⟨#[]⟩), 1, 16) := by kernel_rfl
end Go.Proofs.Ytkabdkblcgklmaa.arr

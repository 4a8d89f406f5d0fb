/-
  Layer 11 (array): the given At: the index tuple at a position, from its end.
-/
import Derived.Test.YtlmdijijlbmddaaDoorArAt
namespace Go.Proofs.YtlmdijijlbmddaaDoor.arr
open Go.RowKit

theorem arown_one (w : World) (base : Nat) (t : TypeId) (hb : base ≤ w.heap.size) (x : Value) : (w.alloc (.cells #[x] t)).ownsRow base t 1 (.slice (some ⟨w.heap.size, 0, none⟩) 1 1) 1 [x] :=
  ⟨rfl, .inr ⟨w.heap.size, 1, #[x], rfl, hb, heap_alloc_new w _, Nat.le_refl _, by unfold maxLen; omega, rfl, rfl⟩⟩

/-- What stands when k axes are left. -/
structure AtI (L : List Nat) (N : Nat) (w wr : World) (k : Nat) (u : Int) (v : Value) : Prop where
  u : u = ((N / prodN (L.drop k) : Nat) : Int)
  b : Below w.heap.size w wr
  o : ∃ A c, v = .slice A (L.length - k) c ∧ wr.ownsRow w.heap.size 3 1 v (L.length - k) ((iL (dig (L.drop k) (N % prodN (L.drop k)))).map iv)

theorem atL_len (l : List Int) (x : Int) : (atL l x).length ≤ 4 := by
  unfold atL
  split
  · rename_i h
    unfold atB at h
    rw [Bool.and_eq_true] at h
    rw [iL_length, dig_length, List.length_map]
    exact (okShape_iff.1 h.1).1
  · simp
end Go.Proofs.YtlmdijijlbmddaaDoor.arr

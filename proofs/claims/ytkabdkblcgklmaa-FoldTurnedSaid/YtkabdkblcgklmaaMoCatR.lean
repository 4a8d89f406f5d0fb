/-
  Layer 13 (mold): extended, agree, CatWay's rule.
  Layer 13 (mold): agree.
  Layer 13 (mold): CatWay's rule.
-/
import Derived.Test.YtkabdkblcgklmaaMoSrc
import Derived.ArgAppend
namespace Go.Proofs.Ytkabdkblcgklmaa.mo
open Go.RowKit Go.Proofs.Ytkabdkblcgklmaa.arr

/-- The shape that an array is held to have beside another one. -/
def exL (sh ot : List Int) : List Int := if sh.length = 0 ∧ 0 < ot.length then ot.take (ot.length - 1) ++ [1] else if sh.length = 0 ∨ sh.length + 1 = ot.length then sh ++ [1] else sh
theorem cells_one (W : World) (t : TypeId) (x : Value) : ∀ j u, ([x] : List Value)[j]? = some u → (W.alloc (.cells #[x] t)).cell? ((⟨W.heap.size, 0, none⟩ : Addr).add j) = some u := fun j u hu => by
  rw [Addr.add_mid, Nat.zero_add, (Blk.new W t _).cell j, List.getElem?_toArray]
  exact hu
def GiveR (l : List Int) (w : World) (e : Ending) (w' : World) : Prop := ∃ A c, e = .returned (.slice A l.length c) ∧ w'.ownsRow w.heap.size 3 1 (.slice A l.length c) l.length (l.map iv) ∧ Below w.heap.size w w'

end Go.Proofs.Ytkabdkblcgklmaa.mo

namespace Go.Proofs.Ytkabdkblcgklmaa.mo
open Go.RowKit Go.Proofs.Ytkabdkblcgklmaa.arr

/-- What stands while lengths are held side by side. -/
structure AgI (w W3 : World) (b : Bool) (W : World) : Prop where
  keep : Keep (fun i => i = w.heap.size) W3 W
  x : Blk W w.heap.size 4 #[.bool b]
theorem AgI.own {w W3 W W' : World} {b : Bool} {row : Option Nat} (h : AgI w W3 b W) (hg : W.grownBy W' row) (hr : ∀ r, row = some r → W3.heap.size ≤ r ∧ ∃ o : Obj, W.heap[r]? = some o ∧ o.isCells = false) : AgI w W3 b W' :=
  ⟨h.keep.grown hg (fun g e hlt => by have := (hr g e).1; omega), mo_blk_turned h.x hg hr⟩
theorem AgI.below {w W3 W W' : World} {b : Bool} (h : AgI w W3 b W) (hb : Below W.heap.size W W') : AgI w W3 b W' :=
  ⟨h.keep.trans (Keep.of_below (S := fun _ => False) hb) (fun _ _ e => e.elim), h.x.below hb h.x.lt⟩
theorem AgI.set {w W3 W : World} {b : Bool} (h : AgI w W3 b W) (b' : Bool) : AgI w W3 b' (W.setCell ⟨w.heap.size, 0, none⟩ (.bool b')) :=
  ⟨h.keep.setCell _ _ (fun _ => rfl), h.x.set_ 0 _⟩

section
attribute [local go_sem] Oper.semAt_some
end
end Go.Proofs.Ytkabdkblcgklmaa.mo

namespace Go.Proofs.Ytkabdkblcgklmaa.mo
open Go.RowKit Go.Proofs.Ytkabdkblcgklmaa.arr

/-- Where the element at n comes from: rows of both, the first one's ahead. -/
def catF (W a b CA CB : Nat) (n : Nat) : Int × Int := if n % W < a then (0, (((n / W * a + n % W) % CA : Nat) : Int)) else (1, (((n / W * b + (n % W - a)) % CB : Nat) : Int))

end Go.Proofs.Ytkabdkblcgklmaa.mo

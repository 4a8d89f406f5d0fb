/-
  Layer 12 (scalar): the statements' own helpers 'is', 'fails', 'alive'; Two and One with their answers named.
-/
import Derived.Test.YtkabdkblcgklmaaScTwo
namespace Go.Proofs.Ytkabdkblcgklmaa.sc
open Go.RowKit

abbrev TwoAt (f x y v e : Int) : Prop := ∀ W, Calls Try.prog 48 #[.int .i64 f, .int .i64 x, .int .i64 y] W fun q w' => q = .returned (.tuple #[.int .i64 v, .int .i64 e]) ∧ Below W.heap.size W w'
theorem two_at {f x y v e : Int} (hx : InR x) (hy : InR y) (hv : twoV f x y = v) (he : twoE f x y = e) : Hid (TwoAt f x y v e) := Lib.hid (fun W => by
  subst hv
  subst he
  exact sctwo_any f x y hx hy W)
end Go.Proofs.Ytkabdkblcgklmaa.sc

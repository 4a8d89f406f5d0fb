/-
  The contract of slices.Reverse at a key, at this program: tables of numbers, and what its body bears.
-/
import Derived.Shelf.SlicesQ.Reverse
import Derived.Test.YtlmdijijlbmddaaProg
namespace Go.Proofs
open Go.Shelf
def Try.reverseK_ren : Go.Shelf.Ren := ⟨fun | 35 => 57 | n => n, fun | 22 => 33 | 23 => 29 | 3 => 3 | 4 => 4 | 0 => 0 | n => n, fun | n => n⟩
theorem Try.reverseK : Go.Proofs.SlLaysE0.n35 Try.prog Try.reverseK_ren := {
  mixed := by kernel_rfl
  f35 := ⟨Try.f57.name, by decide, Try.func57.trans (congrArg some (by kernel_rfl))⟩
  t0 := Try.underlying0
  a0 := Try.isAgg0
  z0 := Try.sizeOf0
  v0 := Try.zeroValue0
  t3 := Try.underlying3
  a3 := Try.isAgg3
  z3 := Try.sizeOf3
  v3 := Try.zeroValue3
  t4 := Try.underlying4
  a4 := Try.isAgg4
  z4 := Try.sizeOf4
  v4 := Try.zeroValue4
  t22 := Try.underlying33
  a22 := Try.isAgg33
  z22 := Try.sizeOf33
  v22 := Try.zeroValue33 }
end Go.Proofs

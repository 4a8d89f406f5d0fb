/-
  The contracts of the library's functions that layer 11 calls, at this program: tables of numbers, and what each body bears.
-/
import Derived.Shelf.Small.Utf8
import Derived.Test.YtkabdkblcgklmaaProg
namespace Go.Proofs
open Go.Shelf
def Try.vrA_ren : Go.Shelf.Ren := ⟨fun | 119 => 184 | n => n, fun | 21 => 21 | 4 => 4 | n => n, fun | n => n⟩
theorem Try.vrA : Go.Proofs.Lays.n119 Try.prog Try.vrA_ren := {
  mixed := by kernel_rfl
  f119 := Try.func184.trans (congrArg some (by kernel_rfl))
  t4 := Try.underlying4
  a4 := Try.isAgg4
  z4 := Try.sizeOf4
  v4 := Try.zeroValue4
  t21 := Try.underlying21
  a21 := Try.isAgg21
  z21 := Try.sizeOf21
  v21 := Try.zeroValue21 }

end Go.Proofs

/-
  The contracts of the library's functions that layer 11 calls, at this program: tables of numbers, and what each body bears.
-/
import Derived.Shelf.Small.Utf8
import Derived.Test.YtkdnaebmifjmcaaDoorProg
namespace Go.Proofs
open Go.Shelf
def Tryd.vrA_ren : Go.Shelf.Ren := ⟨fun | 119 => 96 | n => n, fun | 21 => 21 | 4 => 4 | n => n, fun | n => n⟩
theorem Tryd.vrA : Go.Proofs.Lays.n119 Tryd.prog Tryd.vrA_ren := {
  mixed := by kernel_rfl
  f119 := Tryd.func96.trans (congrArg some (by kernel_rfl))
  t4 := Tryd.underlying4
  a4 := Tryd.isAgg4
  z4 := Tryd.sizeOf4
  v4 := Tryd.zeroValue4
  t21 := Tryd.underlying21
  a21 := Tryd.isAgg21
  z21 := Tryd.sizeOf21
  v21 := Tryd.zeroValue21 }

end Go.Proofs

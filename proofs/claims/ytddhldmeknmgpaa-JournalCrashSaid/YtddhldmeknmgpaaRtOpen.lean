/-
  How the arguments of layer 6's statements open: a root by value.
-/
import Derived.Test.YtddhldmeknmgpaaRtDec
import Derived.Test.YtddhldmeknmgpaaOpen
namespace Go.Proofs.Ytddhldmeknmgpaa.root
open Go.ChangeShapes Go.WideShapes Go.ChangeAt Go.RowKit Go.Deep Go.Proofs.Ytddhldmeknmgpaa.crc

section
variable {H : Type} {enc : TypeId × Value → H} {W : World} {base : Nat} {fuel : Nat}
theorem cellsU32 : Try.prog.cellsOf 66 = 1 := by kernel_rfl
end
end Go.Proofs.Ytddhldmeknmgpaa.root

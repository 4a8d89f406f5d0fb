/-
  The table that FormatInt reads, as the row's condition lays it.
-/
import Derived.Test.YtkabdkblcgklmaaByt
import Derived.LaidMore
import Derived.Stop.Joined
import Derived.Lib.LaidTab
import Derived.Lib.ItoaNum
import Derived.ProofKit
namespace Go.Proofs.Ytkabdkblcgklmaa.arr
open Go.ChangeShapes Go.WideShapes Go.ChangeAt Go.WideMaps Go.WideElems Go.RowKit

abbrev Tab (W : World) : Prop := Lib.TabIs Try.prog W "internal/strconv.uint64pow10" .u64 Lib.pow10Tab
end Go.Proofs.Ytkabdkblcgklmaa.arr

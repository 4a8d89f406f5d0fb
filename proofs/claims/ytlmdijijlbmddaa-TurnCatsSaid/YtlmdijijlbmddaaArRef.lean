/-
  Layer 11 (array): the given Count, Place, Shapes, Ints.
-/
import Derived.Test.YtlmdijijlbmddaaArPlace
import Derived.Test.YtlmdijijlbmddaaPut
namespace Go.Proofs.Ytlmdijijlbmddaa.arr
open Go.RowKit

theorem arInfoInt : (Try.prog.info? 3).map (fun i => (i.zero, i.size, i.bytes)) = some (some (.int .i64 0), 1, 8) := by kernel_rfl
end Go.Proofs.Ytlmdijijlbmddaa.arr

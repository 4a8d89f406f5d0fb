/-
  The Writer's other calls: Int, Raw, Text, Len, Bytes.
-/
import Derived.Test.YtkebbjodkhjbmaaWNum
namespace Go.Proofs.Ytkebbjodkhjbmaa
open Go.RowKit

theorem wrap_u64 (n : Int) : IntKind.u64.wrap n = ((n % 18446744073709551616).toNat : Int) := by
  rw [Int.toNat_of_nonneg (by omega)]
  simp [IntKind.wrap, IntKind.bits, IntKind.signed]

end Go.Proofs.Ytkebbjodkhjbmaa

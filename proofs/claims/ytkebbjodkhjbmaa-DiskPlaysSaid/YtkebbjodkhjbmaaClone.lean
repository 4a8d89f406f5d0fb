/-
  The contract of slices.Clone at bytes.
-/
import Derived.Test.YtkebbjodkhjbmaaByt
namespace Go.Proofs.Ytkebbjodkhjbmaa
open Go.RowKit

theorem u24 : ∀ w, Sem.run Try.prog (underlying 33) w = .ok (TypeDesc.slice 5) w := run_underlying Try.underlying33

theorem q24 : ∀ (w : World) (a : Option Addr) (n c n' c' : Nat), (binOp .eql 33 (.slice a n c) (.slice none n' c')).run Try.prog w = .ok (.bool a.isNone) w := fun w a n c n' c' => Lib.run_eql_slice_nil w _ _ a n c n' c' Try.underlying33

end Go.Proofs.Ytkebbjodkhjbmaa

/-
  The Reader's calls: Read, Num, Int, Raw, Left, End (Text lies in a text of its own).
-/
import Derived.Test.YtkebbjodkhjbmaaRd
import Derived.Test.YtkebbjodkhjbmaaTotal
namespace Go.Proofs.Ytkebbjodkhjbmaa
open Go.RowKit

/-- How many bytes a call takes, its error being e. -/
def taken (e : Int) (k : Nat) : Nat := if e = 0 then k else 0
def rnumErr (size : Int) (l : List UInt8) : Int := if sized size then (if l.length < size.toNat then 10 else 0) else 2
def rrawErr (n : Int) (l : List UInt8) : Int := if n < 0 then 2 else if (l.length : Int) < n then 10 else 0

theorem sized_nat {size : Int} (hs : sized size = true) : ∃ k : Nat, size = k ∧ (k = 1 ∨ k = 2 ∨ k = 4 ∨ k = 8) := by
  unfold sized at hs
  simp at hs
  exact ⟨size.toNat, by omega, by omega⟩

def endErr (l : List UInt8) : Int := if l = [] then 0 else 10
end Go.Proofs.Ytkebbjodkhjbmaa

/-
  The document's own answers for layer 2, the rest: a sum's bytes, what is sealed, what is opened.
-/
import Derived.Test.YtdjneiboeehclaaRef2
import Derived.Test.YtdjneiboeehclaaAny
namespace Go.Proofs.Ytdjneiboeehclaa.crc
open Go.RowKit

/-- A sum's bytes, the highest one first. -/
def four (s : BitVec 32) : List UInt8 := [UInt8.ofNat (s.toNat / 16777216), UInt8.ofNat (s.toNat / 65536 % 256), UInt8.ofNat (s.toNat / 256 % 256), UInt8.ofNat (s.toNat % 256)]

theorem bv_ofNat (n : Nat) (h : n < 256) : bv (UInt8.ofNat n) = .int .u8 (n : Int) := by
  unfold bv
  rw [UInt8.toNat_ofNat', Nat.mod_eq_of_lt (by omega)]

theorem own_of_alloc (w : World) (cells : Array Value) (l : List Value) (n : Nat) (hc : cells = l.toArray) (hn : l.length = n) (hm : n ≤ maxLen) :
    (w.alloc (.cells cells 5)).ownsRow w.heap.size 5 1 (.slice (some ⟨w.heap.size, 0, none⟩) n n) n l := by
  subst hc
  exact ⟨by simpa using hn, .inr ⟨w.heap.size, n, l.toArray, rfl, Nat.le_refl _, heap_alloc_new w _, Nat.le_refl _, hm, by simpa using hn, by simp [← hn]⟩⟩

theorem four_length (s : BitVec 32) : (four s).length = 4 := rfl

/-- Are bytes sealed? -/
def isSealed (l : List UInt8) : Bool := decide (4 ≤ l.length) && (four (sum (bitsB (l.take (l.length - 4)))) == l.drop (l.length - 4))
def openErr (l : List UInt8) : Int := if isSealed l then 0 else 20
def openOut (l : List UInt8) : List UInt8 := if isSealed l then l.take (l.length - 4) else []

end Go.Proofs.Ytdjneiboeehclaa.crc

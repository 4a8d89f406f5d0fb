/-
  The document's own Area and Encode for layer 6.
  The document's own Decode for layer 6.
-/
import Derived.Test.YtdjneiboeehclaaRtDec
import Derived.Test.YtdjneiboeehclaaRefR
import Derived.Test.YtdjneiboeehclaaDone
namespace Go.Proofs.Ytdjneiboeehclaa.root
open Go.RowKit Go.Proofs.Ytdjneiboeehclaa.crc

end Go.Proofs.Ytdjneiboeehclaa.root

namespace Go.Proofs.Ytdjneiboeehclaa.root
open Go.RowKit Go.Proofs.Ytdjneiboeehclaa.crc

/-- The worlds of a drawn region that turns memory twice, one behind the other. -/
def pick3 (W0 W1 W2 : World) (a b : Nat) (dn : Nat → Bool) : World := if dn b = true then W2 else if dn a = true then W1 else W0
theorem pick3_all {W0 W1 W2 : World} {a b : Nat} {P : World → Prop} (h0 : P W0) (h1 : P W1) (h2 : P W2) (dn : Nat → Bool) : P (pick3 W0 W1 W2 a b dn) := by
  unfold pick3
  split
  · exact h2
  · split
    · exact h1
    · exact h0
theorem whole_at (w : World) (A : Option Addr) (c m x : Nat) (l : List UInt8) (hr : Reads w w.heap.size 1 A m (l.map bv)) (hm : l.length = m) (h8 : m ≤ 8) (hx : num l = x) :
    Calls Try.prog 35 #[.slice A m c] w fun e w' => e = .returned (.int .u64 (x : Int)) ∧ w = w' := by
  subst hm hx
  exact whole_any w A c l hr h8

end Go.Proofs.Ytdjneiboeehclaa.root

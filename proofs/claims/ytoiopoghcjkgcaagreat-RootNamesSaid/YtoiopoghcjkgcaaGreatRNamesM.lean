/-
  Layer 6 without any program: the sector of RootNames, and that none of its bytes may be turned.
-/
import Derived.Test.YtoiopoghcjkgcaaGreatRtTorn
namespace Go.Proofs.YtoiopoghcjkgcaaGreat.root
open Go.RowKit Go.Proofs.YtoiopoghcjkgcaaGreat.crc

def rN : RV := ⟨258, 3072, 4294967295⟩
def SN : List UInt8 := sectR rN
def SX (i : Nat) : List UInt8 := SN.set i (SN.getD i 0 ^^^ 1)
set_option maxRecDepth 100000 in
theorem sx_bad : ∀ i : Fin 128, goodR (SX i) = false := by decide +kernel
end Go.Proofs.YtoiopoghcjkgcaaGreat.root

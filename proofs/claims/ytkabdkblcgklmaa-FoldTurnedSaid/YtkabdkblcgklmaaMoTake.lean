/-
  Layer 13 (mold): TakeWay, DropWay, Take, Drop.
-/
import Derived.Test.YtkabdkblcgklmaaMoCut
namespace Go.Proofs.Ytkabdkblcgklmaa.mo
open Go.RowKit Go.Proofs.Ytkabdkblcgklmaa.arr

def ctSh (cf : Int → Int → Sp) (l : AV) (sh : List Int) : List Int := lensI (cutL cf (axL l sh) (sh1 sh))
def ctF (cf : Int → Int → Sp) (l : AV) (sh : List Int) : Nat → Int × Int := srcF (cutL cf (axL l sh) (sh1 sh))
def tkE (l a : AV) : Int := mdE a (cwE takN l a.sh) (ctSh takN l a.sh) (ctF takN l a.sh)
def tkA (l a : AV) : AV := mdA a (cwE takN l a.sh) (ctSh takN l a.sh) (ctF takN l a.sh)
def dpE (l a : AV) : Int := mdE a (cwE droN l a.sh) (ctSh droN l a.sh) (ctF droN l a.sh)
def dpA (l a : AV) : AV := mdA a (cwE droN l a.sh) (ctSh droN l a.sh) (ctF droN l a.sh)
end Go.Proofs.Ytkabdkblcgklmaa.mo

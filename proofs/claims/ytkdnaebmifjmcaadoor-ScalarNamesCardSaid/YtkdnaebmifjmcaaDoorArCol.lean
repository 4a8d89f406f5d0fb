/-
  Layer 11 (array): collect: what a function makes of the numbers from 0 on.
-/
import Derived.Test.YtkdnaebmifjmcaaDoorArNew
import Derived.Defers
import Derived.Recover
namespace Go.Proofs.YtkdnaebmifjmcaaDoor.arr
open Go.RowKit

/-- What a function gives for the numbers below a bound. -/
def fL (f : Int → Int) (n : Nat) : List Int := (List.range n).map (fun (i : Nat) => f (i : Int))
theorem fL_length (f : Int → Int) (n : Nat) : (fL f n).length = n := by simp [fL]
theorem fL_succ (f : Int → Int) (n : Nat) : fL f (n + 1) = fL f n ++ [f (n : Int)] := by simp [fL, List.range_succ]

end Go.Proofs.YtkdnaebmifjmcaaDoor.arr

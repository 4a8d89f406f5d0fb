/-
  The chapter's first example holds: 'alive' answers true, and what lay there lies.
-/
import Derived.Test.YtkebbjodkhjbmaaWriter
namespace Go.Proofs.Ytkebbjodkhjbmaa
open Go.RowKit

theorem foot_new {b k : Nat} (h : foot b none none k) : k = b := by
  rcases h with h | ⟨ad, e, _⟩ | ⟨p, e, _⟩
  · exact h
  · cases e
  · cases e

theorem alive_bytes : ([] : List UInt8) ++ be 2 258 ++ be 8 ((-2 : Int) % 18446744073709551616).toNat ++ be 2 2 ++ [97, 98] = [1, 2, 255, 255, 255, 255, 255, 255, 255, 254, 0, 2, 97, 98] := by decide +kernel

end Go.Proofs.Ytkebbjodkhjbmaa

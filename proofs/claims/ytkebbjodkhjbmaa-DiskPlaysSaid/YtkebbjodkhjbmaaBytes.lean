/-
  Bytes as cells, the Writer's word 'Wr' (what it has written, where that lies), and the contract of slices.Clone at bytes.
-/
import Derived.Test.YtkebbjodkhjbmaaClone
namespace Go.Proofs.Ytkebbjodkhjbmaa
open Go.RowKit

/-- Which blocks a Writer at block b stands on: its own, its row's, its count's. -/
def foot (b : Nat) (A : Option Addr) (u : Option Addr) (k : Nat) : Prop := k = b ∨ (∃ ad, A = some ad ∧ ad.block = k) ∨ (∃ p, u = some p ∧ p.block = k)

end Go.Proofs.Ytkebbjodkhjbmaa

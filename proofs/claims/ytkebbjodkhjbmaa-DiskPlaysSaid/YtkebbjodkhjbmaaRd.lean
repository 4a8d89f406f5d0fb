/-
  THE READER: what is left to read, where that lies; the calls valid, next, join.
-/
import Derived.Test.YtkebbjodkhjbmaaAlive
import Derived.Laws.Bits64b
namespace Go.Proofs.Ytkebbjodkhjbmaa
open Go.RowKit

theorem cut_block {A A' : Option Addr} {c k : Nat} (hA : A' = if c = k then A else A.map (·.add k)) : ∀ ad, A' = some ad → ∃ ad0, A = some ad0 ∧ ad.block = ad0.block := by
  intro ad e
  subst hA
  by_cases h : c = k
  · rw [if_pos h] at e; exact ⟨ad, e, rfl⟩
  · rw [if_neg h] at e
    rcases A with _ | ad0
    · cases e
    · injection e with e; subst e
      exact ⟨ad0, rfl, block_of_add _ _⟩

/-- The number that bytes are, the highest one first. -/
def num (l : List UInt8) : Nat := l.foldl (fun n b => n * 256 + b.toNat) 0
theorem num_snoc (l : List UInt8) (x : UInt8) : num (l ++ [x]) = num l * 256 + x.toNat := by simp [num]
theorem num_lt (l : List UInt8) : num l < 256 ^ l.length := by
  have : ∀ (n : Nat) (l : List UInt8), l.foldl (fun n b => n * 256 + b.toNat) n < (n + 1) * 256 ^ l.length := by
    intro n l
    induction l generalizing n with
    | nil => simp
    | cons x l ih =>
      have h := ih (n * 256 + x.toNat)
      have hx := x.toNat_lt
      simp only [List.foldl_cons, List.length_cons]
      refine Nat.lt_of_lt_of_le h ?_
      rw [Nat.pow_succ', ← Nat.mul_assoc]
      exact Nat.mul_le_mul_right _ (by omega)
  have h := this 0 l
  simpa [num] using h

theorem bits_or (n x : Nat) (hn : n ≤ 72057594037927935) (hx : x < 256) : bits BinOp.or IntKind.u64 ((n : Int) * 256) (x : Int) = ((n * 256 + x : Nat) : Int) := by
  have h1 : ((n : Int) * 256) = ((n * 256 : Nat) : Int) := by simp
  rw [h1, bits_or_u64_nat (n * 256) x (by omega) (by omega)]
  have h2 := Nat.shiftLeft_add_eq_or_of_lt (b := x) (i := 8) (by simpa using hx) n
  rw [Nat.shiftLeft_eq] at h2
  rw [← h2]

end Go.Proofs.Ytkebbjodkhjbmaa

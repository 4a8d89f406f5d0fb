/-
  The contract of slices.Clone at bytes.
  Bytes as cells, the Writer's word 'Wr' (what it has written, where that lies), and the contract of slices.Clone at bytes.
  The Writer's put: what lies in the slice is laid behind what was written; the first call makes the count.
-/
import Derived.Test.YtkabdkblcgklmaaByt
namespace Go.Proofs.Ytkabdkblcgklmaa
open Go.RowKit

theorem u24 : ∀ w, Sem.run Try.prog (underlying 45) w = .ok (TypeDesc.slice 5) w := run_underlying Try.underlying45

theorem q24 : ∀ (w : World) (a : Option Addr) (n c n' c' : Nat), (binOp .eql 45 (.slice a n c) (.slice none n' c')).run Try.prog w = .ok (.bool a.isNone) w := fun w a n c n' c' => Lib.run_eql_slice_nil w _ _ a n c n' c' Try.underlying45

end Go.Proofs.Ytkabdkblcgklmaa

namespace Go.Proofs.Ytkabdkblcgklmaa
open Go.RowKit

/-- Which blocks a Writer at block b stands on: its own, its row's, its count's. -/
def foot (b : Nat) (A : Option Addr) (u : Option Addr) (k : Nat) : Prop := k = b ∨ (∃ ad, A = some ad ∧ ad.block = k) ∨ (∃ p, u = some p ∧ p.block = k)

end Go.Proofs.Ytkabdkblcgklmaa

namespace Go.Proofs.Ytkabdkblcgklmaa
open Go.RowKit

theorem foot_row {b k : Nat} {A u : Option Addr} {n c : Nat} (h : (Value.slice A n c).ownBlock = some k) : foot b A u k := by
  cases A with
  | none => simp [Value.ownBlock] at h
  | some ad => exact .inr (.inl ⟨ad, rfl, by simpa [Value.ownBlock] using h⟩)
theorem foot_put {b N n c n' c' : Nat} {A A' u : Option Addr} (h : (Value.slice A' n' c').ownBlock = (Value.slice A n c).ownBlock ∨ (Value.slice A' n' c').ownBlock = some N) :
    ∀ k, foot b A' u k → foot b A u k ∨ N ≤ k := by
  rintro k (rfl | ⟨ad, rfl, rfl⟩ | h3)
  · exact .inl (.inl rfl)
  · rcases h with h | h
    · exact .inl (foot_row (n := n) (c := c) (h ▸ (by simp [Value.ownBlock])))
    · have : ad.block = N := by simpa [Value.ownBlock] using h
      exact .inr (by omega)
  · exact .inl (.inr (.inr h3))

theorem Reads.keepS0 {w w' : World} {S : Nat → Prop} {B size n : Nat} {A : Option Addr} {xs : List Value} (h : Reads w B size A n xs) (hk : Keep S w w') (hB : B ≤ w.heap.size) (hn : 0 < n → ∀ ad, A = some ad → ¬ S ad.block) : Reads w' B size A n xs :=
  ⟨h.1, fun h0 => by
    obtain ⟨ad, e, hb, hc⟩ := h.2 h0
    refine ⟨ad, e, hb, fun j u hu => ?_⟩
    have hj := hc j u hu
    rw [← hj]
    exact World.cell?_of_block (by rw [block_of_add]; exact hk.block ad.block (by omega) (hn h0 ad e))⟩

end Go.Proofs.Ytkabdkblcgklmaa

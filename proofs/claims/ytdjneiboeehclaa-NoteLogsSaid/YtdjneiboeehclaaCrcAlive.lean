/-
  The chapter's first example of layer 2 holds: 'alive' answers true, and what lay there lies.
-/
import Derived.Test.YtdjneiboeehclaaCrcS
import Derived.Lib.SlBytesConst
import Derived.Lib.SmallJoins
namespace Go.Proofs.Ytdjneiboeehclaa.crc
open Go.RowKit

theorem sum_digits : sum (bitsB [49, 50, 51, 52, 53, 54, 55, 56, 57]) = 3421780262#32 := by decide +kernel
theorem sum_none : sum (bitsB []) = 0#32 := by decide +kernel

theorem cell_mark (w : World) (C : Array Value) (fr : Nat × Nat) (j : Nat) : (w.alloc (.cells C 5 fr)).cell? ⟨w.heap.size, j, none⟩ = C[j]? := World.cell?_alloc_mark w C 5 fr j

/-- A literal's row reads as the literal. -/
theorem reads_mark (w : World) (C : Array Value) (fr : Nat × Nat) (l : List UInt8) (n : Nat) (hc : C = (l.map bv).toArray) (hn : l.length = n) :
    Reads (w.alloc (.cells C 5 fr)) (w.alloc (.cells C 5 fr)).heap.size 1 (some ⟨w.heap.size, 0, none⟩) n (l.map bv) := by
  refine ⟨by simpa using hn, fun h0 => ⟨_, rfl, by simp, fun j u hu => ?_⟩⟩
  have hp : (⟨w.heap.size, 0, none⟩ : Addr).add j = ⟨w.heap.size, j, none⟩ := by unfold Addr.add; split <;> simp_all
  rw [hp, cell_mark, hc, ← hu]
  simp

theorem conv_lit (w : World) (C : Array Value) (n c : Nat) : (convert 24 24 (.slice (some ⟨w.heap.size, 0, none⟩) n c)).run Try.prog (w.alloc (.cells C 5)) = .ok (.slice (some ⟨w.heap.size, 0, none⟩) n c) (w.alloc (.cells C 5 (C.size, C.size + 1))) :=
  Lib.run_convert_bytes_const w 24 5 C n c Try.underlying24 Try.underlying5

end Go.Proofs.Ytdjneiboeehclaa.crc

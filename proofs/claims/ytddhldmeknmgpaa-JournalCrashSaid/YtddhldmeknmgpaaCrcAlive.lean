/-
  The chapter's first example of layer 2 holds: 'alive' answers true, and what lay there lies.
-/
import Derived.Test.YtddhldmeknmgpaaCrcS
import Derived.Lib.SlBytesConst
import Derived.Lib.SmallJoins
namespace Go.Proofs.Ytddhldmeknmgpaa.crc
open Go.RowKit

theorem sum_digits : sum (bitsB [49, 50, 51, 52, 53, 54, 55, 56, 57]) = 3421780262#32 := by decide +kernel
theorem sum_none : sum (bitsB []) = 0#32 := by decide +kernel

theorem cell_mark (w : World) (C : Array Value) (fr : Nat × Nat) (j : Nat) : (w.alloc (.cells C 5 fr)).cell? ⟨w.heap.size, j, none⟩ = C[j]? := World.cell?_alloc_mark w C 5 fr j

/-- A literal's row reads as the literal. -/
theorem reads_mark (w : World) (C : Array Value) (fr : Nat × Nat) (l : List UInt8) (n : Nat) (hc : C = (l.map bv).toArray) (hn : l.length = n) :
    Reads (w.alloc (.cells C 5 fr)) (w.alloc (.cells C 5 fr)).heap.size 1 (some ⟨w.heap.size, 0, none⟩) n (l.map bv) := by
  refine ⟨by simpa using hn, fun h0 => ⟨_, rfl, by simp, fun j u hu => ?_⟩⟩
  have hp : (⟨w.heap.size, 0, none⟩ : Addr).add j = ⟨w.heap.size, j, none⟩ := by unfold Addr.add; split <;> simp_all
  rw [hp, cell_mark, hc, ← hu]
  simp

theorem conv_lit (w : World) (C : Array Value) (n c : Nat) : (convert 23 23 (.slice (some ⟨w.heap.size, 0, none⟩) n c)).run Try.prog (w.alloc (.cells C 5)) = .ok (.slice (some ⟨w.heap.size, 0, none⟩) n c) (w.alloc (.cells C 5 (C.size, C.size + 1))) :=
  Lib.run_convert_bytes_const w 23 5 C n c Try.underlying23 Try.underlying5

/-- Of a literal. -/
theorem cof_lit (w : World) (cs : Array Value) (fr : Nat × Nat) (l : List UInt8) (n : Nat) (hc : cs = (l.map bv).toArray) (hn : l.length = n) (hm : n ≤ 1000) :
    Calls Try.prog 48 #[.slice (some ⟨w.heap.size, 0, none⟩) n n] (w.alloc (.cells cs 5 fr)) fun e w' => e = .returned (rv (sum (bitsB l))) ∧ Below w.heap.size w w' := by
  refine (cof_cut (some ⟨w.heap.size, 0, none⟩) n l n (w.alloc (.cells cs 5 fr)) (reads_mark w cs fr l n hc hn) hn (by omega)).mono ?_
  rintro e w' ⟨rfl, hb⟩
  exact ⟨rfl, ((Below.refl _ w).alloc (Nat.le_refl _) _).trans (hb.mono (by simp))⟩

theorem cof_nil (w : World) (c : Nat) : Calls Try.prog 48 #[.slice none 0 c] w fun e w' => e = .returned (.int .u32 0) ∧ Below w.heap.size w w' := by
  refine (cof_cut none c [] 0 w Reads.none_ rfl (by omega)).mono ?_
  rintro e w' ⟨rfl, hb⟩
  rw [sum_none]
  exact ⟨rfl, hb⟩

end Go.Proofs.Ytddhldmeknmgpaa.crc

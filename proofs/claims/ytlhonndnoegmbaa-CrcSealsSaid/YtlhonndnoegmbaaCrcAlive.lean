/-
  The chapter's first example of layer 2 holds: 'alive' answers true, and what lay there lies.
-/
import Derived.Test.YtlhonndnoegmbaaCrcS
import Derived.Lib.SlBytesConst
import Derived.Lib.SmallJoins
namespace Go.Proofs.Ytlhonndnoegmbaa.crc
open Go.RowKit

theorem sum_digits : sum (bitsB [49, 50, 51, 52, 53, 54, 55, 56, 57]) = 3421780262#32 := by decide +kernel
theorem sum_none : sum (bitsB []) = 0#32 := by decide +kernel

theorem cell_mark (w : World) (C : Array Value) (fr : Nat × Nat) (j : Nat) : (w.alloc (.cells C 5 fr)).cell? ⟨w.heap.size, j, none⟩ = C[j]? := World.cell?_alloc_mark w C 5 fr j

/-- A literal's row reads as the literal. -/
theorem reads_mark (w : World) (C : Array Value) (fr : Nat × Nat) (l : List UInt8) (n : Nat) (hc : C = (l.map bv).toArray) (hn : l.length = n) :
    Reads (w.alloc (.cells C 5 fr)) (w.alloc (.cells C 5 fr)).heap.size 1 (some ⟨w.heap.size, 0, none⟩) n (l.map bv) := by
  refine ⟨by simpa using hn, fun h0 => ⟨_, rfl, by simp, fun j u hu => ?_⟩⟩
  have hp : (⟨w.heap.size, 0, none⟩ : Addr).add j = ⟨w.heap.size, j, none⟩ := by unfold Addr.add; split <;> simp_all
  rw [hp, cell_mark, hc, ← hu]
  simp

theorem conv_lit (w : World) (C : Array Value) (n c : Nat) : (convert 22 22 (.slice (some ⟨w.heap.size, 0, none⟩) n c)).run Try.prog (w.alloc (.cells C 5)) = .ok (.slice (some ⟨w.heap.size, 0, none⟩) n c) (w.alloc (.cells C 5 (C.size, C.size + 1))) :=
  Lib.run_convert_bytes_const w 22 5 C n c Try.underlying22 Try.underlying5

/-- Of a literal. -/
theorem cof_lit (w : World) (cs : Array Value) (fr : Nat × Nat) (l : List UInt8) (n : Nat) (hc : cs = (l.map bv).toArray) (hn : l.length = n) (hm : n ≤ 1000) :
    Calls Try.prog 13 #[.slice (some ⟨w.heap.size, 0, none⟩) n n] (w.alloc (.cells cs 5 fr)) fun e w' => e = .returned (rv (sum (bitsB l))) ∧ Below w.heap.size w w' := by
  refine (cof_cut (some ⟨w.heap.size, 0, none⟩) n l n (w.alloc (.cells cs 5 fr)) (reads_mark w cs fr l n hc hn) hn (by omega)).mono ?_
  rintro e w' ⟨rfl, hb⟩
  exact ⟨rfl, ((Below.refl _ w).alloc (Nat.le_refl _) _).trans (hb.mono (by simp))⟩

theorem cof_nil (w : World) (c : Nat) : Calls Try.prog 13 #[.slice none 0 c] w fun e w' => e = .returned (.int .u32 0) ∧ Below w.heap.size w w' := by
  refine (cof_cut none c [] 0 w Reads.none_ rfl (by omega)).mono ?_
  rintro e w' ⟨rfl, hb⟩
  rw [sum_none]
  exact ⟨rfl, hb⟩

set_option maxHeartbeats 1000000 in
theorem calive_any (w : World) : Calls Try.prog 15 #[] w fun e w' => e = .returned (.bool true) ∧ Below w.heap.size w w' := by
  have h1 := cof_lit w #[.int .u8 49, .int .u8 50, .int .u8 51, .int .u8 52, .int .u8 53, .int .u8 54, .int .u8 55, .int .u8 56, .int .u8 57] (9, 10) [49, 50, 51, 52, 53, 54, 55, 56, 57] 9 rfl rfl (by omega)
  rw [sum_digits, show rv 3421780262#32 = .int .u32 3421780262 from rfl] at h1
  have H1 := Lib.hid h1
  have H2 := Lib.hid (fun w => cof_nil w 0)
  clear h1
  have cv := conv_lit w
  go_enter Try.func15, Try.ntmps15
  go_wp2_with (first
    | (go_at_call 13; refine H1.out.mono ?_; clear H1; rintro e w1 ⟨rfl, hb1⟩)
    | (go_at_call 13; refine (H2.out _).mono ?_; rintro e w2 ⟨rfl, hb2⟩))
  go_ret
  exact ⟨rfl, hb1.trans (hb2.mono hb1.size)⟩

end Go.Proofs.Ytlhonndnoegmbaa.crc

/-
  The log of layer 9: its two maps; how a log lies.
-/
import Derived.Test.YtdjneiboeehclaaNtDec
import Derived.Maps.OwnSet
import Derived.Maps.OwnIn
import Derived.DeepKeys5
import Derived.LaidEqlPtr
namespace Go.Proofs.Ytdjneiboeehclaa.note
open Go.RowKit Go.Maps Go.Proofs.Ytdjneiboeehclaa.crc Go.Proofs.Ytdjneiboeehclaa.root

def pv (k s p : Int) : Value := .agg #[.int .i64 k, .int .i64 s, .int .i64 p]
def keyP (k s p : Int) : Lit := .string (keyBytes [.int .i64 k, .int .i64 s, .int .i64 p])

theorem wf_i64 {z : Int} (h : i64ok z) : (Lit.int .i64 z).wf = true := by
  unfold i64ok at h
  simp only [Lit.wf, Bool.and_eq_true, decide_eq_true_eq]
  exact h
theorem laidN : laidOutB Try.prog = true := by kernel_rfl
theorem sizeN : ∃ m, Try.prog.types.size = m + 1 := Nat.exists_eq_succ_of_ne_zero (of_decide_eq_true (by kernel_rfl))
theorem kt_piece : Try.prog.keyType 77 = true := by kernel_rfl
theorem keyed_piece : Keyed Try.prog 77 := Keyed.of_law (deep_law_gate laidN (of_decide_eq_true (by kernel_rfl)) (of_decide_eq_true (by kernel_rfl)) kt_piece (by kernel_rfl))
theorem keyed_int : Keyed Try.prog 3 := int_keyed Try.underlying3
theorem cells_piece : Try.prog.cellsOf 77 = 3 := by kernel_rfl
theorem cells_int : Try.prog.cellsOf 3 = 1 := by kernel_rfl
theorem key_piece {k s p : Int} (hk : i64ok k) (hs : i64ok s) (hp : i64ok p) : keyOf Try.prog 77 (pv k s p) = some (keyP k s p) := by
  have wk := wf_i64 hk
  have ws := wf_i64 hs
  have wp := wf_i64 hp
  obtain ⟨m, hm⟩ := sizeN
  have hu := Try.underlying77
  have hi := Try.underlying3
  have hkt := kt_piece
  have hc := cells_piece
  have hc1 := cells_int
  unfold keyOf pv
  simp only [hu]
  rw [if_pos (by simp [hkt, Value.formed, hu, hc]), hm]
  unfold Program.keyLits
  simp only [hu, Value.cells]
  rw [if_pos ⟨by rw [hc]; rfl, by decide +kernel⟩]
  simp [hc1, hi, wk, ws, wp, Program.keyLits, keyP]
theorem key_int {s : Int} (hs : i64ok s) : keyOf Try.prog 3 (.int .i64 s) = some (.int .i64 s) := keyOf_int_mk Try.underlying3 (wf_i64 hs)
theorem keyP_inj {k s p k' s' p' : Int} (hk : i64ok k) (hs : i64ok s) (hp : i64ok p) (hk' : i64ok k') (hs' : i64ok s') (hp' : i64ok p') (h : keyP k s p = keyP k' s' p') : k = k' ∧ s = s' ∧ p = p' := by
  have h1 := key_piece hk hs hp
  have h2 := key_piece hk' hs' hp'
  rw [← h] at h2
  have := keyed_piece.inj h1 h2
  unfold pv at this
  injection this with this
  simp at this
  exact this
theorem zero64 (w : World) : (zeroValue 2).run Try.prog w = .ok (.int .i64 0) w := by kernel_rfl
theorem zeroI (w : World) : (zeroValue 3).run Try.prog w = .ok (.int .i64 0) w := by kernel_rfl
end Go.Proofs.Ytdjneiboeehclaa.note

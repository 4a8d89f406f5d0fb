/-
  Lists of whole numbers; and the small helpers of layer 3's statements: two lists, a number in a list, bytes in memory of their own, a sector's bytes all the same.
-/
import Derived.Test.YtkabdkblcgklmaaByt
import Derived.Test.YtkabdkblcgklmaaAny
namespace Go.Proofs.Ytkabdkblcgklmaa
open Go.RowKit

theorem below_drewN {B : Nat} {a b : World} (h : Below B a b) (n : Nat) : Below B a (b.drewN n) := ⟨h.os, h.tape, h.output, h.size, h.block⟩

/-- A whole number as a cell. -/
def iv (n : Int) : Value := .int .i64 n
theorem iv_one : ∀ (l : List Int), ∀ u ∈ l.map iv, u.oneCell' = true := by
  intro l u hu
  simp only [List.mem_map] at hu
  obtain ⟨b, _, rfl⟩ := hu
  rfl

theorem Reads.int_at {w : World} {B n k : Nat} {A : Option Addr} {l : List Int} (h : Reads w B 1 A n (l.map iv)) (hk : k < n) (hl : l.length = n) : ∃ ad, A = some ad ∧ ad.block < B ∧ w.cell? (ad.add k) = some (.int .i64 (l[k]'(by omega))) := by
  obtain ⟨ad, u, e, hb, hu, hc⟩ := h.at_ hk
  rw [List.getElem?_map, List.getElem?_eq_getElem (by omega)] at hu
  injection hu with hu
  subst hu
  exact ⟨ad, e, hb, hc⟩

end Go.Proofs.Ytkabdkblcgklmaa

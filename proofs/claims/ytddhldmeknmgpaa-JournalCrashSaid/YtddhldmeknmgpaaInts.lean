/-
  Lists of whole numbers; and the small helpers of layer 3's statements: two lists, a number in a list, bytes in memory of their own, a sector's bytes all the same.
-/
import Derived.Test.YtddhldmeknmgpaaByt
import Derived.Test.YtddhldmeknmgpaaAny
namespace Go.Proofs.Ytddhldmeknmgpaa
open Go.RowKit

theorem below_drewN {B : Nat} {a b : World} (h : Below B a b) (n : Nat) : Below B a (b.drewN n) := ⟨h.os, h.tape, h.output, h.size, h.block⟩

/-- A whole number as a cell. -/
def iv (n : Int) : Value := .int .i64 n
theorem iv_one : ∀ (l : List Int), ∀ u ∈ l.map iv, u.oneCell' = true := by
  intro l u hu
  simp only [List.mem_map] at hu
  obtain ⟨b, _, rfl⟩ := hu
  rfl

theorem Reads.int_at {w : World} {B n k : Nat} {A : Option Addr} {l : List Int} (h : Reads w B 1 A n (l.map iv)) (hk : k < n) (hl : l.length = n) : ∃ ad, A = some ad ∧ ad.block < B ∧ w.cell? (ad.add k) = some (.int .i64 (l[k]'(by omega))) := by
  obtain ⟨ad, u, e, hb, hu, hc⟩ := h.at_ hk
  rw [List.getElem?_map, List.getElem?_eq_getElem (by omega)] at hu
  injection hu with hu
  subst hu
  exact ⟨ad, e, hb, hc⟩

/-- Bytes in memory of their own. -/
theorem twin_any (A : Option Addr) (c n : Nat) (l : List UInt8) (w : World) (hr : Reads w w.heap.size 1 A n (l.map bv)) (hn : n ≤ 140737488355000) :
    Calls Try.prog 8 #[.slice A n c] w fun e w' => ∃ A' c', e = .returned (.slice A' n c') ∧ w'.ownsRow w.heap.size 5 1 (.slice A' n c') n (l.map bv) ∧ Below w.heap.size w w' := by
  obtain ⟨i0, hi, hz0, hz1, hz2⟩ := info_parts infoU8
  have HR := Lib.hid hr
  clear hr
  go_enter Try.func8, Try.ntmps8
  go_wp2_with (at_builtin; refine wpList_append_any _ rfl _ _ 23 rfl w.heap.size 5 i0 (.int .u8 0) 1 1 Try.underlying23 hi hz0 hz1 hz2 rfl (by decide) _ 0 [] rfl (World.ownsRow_nil _ _ _ _) w.heap.size A n c (l.map bv) rfl HR.out (bv_one l) (by unfold maxLen; omega) (by omega) (Nat.le_refl _) ?_)
  intro v' w1 hown hgrow hat
  have hB : Below w.heap.size w w1 := (Below.refl _ w).grown hgrow (Nat.le_refl _) (by intro k hk; simp [Value.ownBlock] at hk)
  obtain ⟨A', c', rfl⟩ : ∃ A' c', v' = .slice A' n c' := by
    rcases hown.2 with ⟨rfl, h0⟩ | ⟨g, cap, cur, e, _⟩
    · exact ⟨none, 0, by rw [h0]⟩
    · exact ⟨_, cap, e⟩
  have HO := Lib.hid hown
  have HB := Lib.hid hB
  clear hown hgrow hat hB
  go_wp2
  go_ret
  exact ⟨A', c', rfl, HO.out, HB.out⟩

end Go.Proofs.Ytddhldmeknmgpaa

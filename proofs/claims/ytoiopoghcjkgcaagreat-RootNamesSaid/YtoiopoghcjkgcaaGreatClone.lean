/-
  The contract of slices.Clone at bytes.
-/
import Derived.Test.YtoiopoghcjkgcaaGreatByt
namespace Go.Proofs.YtoiopoghcjkgcaaGreat
open Go.RowKit

theorem u24 : ∀ w, Sem.run Tryz.prog (underlying 36) w = .ok (TypeDesc.slice 5) w := run_underlying Tryz.underlying36

theorem q24 : ∀ (w : World) (a : Option Addr) (n c n' c' : Nat), (binOp .eql 36 (.slice a n c) (.slice none n' c')).run Tryz.prog w = .ok (.bool a.isNone) w := fun w a n c n' c' => Lib.run_eql_slice_nil w _ _ a n c n' c' Tryz.underlying36

/-- slices.Clone of nil: nil, and nothing is made. -/
theorem clone_nil (n c : Nat) (w : World) : Calls Tryz.prog 74 #[.slice none n c] w fun e w' => e = .returned (.slice none 0 0) ∧ w = w' := by
  have q := q24
  go_enter Tryz.func74, Tryz.ntmps74
  go_wp2
  go_ret
  exact ⟨rfl, rfl⟩

set_option maxHeartbeats 1000000 in
/-- slices.Clone of a slice that isn't nil: the same bytes in a row of the call's own. -/
theorem clone_some (ad : Addr) (n c : Nat) (l : List UInt8) (w : World) (hr : Reads w w.heap.size 1 (some ad) n (l.map bv)) (hn : n ≤ 140737488355328) :
    Calls Tryz.prog 74 #[.slice (some ad) n c] w fun e w' => ∃ g c', e = .returned (.slice (some ⟨g, 0, none⟩) n c') ∧ w'.ownsRow w.heap.size 5 1 (.slice (some ⟨g, 0, none⟩) n c') n (l.map bv) ∧ Below w.heap.size w w' ∧ w.heap.size ≤ g := by
  obtain ⟨i0, hi, hz0, hz1, hz2⟩ := info_parts infoU8
  have q := q24
  have z5 : ∀ w, Sem.run Tryz.prog (Go.sizeOf 5) w = .ok 1 w := fun w => by simp [Go.sizeOf, typeInfo, hi, hz1]
  go_enter Tryz.func74, Tryz.ntmps74
  go_wp2_with (at_builtin; refine wpList_append_any _ rfl _ _ 36 rfl w.heap.size 5 i0 (.int .u8 0) 1 1 Tryz.underlying36 hi hz0 hz1 hz2 rfl (by decide) _ _ _ rfl (World.ownsRow_made w #[] 0 (Nat.le_refl _) (Nat.zero_le _) rfl) w.heap.size (some ad) n c (l.map bv) rfl (hr.alloc (Nat.le_refl _) _) (bv_one l) (by unfold maxLen; omega) (by omega) (by simp) ?_)
  intro v' w1 hown hgrow hat
  have hB : Below w.heap.size w w1 := ((Below.refl _ w).alloc (Nat.le_refl _) _).grown hgrow (by simp) (by intro k hk; simp [Value.ownBlock] at hk; omega)
  obtain ⟨g, c', hv, hg⟩ : ∃ g c', v' = .slice (some ⟨g, 0, none⟩) n c' ∧ w.heap.size ≤ g := by
    rcases hown.2 with ⟨rfl, _⟩ | ⟨g, cap, cur, e, hb, _⟩
    · simp [Value.ownBlock] at hat
    · exact ⟨g, cap, e, hb⟩
  clear hat
  subst hv
  clear hr
  go_wp2
  go_ret
  exact ⟨g, c', rfl, hown, hB, hg⟩

theorem clone_any (A : Option Addr) (n c : Nat) (l : List UInt8) (w : World) (hr : Reads w w.heap.size 1 A n (l.map bv)) (hn : n ≤ 140737488355328) :
    Calls Tryz.prog 74 #[.slice A n c] w fun e w' => ∃ A' c', e = .returned (.slice A' n c') ∧ w'.ownsRow w.heap.size 5 1 (.slice A' n c') n (l.map bv) ∧ Below w.heap.size w w' := by
  rcases A with _ | ad
  · have h0 : n = 0 := by
      rcases Nat.eq_zero_or_pos n with h0 | h0
      · exact h0
      · obtain ⟨ad, h, _⟩ := hr.2 h0
        cases h
    subst h0
    have hl : l.map bv = [] := List.eq_nil_of_length_eq_zero (by simpa using hr.1)
    refine (clone_nil 0 c w).mono ?_
    rintro e w' ⟨rfl, rfl⟩
    exact ⟨none, 0, rfl, by rw [hl]; exact World.ownsRow_nil _ _ _ _, Below.refl _ _⟩
  · refine (clone_some ad n c l w hr hn).mono ?_
    rintro e w' ⟨g, c', rfl, h1, h2, _⟩
    exact ⟨_, _, rfl, h1, h2⟩

end Go.Proofs.YtoiopoghcjkgcaaGreat

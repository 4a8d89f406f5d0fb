/-
  Lists of whole numbers; and the small helpers of layer 3's statements: two lists, a number in a list, bytes in memory of their own, a sector's bytes all the same.
-/
import Derived.Test.YtkebbjodkhjbmaaGreatByt
import Derived.Test.YtkebbjodkhjbmaaGreatAny
namespace Go.Proofs.YtkebbjodkhjbmaaGreat
open Go.RowKit

theorem below_drewN {B : Nat} {a b : World} (h : Below B a b) (n : Nat) : Below B a (b.drewN n) := ⟨h.os, h.tape, h.output, h.size, h.block⟩

/-- A whole number as a cell. -/
def iv (n : Int) : Value := .int .i64 n
theorem iv_one : ∀ (l : List Int), ∀ u ∈ l.map iv, u.oneCell' = true := by
  intro l u hu
  simp only [List.mem_map] at hu
  obtain ⟨b, _, rfl⟩ := hu
  rfl

theorem Reads.int_at {w : World} {B n k : Nat} {A : Option Addr} {l : List Int} (h : Reads w B 1 A n (l.map iv)) (hk : k < n) (hl : l.length = n) : ∃ ad, A = some ad ∧ ad.block < B ∧ w.cell? (ad.add k) = some (.int .i64 (l[k]'(by omega))) := by
  obtain ⟨ad, u, e, hb, hu, hc⟩ := h.at_ hk
  rw [List.getElem?_map, List.getElem?_eq_getElem (by omega)] at hu
  injection hu with hu
  subst hu
  exact ⟨ad, e, hb, hc⟩

set_option maxHeartbeats 1000000 in
/-- Two lists. -/
theorem ints_any (A B : Option Addr) (c d n m : Nat) (l k : List Int) (w : World) (hl : l.length = n) (hk : k.length = m) (ha : Reads w w.heap.size 1 A n (l.map iv)) (hb : Reads w w.heap.size 1 B m (k.map iv)) (hn : n ≤ 9223372036854775807) (hm : m ≤ 9223372036854775807) :
    Calls Tryz.prog 124 #[.slice A n c, .slice B m d] w fun e w' => e = .returned (.bool (decide (l = k))) ∧ Below w.heap.size w w' := by
  by_cases hnm : n = m
  · subst hnm
    have HA := Lib.hid ha
    have HB := Lib.hid hb
    have HL := Lib.hid hl
    have HK := Lib.hid hk
    clear ha hb hl hk
    go_enter Tryz.func124, Tryz.ntmps124
    go_wp2
    go_loopw [5] (fun i wr => ∃ j, j ≤ n ∧ i = .int .i64 ((j : Nat) : Int) ∧ l.take j = k.take j ∧ Below w.heap.size w wr) (fun i _ => n - (intOf i).toNat)
    case atStart => exact ⟨0, Nat.zero_le _, rfl, by simp, Below.refl _ _⟩
    case round =>
      obtain ⟨j, hj, rfl, heq, hbw⟩ := hrel
      by_cases hlt : j < n
      · obtain ⟨adA, rfl, _, cA⟩ := (HA.out.below hbw).int_at hlt HL.out
        obtain ⟨adB, rfl, _, cB⟩ := (HB.out.below hbw).int_at hlt HK.out
        have hjl : j < l.length := by have := HL.out; omega
        have hjk : j < k.length := by have := HK.out; omega
        have hstep : l.take (j + 1) = k.take (j + 1) ↔ l[j] = k[j] := by
          rw [List.take_succ_eq_append_getElem hjl, List.take_succ_eq_append_getElem hjk, heq]
          constructor
          · intro h
            have h := List.append_cancel_left h
            injection h
          · intro h
            rw [h]
        have hno : ¬ l[j] = k[j] → ¬ l = k := fun h e => h (by subst e; rfl)
        generalize l[j] = x at *
        generalize k[j] = y at *
        have HST := Lib.hid hstep
        have HNO := Lib.hid hno
        have HBW := Lib.hid hbw
        clear hstep hno hbw heq
        by_cases hxy : x = y
        · have hne : (x != y) = false := by simp [hxy]
          have HXY := Lib.hid hxy
          clear hxy
          go_wp2
          go_quiet (fail)
          go_wp2
          exact ⟨⟨j + 1, by omega, by go_num, HST.out.2 HXY.out, below_drewN HBW.out _⟩, by simp [intOf]; omega⟩
        · have hne : (x != y) = true := by simp [hxy]
          have HXY := Lib.hid hxy
          clear hxy
          go_wp2
          go_quiet (fail)
          go_wp2
          go_ret
          exact ⟨by rw [decide_eq_false (HNO.out HXY.out)]; rfl, below_drewN HBW.out _⟩
      · obtain rfl : j = n := by omega
        have hlk : l = k := by
          rw [List.take_of_length_le (by have := HL.out; omega), List.take_of_length_le (by have := HK.out; omega)] at heq
          exact heq
        have HLK := Lib.hid hlk
        have HBW := Lib.hid hbw
        clear hlk heq hbw
        go_wp2
        go_ret
        exact ⟨by rw [decide_eq_true HLK.out]; rfl, HBW.out⟩
  · have hne : ((n : Int) != (m : Int)) = true := by rw [bne_iff_ne]; omega
    have hlk : ¬ l = k := fun e => hnm (by rw [← hl, ← hk, e])
    clear ha hb hl hk
    go_enter Tryz.func124, Tryz.ntmps124
    go_wp2
    go_ret
    exact ⟨by rw [decide_eq_false hlk]; rfl, Below.refl _ _⟩

/-- Bytes in memory of their own. -/
theorem twin_any (A : Option Addr) (c n : Nat) (l : List UInt8) (w : World) (hr : Reads w w.heap.size 1 A n (l.map bv)) (hn : n ≤ 140737488355000) :
    Calls Tryz.prog 18 #[.slice A n c] w fun e w' => ∃ A' c', e = .returned (.slice A' n c') ∧ w'.ownsRow w.heap.size 5 1 (.slice A' n c') n (l.map bv) ∧ Below w.heap.size w w' := by
  obtain ⟨i0, hi, hz0, hz1, hz2⟩ := info_parts infoU8
  have HR := Lib.hid hr
  clear hr
  go_enter Tryz.func18, Tryz.ntmps18
  go_wp2_with (at_builtin; refine wpList_append_any _ rfl _ _ 36 rfl w.heap.size 5 i0 (.int .u8 0) 1 1 Tryz.underlying36 hi hz0 hz1 hz2 rfl (by decide) _ 0 [] rfl (World.ownsRow_nil _ _ _ _) w.heap.size A n c (l.map bv) rfl HR.out (bv_one l) (by unfold maxLen; omega) (by omega) (Nat.le_refl _) ?_)
  intro v' w1 hown hgrow hat
  have hB : Below w.heap.size w w1 := (Below.refl _ w).grown hgrow (Nat.le_refl _) (by intro k hk; simp [Value.ownBlock] at hk)
  obtain ⟨A', c', rfl⟩ : ∃ A' c', v' = .slice A' n c' := by
    rcases hown.2 with ⟨rfl, h0⟩ | ⟨g, cap, cur, e, _⟩
    · exact ⟨none, 0, by rw [h0]⟩
    · exact ⟨_, cap, e⟩
  have HO := Lib.hid hown
  have HB := Lib.hid hB
  clear hown hgrow hat hB
  go_wp2
  go_ret
  exact ⟨A', c', rfl, HO.out, HB.out⟩

end Go.Proofs.YtkebbjodkhjbmaaGreat

/-
  Layer 11 (array): the given Count, Place, Shapes, Ints.
-/
import Derived.Test.YtkabdkblcgklmaaArPlace
import Derived.Test.YtkabdkblcgklmaaPut
namespace Go.Proofs.Ytkabdkblcgklmaa.arr
open Go.RowKit

set_option maxHeartbeats 1000000 in
theorem r11shapes_any (A B : Option Addr) (c d n m : Nat) (l k : List Int) (w : World) (hl : l.length = n) (hk : k.length = m) (ha : Reads w w.heap.size 1 A n (l.map iv)) (hb : Reads w w.heap.size 1 B m (k.map iv)) (hn : n ≤ 9223372036854775807) (hm : m ≤ 9223372036854775807) :
    Calls Try.prog 22 #[.slice A n c, .slice B m d] w fun e w' => e = .returned (.bool (decide (l = k))) ∧ Below w.heap.size w w' := by
  by_cases hnm : n = m
  · subst hnm
    have HA := Lib.hid ha
    have HB := Lib.hid hb
    have HL := Lib.hid hl
    have HK := Lib.hid hk
    clear ha hb hl hk
    go_enter Try.func22, Try.ntmps22
    go_wp2
    go_loopw [5] (fun i wr => ∃ j, j ≤ n ∧ i = .int .i64 ((j : Nat) : Int) ∧ l.take j = k.take j ∧ Below w.heap.size w wr) (fun i _ => n - (intOf i).toNat)
    case atStart => exact ⟨0, Nat.zero_le _, rfl, by simp, Below.refl _ _⟩
    case round =>
      obtain ⟨j, hj, rfl, heq, hbw⟩ := hrel
      by_cases hlt : j < n
      · obtain ⟨adA, rfl, _, cA⟩ := (HA.out.below hbw).int_at hlt HL.out
        obtain ⟨adB, rfl, _, cB⟩ := (HB.out.below hbw).int_at hlt HK.out
        have hjl : j < l.length := by have := HL.out; omega
        have hjk : j < k.length := by have := HK.out; omega
        have hstep : l.take (j + 1) = k.take (j + 1) ↔ l[j] = k[j] := by
          rw [List.take_succ_eq_append_getElem hjl, List.take_succ_eq_append_getElem hjk, heq]
          constructor
          · intro h
            have h := List.append_cancel_left h
            injection h
          · intro h
            rw [h]
        have hno : ¬ l[j] = k[j] → ¬ l = k := fun h e => h (by subst e; rfl)
        generalize l[j] = x at *
        generalize k[j] = y at *
        have HST := Lib.hid hstep
        have HNO := Lib.hid hno
        have HBW := Lib.hid hbw
        clear hstep hno hbw heq
        by_cases hxy : x = y
        · have hne : (x != y) = false := by simp [hxy]
          have HXY := Lib.hid hxy
          clear hxy
          go_wp2
          go_quiet (fail)
          go_wp2
          exact ⟨⟨j + 1, by omega, by go_num, HST.out.2 HXY.out, below_drewN HBW.out _⟩, by simp [intOf]; omega⟩
        · have hne : (x != y) = true := by simp [hxy]
          have HXY := Lib.hid hxy
          clear hxy
          go_wp2
          go_quiet (fail)
          go_wp2
          go_ret
          exact ⟨by rw [decide_eq_false (HNO.out HXY.out)]; rfl, below_drewN HBW.out _⟩
      · obtain rfl : j = n := by omega
        have hlk : l = k := by
          rw [List.take_of_length_le (by have := HL.out; omega), List.take_of_length_le (by have := HK.out; omega)] at heq
          exact heq
        have HLK := Lib.hid hlk
        have HBW := Lib.hid hbw
        clear hlk heq hbw
        go_wp2
        go_ret
        exact ⟨by rw [decide_eq_true HLK.out]; rfl, HBW.out⟩
  · have hne : ((n : Int) != (m : Int)) = true := by rw [bne_iff_ne]; omega
    have hlk : ¬ l = k := fun e => hnm (by rw [← hl, ← hk, e])
    clear ha hb hl hk
    go_enter Try.func22, Try.ntmps22
    go_wp2
    go_ret
    exact ⟨by rw [decide_eq_false hlk]; rfl, Below.refl _ _⟩

theorem arInfoInt : (Try.prog.info? 3).map (fun i => (i.zero, i.size, i.bytes)) = some (some (.int .i64 0), 1, 8) := by kernel_rfl
theorem r11ints_any (A : Option Addr) (c n : Nat) (l : List Int) (w : World) (hr : Reads w w.heap.size 1 A n (l.map iv)) (hn : n ≤ 1000000) :
    Calls Try.prog 123 #[.slice A n c] w fun e w' => ∃ A' c', e = .returned (.slice A' n c') ∧ w'.ownsRow w.heap.size 3 1 (.slice A' n c') n (l.map iv) ∧ Below w.heap.size w w' := by
  obtain ⟨i0, hi, hz0, hz1, hz2⟩ := info_parts arInfoInt
  have HR := Lib.hid hr
  clear hr
  go_enter Try.func123, Try.ntmps123
  go_wp2_with (at_builtin; refine wpList_append_any _ rfl _ _ 22 rfl w.heap.size 3 i0 (.int .i64 0) 1 8 Try.underlying22 hi hz0 hz1 hz2 rfl (by decide) _ 0 [] rfl (World.ownsRow_nil _ _ _ _) w.heap.size A n c (l.map iv) rfl HR.out (iv_one l) (by unfold maxLen; omega) (by omega) (Nat.le_refl _) ?_)
  intro v' w1 hown hgrow hat
  have hB : Below w.heap.size w w1 := (Below.refl _ w).grown hgrow (Nat.le_refl _) (by intro k hk; simp [Value.ownBlock] at hk)
  obtain ⟨A', c', rfl⟩ : ∃ A' c', v' = .slice A' n c' := by
    rcases hown.2 with ⟨rfl, h0⟩ | ⟨g, cap, cur, e, _⟩
    · exact ⟨none, 0, by rw [h0]⟩
    · exact ⟨_, cap, e⟩
  have HO := Lib.hid hown
  have HB := Lib.hid hB
  clear hown hgrow hat hB
  go_wp2
  go_ret
  exact ⟨A', c', rfl, HO.out, HB.out⟩

set_option maxHeartbeats 2000000 in
theorem r11count_any (A : Option Addr) (c n : Nat) (l : List Int) (w : World) (hl : l.length = n) (ha : Reads w w.heap.size 1 A n (l.map iv)) (hn : n ≤ 9223372036854775807) :
    Calls Try.prog 76 #[.slice A n c] w fun e w' => e = .returned (.tuple #[.int .i64 (cntV l), .int .i64 (cntE l)]) ∧ Below w.heap.size w w' := by
  by_cases h4 : n ≤ 4
  case neg =>
    have h5 : 4 < (n : Int) := by omega
    obtain ⟨e1, e2⟩ := cnt_no (l := l) (by unfold okShape; rw [hl, decide_eq_false h4]; rfl)
    rw [e1, e2]
    clear ha e1 e2
    go_enter Try.func76, Try.ntmps76
    go_wp2
    go_ret2
    exact ⟨rfl, Below.refl _ _⟩
  have h5 : ¬ 4 < (n : Int) := by omega
  have HA := Lib.hid ha
  have HL := Lib.hid hl
  clear ha hl
  go_enter Try.func76, Try.ntmps76
  go_wp2
  go_loopw [5, 4] (fun i p wr => ∃ j, j ≤ n ∧ i = .int .i64 ((j : Nat) : Int) ∧ p = .int .i64 (prodI (l.take j)) ∧ (l.take j).all lenOk = true ∧ Below w.heap.size w wr) (fun i _ _ => n - (intOf i).toNat)
  case atStart => exact ⟨0, Nat.zero_le _, rfl, rfl, rfl, Below.refl _ _⟩
  case round =>
    obtain ⟨j, hj, rfl, rfl, hall, hbw⟩ := hrel
    by_cases hlt : j < n
    · obtain ⟨adA, rfl, _, cA⟩ := (HA.out.below hbw).int_at hlt HL.out
      have hjl : j < l.length := by have := HL.out; omega
      have hq := prodI_snoc l hjl
      have hstep : lenOk l[j] = true → (l.take (j + 1)).all lenOk = true := fun h => by
        rw [List.take_succ_eq_append_getElem hjl, List.all_append, hall]
        simpa using h
      have hno : lenOk l[j] = false → okShape l = false := fun h => by
        have : l.all lenOk = false := by
          rw [List.all_eq_false]
          exact ⟨_, List.getElem_mem hjl, by rw [h]; decide⟩
        unfold okShape
        rw [this, Bool.and_false, Bool.false_and]
      have hbd : lenOk l[j] = true → 0 ≤ prodI (l.take (j + 1)) ∧ prodI (l.take (j + 1)) ≤ 281474976710656 := fun h => prodI_four (hstep h) (by rw [List.length_take]; omega)
      generalize l[j] = x at *
      generalize prodI (l.take j) = p at *
      generalize hQ : prodI (l.take (j + 1)) = q at *
      have HQ := Lib.hid hQ
      have HST := Lib.hid hstep
      have HNO := Lib.hid hno
      have HBW := Lib.hid hbw
      have hq' : p * x = q := hq.symm
      clear hq hQ hstep hno hbw hall
      by_cases hx0 : x < 0
      · clear hbd hq'
        go_wp2
        go_ret2
        obtain ⟨e1, e2⟩ := cnt_no (HNO.out (by unfold lenOk; rw [decide_eq_false (by omega), Bool.false_and]))
        exact ⟨by rw [e1, e2]; rfl, HBW.out⟩
      by_cases hx1 : 4096 < x
      · clear hbd hq'
        go_wp2
        go_ret2
        obtain ⟨e1, e2⟩ := cnt_no (HNO.out (by unfold lenOk; rw [decide_eq_false (p := x ≤ 4096) (by omega), Bool.and_false]))
        exact ⟨by rw [e1, e2]; rfl, HBW.out⟩
      have hok : lenOk x = true := lenOk_iff.2 ⟨by omega, by omega⟩
      obtain ⟨b1, b2⟩ := hbd hok
      have HOK := Lib.hid hok
      clear hbd hok
      go_wp2
      exact ⟨⟨j + 1, by omega, by go_num, by rw [HQ.out], HST.out HOK.out, HBW.out⟩, by simp [intOf]; omega⟩
    · obtain rfl : j = n := by omega
      rw [List.take_of_length_le (by have := HL.out; omega)] at hall
      rw [List.take_of_length_le (by have := HL.out; omega)]
      have HBW := Lib.hid hbw
      have hOK : okShape l = decide (prodI l ≤ 4096) := by
        unfold okShape
        rw [hall, HL.out, decide_eq_true h4]
        simp
      have no : okShape l = false → cntV l = 0 ∧ cntE l = 110 := cnt_no
      have yes : okShape l = true → cntV l = prodI l ∧ cntE l = 0 := cnt_ok
      rw [hOK] at no yes
      have HN := Lib.hid no
      have HY := Lib.hid yes
      generalize prodI l = p at *
      clear hbw hall hOK no yes
      by_cases hp : p ≤ 4096
      · have hp2 : ¬ 4096 < p := by omega
        go_wp2
        go_ret2
        obtain ⟨e1, e2⟩ := HY.out (decide_eq_true hp)
        exact ⟨by rw [e1, e2]; rfl, HBW.out⟩
      · have hp2 : 4096 < p := by omega
        go_wp2
        go_ret2
        obtain ⟨e1, e2⟩ := HN.out (decide_eq_false (by omega))
        exact ⟨by rw [e1, e2]; rfl, HBW.out⟩

end Go.Proofs.Ytkabdkblcgklmaa.arr

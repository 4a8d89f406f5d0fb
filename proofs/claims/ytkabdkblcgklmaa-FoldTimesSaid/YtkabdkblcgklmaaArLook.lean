/-
  Layer 11 (array): the calls that only look: isNoLength, ContainsFunc, product, Count, Place; the given Count, Place, Shapes, Ints.
-/
import Derived.Test.YtkabdkblcgklmaaArForm
namespace Go.Proofs.Ytkabdkblcgklmaa.arr
open Go.RowKit

theorem arnolen_any (x : Int) (w : World) : Calls Try.prog 113 #[.int .i64 x] w fun e w' => e = .returned (.bool (!lenOk x)) ∧ w = w' := by
  unfold lenOk
  by_cases h1 : 0 ≤ x
  · have hd : decide (x < 0) = false := decide_eq_false (by omega)
    rw [decide_eq_true h1, Bool.true_and]
    by_cases h2 : x ≤ 4096
    · have hd2 : decide (4096 < x) = false := decide_eq_false (by omega)
      rw [decide_eq_true h2]
      go_enter Try.func113, Try.ntmps113
      go_wp2
      go_ret
      exact ⟨rfl, rfl⟩
    · have hd2 : decide (4096 < x) = true := decide_eq_true (by omega)
      rw [decide_eq_false h2]
      go_enter Try.func113, Try.ntmps113
      go_wp2
      go_ret
      exact ⟨rfl, rfl⟩
  · have hd : decide (x < 0) = true := decide_eq_true (by omega)
    rw [decide_eq_false h1, Bool.false_and]
    go_enter Try.func113, Try.ntmps113
    go_wp2
    go_ret
    exact ⟨rfl, rfl⟩

set_option maxHeartbeats 1000000 in
/-- Where the first one that is no length stands. -/
theorem arindex_any (A : Option Addr) (c n : Nat) (l : List Int) (w : World) (hl : l.length = n) (ha : Reads w w.heap.size 1 A n (l.map iv)) (hn : n ≤ 9223372036854775807) :
    Calls Try.prog 182 #[.slice A n c, .func (.func 113) #[] #[]] w fun e w' => ∃ k : Int, e = .returned (.int .i64 k) ∧ (decide (k ≥ 0) = !(l.all lenOk)) ∧ w = w' := by
  have HA := Lib.hid ha
  have HL := Lib.hid hl
  clear ha hl
  go_enter Try.func182, Try.ntmps182
  go_wp2
  go_loopw [8] (fun i wr => ∃ j, j ≤ n ∧ i = .int .i64 ((j : Nat) : Int) ∧ (l.take j).all lenOk = true ∧ wr = w) (fun i _ => n - (intOf i).toNat)
  case atStart => exact ⟨0, Nat.zero_le _, rfl, by simp, rfl⟩
  case round =>
    obtain ⟨j, hj, rfl, hni, rfl⟩ := hrel
    by_cases hlt : j < n
    · obtain ⟨adA, rfl, _, cA⟩ := HA.out.int_at hlt HL.out
      have hjl : j < l.length := by have := HL.out; omega
      have hin : l[j] ∈ l := List.getElem_mem hjl
      have hstep : lenOk l[j] = true → (l.take (j + 1)).all lenOk = true := fun h => by
        rw [List.take_succ_eq_append_getElem hjl, List.all_append, hni]
        simpa using h
      have hno : lenOk l[j] = false → l.all lenOk = false := fun h => by
        rw [List.all_eq_false]
        exact ⟨_, hin, by rw [h]; decide⟩
      generalize l[j] = y at *
      have HST := Lib.hid hstep
      have HNO := Lib.hid hno
      have HC := Lib.hid (arnolen_any y wr)
      clear hin hstep hno hni
      cases hy : lenOk y
      · rw [hy] at HC
        have HY := Lib.hid hy
        clear hy
        go_wp2_with (go_at_call 113; refine HC.out.mono ?_; rintro e _ ⟨rfl, rfl⟩)
        go_ret
        refine ⟨_, rfl, ?_, rfl⟩
        rw [HNO.out HY.out, decide_eq_true (by omega)]
        rfl
      · rw [hy] at HC
        have HY := Lib.hid hy
        clear hy
        go_wp2_with (go_at_call 113; refine HC.out.mono ?_; rintro e _ ⟨rfl, rfl⟩)
        exact ⟨⟨j + 1, by omega, by go_num, HST.out HY.out, trivial⟩, by simp [intOf]; omega⟩
    · obtain rfl : j = n := by omega
      have hall : l.all lenOk = true := by
        rwa [List.take_of_length_le (by have := HL.out; omega)] at hni
      have HALL := Lib.hid hall
      clear hall hni
      go_wp2
      go_ret
      refine ⟨_, rfl, ?_, rfl⟩
      rw [HALL.out]
      rfl

theorem arhas_any (A : Option Addr) (c n : Nat) (l : List Int) (w : World) (hl : l.length = n) (ha : Reads w w.heap.size 1 A n (l.map iv)) (hn : n ≤ 9223372036854775807) :
    Calls Try.prog 112 #[.slice A n c, .func (.func 113) #[] #[]] w fun e w' => e = .returned (.bool (!(l.all lenOk))) ∧ w = w' := by
  have H := Lib.hid (arindex_any A c n l w hl ha hn)
  clear ha hl
  go_enter Try.func112, Try.ntmps112
  go_wp2_with (go_at_call 182; refine H.out.mono ?_; rintro e _ ⟨k, rfl, hk, rfl⟩)
  go_ret
  exact ⟨by rw [← hk]; rfl, rfl⟩

theorem arprod_any (A : Option Addr) (c n : Nat) (l : List Int) (w : World) (hl : l.length = n) (ha : Reads w w.heap.size 1 A n (l.map iv)) (h4 : n ≤ 4) (hall : l.all lenOk = true) :
    Calls Try.prog 114 #[.slice A n c] w fun e w' => e = .returned (.int .i64 (prodI l)) ∧ w = w' := by
  have HA := Lib.hid ha
  have HL := Lib.hid hl
  have HALL := Lib.hid hall
  clear ha hl hall
  go_enter Try.func114, Try.ntmps114
  go_wp2
  go_loopw [8, 3] (fun i p wr => ∃ j, j ≤ n ∧ i = .int .i64 ((j : Nat) : Int) ∧ p = .int .i64 (prodI (l.take j)) ∧ wr = w) (fun i _ _ => n - (intOf i).toNat)
  case atStart => exact ⟨0, Nat.zero_le _, rfl, rfl, rfl⟩
  case round =>
    obtain ⟨j, hj, rfl, rfl, rfl⟩ := hrel
    by_cases hlt : j < n
    · obtain ⟨adA, rfl, _, cA⟩ := HA.out.int_at hlt HL.out
      have hjl : j < l.length := by have := HL.out; omega
      have hq := prodI_snoc l hjl
      have hb := prodI_four (all_take HALL.out (j + 1)) (by rw [List.length_take]; omega)
      generalize l[j] = x at *
      generalize prodI (l.take j) = p at *
      generalize hQ : prodI (l.take (j + 1)) = q at *
      have HQ := Lib.hid hQ
      obtain ⟨hb1, hb2⟩ := hb
      have hq' : p * x = q := hq.symm
      clear hq hQ
      go_wp2
      exact ⟨⟨j + 1, by omega, by go_num, by rw [HQ.out], trivial⟩, by simp [intOf]; omega⟩
    · obtain rfl : j = n := by omega
      rw [List.take_of_length_le (by have := HL.out; omega)]
      go_wp2
      go_ret
      exact ⟨rfl, rfl⟩

theorem arcount_any (A : Option Addr) (c n : Nat) (l : List Int) (w : World) (hl : l.length = n) (ha : Reads w w.heap.size 1 A n (l.map iv)) (hn : n ≤ 9223372036854775807) :
    Calls Try.prog 63 #[.slice A n c] w fun e w' => e = .returned (.tuple #[.int .i64 (cntV l), .int .i64 (cntE l)]) ∧ w = w' := by
  have HH := Lib.hid (arhas_any A c n l w hl ha hn)
  have HP := Lib.hid (fun h4 => arprod_any A c n l w hl ha h4)
  have HOK : Hid (okShape l = (decide (n ≤ 4) && l.all lenOk && decide (prodI l ≤ 4096))) := Lib.hid (by unfold okShape; rw [hl])
  have HB := Lib.hid (fun (h : l.all lenOk = true) (h4 : n ≤ 4) => prodI_four h (by rw [hl]; exact h4))
  clear hl ha
  have no : okShape l = false → cntV l = 0 ∧ cntE l = 110 := cnt_no
  have yes : okShape l = true → cntV l = prodI l ∧ cntE l = 0 := cnt_ok
  rw [HOK.out] at no yes
  generalize cntV l = V at *
  generalize cntE l = E at *
  by_cases h4 : n ≤ 4
  case neg =>
    have h5 : 4 < (n : Int) := by omega
    obtain ⟨rfl, rfl⟩ := no (by rw [decide_eq_false h4]; rfl)
    clear yes no HOK
    go_enter Try.func63, Try.ntmps63
    go_wp2
    go_ret2
    exact ⟨rfl, rfl⟩
  have h5 : ¬ 4 < (n : Int) := by omega
  rw [decide_eq_true h4, Bool.true_and] at no yes
  cases hall : l.all lenOk
  · rw [hall] at HH no
    obtain ⟨rfl, rfl⟩ := no rfl
    clear yes no HOK hall
    go_enter Try.func63, Try.ntmps63
    go_wp2_with (go_at_call 112; refine HH.out.mono ?_; rintro e _ ⟨rfl, rfl⟩)
    go_ret2
    exact ⟨rfl, rfl⟩
  have HPR := Lib.hid (HP.out h4 hall)
  obtain ⟨b1, b2⟩ := HB.out hall h4
  rw [hall] at HH no yes
  generalize prodI l = p at *
  clear HP HB HOK hall
  by_cases hp : p ≤ 4096
  · obtain ⟨rfl, rfl⟩ := yes (by rw [decide_eq_true hp]; rfl)
    have hp2 : ¬ 4096 < V := by omega
    clear yes no
    go_enter Try.func63, Try.ntmps63
    go_wp2_with (first
      | (go_at_call 112; refine HH.out.mono ?_; rintro e _ ⟨rfl, rfl⟩)
      | (go_at_call 114; refine HPR.out.mono ?_; rintro e _ ⟨rfl, rfl⟩))
    go_ret2
    exact ⟨rfl, rfl⟩
  · obtain ⟨rfl, rfl⟩ := no (by rw [decide_eq_false hp]; rfl)
    have hp2 : 4096 < p := by omega
    clear yes no
    go_enter Try.func63, Try.ntmps63
    go_wp2_with (first
      | (go_at_call 112; refine HH.out.mono ?_; rintro e _ ⟨rfl, rfl⟩)
      | (go_at_call 114; refine HPR.out.mono ?_; rintro e _ ⟨rfl, rfl⟩))
    go_ret2
    exact ⟨rfl, rfl⟩
end Go.Proofs.Ytkabdkblcgklmaa.arr

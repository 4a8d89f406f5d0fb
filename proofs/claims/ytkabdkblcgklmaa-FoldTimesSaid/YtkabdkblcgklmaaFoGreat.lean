/-
  Layer 16 (fold), its laws: are arrays more than statements go through?
-/
import Derived.Test.YtkabdkblcgklmaaFoScan
namespace Go.Proofs.Ytkabdkblcgklmaa.fo
open Go.RowKit Go.Proofs.Ytkabdkblcgklmaa.arr Go.Proofs.Ytkabdkblcgklmaa.sc

def gr16 (M : Nat) (a : AV) : Bool := decide (M < a.el.length) || decide (100 < a.sh.length)
set_option maxHeartbeats 2000000 in
theorem l16great_any (M : Nat) (g c n : Nat) (l : List AV) (w : World) (hl : l.length = n) (ha : Ars w g l) (hn : n ≤ 100) :
    Calls Try.prog 28 #[.int .i64 (M : Int), .slice (some ⟨g, 0, none⟩) n c] w fun e w' => e = .returned (.bool (l.any (gr16 M))) ∧ Below w.heap.size w w' := by
  have HA := Lib.hid ha
  have HL := Lib.hid hl
  clear ha hl
  go_enter Try.func28, Try.ntmps28
  go_wp2
  go_loopw [8] (fun i wr => ∃ j, j ≤ n ∧ i = .int .i64 ((j : Nat) : Int) ∧ (l.take j).any (gr16 M) = false ∧ Below w.heap.size w wr) (fun i _ => n - (intOf i).toNat)
  case atStart => exact ⟨0, Nat.zero_le _, rfl, by simp, Below.refl _ _⟩
  case round =>
    obtain ⟨j, hj, rfl, hni, hb⟩ := hrel
    by_cases hlt : j < n
    · have hjl : j < l.length := by have := HL.out; omega
      obtain ⟨p, hp, c0, c1, c2⟩ := (HA.out.below hb).at_ j l[j] (List.getElem?_eq_getElem hjl)
      have hin : l[j] ∈ l := List.getElem_mem hjl
      have hstep : gr16 M l[j] = false → (l.take (j + 1)).any (gr16 M) = false := fun h => by
        rw [List.take_succ_eq_append_getElem hjl, List.any_append, hni]
        simpa using h
      have hno : gr16 M l[j] = true → l.any (gr16 M) = true := fun h => by
        rw [List.any_eq_true]
        exact ⟨_, hin, h⟩
      have hb0 := hp.b0
      have hb1 := hp.b1
      generalize l[j] = y at *
      obtain ⟨ne, hne⟩ : ∃ ne, y.el.length = ne := ⟨_, rfl⟩
      obtain ⟨ns, hns⟩ : ∃ ns, y.sh.length = ns := ⟨_, rfl⟩
      have hg : gr16 M y = (decide (M < ne) || decide (100 < ns)) := by rw [← hne, ← hns]; rfl
      rw [hne] at c2 hb1
      rw [hns] at c1 hb0
      rw [hg] at hstep hno
      have HST := Lib.hid hstep
      have HNO := Lib.hid hno
      have HB := Lib.hid hb
      clear hin hstep hno hni hb hp hne hns hg
      by_cases h1 : M < ne
      · have d1 : (M : Int) < (ne : Int) := by omega
        have HY := Lib.hid (HNO.out (by rw [decide_eq_true h1]; rfl))
        clear HNO HST
        go_wp2
        go_ret
        exact ⟨by rw [HY.out]; rfl, HB.out⟩
      · have d1 : ¬ (M : Int) < (ne : Int) := by omega
        by_cases h2 : 100 < ns
        · have d2 : (100 : Int) < (ns : Int) := by omega
          have HY := Lib.hid (HNO.out (by rw [decide_eq_true h2, Bool.or_true]))
          clear HNO HST
          go_wp2
          go_ret
          exact ⟨by rw [HY.out]; rfl, HB.out⟩
        · have d2 : ¬ (100 : Int) < (ns : Int) := by omega
          have HY := Lib.hid (HST.out (by rw [decide_eq_false h1, decide_eq_false h2]; rfl))
          clear HNO HST
          go_wp2
          exact ⟨⟨j + 1, by omega, by go_num, HY.out, HB.out⟩, by simp [intOf]; omega⟩
    · obtain rfl : j = n := by omega
      have hall : l.any (gr16 M) = false := by
        rwa [List.take_of_length_le (by have := HL.out; omega)] at hni
      have HALL := Lib.hid hall
      have HB := Lib.hid hb
      clear hall hni hb
      go_wp2
      go_ret
      exact ⟨by rw [HALL.out]; rfl, HB.out⟩
end Go.Proofs.Ytkabdkblcgklmaa.fo

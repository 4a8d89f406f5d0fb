/-
  Layer 12 (scalar): the statements' numbers of 128 bits: products; what is asked of an answer.
-/
import Derived.Test.YtkdnaebmifjmcaaScWide
namespace Go.Proofs.Ytkdnaebmifjmcaa.sc
open Go.RowKit

/-- The upper half, put right. -/
theorem prod_hi {x y : Int} (hx : InR x) (hy : InR y) (P : Nat) (hP : P = loN x * loN y) (h1 h2 : Int)
   (e1 : h1 = if x < 0 then (((P / 18446744073709551616 : Nat) : Int) - (loN y : Int)) % 18446744073709551616 else ((P / 18446744073709551616 : Nat) : Int))
   (e2 : h2 = if y < 0 then (h1 - (loN x : Int)) % 18446744073709551616 else h1) : h2 = (hiN (x * y) : Int) := by
  have hP2 : (P : Int) = (loN x : Int) * (loN y : Int) := by rw [hP]; exact Int.natCast_mul _ _
  have lx : (loN x : Int) = if x < 0 then x + 18446744073709551616 else x := by unfold loN InR at *; split <;> omega
  have ly : (loN y : Int) = if y < 0 then y + 18446744073709551616 else y := by unfold loN InR at *; split <;> omega
  unfold hiN
  obtain ⟨p, hp⟩ : ∃ p, x * y = p := ⟨_, rfl⟩
  rw [hp]
  by_cases hx0 : x < 0 <;> by_cases hy0 : y < 0
  · rw [if_pos hx0] at lx e1
    rw [if_pos hy0] at ly e2
    rw [lx] at e2
    rw [ly] at e1
    rw [lx, ly, Int.add_mul, Int.mul_add, Int.mul_add, hp] at hP2
    clear hp hP lx ly
    unfold InR at *
    omega
  · rw [if_pos hx0] at lx e1
    rw [if_neg hy0] at ly e2
    rw [ly] at e1
    rw [lx, ly, Int.add_mul, hp] at hP2
    clear hp hP lx ly
    unfold InR at *
    omega
  · rw [if_neg hx0] at lx e1
    rw [if_pos hy0] at ly e2
    rw [lx] at e2
    rw [lx, ly, Int.mul_add, hp] at hP2
    clear hp hP lx ly
    unfold InR at *
    omega
  · rw [if_neg hx0] at lx e1
    rw [if_neg hy0] at ly e2
    rw [lx, ly, hp] at hP2
    have hb := Int.mul_le_mul hx.2 hy.2 (by omega) (by decide)
    rw [hp] at hb
    clear hp hP lx ly
    unfold InR at *
    omega
theorem prod_lo (x y : Int) : loN x * loN y % 18446744073709551616 = loN (x * y) := by
  unfold loN
  have h := Int.mul_emod x y 18446744073709551616
  have h1 : 0 ≤ x % 18446744073709551616 := by omega
  have h2 : 0 ≤ y % 18446744073709551616 := by omega
  obtain ⟨a, ha⟩ := Int.eq_ofNat_of_zero_le h1
  obtain ⟨b, hb⟩ := Int.eq_ofNat_of_zero_le h2
  rw [ha, hb] at h
  rw [ha, hb, h, Int.toNat_natCast, Int.toNat_natCast]
  have e : ((a : Int) * (b : Int)) = ((a * b : Nat) : Int) := (Int.natCast_mul a b).symm
  rw [e]
  omega

set_option maxHeartbeats 1000000 in
theorem prod12_any (x y : Int) (hx : InR x) (hy : InR y) (w : World) : Calls Try.prog 27 #[.int .i64 x, .int .i64 y] w fun e w' => e = .returned (wv (x * y)) ∧ Below w.heap.size w w' := by
  have HM := Lib.hid (fun W => mul64_any (loN x) (loN y) (loN_lt x) (loN_lt y) W)
  have hlo := prod_lo x y
  obtain ⟨P, hP⟩ : ∃ P, P = loN x * loN y := ⟨_, rfl⟩
  obtain ⟨h1, e1⟩ : ∃ h1 : Int, h1 = if x < 0 then (((P / 18446744073709551616 : Nat) : Int) - (loN y : Int)) % 18446744073709551616 else ((P / 18446744073709551616 : Nat) : Int) := ⟨_, rfl⟩
  obtain ⟨h2, e2⟩ : ∃ h2 : Int, h2 = if y < 0 then (h1 - (loN x : Int)) % 18446744073709551616 else h1 := ⟨_, rfl⟩
  have hhi := prod_hi hx hy P hP h1 h2 e1 e2
  rw [← hP] at HM hlo
  have lx := lo_eq (v := x)
  have ly := lo_eq (v := y)
  have wr : ∀ n : Int, IntKind.u64.wrap n = n % 18446744073709551616 := fun n => IntKind.wrap_u64 n
  rw [hlo] at HM
  unfold wv
  rw [← hhi]
  clear hx hy hP hhi hlo
  generalize loN (x * y) = L at *
  generalize ((P / 18446744073709551616 : Nat) : Int) = Q at *
  generalize loN x = X at *
  generalize loN y = Y at *
  by_cases hx0 : x < 0 <;> by_cases hy0 : y < 0
  · rw [if_pos hx0] at e1
    rw [if_pos hy0] at e2
    have w1 : IntKind.u64.wrap (Q - (Y : Int)) = h1 := (wr _).trans e1.symm
    have w2 : IntKind.u64.wrap (h1 - (X : Int)) = h2 := (wr _).trans e2.symm
    clear wr e1 e2
    go_enter Try.func27, Try.ntmps27
    go_wp2_with (go_at_call 53; (with_reducible refine (HM.out _).mono ?_); rintro e _ ⟨rfl, rfl⟩)
    refine bodyPost_ret (results_wide rfl rfl (Blk.new w _ _)) rfl ?_
    exact ⟨rfl, alloc_below _ _⟩
  · rw [if_pos hx0] at e1
    rw [if_neg hy0] at e2
    have w1 : IntKind.u64.wrap (Q - (Y : Int)) = h1 := (wr _).trans e1.symm
    subst e2
    clear wr e1
    go_enter Try.func27, Try.ntmps27
    go_wp2_with (go_at_call 53; (with_reducible refine (HM.out _).mono ?_); rintro e _ ⟨rfl, rfl⟩)
    refine bodyPost_ret (results_wide rfl rfl (Blk.new w _ _)) rfl ?_
    exact ⟨rfl, alloc_below _ _⟩
  · rw [if_neg hx0] at e1
    rw [if_pos hy0] at e2
    subst e1
    have w2 : IntKind.u64.wrap (h1 - (X : Int)) = h2 := (wr _).trans e2.symm
    clear wr e2
    go_enter Try.func27, Try.ntmps27
    go_wp2_with (go_at_call 53; (with_reducible refine (HM.out _).mono ?_); rintro e _ ⟨rfl, rfl⟩)
    refine bodyPost_ret (results_wide rfl rfl (Blk.new w _ _)) rfl ?_
    exact ⟨rfl, alloc_below _ _⟩
  · rw [if_neg hx0] at e1
    rw [if_neg hy0] at e2
    subst e1
    subst e2
    clear wr 
    go_enter Try.func27, Try.ntmps27
    go_wp2_with (go_at_call 53; (with_reducible refine (HM.out _).mono ?_); rintro e _ ⟨rfl, rfl⟩)
    refine bodyPost_ret (results_wide rfl rfl (Blk.new w _ _)) rfl ?_
    exact ⟨rfl, alloc_below _ _⟩
end Go.Proofs.Ytkdnaebmifjmcaa.sc

/-
  The Writer's Num: its sizes, what fits, the iterator of a number's bytes (the lowest one first, without end), and the bytes that are put.
-/
import Derived.Test.YtoiopoghcjkgcaaGreatPut
namespace Go.Proofs.YtoiopoghcjkgcaaGreat
open Go.RowKit

/-! ### PLAIN -/
/-- Byte number k of n, the lowest one being 0. -/
def lowByte (n k : Nat) : UInt8 := UInt8.ofNat (n / 256 ^ k % 256)
/-- A number of size bytes, the highest one first. -/
def be (size n : Nat) : List UInt8 := (List.range size).map fun i => lowByte n (size - 1 - i)
def sized (size : Int) : Bool := size = 1 || size = 2 || size = 4 || size = 8
def fitsB (size n : Nat) : Bool := decide (n < 256 ^ size)
theorem be_length (size n : Nat) : (be size n).length = size := by simp [be]
theorem lowByte_toNat (n k : Nat) : (lowByte n k).toNat = n / 256 ^ k % 256 := by
  unfold lowByte
  rw [UInt8.toNat_ofNat']
  exact Nat.mod_mod_of_dvd _ (by decide)

theorem bv_low (n k : Nat) : bv (lowByte n k) = .int .u8 ((n : Int) / 256 ^ k % 256) := by
  unfold bv
  rw [lowByte_toNat]
  simp

theorem isSize_any (size : Int) (w : World) (h1 : -9223372036854775808 ≤ size) (h2 : size ≤ 9223372036854775807) :
    Calls Tryz.prog 71 #[.int .i64 size] w fun e w' => e = .returned (.bool (sized size)) ∧ w = w' := by
  unfold sized
  by_cases a1 : size = 1
  · subst a1
    go_enter Tryz.func71, Tryz.ntmps71
    go_wp2
    go_ret
    exact ⟨rfl, rfl⟩
  by_cases a2 : size = 2
  · subst a2
    go_enter Tryz.func71, Tryz.ntmps71
    go_wp2
    go_ret
    exact ⟨rfl, rfl⟩
  by_cases a4 : size = 4
  · subst a4
    go_enter Tryz.func71, Tryz.ntmps71
    go_wp2
    go_ret
    exact ⟨rfl, rfl⟩
  by_cases a8 : size = 8
  · subst a8
    go_enter Tryz.func71, Tryz.ntmps71
    go_wp2
    go_ret
    exact ⟨rfl, rfl⟩
  have b1 : (size == 1) = false := by simpa using a1
  have b2 : (size == 2) = false := by simpa using a2
  have b4 : (size == 4) = false := by simpa using a4
  have b8 : (size == 8) = false := by simpa using a8
  go_enter Tryz.func71, Tryz.ntmps71
  go_wp2
  go_ret
  exact ⟨by simp [a1, a2, a4, a8], rfl⟩

theorem shr_fits (size n : Nat) : ((n : Int) / 2 ^ (8 * size) == 0) = fitsB size n := by
  unfold fitsB
  rw [show (2 : Int) ^ (8 * size) = ((256 ^ size : Nat) : Int) from by rw [Int.pow_mul]; simp]
  rw [show ((n : Int) / ((256 ^ size : Nat) : Int)) = ((n / 256 ^ size : Nat) : Int) from rfl]
  rw [Bool.eq_iff_iff, beq_iff_eq, decide_eq_true_iff, ← Nat.div_eq_zero_iff_lt (Nat.pow_pos (by decide))]
  omega

theorem fits_any (size n : Nat) (w : World) (hs : size = 1 ∨ size = 2 ∨ size = 4 ∨ size = 8) :
    Calls Tryz.prog 72 #[.int .i64 size, .int .u64 n] w fun e w' => e = .returned (.bool (fitsB size n)) ∧ w = w' := by
  go_enter Tryz.func72, Tryz.ntmps72
  go_wp2
  go_ret
  exact ⟨by rw [shr_fits]; rfl, rfl⟩

theorem low_any (n : Nat) (w : World) : Calls Tryz.prog 73 #[.int .u64 n] w fun e w' => e = .returned (.func (.func 87) #[] #[.pointer (some ⟨w.heap.size, 0, none⟩)]) ∧ w.alloc (.cells #[.int .u64 n] 32) = w' := by
  go_enter Tryz.func73, Tryz.ntmps73
  go_wp2
  go_ret
  exact ⟨rfl, rfl⟩

open Classical in
/-- How many rounds are over, told by J. -/
noncomputable def over (J : Nat → World → Prop) (W : World) : Nat := if h : ∃ k, J k W then Classical.choose h else 0
theorem over_eq {J : Nat → World → Prop} {W : World} {k : Nat} (hu : ∀ k k' W, J k W → J k' W → k = k') (h : J k W) : over J W = k := by
  have hex : ∃ k, J k W := ⟨k, h⟩
  unfold over
  rw [dif_pos hex]
  exact hu _ _ W (Classical.choose_spec hex) h

section
attribute [local go_sem] Oper.semAt_some
set_option maxRecDepth 100000 in
set_option maxHeartbeats 1000000 in
/-- The iterator of a number's bytes: it ends only where a round has said so. -/
theorem low_left (F : Fence) (n : Nat) (h6 : F.fn 87) (hro : F.round = none) (h1 : 1 ≤ n) (C nn N : Nat) (w : World) (hC : C < w.heap.size) (hnn : nn < 18446744073709551616)
    (hc : w.cell? ⟨C, 0, none⟩ = some (.int .u64 nn)) :
    SeqLeft F n Tryz.prog 87 #[.pointer (some ⟨C, 0, none⟩)] (fun k => #[bv (lowByte nn k)]) N w := by
  intro l J Jx W hW hJN hJu hY h0
  have hC' : W.cell? ⟨C, 0, none⟩ = some (.int .u64 nn) := (hW.cell (p := ⟨C, 0, none⟩) hC).trans hc
  refine callsIn_of_wp Tryz.func87 rfl h6 ?_ hro
  simp only [Tryz.ntmps87, List.size_toArray, List.length_cons, List.length_nil, Nat.reduceAdd, Nat.reduceSub, Array.replicate_succ, Array.replicate_zero, List.push_toArray, List.append_toArray, List.nil_append, List.cons_append]
  gi_wp2
  gi_loopw [3] (fun p wr => ∃ k, p = .int .u64 ((nn / 256 ^ k : Nat) : Int) ∧ J k wr)
    (fun p wr => N - over J wr)
  case atStart => exact ⟨0, by simp, h0⟩
  case round =>
    obtain ⟨k, rfl, hJ⟩ := hrel
    have hlt := hJN k wr hJ
    obtain ⟨fn, tmps, assign, body, hy, hR⟩ := hY k wr hJ
    have hk : nn / 256 ^ k < 18446744073709551616 := Nat.lt_of_le_of_lt (Nat.div_le_self _ _) hnn
    rw [bv_low] at hy
    gi_wp2
    refine hR.mono ?_
    rintro e W3 (⟨rfl, hJ3⟩ | ⟨rfl, hJx3⟩)
    · gi_wp2
      go_roundw
      case rel => exact ⟨k + 1, by rw [Nat.pow_succ, ← Nat.div_div_eq_div_mul]; simp, hJ3⟩
      case measure =>
        have := hJN _ _ hJ3
        rw [over_eq hJu hJ3, over_eq hJu hJ]
        omega
    · gi_wp2
      go_end0
      exact ⟨⟨_, rfl⟩, hJx3⟩
end

end Go.Proofs.YtoiopoghcjkgcaaGreat

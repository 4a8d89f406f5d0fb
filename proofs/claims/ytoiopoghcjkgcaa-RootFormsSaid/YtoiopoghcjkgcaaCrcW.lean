/-
  The code of layer 2: a byte's bits, what a byte leaves of an empty register, a step.
-/
import Derived.Test.YtoiopoghcjkgcaaCrcP
import Derived.Test.YtoiopoghcjkgcaaRef2
namespace Go.Proofs.Ytoiopoghcjkgcaa.crc
open Go.RowKit

theorem clow_any (x : Nat) (w : World) : Calls Try.prog 62 #[.int .u8 x] w fun e w' => e = .returned (.func (.func 71) #[] #[.pointer (some ⟨w.heap.size, 0, none⟩)]) ∧ w.alloc (.cells #[.int .u8 x] 5) = w' := by
  go_enter Try.func62, Try.ntmps62
  go_wp2
  go_ret
  exact ⟨rfl, rfl⟩

section
attribute [local go_sem] Oper.semAt_some
set_option maxRecDepth 100000 in
set_option maxHeartbeats 1000000 in
/-- The iterator of a byte's bits. -/
theorem clow_stops (F : Fence) (n : Nat) (h6 : F.fn 71) (hro : F.round = none) (h1 : 1 ≤ n) (C x : Nat) (w : World) (hC : C < w.heap.size) (hx : x < 256)
    (hc : w.cell? ⟨C, 0, none⟩ = some (.int .u8 x)) :
    SeqStopsK F n Try.prog 71 #[.pointer (some ⟨C, 0, none⟩)] (fun b : Bool => #[.int .u32 (b.toNat : Int)]) (fun W W' => W'.cell? ⟨C, 0, none⟩ = W.cell? ⟨C, 0, none⟩) (fun xs => xs = bitsOf x 8) (fun _ => True) 8 w := by
  intro l J Jx W hW _ _ hY h0
  have hC' : W.cell? ⟨C, 0, none⟩ = some (.int .u8 x) := (hW.cell (p := ⟨C, 0, none⟩) hC).trans hc
  refine callsIn_of_wp Try.func71 rfl h6 ?_ hro
  simp only [Try.ntmps71, List.size_toArray, List.length_cons, List.length_nil, Nat.reduceAdd, Nat.reduceSub, Array.replicate_succ, Array.replicate_zero, List.push_toArray, List.append_toArray, List.nil_append, List.cons_append]
  gi_wp2
  gi_loopw [4] (fun i wr => ∃ k, k ≤ 8 ∧ i = .int .i64 ((k : Nat) : Int) ∧ J (bitsOf x k) wr ∧ wr.cell? ⟨C, 0, none⟩ = some (.int .u8 x))
    (fun i wr => 8 - (intOf i).toNat)
  case atStart => exact ⟨0, by omega, rfl, h0, hC'⟩
  case round =>
    obtain ⟨k, hk, rfl, hJ, hc1⟩ := hrel
    by_cases hlt : k < 8
    · obtain ⟨fn, tmps, assign, body, hy, hR⟩ := hY (bitsOf x k) (x.testBit k) wr hJ (by rw [bitsOf_length]; exact hlt)
      have hm : bits .and .u32 ((x : Int) / 2 ^ k % 4294967296) 1 = ((x.testBit k).toNat : Int) := by
        rw [Nat.testBit_eq_decide_div_mod_eq]
        have h0 : ((x : Int) / 2 ^ k) = ((x / 2 ^ k : Nat) : Int) := by simp
        have hq : x / 2 ^ k < 256 := Nat.lt_of_le_of_lt (Nat.div_le_self _ _) hx
        rw [h0]
        generalize x / 2 ^ k = q at hq
        rw [show (q : Int) % 4294967296 = (q : Int) from by omega]
        have h := u32_and_nat q 1 (by omega) (by omega)
        rw [Nat.and_one_is_mod] at h
        refine h.trans ?_
        rcases Nat.mod_two_eq_zero_or_one q with h | h <;> simp [h]
      rw [← bitsOf_snoc] at hR
      generalize ((x.testBit k).toNat : Int) = B at hm hy
      have HR := Lib.hid hR
      clear hR
      gi_wp2
      refine HR.out.mono ?_
      rintro e W3 (⟨rfl, hJ3, hk3⟩ | ⟨rfl, hJx3⟩)
      · gi_wp2
        go_roundw
        case rel => exact ⟨k + 1, by omega, by go_num, hJ3, hk3.trans hc1⟩
        case measure => simp [intOf]; omega
      · gi_wp2
        refine bodyPost_ret (results_none rfl _ _ _) rfl ?_
        exact ⟨⟨_, rfl⟩, .inr ⟨_, trivial, hJx3⟩⟩
    · obtain rfl : k = 8 := by omega
      gi_wp2
      go_end0
      exact ⟨⟨_, rfl⟩, .inl ⟨_, rfl, hJ⟩⟩
end

end Go.Proofs.Ytoiopoghcjkgcaa.crc

/-
  The document's own Check for layer 5, where no condition on the head holds; and in one word.
-/
import Derived.Test.YtpededkfgjmhcaaTRef
namespace Go.Proofs.Ytpededkfgjmhcaa.tile
open Go.RowKit Go.Proofs.Ytpededkfgjmhcaa.crc

set_option maxRecDepth 100000 in
set_option maxHeartbeats 4000000 in
theorem chk_8 (f m k s F : Int) (A : Option Addr) (n c : Nat) (el : List Int) (hl : el.length = n) (er : Int) (her : er = if kindT k el = true then 0 else 50) (w : World) (hr : Reads w w.heap.size 1 A n (el.map iv)) (hn : n ≤ 9223372036854775807) (hF : ∀ W, Calls Try.prog 13 #[.int .i64 s] W fun e w' => e = .returned (.int .i64 F) ∧ W = w') (d0 : decide (s < 1) = false) (d1 : decide (64 < s) = false) (d2 : decide (f < 1) = false) (d3 : decide (m < 0) = false) (d4 : decide (4096 ≤ m) = false) (d5 : decide (k < 1) = false) (d6 : decide (2 < k) = false) (d7 : decide (F < (n : Int)) = false) :
    Calls Try.prog 27 #[.agg #[.int .i64 f, .int .i64 m, .int .i64 k, .slice A n c], .int .i64 s] w fun e w' => e = .returned (.int .i64 er) ∧ Below w.heap.size w w' := by
  obtain ⟨W1, hW1⟩ : ∃ W1, w.alloc (.cells #[.int .i64 f, .int .i64 m, .int .i64 k, .slice A n c] 24) = W1 := ⟨_, rfl⟩
  have hb0 : Below w.heap.size w W1 := by rw [← hW1]; exact (Below.refl _ _).alloc (Nat.le_refl _) _
  have hx : Blk W1 w.heap.size 24 #[.int .i64 f, .int .i64 m, .int .i64 k, .slice A n c] := by rw [← hW1]; exact Blk.new w _ _
  have C0 := Lib.hid (fun W (hb : Below W1.heap.size W1 W) => (hx.below hb hx.lt).cell 0)
  have C1 := Lib.hid (fun W (hb : Below W1.heap.size W1 W) => (hx.below hb hx.lt).cell 1)
  have C2 := Lib.hid (fun W (hb : Below W1.heap.size W1 W) => (hx.below hb hx.lt).cell 2)
  have C3 := Lib.hid (fun W (hb : Below W1.heap.size W1 W) => (hx.below hb hx.lt).cell 3)
  have D0 := Lib.hid d0
  have D1 := Lib.hid d1
  have D2 := Lib.hid d2
  have D3 := Lib.hid d3
  have D4 := Lib.hid d4
  have D5 := Lib.hid d5
  have D6 := Lib.hid d6
  have D7 := Lib.hid d7
  have HF := Lib.hid hF
  have HW1 := Lib.hid hW1
  have HB := Lib.hid hb0
  have HR := Lib.hid (fun W (hb : Below W1.heap.size W1 W) => ((hr.below (hb0.trans (hb.mono hb0.size))).more (Nat.le_trans hb0.size hb.size)))
  clear hW1 hb0 hx hF d0 d1 d2 d3 d4 d5 d6 d7 hr
  go_enter Try.func27, Try.ntmps27
  go_wp2
  rw [HW1.out]
  refine wp_region_steps_on (fun w' => Below W1.heap.size W1 w') (fun i v _ => v = ([.int .i64 s, .bool false, .bool false, .int .i64 s, .bool false, .bool false, .bool false, .pointer (some ⟨w.heap.size, 0, none⟩), .int .i64 f, .bool false, .bool false, .bool false, .pointer (some ⟨w.heap.size, 1, none⟩), .int .i64 m, .bool false, .bool false, .bool false, .pointer (some ⟨w.heap.size, 1, none⟩), .int .i64 m, .bool false, .bool false, .bool false, .pointer (some ⟨w.heap.size, 2, none⟩), .int .i64 k, .bool false, .bool false, .bool false, .pointer (some ⟨w.heap.size, 2, none⟩), .int .i64 k, .bool false, .bool false, .bool false, .pointer (some ⟨w.heap.size, 3, none⟩), .slice A n c, .int .i64 n, .int .i64 s, .int .i64 F, .bool false, .bool false] : List Value).getD i undef) (by kernel_rfl) 71 rfl (by kernel_rfl) ((Below.refl _ _).drew) ?_ ?_
  · intro i hi
    have hi2 : i < 39 := hi
    clear hi
    rcases i with _ | i
    · refine step_value (.int .i64 s) rfl ?_
      intro a8 w8 hS ho hn
      have o1 : a8.tmps[1]? = some _ := (ho 1 (by kernel_rfl)).trans rfl
      clear ho hn
      refine ⟨wanted_free rfl, ?_, rfl⟩
      go_simp
    rcases i with _ | i
    · refine step_value (.bool false) rfl ?_
      intro a8 w8 hS ho hn
      obtain ⟨_, n6, rfl⟩ := hn 0 6 (by kernel_rfl) rfl
      clear ho hn
      refine ⟨wanted_free rfl, ?_, rfl⟩
      have hq := D0.out
      go_simp
    rcases i with _ | i
    · refine step_value (.bool false) rfl ?_
      intro a8 w8 hS ho hn
      obtain ⟨_, n7, rfl⟩ := hn 1 7 (by kernel_rfl) rfl
      clear ho hn
      refine ⟨wanted_free rfl, ?_, rfl⟩
      go_simp
    rcases i with _ | i
    · refine step_value (.int .i64 s) rfl ?_
      intro a8 w8 hS ho hn
      have o1 : a8.tmps[1]? = some _ := (ho 1 (by kernel_rfl)).trans rfl
      obtain ⟨_, n8, rfl⟩ := hn 2 8 (by kernel_rfl) rfl
      clear ho hn
      refine ⟨wanted_of 2 8 rfl rfl n8, ?_, rfl⟩
      go_simp
    rcases i with _ | i
    · refine step_value (.bool false) rfl ?_
      intro a8 w8 hS ho hn
      obtain ⟨_, n9, rfl⟩ := hn 3 9 (by kernel_rfl) rfl
      obtain ⟨_, n8, rfl⟩ := hn 2 8 (by kernel_rfl) rfl
      clear ho hn
      refine ⟨wanted_of 2 8 rfl rfl n8, ?_, rfl⟩
      have hq := D1.out
      go_simp
    rcases i with _ | i
    · refine step_value (.bool false) rfl ?_
      intro a8 w8 hS ho hn
      obtain ⟨_, n8, rfl⟩ := hn 2 8 (by kernel_rfl) rfl
      obtain ⟨_, n10, rfl⟩ := hn 4 10 (by kernel_rfl) rfl
      clear ho hn
      refine ⟨wanted_free rfl, ?_, rfl⟩
      go_simp
    rcases i with _ | i
    · refine step_value (.bool false) rfl ?_
      intro a8 w8 hS ho hn
      obtain ⟨_, n11, rfl⟩ := hn 5 11 (by kernel_rfl) rfl
      clear ho hn
      refine ⟨wanted_free rfl, ?_, rfl⟩
      go_simp
    rcases i with _ | i
    · refine step_value (.pointer (some ⟨w.heap.size, 0, none⟩)) rfl ?_
      intro a8 w8 hS ho hn
      have o2 : a8.tmps[2]? = some _ := (ho 2 (by kernel_rfl)).trans rfl
      obtain ⟨_, n12, rfl⟩ := hn 6 12 (by kernel_rfl) rfl
      clear ho hn
      refine ⟨wanted_of 6 12 rfl rfl n12, ?_, rfl⟩
      go_simp
    rcases i with _ | i
    · refine step_value (.int .i64 f) rfl ?_
      intro a8 w8 hS ho hn
      obtain ⟨_, n13, rfl⟩ := hn 7 13 (by kernel_rfl) rfl
      obtain ⟨_, n12, rfl⟩ := hn 6 12 (by kernel_rfl) rfl
      clear ho hn
      refine ⟨wanted_of 6 12 rfl rfl n12, ?_, rfl⟩
      have q8 := C0.out w8 hS
      go_simp
    rcases i with _ | i
    · refine step_value (.bool false) rfl ?_
      intro a8 w8 hS ho hn
      obtain ⟨_, n14, rfl⟩ := hn 8 14 (by kernel_rfl) rfl
      obtain ⟨_, n12, rfl⟩ := hn 6 12 (by kernel_rfl) rfl
      clear ho hn
      refine ⟨wanted_of 6 12 rfl rfl n12, ?_, rfl⟩
      have hq := D2.out
      go_simp
    rcases i with _ | i
    · refine step_value (.bool false) rfl ?_
      intro a8 w8 hS ho hn
      obtain ⟨_, n12, rfl⟩ := hn 6 12 (by kernel_rfl) rfl
      obtain ⟨_, n15, rfl⟩ := hn 9 15 (by kernel_rfl) rfl
      clear ho hn
      refine ⟨wanted_free rfl, ?_, rfl⟩
      go_simp
    rcases i with _ | i
    · refine step_value (.bool false) rfl ?_
      intro a8 w8 hS ho hn
      obtain ⟨_, n16, rfl⟩ := hn 10 16 (by kernel_rfl) rfl
      clear ho hn
      refine ⟨wanted_free rfl, ?_, rfl⟩
      go_simp
    rcases i with _ | i
    · refine step_value (.pointer (some ⟨w.heap.size, 1, none⟩)) rfl ?_
      intro a8 w8 hS ho hn
      have o2 : a8.tmps[2]? = some _ := (ho 2 (by kernel_rfl)).trans rfl
      obtain ⟨_, n17, rfl⟩ := hn 11 17 (by kernel_rfl) rfl
      clear ho hn
      refine ⟨wanted_of 11 17 rfl rfl n17, ?_, rfl⟩
      go_simp
    rcases i with _ | i
    · refine step_value (.int .i64 m) rfl ?_
      intro a8 w8 hS ho hn
      obtain ⟨_, n18, rfl⟩ := hn 12 18 (by kernel_rfl) rfl
      obtain ⟨_, n17, rfl⟩ := hn 11 17 (by kernel_rfl) rfl
      clear ho hn
      refine ⟨wanted_of 11 17 rfl rfl n17, ?_, rfl⟩
      have q8 := C1.out w8 hS
      go_simp
    rcases i with _ | i
    · refine step_value (.bool false) rfl ?_
      intro a8 w8 hS ho hn
      obtain ⟨_, n19, rfl⟩ := hn 13 19 (by kernel_rfl) rfl
      obtain ⟨_, n17, rfl⟩ := hn 11 17 (by kernel_rfl) rfl
      clear ho hn
      refine ⟨wanted_of 11 17 rfl rfl n17, ?_, rfl⟩
      have hq := D3.out
      go_simp
    rcases i with _ | i
    · refine step_value (.bool false) rfl ?_
      intro a8 w8 hS ho hn
      obtain ⟨_, n17, rfl⟩ := hn 11 17 (by kernel_rfl) rfl
      obtain ⟨_, n20, rfl⟩ := hn 14 20 (by kernel_rfl) rfl
      clear ho hn
      refine ⟨wanted_free rfl, ?_, rfl⟩
      go_simp
    rcases i with _ | i
    · refine step_value (.bool false) rfl ?_
      intro a8 w8 hS ho hn
      obtain ⟨_, n21, rfl⟩ := hn 15 21 (by kernel_rfl) rfl
      clear ho hn
      refine ⟨wanted_free rfl, ?_, rfl⟩
      go_simp
    rcases i with _ | i
    · refine step_value (.pointer (some ⟨w.heap.size, 1, none⟩)) rfl ?_
      intro a8 w8 hS ho hn
      have o2 : a8.tmps[2]? = some _ := (ho 2 (by kernel_rfl)).trans rfl
      obtain ⟨_, n22, rfl⟩ := hn 16 22 (by kernel_rfl) rfl
      clear ho hn
      refine ⟨wanted_of 16 22 rfl rfl n22, ?_, rfl⟩
      go_simp
    rcases i with _ | i
    · refine step_value (.int .i64 m) rfl ?_
      intro a8 w8 hS ho hn
      obtain ⟨_, n23, rfl⟩ := hn 17 23 (by kernel_rfl) rfl
      obtain ⟨_, n22, rfl⟩ := hn 16 22 (by kernel_rfl) rfl
      clear ho hn
      refine ⟨wanted_of 16 22 rfl rfl n22, ?_, rfl⟩
      have q8 := C1.out w8 hS
      go_simp
    rcases i with _ | i
    · refine step_value (.bool false) rfl ?_
      intro a8 w8 hS ho hn
      obtain ⟨_, n24, rfl⟩ := hn 18 24 (by kernel_rfl) rfl
      obtain ⟨_, n22, rfl⟩ := hn 16 22 (by kernel_rfl) rfl
      clear ho hn
      refine ⟨wanted_of 16 22 rfl rfl n22, ?_, rfl⟩
      have hq := D4.out
      go_simp
    rcases i with _ | i
    · refine step_value (.bool false) rfl ?_
      intro a8 w8 hS ho hn
      obtain ⟨_, n22, rfl⟩ := hn 16 22 (by kernel_rfl) rfl
      obtain ⟨_, n25, rfl⟩ := hn 19 25 (by kernel_rfl) rfl
      clear ho hn
      refine ⟨wanted_free rfl, ?_, rfl⟩
      go_simp
    rcases i with _ | i
    · refine step_value (.bool false) rfl ?_
      intro a8 w8 hS ho hn
      obtain ⟨_, n26, rfl⟩ := hn 20 26 (by kernel_rfl) rfl
      clear ho hn
      refine ⟨wanted_free rfl, ?_, rfl⟩
      go_simp
    rcases i with _ | i
    · refine step_value (.pointer (some ⟨w.heap.size, 2, none⟩)) rfl ?_
      intro a8 w8 hS ho hn
      have o2 : a8.tmps[2]? = some _ := (ho 2 (by kernel_rfl)).trans rfl
      obtain ⟨_, n27, rfl⟩ := hn 21 27 (by kernel_rfl) rfl
      clear ho hn
      refine ⟨wanted_of 21 27 rfl rfl n27, ?_, rfl⟩
      go_simp
    rcases i with _ | i
    · refine step_value (.int .i64 k) rfl ?_
      intro a8 w8 hS ho hn
      obtain ⟨_, n28, rfl⟩ := hn 22 28 (by kernel_rfl) rfl
      obtain ⟨_, n27, rfl⟩ := hn 21 27 (by kernel_rfl) rfl
      clear ho hn
      refine ⟨wanted_of 21 27 rfl rfl n27, ?_, rfl⟩
      have q8 := C2.out w8 hS
      go_simp
    rcases i with _ | i
    · refine step_value (.bool false) rfl ?_
      intro a8 w8 hS ho hn
      obtain ⟨_, n29, rfl⟩ := hn 23 29 (by kernel_rfl) rfl
      obtain ⟨_, n27, rfl⟩ := hn 21 27 (by kernel_rfl) rfl
      clear ho hn
      refine ⟨wanted_of 21 27 rfl rfl n27, ?_, rfl⟩
      have hq := D5.out
      go_simp
    rcases i with _ | i
    · refine step_value (.bool false) rfl ?_
      intro a8 w8 hS ho hn
      obtain ⟨_, n27, rfl⟩ := hn 21 27 (by kernel_rfl) rfl
      obtain ⟨_, n30, rfl⟩ := hn 24 30 (by kernel_rfl) rfl
      clear ho hn
      refine ⟨wanted_free rfl, ?_, rfl⟩
      go_simp
    rcases i with _ | i
    · refine step_value (.bool false) rfl ?_
      intro a8 w8 hS ho hn
      obtain ⟨_, n31, rfl⟩ := hn 25 31 (by kernel_rfl) rfl
      clear ho hn
      refine ⟨wanted_free rfl, ?_, rfl⟩
      go_simp
    rcases i with _ | i
    · refine step_value (.pointer (some ⟨w.heap.size, 2, none⟩)) rfl ?_
      intro a8 w8 hS ho hn
      have o2 : a8.tmps[2]? = some _ := (ho 2 (by kernel_rfl)).trans rfl
      obtain ⟨_, n32, rfl⟩ := hn 26 32 (by kernel_rfl) rfl
      clear ho hn
      refine ⟨wanted_of 26 32 rfl rfl n32, ?_, rfl⟩
      go_simp
    rcases i with _ | i
    · refine step_value (.int .i64 k) rfl ?_
      intro a8 w8 hS ho hn
      obtain ⟨_, n33, rfl⟩ := hn 27 33 (by kernel_rfl) rfl
      obtain ⟨_, n32, rfl⟩ := hn 26 32 (by kernel_rfl) rfl
      clear ho hn
      refine ⟨wanted_of 26 32 rfl rfl n32, ?_, rfl⟩
      have q8 := C2.out w8 hS
      go_simp
    rcases i with _ | i
    · refine step_value (.bool false) rfl ?_
      intro a8 w8 hS ho hn
      obtain ⟨_, n34, rfl⟩ := hn 28 34 (by kernel_rfl) rfl
      obtain ⟨_, n32, rfl⟩ := hn 26 32 (by kernel_rfl) rfl
      clear ho hn
      refine ⟨wanted_of 26 32 rfl rfl n32, ?_, rfl⟩
      have hq := D6.out
      go_simp
    rcases i with _ | i
    · refine step_value (.bool false) rfl ?_
      intro a8 w8 hS ho hn
      obtain ⟨_, n32, rfl⟩ := hn 26 32 (by kernel_rfl) rfl
      obtain ⟨_, n35, rfl⟩ := hn 29 35 (by kernel_rfl) rfl
      clear ho hn
      refine ⟨wanted_free rfl, ?_, rfl⟩
      go_simp
    rcases i with _ | i
    · refine step_value (.bool false) rfl ?_
      intro a8 w8 hS ho hn
      obtain ⟨_, n36, rfl⟩ := hn 30 36 (by kernel_rfl) rfl
      clear ho hn
      refine ⟨wanted_free rfl, ?_, rfl⟩
      go_simp
    rcases i with _ | i
    · refine step_value (.pointer (some ⟨w.heap.size, 3, none⟩)) rfl ?_
      intro a8 w8 hS ho hn
      have o2 : a8.tmps[2]? = some _ := (ho 2 (by kernel_rfl)).trans rfl
      obtain ⟨_, n37, rfl⟩ := hn 31 37 (by kernel_rfl) rfl
      clear ho hn
      refine ⟨wanted_of 31 37 rfl rfl n37, ?_, rfl⟩
      go_simp
    rcases i with _ | i
    · refine step_value (.slice A n c) rfl ?_
      intro a8 w8 hS ho hn
      obtain ⟨_, n38, rfl⟩ := hn 32 38 (by kernel_rfl) rfl
      obtain ⟨_, n37, rfl⟩ := hn 31 37 (by kernel_rfl) rfl
      clear ho hn
      refine ⟨wanted_of 31 37 rfl rfl n37, ?_, rfl⟩
      have q8 := C3.out w8 hS
      go_simp
    rcases i with _ | i
    · refine step_value (.int .i64 n) rfl ?_
      intro a8 w8 hS ho hn
      obtain ⟨_, n39, rfl⟩ := hn 33 39 (by kernel_rfl) rfl
      obtain ⟨_, n37, rfl⟩ := hn 31 37 (by kernel_rfl) rfl
      clear ho hn
      refine ⟨wanted_of 31 37 rfl rfl n37, ?_, rfl⟩
      go_simp
    rcases i with _ | i
    · refine step_value (.int .i64 s) rfl ?_
      intro a8 w8 hS ho hn
      have o1 : a8.tmps[1]? = some _ := (ho 1 (by kernel_rfl)).trans rfl
      obtain ⟨_, n37, rfl⟩ := hn 31 37 (by kernel_rfl) rfl
      clear ho hn
      refine ⟨wanted_of 31 37 rfl rfl n37, ?_, rfl⟩
      go_simp
    rcases i with _ | i
    · refine step_call 13 #[.int .i64 s] rfl ?_
      intro a8 w8 hS ho hn
      obtain ⟨_, n41, rfl⟩ := hn 35 41 (by kernel_rfl) rfl
      obtain ⟨_, n37, rfl⟩ := hn 31 37 (by kernel_rfl) rfl
      clear ho hn
      refine ⟨wanted_of 31 37 rfl rfl n37, by go_simp, ?_⟩
      refine (HF.out w8).mono ?_
      rintro e w9 ⟨rfl, hw⟩
      exact ⟨_, rfl, by subst hw; exact hS, rfl, fun j u _ h => h⟩
    rcases i with _ | i
    · refine step_value (.bool false) rfl ?_
      intro a8 w8 hS ho hn
      obtain ⟨_, n40, rfl⟩ := hn 34 40 (by kernel_rfl) rfl
      obtain ⟨_, n42, rfl⟩ := hn 36 42 (by kernel_rfl) rfl
      obtain ⟨_, n37, rfl⟩ := hn 31 37 (by kernel_rfl) rfl
      clear ho hn
      refine ⟨wanted_of 31 37 rfl rfl n37, ?_, rfl⟩
      have hq := D7.out
      go_simp
    rcases i with _ | i
    · refine step_value (.bool false) rfl ?_
      intro a8 w8 hS ho hn
      obtain ⟨_, n37, rfl⟩ := hn 31 37 (by kernel_rfl) rfl
      obtain ⟨_, n43, rfl⟩ := hn 37 43 (by kernel_rfl) rfl
      clear ho hn
      refine ⟨wanted_free rfl, ?_, rfl⟩
      go_simp
    omega
  · intro f w9 hS hR
    have h44 : f 44 = _ := hR 38 44 rfl
    simp only [putAll, List.foldl_cons, List.foldl_nil, Act.put, List.setIfInBounds_toArray, List.set_cons_succ, List.set_cons_zero, h44, List.getD_cons_zero, List.getD_cons_succ]
    clear hR h44
    have c2 := C2.out w9 hS
    have c3 := C3.out w9 hS
    have HRW := Lib.hid (HR.out w9 hS)
    have HS9 := Lib.hid (HB.out.trans (hS.mono HB.out.size))
    have hk12 : k = 1 ∨ k = 2 := by have := of_decide_eq_false D5.out; have := of_decide_eq_false D6.out; omega
    clear hS C0 C1 C2 C3 D0 D1 D2 D3 D4 D5 D6 D7 HF HW1 HB HR
    rcases hk12 with rfl | rfl
    · obtain rfl : er = 0 := her
      go_wp2
      go_loopw [5] (fun i wr => i = .int .i64 0 ∧ wr = w9) (fun i _ => 1)
      case atStart => exact ⟨rfl, rfl⟩
      case round =>
        obtain ⟨rfl, rfl⟩ := hrel
        by_cases h0 : 0 < n
        · have hd : decide ((0 : Int) < (n : Int)) = true := decide_eq_true (by omega)
          go_wp2
          go_ret
          exact ⟨rfl, HS9.out⟩
        · have hd : decide ((0 : Int) < (n : Int)) = false := decide_eq_false (by omega)
          go_wp2
          go_ret
          exact ⟨rfl, HS9.out⟩
    · have HKT : Hid (∀ b : Bool, el.all charT = b → er = if b = true then 0 else 50) := Lib.hid (fun b hb => by rw [her, ← hb]; rfl)
      clear her
      go_wp2
      go_loopw [5] (fun i wr => ∃ j, j ≤ n ∧ i = .int .i64 ((j : Nat) : Int) ∧ (el.take j).all charT = true ∧ wr = w9) (fun i _ => n - (intOf i).toNat)
      case atStart => exact ⟨0, Nat.zero_le _, rfl, by simp, rfl⟩
      case round =>
        obtain ⟨j, hj, rfl, hall, rfl⟩ := hrel
        by_cases hlt : j < n
        · obtain ⟨adA, rfl, _, cA⟩ := HRW.out.int_at hlt hl
          have hjl : j < el.length := by omega
          have hin : el[j] ∈ el := List.getElem_mem hjl
          have hstep : charT el[j] = true → (el.take (j + 1)).all charT = true := fun h => by
            rw [List.take_succ_eq_append_getElem hjl, List.all_append, hall]
            simpa using h
          have hno : charT el[j] = false → el.all charT = false := fun h => by
            rw [List.all_eq_false]
            exact ⟨_, hin, by rw [h]; decide⟩
          generalize el[j] = x at *
          have HST := Lib.hid hstep
          have HNO := Lib.hid hno
          clear hin hstep hno hall
          by_cases hx0 : x < 0
          · have hd : decide (x < 0) = true := decide_eq_true hx0
            have hch : charT x = false := by unfold charT; rw [decide_eq_false (by omega), Bool.false_and]
            have HCH := Lib.hid (HNO.out hch)
            clear hch
            go_wp2
            go_ret
            exact ⟨by rw [HKT.out _ HCH.out]; rfl, HS9.out⟩
          · have hd : decide (x < 0) = false := decide_eq_false hx0
            by_cases hx1 : 1114111 < x
            · have hd1 : decide (1114111 < x) = true := decide_eq_true hx1
              have hch : charT x = false := by unfold charT; rw [decide_eq_false (show ¬ x ≤ 1114111 by omega), Bool.and_false]
              have HCH := Lib.hid (HNO.out hch)
              clear hch
              go_wp2
              go_ret
              exact ⟨by rw [HKT.out _ HCH.out]; rfl, HS9.out⟩
            · have hd1 : decide (1114111 < x) = false := decide_eq_false hx1
              have hch : charT x = true := by unfold charT; rw [decide_eq_true (show 0 ≤ x by omega), decide_eq_true (show x ≤ 1114111 by omega)]; rfl
              have HCH := Lib.hid (HST.out hch)
              clear hch
              go_wp2
              exact ⟨⟨j + 1, by omega, by go_num, HCH.out, trivial⟩, by simp [intOf]; omega⟩
        · obtain rfl : j = n := by omega
          have hfin : el.all charT = true := by rwa [List.take_of_length_le (by omega)] at hall
          have HFI := Lib.hid hfin
          clear hfin hall
          go_wp2
          go_ret
          exact ⟨by rw [HKT.out _ HFI.out]; rfl, HS9.out⟩

theorem r5check_any (t : TV) (s : Int) (A : Option Addr) (n c : Nat) (w : World) (h : TEl w t A n) :
    Calls Try.prog 27 #[tv t A n c, .int .i64 s] w fun e w' => e = .returned (.int .i64 (errT t s)) ∧ Below w.heap.size w w' := by
  obtain ⟨f, m, k, el⟩ := t
  obtain ⟨hl, hr, hn, _⟩ := h
  simp only at hl hr
  have hF := fun W => r5fit_any s W
  have HEQ : okT ⟨f, m, k, el⟩ s = (inT s && decide (1 ≤ f) && decide (0 ≤ m) && decide (m < 4096) && (decide ((n : Int) ≤ fitT s) && kindT k el)) := by
    unfold okT headOk
    simp only [hl]
  have no : okT ⟨f, m, k, el⟩ s = false → errT ⟨f, m, k, el⟩ s = 50 := fun h => by unfold errT; rw [h]; rfl
  unfold tv
  simp only
  have kk : ¬ (1 ≤ k ∧ k ≤ 2) → kindT k el = false := fun h => by
    unfold kindT
    rw [decide_eq_false (by omega), decide_eq_false (by omega)]
    rfl
  have ii : ¬ (1 ≤ s ∧ s ≤ 64) → inT s = false := fun h => by
    cases h2 : inT s
    · rfl
    · exact absurd (inT_iff.1 h2) h
  cases d0 : decide (s < 1)
  case true => rw [no (by rw [HEQ, ii (by have := of_decide_eq_true d0; omega)]; rfl)]; exact chk_0 f m k s _ A n c w hF d0
  cases d1 : decide (64 < s)
  case true => rw [no (by rw [HEQ, ii (by have := of_decide_eq_true d1; omega)]; rfl)]; exact chk_1 f m k s _ A n c w hF d0 d1
  have hin : inT s = true := inT_iff.2 (by have := of_decide_eq_false d0; have := of_decide_eq_false d1; omega)
  cases d2 : decide (f < 1)
  case true => rw [no (by rw [HEQ, decide_eq_false (show ¬ 1 ≤ f by have := of_decide_eq_true d2; omega)]; simp)]; exact chk_2 f m k s _ A n c w hF d0 d1 d2
  cases d3 : decide (m < 0)
  case true => rw [no (by rw [HEQ, decide_eq_false (show ¬ 0 ≤ m by have := of_decide_eq_true d3; omega)]; simp)]; exact chk_3 f m k s _ A n c w hF d0 d1 d2 d3
  cases d4 : decide (4096 ≤ m)
  case true => rw [no (by rw [HEQ, decide_eq_false (show ¬ m < 4096 by have := of_decide_eq_true d4; omega)]; simp)]; exact chk_4 f m k s _ A n c w hF d0 d1 d2 d3 d4
  cases d5 : decide (k < 1)
  case true => rw [no (by rw [HEQ, kk (by have := of_decide_eq_true d5; omega)]; simp)]; exact chk_5 f m k s _ A n c w hF d0 d1 d2 d3 d4 d5
  cases d6 : decide (2 < k)
  case true => rw [no (by rw [HEQ, kk (by have := of_decide_eq_true d6; omega)]; simp)]; exact chk_6 f m k s _ A n c w hF d0 d1 d2 d3 d4 d5 d6
  cases d7 : decide (fitT s < (n : Int))
  case true => rw [no (by rw [HEQ, decide_eq_false (show ¬ (n : Int) ≤ fitT s by have := of_decide_eq_true d7; omega)]; simp)]; exact chk_7 f m k s _ A n c w hF d0 d1 d2 d3 d4 d5 d6 d7
  have e1 := of_decide_eq_false d2
  have e2 := of_decide_eq_false d3
  have e3 := of_decide_eq_false d4
  have e4 := of_decide_eq_false d7
  have hok : okT ⟨f, m, k, el⟩ s = kindT k el := by
    rw [HEQ, hin, decide_eq_true (show 1 ≤ f by omega), decide_eq_true (show 0 ≤ m by omega), decide_eq_true (show m < 4096 by omega), decide_eq_true (show (n : Int) ≤ fitT s by omega)]
    rfl
  have he : errT ⟨f, m, k, el⟩ s = (if kindT k el = true then 0 else 50) := by unfold errT; rw [hok]
  rw [he]
  exact chk_8 f m k s _ A n c el hl _ rfl w hr hn hF d0 d1 d2 d3 d4 d5 d6 d7

end Go.Proofs.Ytpededkfgjmhcaa.tile

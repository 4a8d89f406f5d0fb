/-
  The document's own answers for layer 5: Fit, Check.
-/
import Derived.Test.YtpededkfgjmhcaaTSame
namespace Go.Proofs.Ytpededkfgjmhcaa.tile
open Go.RowKit Go.Proofs.Ytpededkfgjmhcaa.crc

set_option maxHeartbeats 1000000 in
theorem r5fit_any (s : Int) (w : World) : Calls Try.prog 13 #[.int .i64 s] w fun e w' => e = .returned (.int .i64 (fitT s)) ∧ w = w' := by
  unfold fitT
  by_cases h1 : s < 1
  · have hd : decide (s < 1) = true := decide_eq_true h1
    have hi : inT s = false := by cases h : inT s <;> first | rfl | (have := inT_iff.1 h; omega)
    rw [hi, if_neg Bool.false_ne_true]
    clear hi
    go_enter Try.func13, Try.ntmps13
    go_wp2
    go_ret
    exact ⟨rfl, rfl⟩
  · have hd : decide (s < 1) = false := decide_eq_false h1
    by_cases h2 : 64 < s
    · have hd2 : decide (64 < s) = true := decide_eq_true h2
      have hi : inT s = false := by cases h : inT s <;> first | rfl | (have := inT_iff.1 h; omega)
      rw [hi, if_neg Bool.false_ne_true]
      clear hi
      go_enter Try.func13, Try.ntmps13
      go_wp2
      go_ret
      exact ⟨rfl, rfl⟩
    · have hd2 : decide (64 < s) = false := decide_eq_false h2
      rw [if_pos (inT_iff.2 (by omega))]
      obtain ⟨S, rfl⟩ := Int.eq_ofNat_of_zero_le (a := s) (by omega)
      have hS : 1 ≤ S ∧ S ≤ 64 := by omega
      obtain ⟨F, hF⟩ : ∃ F, (S * 128 - 24) / 8 = F := ⟨_, rfl⟩
      have e : ((S : Int) * 128 - 24) / 8 = (F : Int) := by omega
      rw [e]
      clear e h1 h2
      go_enter Try.func13, Try.ntmps13
      go_wp2
      go_loopw [3] (fun i wr => ∃ j, j ≤ F ∧ i = .int .i64 ((j : Nat) : Int) ∧ wr = w) (fun i _ => F - (intOf i).toNat)
      case atStart => exact ⟨0, Nat.zero_le _, rfl, rfl⟩
      case round =>
        obtain ⟨j, hj, rfl, rfl⟩ := hrel
        by_cases hlt : j < F
        · have hd9 : decide ((24 : Int) + 8 * ((j : Int) + 1) ≤ (S : Int) * 128) = true := decide_eq_true (by omega)
          go_wp2
          exact ⟨⟨j + 1, by omega, by go_num, trivial⟩, by simp [intOf]; omega⟩
        · obtain rfl : j = F := by omega
          have hd9 : decide ((24 : Int) + 8 * ((j : Int) + 1) ≤ (S : Int) * 128) = false := decide_eq_false (by omega)
          go_wp2
          go_ret
          exact ⟨rfl, rfl⟩

set_option maxRecDepth 100000 in
set_option maxHeartbeats 4000000 in
theorem chk_0 (f m k s F : Int) (A : Option Addr) (n c : Nat) (w : World) (hF : ∀ W, Calls Try.prog 13 #[.int .i64 s] W fun e w' => e = .returned (.int .i64 F) ∧ W = w') (d0 : decide (s < 1) = true) :
    Calls Try.prog 27 #[.agg #[.int .i64 f, .int .i64 m, .int .i64 k, .slice A n c], .int .i64 s] w fun e w' => e = .returned (.int .i64 50) ∧ Below w.heap.size w w' := by
  obtain ⟨W1, hW1⟩ : ∃ W1, w.alloc (.cells #[.int .i64 f, .int .i64 m, .int .i64 k, .slice A n c] 24) = W1 := ⟨_, rfl⟩
  have hb0 : Below w.heap.size w W1 := by rw [← hW1]; exact (Below.refl _ _).alloc (Nat.le_refl _) _
  have hx : Blk W1 w.heap.size 24 #[.int .i64 f, .int .i64 m, .int .i64 k, .slice A n c] := by rw [← hW1]; exact Blk.new w _ _
  have C0 := Lib.hid (fun W (hb : Below W1.heap.size W1 W) => (hx.below hb hx.lt).cell 0)
  have C1 := Lib.hid (fun W (hb : Below W1.heap.size W1 W) => (hx.below hb hx.lt).cell 1)
  have C2 := Lib.hid (fun W (hb : Below W1.heap.size W1 W) => (hx.below hb hx.lt).cell 2)
  have C3 := Lib.hid (fun W (hb : Below W1.heap.size W1 W) => (hx.below hb hx.lt).cell 3)
  have D0 := Lib.hid d0
  have HF := Lib.hid hF
  have HW1 := Lib.hid hW1
  have HB := Lib.hid hb0
  clear hW1 hb0 hx hF d0
  go_enter Try.func27, Try.ntmps27
  go_wp2
  rw [HW1.out]
  refine wp_region_steps_on (fun w' => Below W1.heap.size W1 w') (fun i v _ => v = ([.int .i64 s, .bool true, .bool true, undef, undef, .bool true, .bool true, undef, undef, undef, .bool true, .bool true, undef, undef, undef, .bool true, .bool true, undef, undef, undef, .bool true, .bool true, undef, undef, undef, .bool true, .bool true, undef, undef, undef, .bool true, .bool true, undef, undef, undef, undef, undef, undef, .bool true] : List Value).getD i undef) (by kernel_rfl) 71 rfl (by kernel_rfl) ((Below.refl _ _).drew) ?_ ?_
  · intro i hi
    have hi2 : i < 39 := hi
    clear hi
    rcases i with _ | i
    · refine step_value (.int .i64 s) rfl ?_
      intro a8 w8 hS ho hn
      have o1 : a8.tmps[1]? = some _ := (ho 1 (by kernel_rfl)).trans rfl
      clear ho hn
      refine ⟨wanted_free rfl, ?_, rfl⟩
      go_simp
    rcases i with _ | i
    · refine step_value (.bool true) rfl ?_
      intro a8 w8 hS ho hn
      obtain ⟨_, n6, rfl⟩ := hn 0 6 (by kernel_rfl) rfl
      clear ho hn
      refine ⟨wanted_free rfl, ?_, rfl⟩
      have hq := D0.out
      go_simp
    rcases i with _ | i
    · refine step_value (.bool true) rfl ?_
      intro a8 w8 hS ho hn
      obtain ⟨_, n7, rfl⟩ := hn 1 7 (by kernel_rfl) rfl
      clear ho hn
      refine ⟨wanted_free rfl, ?_, rfl⟩
      go_simp
    rcases i with _ | i
    · refine step_skip rfl ?_
      intro a8 w8 hS ho hn
      obtain ⟨_, n8, rfl⟩ := hn 2 8 (by kernel_rfl) rfl
      exact ⟨unwanted_of 2 8 rfl rfl n8 rfl, rfl⟩
    rcases i with _ | i
    · refine step_skip rfl ?_
      intro a8 w8 hS ho hn
      obtain ⟨_, n8, rfl⟩ := hn 2 8 (by kernel_rfl) rfl
      exact ⟨unwanted_of 2 8 rfl rfl n8 rfl, rfl⟩
    rcases i with _ | i
    · refine step_value (.bool true) rfl ?_
      intro a8 w8 hS ho hn
      obtain ⟨_, n8, rfl⟩ := hn 2 8 (by kernel_rfl) rfl
      obtain ⟨_, n10, rfl⟩ := hn 4 10 (by kernel_rfl) rfl
      clear ho hn
      refine ⟨wanted_free rfl, ?_, rfl⟩
      go_simp
    rcases i with _ | i
    · refine step_value (.bool true) rfl ?_
      intro a8 w8 hS ho hn
      obtain ⟨_, n11, rfl⟩ := hn 5 11 (by kernel_rfl) rfl
      clear ho hn
      refine ⟨wanted_free rfl, ?_, rfl⟩
      go_simp
    rcases i with _ | i
    · refine step_skip rfl ?_
      intro a8 w8 hS ho hn
      obtain ⟨_, n12, rfl⟩ := hn 6 12 (by kernel_rfl) rfl
      exact ⟨unwanted_of 6 12 rfl rfl n12 rfl, rfl⟩
    rcases i with _ | i
    · refine step_skip rfl ?_
      intro a8 w8 hS ho hn
      obtain ⟨_, n12, rfl⟩ := hn 6 12 (by kernel_rfl) rfl
      exact ⟨unwanted_of 6 12 rfl rfl n12 rfl, rfl⟩
    rcases i with _ | i
    · refine step_skip rfl ?_
      intro a8 w8 hS ho hn
      obtain ⟨_, n12, rfl⟩ := hn 6 12 (by kernel_rfl) rfl
      exact ⟨unwanted_of 6 12 rfl rfl n12 rfl, rfl⟩
    rcases i with _ | i
    · refine step_value (.bool true) rfl ?_
      intro a8 w8 hS ho hn
      obtain ⟨_, n12, rfl⟩ := hn 6 12 (by kernel_rfl) rfl
      obtain ⟨_, n15, rfl⟩ := hn 9 15 (by kernel_rfl) rfl
      clear ho hn
      refine ⟨wanted_free rfl, ?_, rfl⟩
      go_simp
    rcases i with _ | i
    · refine step_value (.bool true) rfl ?_
      intro a8 w8 hS ho hn
      obtain ⟨_, n16, rfl⟩ := hn 10 16 (by kernel_rfl) rfl
      clear ho hn
      refine ⟨wanted_free rfl, ?_, rfl⟩
      go_simp
    rcases i with _ | i
    · refine step_skip rfl ?_
      intro a8 w8 hS ho hn
      obtain ⟨_, n17, rfl⟩ := hn 11 17 (by kernel_rfl) rfl
      exact ⟨unwanted_of 11 17 rfl rfl n17 rfl, rfl⟩
    rcases i with _ | i
    · refine step_skip rfl ?_
      intro a8 w8 hS ho hn
      obtain ⟨_, n17, rfl⟩ := hn 11 17 (by kernel_rfl) rfl
      exact ⟨unwanted_of 11 17 rfl rfl n17 rfl, rfl⟩
    rcases i with _ | i
    · refine step_skip rfl ?_
      intro a8 w8 hS ho hn
      obtain ⟨_, n17, rfl⟩ := hn 11 17 (by kernel_rfl) rfl
      exact ⟨unwanted_of 11 17 rfl rfl n17 rfl, rfl⟩
    rcases i with _ | i
    · refine step_value (.bool true) rfl ?_
      intro a8 w8 hS ho hn
      obtain ⟨_, n17, rfl⟩ := hn 11 17 (by kernel_rfl) rfl
      obtain ⟨_, n20, rfl⟩ := hn 14 20 (by kernel_rfl) rfl
      clear ho hn
      refine ⟨wanted_free rfl, ?_, rfl⟩
      go_simp
    rcases i with _ | i
    · refine step_value (.bool true) rfl ?_
      intro a8 w8 hS ho hn
      obtain ⟨_, n21, rfl⟩ := hn 15 21 (by kernel_rfl) rfl
      clear ho hn
      refine ⟨wanted_free rfl, ?_, rfl⟩
      go_simp
    rcases i with _ | i
    · refine step_skip rfl ?_
      intro a8 w8 hS ho hn
      obtain ⟨_, n22, rfl⟩ := hn 16 22 (by kernel_rfl) rfl
      exact ⟨unwanted_of 16 22 rfl rfl n22 rfl, rfl⟩
    rcases i with _ | i
    · refine step_skip rfl ?_
      intro a8 w8 hS ho hn
      obtain ⟨_, n22, rfl⟩ := hn 16 22 (by kernel_rfl) rfl
      exact ⟨unwanted_of 16 22 rfl rfl n22 rfl, rfl⟩
    rcases i with _ | i
    · refine step_skip rfl ?_
      intro a8 w8 hS ho hn
      obtain ⟨_, n22, rfl⟩ := hn 16 22 (by kernel_rfl) rfl
      exact ⟨unwanted_of 16 22 rfl rfl n22 rfl, rfl⟩
    rcases i with _ | i
    · refine step_value (.bool true) rfl ?_
      intro a8 w8 hS ho hn
      obtain ⟨_, n22, rfl⟩ := hn 16 22 (by kernel_rfl) rfl
      obtain ⟨_, n25, rfl⟩ := hn 19 25 (by kernel_rfl) rfl
      clear ho hn
      refine ⟨wanted_free rfl, ?_, rfl⟩
      go_simp
    rcases i with _ | i
    · refine step_value (.bool true) rfl ?_
      intro a8 w8 hS ho hn
      obtain ⟨_, n26, rfl⟩ := hn 20 26 (by kernel_rfl) rfl
      clear ho hn
      refine ⟨wanted_free rfl, ?_, rfl⟩
      go_simp
    rcases i with _ | i
    · refine step_skip rfl ?_
      intro a8 w8 hS ho hn
      obtain ⟨_, n27, rfl⟩ := hn 21 27 (by kernel_rfl) rfl
      exact ⟨unwanted_of 21 27 rfl rfl n27 rfl, rfl⟩
    rcases i with _ | i
    · refine step_skip rfl ?_
      intro a8 w8 hS ho hn
      obtain ⟨_, n27, rfl⟩ := hn 21 27 (by kernel_rfl) rfl
      exact ⟨unwanted_of 21 27 rfl rfl n27 rfl, rfl⟩
    rcases i with _ | i
    · refine step_skip rfl ?_
      intro a8 w8 hS ho hn
      obtain ⟨_, n27, rfl⟩ := hn 21 27 (by kernel_rfl) rfl
      exact ⟨unwanted_of 21 27 rfl rfl n27 rfl, rfl⟩
    rcases i with _ | i
    · refine step_value (.bool true) rfl ?_
      intro a8 w8 hS ho hn
      obtain ⟨_, n27, rfl⟩ := hn 21 27 (by kernel_rfl) rfl
      obtain ⟨_, n30, rfl⟩ := hn 24 30 (by kernel_rfl) rfl
      clear ho hn
      refine ⟨wanted_free rfl, ?_, rfl⟩
      go_simp
    rcases i with _ | i
    · refine step_value (.bool true) rfl ?_
      intro a8 w8 hS ho hn
      obtain ⟨_, n31, rfl⟩ := hn 25 31 (by kernel_rfl) rfl
      clear ho hn
      refine ⟨wanted_free rfl, ?_, rfl⟩
      go_simp
    rcases i with _ | i
    · refine step_skip rfl ?_
      intro a8 w8 hS ho hn
      obtain ⟨_, n32, rfl⟩ := hn 26 32 (by kernel_rfl) rfl
      exact ⟨unwanted_of 26 32 rfl rfl n32 rfl, rfl⟩
    rcases i with _ | i
    · refine step_skip rfl ?_
      intro a8 w8 hS ho hn
      obtain ⟨_, n32, rfl⟩ := hn 26 32 (by kernel_rfl) rfl
      exact ⟨unwanted_of 26 32 rfl rfl n32 rfl, rfl⟩
    rcases i with _ | i
    · refine step_skip rfl ?_
      intro a8 w8 hS ho hn
      obtain ⟨_, n32, rfl⟩ := hn 26 32 (by kernel_rfl) rfl
      exact ⟨unwanted_of 26 32 rfl rfl n32 rfl, rfl⟩
    rcases i with _ | i
    · refine step_value (.bool true) rfl ?_
      intro a8 w8 hS ho hn
      obtain ⟨_, n32, rfl⟩ := hn 26 32 (by kernel_rfl) rfl
      obtain ⟨_, n35, rfl⟩ := hn 29 35 (by kernel_rfl) rfl
      clear ho hn
      refine ⟨wanted_free rfl, ?_, rfl⟩
      go_simp
    rcases i with _ | i
    · refine step_value (.bool true) rfl ?_
      intro a8 w8 hS ho hn
      obtain ⟨_, n36, rfl⟩ := hn 30 36 (by kernel_rfl) rfl
      clear ho hn
      refine ⟨wanted_free rfl, ?_, rfl⟩
      go_simp
    rcases i with _ | i
    · refine step_skip rfl ?_
      intro a8 w8 hS ho hn
      obtain ⟨_, n37, rfl⟩ := hn 31 37 (by kernel_rfl) rfl
      exact ⟨unwanted_of 31 37 rfl rfl n37 rfl, rfl⟩
    rcases i with _ | i
    · refine step_skip rfl ?_
      intro a8 w8 hS ho hn
      obtain ⟨_, n37, rfl⟩ := hn 31 37 (by kernel_rfl) rfl
      exact ⟨unwanted_of 31 37 rfl rfl n37 rfl, rfl⟩
    rcases i with _ | i
    · refine step_skip rfl ?_
      intro a8 w8 hS ho hn
      obtain ⟨_, n37, rfl⟩ := hn 31 37 (by kernel_rfl) rfl
      exact ⟨unwanted_of 31 37 rfl rfl n37 rfl, rfl⟩
    rcases i with _ | i
    · refine step_skip rfl ?_
      intro a8 w8 hS ho hn
      obtain ⟨_, n37, rfl⟩ := hn 31 37 (by kernel_rfl) rfl
      exact ⟨unwanted_of 31 37 rfl rfl n37 rfl, rfl⟩
    rcases i with _ | i
    · refine step_skip rfl ?_
      intro a8 w8 hS ho hn
      obtain ⟨_, n37, rfl⟩ := hn 31 37 (by kernel_rfl) rfl
      exact ⟨unwanted_of 31 37 rfl rfl n37 rfl, rfl⟩
    rcases i with _ | i
    · refine step_skip rfl ?_
      intro a8 w8 hS ho hn
      obtain ⟨_, n37, rfl⟩ := hn 31 37 (by kernel_rfl) rfl
      exact ⟨unwanted_of 31 37 rfl rfl n37 rfl, rfl⟩
    rcases i with _ | i
    · refine step_value (.bool true) rfl ?_
      intro a8 w8 hS ho hn
      obtain ⟨_, n37, rfl⟩ := hn 31 37 (by kernel_rfl) rfl
      obtain ⟨_, n43, rfl⟩ := hn 37 43 (by kernel_rfl) rfl
      clear ho hn
      refine ⟨wanted_free rfl, ?_, rfl⟩
      go_simp
    omega
  · intro f w9 hS hR
    have h44 : f 44 = _ := hR 38 44 rfl
    simp only [putAll, List.foldl_cons, List.foldl_nil, Act.put, List.setIfInBounds_toArray, List.set_cons_succ, List.set_cons_zero, h44, List.getD_cons_zero, List.getD_cons_succ]
    clear hR h44
    go_wp2
    go_ret
    exact ⟨rfl, HB.out.trans (hS.mono HB.out.size)⟩

set_option maxRecDepth 100000 in
set_option maxHeartbeats 4000000 in
theorem chk_1 (f m k s F : Int) (A : Option Addr) (n c : Nat) (w : World) (hF : ∀ W, Calls Try.prog 13 #[.int .i64 s] W fun e w' => e = .returned (.int .i64 F) ∧ W = w') (d0 : decide (s < 1) = false) (d1 : decide (64 < s) = true) :
    Calls Try.prog 27 #[.agg #[.int .i64 f, .int .i64 m, .int .i64 k, .slice A n c], .int .i64 s] w fun e w' => e = .returned (.int .i64 50) ∧ Below w.heap.size w w' := by
  obtain ⟨W1, hW1⟩ : ∃ W1, w.alloc (.cells #[.int .i64 f, .int .i64 m, .int .i64 k, .slice A n c] 24) = W1 := ⟨_, rfl⟩
  have hb0 : Below w.heap.size w W1 := by rw [← hW1]; exact (Below.refl _ _).alloc (Nat.le_refl _) _
  have hx : Blk W1 w.heap.size 24 #[.int .i64 f, .int .i64 m, .int .i64 k, .slice A n c] := by rw [← hW1]; exact Blk.new w _ _
  have C0 := Lib.hid (fun W (hb : Below W1.heap.size W1 W) => (hx.below hb hx.lt).cell 0)
  have C1 := Lib.hid (fun W (hb : Below W1.heap.size W1 W) => (hx.below hb hx.lt).cell 1)
  have C2 := Lib.hid (fun W (hb : Below W1.heap.size W1 W) => (hx.below hb hx.lt).cell 2)
  have C3 := Lib.hid (fun W (hb : Below W1.heap.size W1 W) => (hx.below hb hx.lt).cell 3)
  have D0 := Lib.hid d0
  have D1 := Lib.hid d1
  have HF := Lib.hid hF
  have HW1 := Lib.hid hW1
  have HB := Lib.hid hb0
  clear hW1 hb0 hx hF d0 d1
  go_enter Try.func27, Try.ntmps27
  go_wp2
  rw [HW1.out]
  refine wp_region_steps_on (fun w' => Below W1.heap.size W1 w') (fun i v _ => v = ([.int .i64 s, .bool false, .bool false, .int .i64 s, .bool true, .bool true, .bool true, undef, undef, undef, .bool true, .bool true, undef, undef, undef, .bool true, .bool true, undef, undef, undef, .bool true, .bool true, undef, undef, undef, .bool true, .bool true, undef, undef, undef, .bool true, .bool true, undef, undef, undef, undef, undef, undef, .bool true] : List Value).getD i undef) (by kernel_rfl) 71 rfl (by kernel_rfl) ((Below.refl _ _).drew) ?_ ?_
  · intro i hi
    have hi2 : i < 39 := hi
    clear hi
    rcases i with _ | i
    · refine step_value (.int .i64 s) rfl ?_
      intro a8 w8 hS ho hn
      have o1 : a8.tmps[1]? = some _ := (ho 1 (by kernel_rfl)).trans rfl
      clear ho hn
      refine ⟨wanted_free rfl, ?_, rfl⟩
      go_simp
    rcases i with _ | i
    · refine step_value (.bool false) rfl ?_
      intro a8 w8 hS ho hn
      obtain ⟨_, n6, rfl⟩ := hn 0 6 (by kernel_rfl) rfl
      clear ho hn
      refine ⟨wanted_free rfl, ?_, rfl⟩
      have hq := D0.out
      go_simp
    rcases i with _ | i
    · refine step_value (.bool false) rfl ?_
      intro a8 w8 hS ho hn
      obtain ⟨_, n7, rfl⟩ := hn 1 7 (by kernel_rfl) rfl
      clear ho hn
      refine ⟨wanted_free rfl, ?_, rfl⟩
      go_simp
    rcases i with _ | i
    · refine step_value (.int .i64 s) rfl ?_
      intro a8 w8 hS ho hn
      have o1 : a8.tmps[1]? = some _ := (ho 1 (by kernel_rfl)).trans rfl
      obtain ⟨_, n8, rfl⟩ := hn 2 8 (by kernel_rfl) rfl
      clear ho hn
      refine ⟨wanted_of 2 8 rfl rfl n8, ?_, rfl⟩
      go_simp
    rcases i with _ | i
    · refine step_value (.bool true) rfl ?_
      intro a8 w8 hS ho hn
      obtain ⟨_, n9, rfl⟩ := hn 3 9 (by kernel_rfl) rfl
      obtain ⟨_, n8, rfl⟩ := hn 2 8 (by kernel_rfl) rfl
      clear ho hn
      refine ⟨wanted_of 2 8 rfl rfl n8, ?_, rfl⟩
      have hq := D1.out
      go_simp
    rcases i with _ | i
    · refine step_value (.bool true) rfl ?_
      intro a8 w8 hS ho hn
      obtain ⟨_, n8, rfl⟩ := hn 2 8 (by kernel_rfl) rfl
      obtain ⟨_, n10, rfl⟩ := hn 4 10 (by kernel_rfl) rfl
      clear ho hn
      refine ⟨wanted_free rfl, ?_, rfl⟩
      go_simp
    rcases i with _ | i
    · refine step_value (.bool true) rfl ?_
      intro a8 w8 hS ho hn
      obtain ⟨_, n11, rfl⟩ := hn 5 11 (by kernel_rfl) rfl
      clear ho hn
      refine ⟨wanted_free rfl, ?_, rfl⟩
      go_simp
    rcases i with _ | i
    · refine step_skip rfl ?_
      intro a8 w8 hS ho hn
      obtain ⟨_, n12, rfl⟩ := hn 6 12 (by kernel_rfl) rfl
      exact ⟨unwanted_of 6 12 rfl rfl n12 rfl, rfl⟩
    rcases i with _ | i
    · refine step_skip rfl ?_
      intro a8 w8 hS ho hn
      obtain ⟨_, n12, rfl⟩ := hn 6 12 (by kernel_rfl) rfl
      exact ⟨unwanted_of 6 12 rfl rfl n12 rfl, rfl⟩
    rcases i with _ | i
    · refine step_skip rfl ?_
      intro a8 w8 hS ho hn
      obtain ⟨_, n12, rfl⟩ := hn 6 12 (by kernel_rfl) rfl
      exact ⟨unwanted_of 6 12 rfl rfl n12 rfl, rfl⟩
    rcases i with _ | i
    · refine step_value (.bool true) rfl ?_
      intro a8 w8 hS ho hn
      obtain ⟨_, n12, rfl⟩ := hn 6 12 (by kernel_rfl) rfl
      obtain ⟨_, n15, rfl⟩ := hn 9 15 (by kernel_rfl) rfl
      clear ho hn
      refine ⟨wanted_free rfl, ?_, rfl⟩
      go_simp
    rcases i with _ | i
    · refine step_value (.bool true) rfl ?_
      intro a8 w8 hS ho hn
      obtain ⟨_, n16, rfl⟩ := hn 10 16 (by kernel_rfl) rfl
      clear ho hn
      refine ⟨wanted_free rfl, ?_, rfl⟩
      go_simp
    rcases i with _ | i
    · refine step_skip rfl ?_
      intro a8 w8 hS ho hn
      obtain ⟨_, n17, rfl⟩ := hn 11 17 (by kernel_rfl) rfl
      exact ⟨unwanted_of 11 17 rfl rfl n17 rfl, rfl⟩
    rcases i with _ | i
    · refine step_skip rfl ?_
      intro a8 w8 hS ho hn
      obtain ⟨_, n17, rfl⟩ := hn 11 17 (by kernel_rfl) rfl
      exact ⟨unwanted_of 11 17 rfl rfl n17 rfl, rfl⟩
    rcases i with _ | i
    · refine step_skip rfl ?_
      intro a8 w8 hS ho hn
      obtain ⟨_, n17, rfl⟩ := hn 11 17 (by kernel_rfl) rfl
      exact ⟨unwanted_of 11 17 rfl rfl n17 rfl, rfl⟩
    rcases i with _ | i
    · refine step_value (.bool true) rfl ?_
      intro a8 w8 hS ho hn
      obtain ⟨_, n17, rfl⟩ := hn 11 17 (by kernel_rfl) rfl
      obtain ⟨_, n20, rfl⟩ := hn 14 20 (by kernel_rfl) rfl
      clear ho hn
      refine ⟨wanted_free rfl, ?_, rfl⟩
      go_simp
    rcases i with _ | i
    · refine step_value (.bool true) rfl ?_
      intro a8 w8 hS ho hn
      obtain ⟨_, n21, rfl⟩ := hn 15 21 (by kernel_rfl) rfl
      clear ho hn
      refine ⟨wanted_free rfl, ?_, rfl⟩
      go_simp
    rcases i with _ | i
    · refine step_skip rfl ?_
      intro a8 w8 hS ho hn
      obtain ⟨_, n22, rfl⟩ := hn 16 22 (by kernel_rfl) rfl
      exact ⟨unwanted_of 16 22 rfl rfl n22 rfl, rfl⟩
    rcases i with _ | i
    · refine step_skip rfl ?_
      intro a8 w8 hS ho hn
      obtain ⟨_, n22, rfl⟩ := hn 16 22 (by kernel_rfl) rfl
      exact ⟨unwanted_of 16 22 rfl rfl n22 rfl, rfl⟩
    rcases i with _ | i
    · refine step_skip rfl ?_
      intro a8 w8 hS ho hn
      obtain ⟨_, n22, rfl⟩ := hn 16 22 (by kernel_rfl) rfl
      exact ⟨unwanted_of 16 22 rfl rfl n22 rfl, rfl⟩
    rcases i with _ | i
    · refine step_value (.bool true) rfl ?_
      intro a8 w8 hS ho hn
      obtain ⟨_, n22, rfl⟩ := hn 16 22 (by kernel_rfl) rfl
      obtain ⟨_, n25, rfl⟩ := hn 19 25 (by kernel_rfl) rfl
      clear ho hn
      refine ⟨wanted_free rfl, ?_, rfl⟩
      go_simp
    rcases i with _ | i
    · refine step_value (.bool true) rfl ?_
      intro a8 w8 hS ho hn
      obtain ⟨_, n26, rfl⟩ := hn 20 26 (by kernel_rfl) rfl
      clear ho hn
      refine ⟨wanted_free rfl, ?_, rfl⟩
      go_simp
    rcases i with _ | i
    · refine step_skip rfl ?_
      intro a8 w8 hS ho hn
      obtain ⟨_, n27, rfl⟩ := hn 21 27 (by kernel_rfl) rfl
      exact ⟨unwanted_of 21 27 rfl rfl n27 rfl, rfl⟩
    rcases i with _ | i
    · refine step_skip rfl ?_
      intro a8 w8 hS ho hn
      obtain ⟨_, n27, rfl⟩ := hn 21 27 (by kernel_rfl) rfl
      exact ⟨unwanted_of 21 27 rfl rfl n27 rfl, rfl⟩
    rcases i with _ | i
    · refine step_skip rfl ?_
      intro a8 w8 hS ho hn
      obtain ⟨_, n27, rfl⟩ := hn 21 27 (by kernel_rfl) rfl
      exact ⟨unwanted_of 21 27 rfl rfl n27 rfl, rfl⟩
    rcases i with _ | i
    · refine step_value (.bool true) rfl ?_
      intro a8 w8 hS ho hn
      obtain ⟨_, n27, rfl⟩ := hn 21 27 (by kernel_rfl) rfl
      obtain ⟨_, n30, rfl⟩ := hn 24 30 (by kernel_rfl) rfl
      clear ho hn
      refine ⟨wanted_free rfl, ?_, rfl⟩
      go_simp
    rcases i with _ | i
    · refine step_value (.bool true) rfl ?_
      intro a8 w8 hS ho hn
      obtain ⟨_, n31, rfl⟩ := hn 25 31 (by kernel_rfl) rfl
      clear ho hn
      refine ⟨wanted_free rfl, ?_, rfl⟩
      go_simp
    rcases i with _ | i
    · refine step_skip rfl ?_
      intro a8 w8 hS ho hn
      obtain ⟨_, n32, rfl⟩ := hn 26 32 (by kernel_rfl) rfl
      exact ⟨unwanted_of 26 32 rfl rfl n32 rfl, rfl⟩
    rcases i with _ | i
    · refine step_skip rfl ?_
      intro a8 w8 hS ho hn
      obtain ⟨_, n32, rfl⟩ := hn 26 32 (by kernel_rfl) rfl
      exact ⟨unwanted_of 26 32 rfl rfl n32 rfl, rfl⟩
    rcases i with _ | i
    · refine step_skip rfl ?_
      intro a8 w8 hS ho hn
      obtain ⟨_, n32, rfl⟩ := hn 26 32 (by kernel_rfl) rfl
      exact ⟨unwanted_of 26 32 rfl rfl n32 rfl, rfl⟩
    rcases i with _ | i
    · refine step_value (.bool true) rfl ?_
      intro a8 w8 hS ho hn
      obtain ⟨_, n32, rfl⟩ := hn 26 32 (by kernel_rfl) rfl
      obtain ⟨_, n35, rfl⟩ := hn 29 35 (by kernel_rfl) rfl
      clear ho hn
      refine ⟨wanted_free rfl, ?_, rfl⟩
      go_simp
    rcases i with _ | i
    · refine step_value (.bool true) rfl ?_
      intro a8 w8 hS ho hn
      obtain ⟨_, n36, rfl⟩ := hn 30 36 (by kernel_rfl) rfl
      clear ho hn
      refine ⟨wanted_free rfl, ?_, rfl⟩
      go_simp
    rcases i with _ | i
    · refine step_skip rfl ?_
      intro a8 w8 hS ho hn
      obtain ⟨_, n37, rfl⟩ := hn 31 37 (by kernel_rfl) rfl
      exact ⟨unwanted_of 31 37 rfl rfl n37 rfl, rfl⟩
    rcases i with _ | i
    · refine step_skip rfl ?_
      intro a8 w8 hS ho hn
      obtain ⟨_, n37, rfl⟩ := hn 31 37 (by kernel_rfl) rfl
      exact ⟨unwanted_of 31 37 rfl rfl n37 rfl, rfl⟩
    rcases i with _ | i
    · refine step_skip rfl ?_
      intro a8 w8 hS ho hn
      obtain ⟨_, n37, rfl⟩ := hn 31 37 (by kernel_rfl) rfl
      exact ⟨unwanted_of 31 37 rfl rfl n37 rfl, rfl⟩
    rcases i with _ | i
    · refine step_skip rfl ?_
      intro a8 w8 hS ho hn
      obtain ⟨_, n37, rfl⟩ := hn 31 37 (by kernel_rfl) rfl
      exact ⟨unwanted_of 31 37 rfl rfl n37 rfl, rfl⟩
    rcases i with _ | i
    · refine step_skip rfl ?_
      intro a8 w8 hS ho hn
      obtain ⟨_, n37, rfl⟩ := hn 31 37 (by kernel_rfl) rfl
      exact ⟨unwanted_of 31 37 rfl rfl n37 rfl, rfl⟩
    rcases i with _ | i
    · refine step_skip rfl ?_
      intro a8 w8 hS ho hn
      obtain ⟨_, n37, rfl⟩ := hn 31 37 (by kernel_rfl) rfl
      exact ⟨unwanted_of 31 37 rfl rfl n37 rfl, rfl⟩
    rcases i with _ | i
    · refine step_value (.bool true) rfl ?_
      intro a8 w8 hS ho hn
      obtain ⟨_, n37, rfl⟩ := hn 31 37 (by kernel_rfl) rfl
      obtain ⟨_, n43, rfl⟩ := hn 37 43 (by kernel_rfl) rfl
      clear ho hn
      refine ⟨wanted_free rfl, ?_, rfl⟩
      go_simp
    omega
  · intro f w9 hS hR
    have h44 : f 44 = _ := hR 38 44 rfl
    simp only [putAll, List.foldl_cons, List.foldl_nil, Act.put, List.setIfInBounds_toArray, List.set_cons_succ, List.set_cons_zero, h44, List.getD_cons_zero, List.getD_cons_succ]
    clear hR h44
    go_wp2
    go_ret
    exact ⟨rfl, HB.out.trans (hS.mono HB.out.size)⟩

set_option maxRecDepth 100000 in
set_option maxHeartbeats 4000000 in
theorem chk_2 (f m k s F : Int) (A : Option Addr) (n c : Nat) (w : World) (hF : ∀ W, Calls Try.prog 13 #[.int .i64 s] W fun e w' => e = .returned (.int .i64 F) ∧ W = w') (d0 : decide (s < 1) = false) (d1 : decide (64 < s) = false) (d2 : decide (f < 1) = true) :
    Calls Try.prog 27 #[.agg #[.int .i64 f, .int .i64 m, .int .i64 k, .slice A n c], .int .i64 s] w fun e w' => e = .returned (.int .i64 50) ∧ Below w.heap.size w w' := by
  obtain ⟨W1, hW1⟩ : ∃ W1, w.alloc (.cells #[.int .i64 f, .int .i64 m, .int .i64 k, .slice A n c] 24) = W1 := ⟨_, rfl⟩
  have hb0 : Below w.heap.size w W1 := by rw [← hW1]; exact (Below.refl _ _).alloc (Nat.le_refl _) _
  have hx : Blk W1 w.heap.size 24 #[.int .i64 f, .int .i64 m, .int .i64 k, .slice A n c] := by rw [← hW1]; exact Blk.new w _ _
  have C0 := Lib.hid (fun W (hb : Below W1.heap.size W1 W) => (hx.below hb hx.lt).cell 0)
  have C1 := Lib.hid (fun W (hb : Below W1.heap.size W1 W) => (hx.below hb hx.lt).cell 1)
  have C2 := Lib.hid (fun W (hb : Below W1.heap.size W1 W) => (hx.below hb hx.lt).cell 2)
  have C3 := Lib.hid (fun W (hb : Below W1.heap.size W1 W) => (hx.below hb hx.lt).cell 3)
  have D0 := Lib.hid d0
  have D1 := Lib.hid d1
  have D2 := Lib.hid d2
  have HF := Lib.hid hF
  have HW1 := Lib.hid hW1
  have HB := Lib.hid hb0
  clear hW1 hb0 hx hF d0 d1 d2
  go_enter Try.func27, Try.ntmps27
  go_wp2
  rw [HW1.out]
  refine wp_region_steps_on (fun w' => Below W1.heap.size W1 w') (fun i v _ => v = ([.int .i64 s, .bool false, .bool false, .int .i64 s, .bool false, .bool false, .bool false, .pointer (some ⟨w.heap.size, 0, none⟩), .int .i64 f, .bool true, .bool true, .bool true, undef, undef, undef, .bool true, .bool true, undef, undef, undef, .bool true, .bool true, undef, undef, undef, .bool true, .bool true, undef, undef, undef, .bool true, .bool true, undef, undef, undef, undef, undef, undef, .bool true] : List Value).getD i undef) (by kernel_rfl) 71 rfl (by kernel_rfl) ((Below.refl _ _).drew) ?_ ?_
  · intro i hi
    have hi2 : i < 39 := hi
    clear hi
    rcases i with _ | i
    · refine step_value (.int .i64 s) rfl ?_
      intro a8 w8 hS ho hn
      have o1 : a8.tmps[1]? = some _ := (ho 1 (by kernel_rfl)).trans rfl
      clear ho hn
      refine ⟨wanted_free rfl, ?_, rfl⟩
      go_simp
    rcases i with _ | i
    · refine step_value (.bool false) rfl ?_
      intro a8 w8 hS ho hn
      obtain ⟨_, n6, rfl⟩ := hn 0 6 (by kernel_rfl) rfl
      clear ho hn
      refine ⟨wanted_free rfl, ?_, rfl⟩
      have hq := D0.out
      go_simp
    rcases i with _ | i
    · refine step_value (.bool false) rfl ?_
      intro a8 w8 hS ho hn
      obtain ⟨_, n7, rfl⟩ := hn 1 7 (by kernel_rfl) rfl
      clear ho hn
      refine ⟨wanted_free rfl, ?_, rfl⟩
      go_simp
    rcases i with _ | i
    · refine step_value (.int .i64 s) rfl ?_
      intro a8 w8 hS ho hn
      have o1 : a8.tmps[1]? = some _ := (ho 1 (by kernel_rfl)).trans rfl
      obtain ⟨_, n8, rfl⟩ := hn 2 8 (by kernel_rfl) rfl
      clear ho hn
      refine ⟨wanted_of 2 8 rfl rfl n8, ?_, rfl⟩
      go_simp
    rcases i with _ | i
    · refine step_value (.bool false) rfl ?_
      intro a8 w8 hS ho hn
      obtain ⟨_, n9, rfl⟩ := hn 3 9 (by kernel_rfl) rfl
      obtain ⟨_, n8, rfl⟩ := hn 2 8 (by kernel_rfl) rfl
      clear ho hn
      refine ⟨wanted_of 2 8 rfl rfl n8, ?_, rfl⟩
      have hq := D1.out
      go_simp
    rcases i with _ | i
    · refine step_value (.bool false) rfl ?_
      intro a8 w8 hS ho hn
      obtain ⟨_, n8, rfl⟩ := hn 2 8 (by kernel_rfl) rfl
      obtain ⟨_, n10, rfl⟩ := hn 4 10 (by kernel_rfl) rfl
      clear ho hn
      refine ⟨wanted_free rfl, ?_, rfl⟩
      go_simp
    rcases i with _ | i
    · refine step_value (.bool false) rfl ?_
      intro a8 w8 hS ho hn
      obtain ⟨_, n11, rfl⟩ := hn 5 11 (by kernel_rfl) rfl
      clear ho hn
      refine ⟨wanted_free rfl, ?_, rfl⟩
      go_simp
    rcases i with _ | i
    · refine step_value (.pointer (some ⟨w.heap.size, 0, none⟩)) rfl ?_
      intro a8 w8 hS ho hn
      have o2 : a8.tmps[2]? = some _ := (ho 2 (by kernel_rfl)).trans rfl
      obtain ⟨_, n12, rfl⟩ := hn 6 12 (by kernel_rfl) rfl
      clear ho hn
      refine ⟨wanted_of 6 12 rfl rfl n12, ?_, rfl⟩
      go_simp
    rcases i with _ | i
    · refine step_value (.int .i64 f) rfl ?_
      intro a8 w8 hS ho hn
      obtain ⟨_, n13, rfl⟩ := hn 7 13 (by kernel_rfl) rfl
      obtain ⟨_, n12, rfl⟩ := hn 6 12 (by kernel_rfl) rfl
      clear ho hn
      refine ⟨wanted_of 6 12 rfl rfl n12, ?_, rfl⟩
      have q8 := C0.out w8 hS
      go_simp
    rcases i with _ | i
    · refine step_value (.bool true) rfl ?_
      intro a8 w8 hS ho hn
      obtain ⟨_, n14, rfl⟩ := hn 8 14 (by kernel_rfl) rfl
      obtain ⟨_, n12, rfl⟩ := hn 6 12 (by kernel_rfl) rfl
      clear ho hn
      refine ⟨wanted_of 6 12 rfl rfl n12, ?_, rfl⟩
      have hq := D2.out
      go_simp
    rcases i with _ | i
    · refine step_value (.bool true) rfl ?_
      intro a8 w8 hS ho hn
      obtain ⟨_, n12, rfl⟩ := hn 6 12 (by kernel_rfl) rfl
      obtain ⟨_, n15, rfl⟩ := hn 9 15 (by kernel_rfl) rfl
      clear ho hn
      refine ⟨wanted_free rfl, ?_, rfl⟩
      go_simp
    rcases i with _ | i
    · refine step_value (.bool true) rfl ?_
      intro a8 w8 hS ho hn
      obtain ⟨_, n16, rfl⟩ := hn 10 16 (by kernel_rfl) rfl
      clear ho hn
      refine ⟨wanted_free rfl, ?_, rfl⟩
      go_simp
    rcases i with _ | i
    · refine step_skip rfl ?_
      intro a8 w8 hS ho hn
      obtain ⟨_, n17, rfl⟩ := hn 11 17 (by kernel_rfl) rfl
      exact ⟨unwanted_of 11 17 rfl rfl n17 rfl, rfl⟩
    rcases i with _ | i
    · refine step_skip rfl ?_
      intro a8 w8 hS ho hn
      obtain ⟨_, n17, rfl⟩ := hn 11 17 (by kernel_rfl) rfl
      exact ⟨unwanted_of 11 17 rfl rfl n17 rfl, rfl⟩
    rcases i with _ | i
    · refine step_skip rfl ?_
      intro a8 w8 hS ho hn
      obtain ⟨_, n17, rfl⟩ := hn 11 17 (by kernel_rfl) rfl
      exact ⟨unwanted_of 11 17 rfl rfl n17 rfl, rfl⟩
    rcases i with _ | i
    · refine step_value (.bool true) rfl ?_
      intro a8 w8 hS ho hn
      obtain ⟨_, n17, rfl⟩ := hn 11 17 (by kernel_rfl) rfl
      obtain ⟨_, n20, rfl⟩ := hn 14 20 (by kernel_rfl) rfl
      clear ho hn
      refine ⟨wanted_free rfl, ?_, rfl⟩
      go_simp
    rcases i with _ | i
    · refine step_value (.bool true) rfl ?_
      intro a8 w8 hS ho hn
      obtain ⟨_, n21, rfl⟩ := hn 15 21 (by kernel_rfl) rfl
      clear ho hn
      refine ⟨wanted_free rfl, ?_, rfl⟩
      go_simp
    rcases i with _ | i
    · refine step_skip rfl ?_
      intro a8 w8 hS ho hn
      obtain ⟨_, n22, rfl⟩ := hn 16 22 (by kernel_rfl) rfl
      exact ⟨unwanted_of 16 22 rfl rfl n22 rfl, rfl⟩
    rcases i with _ | i
    · refine step_skip rfl ?_
      intro a8 w8 hS ho hn
      obtain ⟨_, n22, rfl⟩ := hn 16 22 (by kernel_rfl) rfl
      exact ⟨unwanted_of 16 22 rfl rfl n22 rfl, rfl⟩
    rcases i with _ | i
    · refine step_skip rfl ?_
      intro a8 w8 hS ho hn
      obtain ⟨_, n22, rfl⟩ := hn 16 22 (by kernel_rfl) rfl
      exact ⟨unwanted_of 16 22 rfl rfl n22 rfl, rfl⟩
    rcases i with _ | i
    · refine step_value (.bool true) rfl ?_
      intro a8 w8 hS ho hn
      obtain ⟨_, n22, rfl⟩ := hn 16 22 (by kernel_rfl) rfl
      obtain ⟨_, n25, rfl⟩ := hn 19 25 (by kernel_rfl) rfl
      clear ho hn
      refine ⟨wanted_free rfl, ?_, rfl⟩
      go_simp
    rcases i with _ | i
    · refine step_value (.bool true) rfl ?_
      intro a8 w8 hS ho hn
      obtain ⟨_, n26, rfl⟩ := hn 20 26 (by kernel_rfl) rfl
      clear ho hn
      refine ⟨wanted_free rfl, ?_, rfl⟩
      go_simp
    rcases i with _ | i
    · refine step_skip rfl ?_
      intro a8 w8 hS ho hn
      obtain ⟨_, n27, rfl⟩ := hn 21 27 (by kernel_rfl) rfl
      exact ⟨unwanted_of 21 27 rfl rfl n27 rfl, rfl⟩
    rcases i with _ | i
    · refine step_skip rfl ?_
      intro a8 w8 hS ho hn
      obtain ⟨_, n27, rfl⟩ := hn 21 27 (by kernel_rfl) rfl
      exact ⟨unwanted_of 21 27 rfl rfl n27 rfl, rfl⟩
    rcases i with _ | i
    · refine step_skip rfl ?_
      intro a8 w8 hS ho hn
      obtain ⟨_, n27, rfl⟩ := hn 21 27 (by kernel_rfl) rfl
      exact ⟨unwanted_of 21 27 rfl rfl n27 rfl, rfl⟩
    rcases i with _ | i
    · refine step_value (.bool true) rfl ?_
      intro a8 w8 hS ho hn
      obtain ⟨_, n27, rfl⟩ := hn 21 27 (by kernel_rfl) rfl
      obtain ⟨_, n30, rfl⟩ := hn 24 30 (by kernel_rfl) rfl
      clear ho hn
      refine ⟨wanted_free rfl, ?_, rfl⟩
      go_simp
    rcases i with _ | i
    · refine step_value (.bool true) rfl ?_
      intro a8 w8 hS ho hn
      obtain ⟨_, n31, rfl⟩ := hn 25 31 (by kernel_rfl) rfl
      clear ho hn
      refine ⟨wanted_free rfl, ?_, rfl⟩
      go_simp
    rcases i with _ | i
    · refine step_skip rfl ?_
      intro a8 w8 hS ho hn
      obtain ⟨_, n32, rfl⟩ := hn 26 32 (by kernel_rfl) rfl
      exact ⟨unwanted_of 26 32 rfl rfl n32 rfl, rfl⟩
    rcases i with _ | i
    · refine step_skip rfl ?_
      intro a8 w8 hS ho hn
      obtain ⟨_, n32, rfl⟩ := hn 26 32 (by kernel_rfl) rfl
      exact ⟨unwanted_of 26 32 rfl rfl n32 rfl, rfl⟩
    rcases i with _ | i
    · refine step_skip rfl ?_
      intro a8 w8 hS ho hn
      obtain ⟨_, n32, rfl⟩ := hn 26 32 (by kernel_rfl) rfl
      exact ⟨unwanted_of 26 32 rfl rfl n32 rfl, rfl⟩
    rcases i with _ | i
    · refine step_value (.bool true) rfl ?_
      intro a8 w8 hS ho hn
      obtain ⟨_, n32, rfl⟩ := hn 26 32 (by kernel_rfl) rfl
      obtain ⟨_, n35, rfl⟩ := hn 29 35 (by kernel_rfl) rfl
      clear ho hn
      refine ⟨wanted_free rfl, ?_, rfl⟩
      go_simp
    rcases i with _ | i
    · refine step_value (.bool true) rfl ?_
      intro a8 w8 hS ho hn
      obtain ⟨_, n36, rfl⟩ := hn 30 36 (by kernel_rfl) rfl
      clear ho hn
      refine ⟨wanted_free rfl, ?_, rfl⟩
      go_simp
    rcases i with _ | i
    · refine step_skip rfl ?_
      intro a8 w8 hS ho hn
      obtain ⟨_, n37, rfl⟩ := hn 31 37 (by kernel_rfl) rfl
      exact ⟨unwanted_of 31 37 rfl rfl n37 rfl, rfl⟩
    rcases i with _ | i
    · refine step_skip rfl ?_
      intro a8 w8 hS ho hn
      obtain ⟨_, n37, rfl⟩ := hn 31 37 (by kernel_rfl) rfl
      exact ⟨unwanted_of 31 37 rfl rfl n37 rfl, rfl⟩
    rcases i with _ | i
    · refine step_skip rfl ?_
      intro a8 w8 hS ho hn
      obtain ⟨_, n37, rfl⟩ := hn 31 37 (by kernel_rfl) rfl
      exact ⟨unwanted_of 31 37 rfl rfl n37 rfl, rfl⟩
    rcases i with _ | i
    · refine step_skip rfl ?_
      intro a8 w8 hS ho hn
      obtain ⟨_, n37, rfl⟩ := hn 31 37 (by kernel_rfl) rfl
      exact ⟨unwanted_of 31 37 rfl rfl n37 rfl, rfl⟩
    rcases i with _ | i
    · refine step_skip rfl ?_
      intro a8 w8 hS ho hn
      obtain ⟨_, n37, rfl⟩ := hn 31 37 (by kernel_rfl) rfl
      exact ⟨unwanted_of 31 37 rfl rfl n37 rfl, rfl⟩
    rcases i with _ | i
    · refine step_skip rfl ?_
      intro a8 w8 hS ho hn
      obtain ⟨_, n37, rfl⟩ := hn 31 37 (by kernel_rfl) rfl
      exact ⟨unwanted_of 31 37 rfl rfl n37 rfl, rfl⟩
    rcases i with _ | i
    · refine step_value (.bool true) rfl ?_
      intro a8 w8 hS ho hn
      obtain ⟨_, n37, rfl⟩ := hn 31 37 (by kernel_rfl) rfl
      obtain ⟨_, n43, rfl⟩ := hn 37 43 (by kernel_rfl) rfl
      clear ho hn
      refine ⟨wanted_free rfl, ?_, rfl⟩
      go_simp
    omega
  · intro f w9 hS hR
    have h44 : f 44 = _ := hR 38 44 rfl
    simp only [putAll, List.foldl_cons, List.foldl_nil, Act.put, List.setIfInBounds_toArray, List.set_cons_succ, List.set_cons_zero, h44, List.getD_cons_zero, List.getD_cons_succ]
    clear hR h44
    go_wp2
    go_ret
    exact ⟨rfl, HB.out.trans (hS.mono HB.out.size)⟩

set_option maxRecDepth 100000 in
set_option maxHeartbeats 4000000 in
theorem chk_3 (f m k s F : Int) (A : Option Addr) (n c : Nat) (w : World) (hF : ∀ W, Calls Try.prog 13 #[.int .i64 s] W fun e w' => e = .returned (.int .i64 F) ∧ W = w') (d0 : decide (s < 1) = false) (d1 : decide (64 < s) = false) (d2 : decide (f < 1) = false) (d3 : decide (m < 0) = true) :
    Calls Try.prog 27 #[.agg #[.int .i64 f, .int .i64 m, .int .i64 k, .slice A n c], .int .i64 s] w fun e w' => e = .returned (.int .i64 50) ∧ Below w.heap.size w w' := by
  obtain ⟨W1, hW1⟩ : ∃ W1, w.alloc (.cells #[.int .i64 f, .int .i64 m, .int .i64 k, .slice A n c] 24) = W1 := ⟨_, rfl⟩
  have hb0 : Below w.heap.size w W1 := by rw [← hW1]; exact (Below.refl _ _).alloc (Nat.le_refl _) _
  have hx : Blk W1 w.heap.size 24 #[.int .i64 f, .int .i64 m, .int .i64 k, .slice A n c] := by rw [← hW1]; exact Blk.new w _ _
  have C0 := Lib.hid (fun W (hb : Below W1.heap.size W1 W) => (hx.below hb hx.lt).cell 0)
  have C1 := Lib.hid (fun W (hb : Below W1.heap.size W1 W) => (hx.below hb hx.lt).cell 1)
  have C2 := Lib.hid (fun W (hb : Below W1.heap.size W1 W) => (hx.below hb hx.lt).cell 2)
  have C3 := Lib.hid (fun W (hb : Below W1.heap.size W1 W) => (hx.below hb hx.lt).cell 3)
  have D0 := Lib.hid d0
  have D1 := Lib.hid d1
  have D2 := Lib.hid d2
  have D3 := Lib.hid d3
  have HF := Lib.hid hF
  have HW1 := Lib.hid hW1
  have HB := Lib.hid hb0
  clear hW1 hb0 hx hF d0 d1 d2 d3
  go_enter Try.func27, Try.ntmps27
  go_wp2
  rw [HW1.out]
  refine wp_region_steps_on (fun w' => Below W1.heap.size W1 w') (fun i v _ => v = ([.int .i64 s, .bool false, .bool false, .int .i64 s, .bool false, .bool false, .bool false, .pointer (some ⟨w.heap.size, 0, none⟩), .int .i64 f, .bool false, .bool false, .bool false, .pointer (some ⟨w.heap.size, 1, none⟩), .int .i64 m, .bool true, .bool true, .bool true, undef, undef, undef, .bool true, .bool true, undef, undef, undef, .bool true, .bool true, undef, undef, undef, .bool true, .bool true, undef, undef, undef, undef, undef, undef, .bool true] : List Value).getD i undef) (by kernel_rfl) 71 rfl (by kernel_rfl) ((Below.refl _ _).drew) ?_ ?_
  · intro i hi
    have hi2 : i < 39 := hi
    clear hi
    rcases i with _ | i
    · refine step_value (.int .i64 s) rfl ?_
      intro a8 w8 hS ho hn
      have o1 : a8.tmps[1]? = some _ := (ho 1 (by kernel_rfl)).trans rfl
      clear ho hn
      refine ⟨wanted_free rfl, ?_, rfl⟩
      go_simp
    rcases i with _ | i
    · refine step_value (.bool false) rfl ?_
      intro a8 w8 hS ho hn
      obtain ⟨_, n6, rfl⟩ := hn 0 6 (by kernel_rfl) rfl
      clear ho hn
      refine ⟨wanted_free rfl, ?_, rfl⟩
      have hq := D0.out
      go_simp
    rcases i with _ | i
    · refine step_value (.bool false) rfl ?_
      intro a8 w8 hS ho hn
      obtain ⟨_, n7, rfl⟩ := hn 1 7 (by kernel_rfl) rfl
      clear ho hn
      refine ⟨wanted_free rfl, ?_, rfl⟩
      go_simp
    rcases i with _ | i
    · refine step_value (.int .i64 s) rfl ?_
      intro a8 w8 hS ho hn
      have o1 : a8.tmps[1]? = some _ := (ho 1 (by kernel_rfl)).trans rfl
      obtain ⟨_, n8, rfl⟩ := hn 2 8 (by kernel_rfl) rfl
      clear ho hn
      refine ⟨wanted_of 2 8 rfl rfl n8, ?_, rfl⟩
      go_simp
    rcases i with _ | i
    · refine step_value (.bool false) rfl ?_
      intro a8 w8 hS ho hn
      obtain ⟨_, n9, rfl⟩ := hn 3 9 (by kernel_rfl) rfl
      obtain ⟨_, n8, rfl⟩ := hn 2 8 (by kernel_rfl) rfl
      clear ho hn
      refine ⟨wanted_of 2 8 rfl rfl n8, ?_, rfl⟩
      have hq := D1.out
      go_simp
    rcases i with _ | i
    · refine step_value (.bool false) rfl ?_
      intro a8 w8 hS ho hn
      obtain ⟨_, n8, rfl⟩ := hn 2 8 (by kernel_rfl) rfl
      obtain ⟨_, n10, rfl⟩ := hn 4 10 (by kernel_rfl) rfl
      clear ho hn
      refine ⟨wanted_free rfl, ?_, rfl⟩
      go_simp
    rcases i with _ | i
    · refine step_value (.bool false) rfl ?_
      intro a8 w8 hS ho hn
      obtain ⟨_, n11, rfl⟩ := hn 5 11 (by kernel_rfl) rfl
      clear ho hn
      refine ⟨wanted_free rfl, ?_, rfl⟩
      go_simp
    rcases i with _ | i
    · refine step_value (.pointer (some ⟨w.heap.size, 0, none⟩)) rfl ?_
      intro a8 w8 hS ho hn
      have o2 : a8.tmps[2]? = some _ := (ho 2 (by kernel_rfl)).trans rfl
      obtain ⟨_, n12, rfl⟩ := hn 6 12 (by kernel_rfl) rfl
      clear ho hn
      refine ⟨wanted_of 6 12 rfl rfl n12, ?_, rfl⟩
      go_simp
    rcases i with _ | i
    · refine step_value (.int .i64 f) rfl ?_
      intro a8 w8 hS ho hn
      obtain ⟨_, n13, rfl⟩ := hn 7 13 (by kernel_rfl) rfl
      obtain ⟨_, n12, rfl⟩ := hn 6 12 (by kernel_rfl) rfl
      clear ho hn
      refine ⟨wanted_of 6 12 rfl rfl n12, ?_, rfl⟩
      have q8 := C0.out w8 hS
      go_simp
    rcases i with _ | i
    · refine step_value (.bool false) rfl ?_
      intro a8 w8 hS ho hn
      obtain ⟨_, n14, rfl⟩ := hn 8 14 (by kernel_rfl) rfl
      obtain ⟨_, n12, rfl⟩ := hn 6 12 (by kernel_rfl) rfl
      clear ho hn
      refine ⟨wanted_of 6 12 rfl rfl n12, ?_, rfl⟩
      have hq := D2.out
      go_simp
    rcases i with _ | i
    · refine step_value (.bool false) rfl ?_
      intro a8 w8 hS ho hn
      obtain ⟨_, n12, rfl⟩ := hn 6 12 (by kernel_rfl) rfl
      obtain ⟨_, n15, rfl⟩ := hn 9 15 (by kernel_rfl) rfl
      clear ho hn
      refine ⟨wanted_free rfl, ?_, rfl⟩
      go_simp
    rcases i with _ | i
    · refine step_value (.bool false) rfl ?_
      intro a8 w8 hS ho hn
      obtain ⟨_, n16, rfl⟩ := hn 10 16 (by kernel_rfl) rfl
      clear ho hn
      refine ⟨wanted_free rfl, ?_, rfl⟩
      go_simp
    rcases i with _ | i
    · refine step_value (.pointer (some ⟨w.heap.size, 1, none⟩)) rfl ?_
      intro a8 w8 hS ho hn
      have o2 : a8.tmps[2]? = some _ := (ho 2 (by kernel_rfl)).trans rfl
      obtain ⟨_, n17, rfl⟩ := hn 11 17 (by kernel_rfl) rfl
      clear ho hn
      refine ⟨wanted_of 11 17 rfl rfl n17, ?_, rfl⟩
      go_simp
    rcases i with _ | i
    · refine step_value (.int .i64 m) rfl ?_
      intro a8 w8 hS ho hn
      obtain ⟨_, n18, rfl⟩ := hn 12 18 (by kernel_rfl) rfl
      obtain ⟨_, n17, rfl⟩ := hn 11 17 (by kernel_rfl) rfl
      clear ho hn
      refine ⟨wanted_of 11 17 rfl rfl n17, ?_, rfl⟩
      have q8 := C1.out w8 hS
      go_simp
    rcases i with _ | i
    · refine step_value (.bool true) rfl ?_
      intro a8 w8 hS ho hn
      obtain ⟨_, n19, rfl⟩ := hn 13 19 (by kernel_rfl) rfl
      obtain ⟨_, n17, rfl⟩ := hn 11 17 (by kernel_rfl) rfl
      clear ho hn
      refine ⟨wanted_of 11 17 rfl rfl n17, ?_, rfl⟩
      have hq := D3.out
      go_simp
    rcases i with _ | i
    · refine step_value (.bool true) rfl ?_
      intro a8 w8 hS ho hn
      obtain ⟨_, n17, rfl⟩ := hn 11 17 (by kernel_rfl) rfl
      obtain ⟨_, n20, rfl⟩ := hn 14 20 (by kernel_rfl) rfl
      clear ho hn
      refine ⟨wanted_free rfl, ?_, rfl⟩
      go_simp
    rcases i with _ | i
    · refine step_value (.bool true) rfl ?_
      intro a8 w8 hS ho hn
      obtain ⟨_, n21, rfl⟩ := hn 15 21 (by kernel_rfl) rfl
      clear ho hn
      refine ⟨wanted_free rfl, ?_, rfl⟩
      go_simp
    rcases i with _ | i
    · refine step_skip rfl ?_
      intro a8 w8 hS ho hn
      obtain ⟨_, n22, rfl⟩ := hn 16 22 (by kernel_rfl) rfl
      exact ⟨unwanted_of 16 22 rfl rfl n22 rfl, rfl⟩
    rcases i with _ | i
    · refine step_skip rfl ?_
      intro a8 w8 hS ho hn
      obtain ⟨_, n22, rfl⟩ := hn 16 22 (by kernel_rfl) rfl
      exact ⟨unwanted_of 16 22 rfl rfl n22 rfl, rfl⟩
    rcases i with _ | i
    · refine step_skip rfl ?_
      intro a8 w8 hS ho hn
      obtain ⟨_, n22, rfl⟩ := hn 16 22 (by kernel_rfl) rfl
      exact ⟨unwanted_of 16 22 rfl rfl n22 rfl, rfl⟩
    rcases i with _ | i
    · refine step_value (.bool true) rfl ?_
      intro a8 w8 hS ho hn
      obtain ⟨_, n22, rfl⟩ := hn 16 22 (by kernel_rfl) rfl
      obtain ⟨_, n25, rfl⟩ := hn 19 25 (by kernel_rfl) rfl
      clear ho hn
      refine ⟨wanted_free rfl, ?_, rfl⟩
      go_simp
    rcases i with _ | i
    · refine step_value (.bool true) rfl ?_
      intro a8 w8 hS ho hn
      obtain ⟨_, n26, rfl⟩ := hn 20 26 (by kernel_rfl) rfl
      clear ho hn
      refine ⟨wanted_free rfl, ?_, rfl⟩
      go_simp
    rcases i with _ | i
    · refine step_skip rfl ?_
      intro a8 w8 hS ho hn
      obtain ⟨_, n27, rfl⟩ := hn 21 27 (by kernel_rfl) rfl
      exact ⟨unwanted_of 21 27 rfl rfl n27 rfl, rfl⟩
    rcases i with _ | i
    · refine step_skip rfl ?_
      intro a8 w8 hS ho hn
      obtain ⟨_, n27, rfl⟩ := hn 21 27 (by kernel_rfl) rfl
      exact ⟨unwanted_of 21 27 rfl rfl n27 rfl, rfl⟩
    rcases i with _ | i
    · refine step_skip rfl ?_
      intro a8 w8 hS ho hn
      obtain ⟨_, n27, rfl⟩ := hn 21 27 (by kernel_rfl) rfl
      exact ⟨unwanted_of 21 27 rfl rfl n27 rfl, rfl⟩
    rcases i with _ | i
    · refine step_value (.bool true) rfl ?_
      intro a8 w8 hS ho hn
      obtain ⟨_, n27, rfl⟩ := hn 21 27 (by kernel_rfl) rfl
      obtain ⟨_, n30, rfl⟩ := hn 24 30 (by kernel_rfl) rfl
      clear ho hn
      refine ⟨wanted_free rfl, ?_, rfl⟩
      go_simp
    rcases i with _ | i
    · refine step_value (.bool true) rfl ?_
      intro a8 w8 hS ho hn
      obtain ⟨_, n31, rfl⟩ := hn 25 31 (by kernel_rfl) rfl
      clear ho hn
      refine ⟨wanted_free rfl, ?_, rfl⟩
      go_simp
    rcases i with _ | i
    · refine step_skip rfl ?_
      intro a8 w8 hS ho hn
      obtain ⟨_, n32, rfl⟩ := hn 26 32 (by kernel_rfl) rfl
      exact ⟨unwanted_of 26 32 rfl rfl n32 rfl, rfl⟩
    rcases i with _ | i
    · refine step_skip rfl ?_
      intro a8 w8 hS ho hn
      obtain ⟨_, n32, rfl⟩ := hn 26 32 (by kernel_rfl) rfl
      exact ⟨unwanted_of 26 32 rfl rfl n32 rfl, rfl⟩
    rcases i with _ | i
    · refine step_skip rfl ?_
      intro a8 w8 hS ho hn
      obtain ⟨_, n32, rfl⟩ := hn 26 32 (by kernel_rfl) rfl
      exact ⟨unwanted_of 26 32 rfl rfl n32 rfl, rfl⟩
    rcases i with _ | i
    · refine step_value (.bool true) rfl ?_
      intro a8 w8 hS ho hn
      obtain ⟨_, n32, rfl⟩ := hn 26 32 (by kernel_rfl) rfl
      obtain ⟨_, n35, rfl⟩ := hn 29 35 (by kernel_rfl) rfl
      clear ho hn
      refine ⟨wanted_free rfl, ?_, rfl⟩
      go_simp
    rcases i with _ | i
    · refine step_value (.bool true) rfl ?_
      intro a8 w8 hS ho hn
      obtain ⟨_, n36, rfl⟩ := hn 30 36 (by kernel_rfl) rfl
      clear ho hn
      refine ⟨wanted_free rfl, ?_, rfl⟩
      go_simp
    rcases i with _ | i
    · refine step_skip rfl ?_
      intro a8 w8 hS ho hn
      obtain ⟨_, n37, rfl⟩ := hn 31 37 (by kernel_rfl) rfl
      exact ⟨unwanted_of 31 37 rfl rfl n37 rfl, rfl⟩
    rcases i with _ | i
    · refine step_skip rfl ?_
      intro a8 w8 hS ho hn
      obtain ⟨_, n37, rfl⟩ := hn 31 37 (by kernel_rfl) rfl
      exact ⟨unwanted_of 31 37 rfl rfl n37 rfl, rfl⟩
    rcases i with _ | i
    · refine step_skip rfl ?_
      intro a8 w8 hS ho hn
      obtain ⟨_, n37, rfl⟩ := hn 31 37 (by kernel_rfl) rfl
      exact ⟨unwanted_of 31 37 rfl rfl n37 rfl, rfl⟩
    rcases i with _ | i
    · refine step_skip rfl ?_
      intro a8 w8 hS ho hn
      obtain ⟨_, n37, rfl⟩ := hn 31 37 (by kernel_rfl) rfl
      exact ⟨unwanted_of 31 37 rfl rfl n37 rfl, rfl⟩
    rcases i with _ | i
    · refine step_skip rfl ?_
      intro a8 w8 hS ho hn
      obtain ⟨_, n37, rfl⟩ := hn 31 37 (by kernel_rfl) rfl
      exact ⟨unwanted_of 31 37 rfl rfl n37 rfl, rfl⟩
    rcases i with _ | i
    · refine step_skip rfl ?_
      intro a8 w8 hS ho hn
      obtain ⟨_, n37, rfl⟩ := hn 31 37 (by kernel_rfl) rfl
      exact ⟨unwanted_of 31 37 rfl rfl n37 rfl, rfl⟩
    rcases i with _ | i
    · refine step_value (.bool true) rfl ?_
      intro a8 w8 hS ho hn
      obtain ⟨_, n37, rfl⟩ := hn 31 37 (by kernel_rfl) rfl
      obtain ⟨_, n43, rfl⟩ := hn 37 43 (by kernel_rfl) rfl
      clear ho hn
      refine ⟨wanted_free rfl, ?_, rfl⟩
      go_simp
    omega
  · intro f w9 hS hR
    have h44 : f 44 = _ := hR 38 44 rfl
    simp only [putAll, List.foldl_cons, List.foldl_nil, Act.put, List.setIfInBounds_toArray, List.set_cons_succ, List.set_cons_zero, h44, List.getD_cons_zero, List.getD_cons_succ]
    clear hR h44
    go_wp2
    go_ret
    exact ⟨rfl, HB.out.trans (hS.mono HB.out.size)⟩

set_option maxRecDepth 100000 in
set_option maxHeartbeats 4000000 in
theorem chk_4 (f m k s F : Int) (A : Option Addr) (n c : Nat) (w : World) (hF : ∀ W, Calls Try.prog 13 #[.int .i64 s] W fun e w' => e = .returned (.int .i64 F) ∧ W = w') (d0 : decide (s < 1) = false) (d1 : decide (64 < s) = false) (d2 : decide (f < 1) = false) (d3 : decide (m < 0) = false) (d4 : decide (4096 ≤ m) = true) :
    Calls Try.prog 27 #[.agg #[.int .i64 f, .int .i64 m, .int .i64 k, .slice A n c], .int .i64 s] w fun e w' => e = .returned (.int .i64 50) ∧ Below w.heap.size w w' := by
  obtain ⟨W1, hW1⟩ : ∃ W1, w.alloc (.cells #[.int .i64 f, .int .i64 m, .int .i64 k, .slice A n c] 24) = W1 := ⟨_, rfl⟩
  have hb0 : Below w.heap.size w W1 := by rw [← hW1]; exact (Below.refl _ _).alloc (Nat.le_refl _) _
  have hx : Blk W1 w.heap.size 24 #[.int .i64 f, .int .i64 m, .int .i64 k, .slice A n c] := by rw [← hW1]; exact Blk.new w _ _
  have C0 := Lib.hid (fun W (hb : Below W1.heap.size W1 W) => (hx.below hb hx.lt).cell 0)
  have C1 := Lib.hid (fun W (hb : Below W1.heap.size W1 W) => (hx.below hb hx.lt).cell 1)
  have C2 := Lib.hid (fun W (hb : Below W1.heap.size W1 W) => (hx.below hb hx.lt).cell 2)
  have C3 := Lib.hid (fun W (hb : Below W1.heap.size W1 W) => (hx.below hb hx.lt).cell 3)
  have D0 := Lib.hid d0
  have D1 := Lib.hid d1
  have D2 := Lib.hid d2
  have D3 := Lib.hid d3
  have D4 := Lib.hid d4
  have HF := Lib.hid hF
  have HW1 := Lib.hid hW1
  have HB := Lib.hid hb0
  clear hW1 hb0 hx hF d0 d1 d2 d3 d4
  go_enter Try.func27, Try.ntmps27
  go_wp2
  rw [HW1.out]
  refine wp_region_steps_on (fun w' => Below W1.heap.size W1 w') (fun i v _ => v = ([.int .i64 s, .bool false, .bool false, .int .i64 s, .bool false, .bool false, .bool false, .pointer (some ⟨w.heap.size, 0, none⟩), .int .i64 f, .bool false, .bool false, .bool false, .pointer (some ⟨w.heap.size, 1, none⟩), .int .i64 m, .bool false, .bool false, .bool false, .pointer (some ⟨w.heap.size, 1, none⟩), .int .i64 m, .bool true, .bool true, .bool true, undef, undef, undef, .bool true, .bool true, undef, undef, undef, .bool true, .bool true, undef, undef, undef, undef, undef, undef, .bool true] : List Value).getD i undef) (by kernel_rfl) 71 rfl (by kernel_rfl) ((Below.refl _ _).drew) ?_ ?_
  · intro i hi
    have hi2 : i < 39 := hi
    clear hi
    rcases i with _ | i
    · refine step_value (.int .i64 s) rfl ?_
      intro a8 w8 hS ho hn
      have o1 : a8.tmps[1]? = some _ := (ho 1 (by kernel_rfl)).trans rfl
      clear ho hn
      refine ⟨wanted_free rfl, ?_, rfl⟩
      go_simp
    rcases i with _ | i
    · refine step_value (.bool false) rfl ?_
      intro a8 w8 hS ho hn
      obtain ⟨_, n6, rfl⟩ := hn 0 6 (by kernel_rfl) rfl
      clear ho hn
      refine ⟨wanted_free rfl, ?_, rfl⟩
      have hq := D0.out
      go_simp
    rcases i with _ | i
    · refine step_value (.bool false) rfl ?_
      intro a8 w8 hS ho hn
      obtain ⟨_, n7, rfl⟩ := hn 1 7 (by kernel_rfl) rfl
      clear ho hn
      refine ⟨wanted_free rfl, ?_, rfl⟩
      go_simp
    rcases i with _ | i
    · refine step_value (.int .i64 s) rfl ?_
      intro a8 w8 hS ho hn
      have o1 : a8.tmps[1]? = some _ := (ho 1 (by kernel_rfl)).trans rfl
      obtain ⟨_, n8, rfl⟩ := hn 2 8 (by kernel_rfl) rfl
      clear ho hn
      refine ⟨wanted_of 2 8 rfl rfl n8, ?_, rfl⟩
      go_simp
    rcases i with _ | i
    · refine step_value (.bool false) rfl ?_
      intro a8 w8 hS ho hn
      obtain ⟨_, n9, rfl⟩ := hn 3 9 (by kernel_rfl) rfl
      obtain ⟨_, n8, rfl⟩ := hn 2 8 (by kernel_rfl) rfl
      clear ho hn
      refine ⟨wanted_of 2 8 rfl rfl n8, ?_, rfl⟩
      have hq := D1.out
      go_simp
    rcases i with _ | i
    · refine step_value (.bool false) rfl ?_
      intro a8 w8 hS ho hn
      obtain ⟨_, n8, rfl⟩ := hn 2 8 (by kernel_rfl) rfl
      obtain ⟨_, n10, rfl⟩ := hn 4 10 (by kernel_rfl) rfl
      clear ho hn
      refine ⟨wanted_free rfl, ?_, rfl⟩
      go_simp
    rcases i with _ | i
    · refine step_value (.bool false) rfl ?_
      intro a8 w8 hS ho hn
      obtain ⟨_, n11, rfl⟩ := hn 5 11 (by kernel_rfl) rfl
      clear ho hn
      refine ⟨wanted_free rfl, ?_, rfl⟩
      go_simp
    rcases i with _ | i
    · refine step_value (.pointer (some ⟨w.heap.size, 0, none⟩)) rfl ?_
      intro a8 w8 hS ho hn
      have o2 : a8.tmps[2]? = some _ := (ho 2 (by kernel_rfl)).trans rfl
      obtain ⟨_, n12, rfl⟩ := hn 6 12 (by kernel_rfl) rfl
      clear ho hn
      refine ⟨wanted_of 6 12 rfl rfl n12, ?_, rfl⟩
      go_simp
    rcases i with _ | i
    · refine step_value (.int .i64 f) rfl ?_
      intro a8 w8 hS ho hn
      obtain ⟨_, n13, rfl⟩ := hn 7 13 (by kernel_rfl) rfl
      obtain ⟨_, n12, rfl⟩ := hn 6 12 (by kernel_rfl) rfl
      clear ho hn
      refine ⟨wanted_of 6 12 rfl rfl n12, ?_, rfl⟩
      have q8 := C0.out w8 hS
      go_simp
    rcases i with _ | i
    · refine step_value (.bool false) rfl ?_
      intro a8 w8 hS ho hn
      obtain ⟨_, n14, rfl⟩ := hn 8 14 (by kernel_rfl) rfl
      obtain ⟨_, n12, rfl⟩ := hn 6 12 (by kernel_rfl) rfl
      clear ho hn
      refine ⟨wanted_of 6 12 rfl rfl n12, ?_, rfl⟩
      have hq := D2.out
      go_simp
    rcases i with _ | i
    · refine step_value (.bool false) rfl ?_
      intro a8 w8 hS ho hn
      obtain ⟨_, n12, rfl⟩ := hn 6 12 (by kernel_rfl) rfl
      obtain ⟨_, n15, rfl⟩ := hn 9 15 (by kernel_rfl) rfl
      clear ho hn
      refine ⟨wanted_free rfl, ?_, rfl⟩
      go_simp
    rcases i with _ | i
    · refine step_value (.bool false) rfl ?_
      intro a8 w8 hS ho hn
      obtain ⟨_, n16, rfl⟩ := hn 10 16 (by kernel_rfl) rfl
      clear ho hn
      refine ⟨wanted_free rfl, ?_, rfl⟩
      go_simp
    rcases i with _ | i
    · refine step_value (.pointer (some ⟨w.heap.size, 1, none⟩)) rfl ?_
      intro a8 w8 hS ho hn
      have o2 : a8.tmps[2]? = some _ := (ho 2 (by kernel_rfl)).trans rfl
      obtain ⟨_, n17, rfl⟩ := hn 11 17 (by kernel_rfl) rfl
      clear ho hn
      refine ⟨wanted_of 11 17 rfl rfl n17, ?_, rfl⟩
      go_simp
    rcases i with _ | i
    · refine step_value (.int .i64 m) rfl ?_
      intro a8 w8 hS ho hn
      obtain ⟨_, n18, rfl⟩ := hn 12 18 (by kernel_rfl) rfl
      obtain ⟨_, n17, rfl⟩ := hn 11 17 (by kernel_rfl) rfl
      clear ho hn
      refine ⟨wanted_of 11 17 rfl rfl n17, ?_, rfl⟩
      have q8 := C1.out w8 hS
      go_simp
    rcases i with _ | i
    · refine step_value (.bool false) rfl ?_
      intro a8 w8 hS ho hn
      obtain ⟨_, n19, rfl⟩ := hn 13 19 (by kernel_rfl) rfl
      obtain ⟨_, n17, rfl⟩ := hn 11 17 (by kernel_rfl) rfl
      clear ho hn
      refine ⟨wanted_of 11 17 rfl rfl n17, ?_, rfl⟩
      have hq := D3.out
      go_simp
    rcases i with _ | i
    · refine step_value (.bool false) rfl ?_
      intro a8 w8 hS ho hn
      obtain ⟨_, n17, rfl⟩ := hn 11 17 (by kernel_rfl) rfl
      obtain ⟨_, n20, rfl⟩ := hn 14 20 (by kernel_rfl) rfl
      clear ho hn
      refine ⟨wanted_free rfl, ?_, rfl⟩
      go_simp
    rcases i with _ | i
    · refine step_value (.bool false) rfl ?_
      intro a8 w8 hS ho hn
      obtain ⟨_, n21, rfl⟩ := hn 15 21 (by kernel_rfl) rfl
      clear ho hn
      refine ⟨wanted_free rfl, ?_, rfl⟩
      go_simp
    rcases i with _ | i
    · refine step_value (.pointer (some ⟨w.heap.size, 1, none⟩)) rfl ?_
      intro a8 w8 hS ho hn
      have o2 : a8.tmps[2]? = some _ := (ho 2 (by kernel_rfl)).trans rfl
      obtain ⟨_, n22, rfl⟩ := hn 16 22 (by kernel_rfl) rfl
      clear ho hn
      refine ⟨wanted_of 16 22 rfl rfl n22, ?_, rfl⟩
      go_simp
    rcases i with _ | i
    · refine step_value (.int .i64 m) rfl ?_
      intro a8 w8 hS ho hn
      obtain ⟨_, n23, rfl⟩ := hn 17 23 (by kernel_rfl) rfl
      obtain ⟨_, n22, rfl⟩ := hn 16 22 (by kernel_rfl) rfl
      clear ho hn
      refine ⟨wanted_of 16 22 rfl rfl n22, ?_, rfl⟩
      have q8 := C1.out w8 hS
      go_simp
    rcases i with _ | i
    · refine step_value (.bool true) rfl ?_
      intro a8 w8 hS ho hn
      obtain ⟨_, n24, rfl⟩ := hn 18 24 (by kernel_rfl) rfl
      obtain ⟨_, n22, rfl⟩ := hn 16 22 (by kernel_rfl) rfl
      clear ho hn
      refine ⟨wanted_of 16 22 rfl rfl n22, ?_, rfl⟩
      have hq := D4.out
      go_simp
    rcases i with _ | i
    · refine step_value (.bool true) rfl ?_
      intro a8 w8 hS ho hn
      obtain ⟨_, n22, rfl⟩ := hn 16 22 (by kernel_rfl) rfl
      obtain ⟨_, n25, rfl⟩ := hn 19 25 (by kernel_rfl) rfl
      clear ho hn
      refine ⟨wanted_free rfl, ?_, rfl⟩
      go_simp
    rcases i with _ | i
    · refine step_value (.bool true) rfl ?_
      intro a8 w8 hS ho hn
      obtain ⟨_, n26, rfl⟩ := hn 20 26 (by kernel_rfl) rfl
      clear ho hn
      refine ⟨wanted_free rfl, ?_, rfl⟩
      go_simp
    rcases i with _ | i
    · refine step_skip rfl ?_
      intro a8 w8 hS ho hn
      obtain ⟨_, n27, rfl⟩ := hn 21 27 (by kernel_rfl) rfl
      exact ⟨unwanted_of 21 27 rfl rfl n27 rfl, rfl⟩
    rcases i with _ | i
    · refine step_skip rfl ?_
      intro a8 w8 hS ho hn
      obtain ⟨_, n27, rfl⟩ := hn 21 27 (by kernel_rfl) rfl
      exact ⟨unwanted_of 21 27 rfl rfl n27 rfl, rfl⟩
    rcases i with _ | i
    · refine step_skip rfl ?_
      intro a8 w8 hS ho hn
      obtain ⟨_, n27, rfl⟩ := hn 21 27 (by kernel_rfl) rfl
      exact ⟨unwanted_of 21 27 rfl rfl n27 rfl, rfl⟩
    rcases i with _ | i
    · refine step_value (.bool true) rfl ?_
      intro a8 w8 hS ho hn
      obtain ⟨_, n27, rfl⟩ := hn 21 27 (by kernel_rfl) rfl
      obtain ⟨_, n30, rfl⟩ := hn 24 30 (by kernel_rfl) rfl
      clear ho hn
      refine ⟨wanted_free rfl, ?_, rfl⟩
      go_simp
    rcases i with _ | i
    · refine step_value (.bool true) rfl ?_
      intro a8 w8 hS ho hn
      obtain ⟨_, n31, rfl⟩ := hn 25 31 (by kernel_rfl) rfl
      clear ho hn
      refine ⟨wanted_free rfl, ?_, rfl⟩
      go_simp
    rcases i with _ | i
    · refine step_skip rfl ?_
      intro a8 w8 hS ho hn
      obtain ⟨_, n32, rfl⟩ := hn 26 32 (by kernel_rfl) rfl
      exact ⟨unwanted_of 26 32 rfl rfl n32 rfl, rfl⟩
    rcases i with _ | i
    · refine step_skip rfl ?_
      intro a8 w8 hS ho hn
      obtain ⟨_, n32, rfl⟩ := hn 26 32 (by kernel_rfl) rfl
      exact ⟨unwanted_of 26 32 rfl rfl n32 rfl, rfl⟩
    rcases i with _ | i
    · refine step_skip rfl ?_
      intro a8 w8 hS ho hn
      obtain ⟨_, n32, rfl⟩ := hn 26 32 (by kernel_rfl) rfl
      exact ⟨unwanted_of 26 32 rfl rfl n32 rfl, rfl⟩
    rcases i with _ | i
    · refine step_value (.bool true) rfl ?_
      intro a8 w8 hS ho hn
      obtain ⟨_, n32, rfl⟩ := hn 26 32 (by kernel_rfl) rfl
      obtain ⟨_, n35, rfl⟩ := hn 29 35 (by kernel_rfl) rfl
      clear ho hn
      refine ⟨wanted_free rfl, ?_, rfl⟩
      go_simp
    rcases i with _ | i
    · refine step_value (.bool true) rfl ?_
      intro a8 w8 hS ho hn
      obtain ⟨_, n36, rfl⟩ := hn 30 36 (by kernel_rfl) rfl
      clear ho hn
      refine ⟨wanted_free rfl, ?_, rfl⟩
      go_simp
    rcases i with _ | i
    · refine step_skip rfl ?_
      intro a8 w8 hS ho hn
      obtain ⟨_, n37, rfl⟩ := hn 31 37 (by kernel_rfl) rfl
      exact ⟨unwanted_of 31 37 rfl rfl n37 rfl, rfl⟩
    rcases i with _ | i
    · refine step_skip rfl ?_
      intro a8 w8 hS ho hn
      obtain ⟨_, n37, rfl⟩ := hn 31 37 (by kernel_rfl) rfl
      exact ⟨unwanted_of 31 37 rfl rfl n37 rfl, rfl⟩
    rcases i with _ | i
    · refine step_skip rfl ?_
      intro a8 w8 hS ho hn
      obtain ⟨_, n37, rfl⟩ := hn 31 37 (by kernel_rfl) rfl
      exact ⟨unwanted_of 31 37 rfl rfl n37 rfl, rfl⟩
    rcases i with _ | i
    · refine step_skip rfl ?_
      intro a8 w8 hS ho hn
      obtain ⟨_, n37, rfl⟩ := hn 31 37 (by kernel_rfl) rfl
      exact ⟨unwanted_of 31 37 rfl rfl n37 rfl, rfl⟩
    rcases i with _ | i
    · refine step_skip rfl ?_
      intro a8 w8 hS ho hn
      obtain ⟨_, n37, rfl⟩ := hn 31 37 (by kernel_rfl) rfl
      exact ⟨unwanted_of 31 37 rfl rfl n37 rfl, rfl⟩
    rcases i with _ | i
    · refine step_skip rfl ?_
      intro a8 w8 hS ho hn
      obtain ⟨_, n37, rfl⟩ := hn 31 37 (by kernel_rfl) rfl
      exact ⟨unwanted_of 31 37 rfl rfl n37 rfl, rfl⟩
    rcases i with _ | i
    · refine step_value (.bool true) rfl ?_
      intro a8 w8 hS ho hn
      obtain ⟨_, n37, rfl⟩ := hn 31 37 (by kernel_rfl) rfl
      obtain ⟨_, n43, rfl⟩ := hn 37 43 (by kernel_rfl) rfl
      clear ho hn
      refine ⟨wanted_free rfl, ?_, rfl⟩
      go_simp
    omega
  · intro f w9 hS hR
    have h44 : f 44 = _ := hR 38 44 rfl
    simp only [putAll, List.foldl_cons, List.foldl_nil, Act.put, List.setIfInBounds_toArray, List.set_cons_succ, List.set_cons_zero, h44, List.getD_cons_zero, List.getD_cons_succ]
    clear hR h44
    go_wp2
    go_ret
    exact ⟨rfl, HB.out.trans (hS.mono HB.out.size)⟩

set_option maxRecDepth 100000 in
set_option maxHeartbeats 4000000 in
theorem chk_5 (f m k s F : Int) (A : Option Addr) (n c : Nat) (w : World) (hF : ∀ W, Calls Try.prog 13 #[.int .i64 s] W fun e w' => e = .returned (.int .i64 F) ∧ W = w') (d0 : decide (s < 1) = false) (d1 : decide (64 < s) = false) (d2 : decide (f < 1) = false) (d3 : decide (m < 0) = false) (d4 : decide (4096 ≤ m) = false) (d5 : decide (k < 1) = true) :
    Calls Try.prog 27 #[.agg #[.int .i64 f, .int .i64 m, .int .i64 k, .slice A n c], .int .i64 s] w fun e w' => e = .returned (.int .i64 50) ∧ Below w.heap.size w w' := by
  obtain ⟨W1, hW1⟩ : ∃ W1, w.alloc (.cells #[.int .i64 f, .int .i64 m, .int .i64 k, .slice A n c] 24) = W1 := ⟨_, rfl⟩
  have hb0 : Below w.heap.size w W1 := by rw [← hW1]; exact (Below.refl _ _).alloc (Nat.le_refl _) _
  have hx : Blk W1 w.heap.size 24 #[.int .i64 f, .int .i64 m, .int .i64 k, .slice A n c] := by rw [← hW1]; exact Blk.new w _ _
  have C0 := Lib.hid (fun W (hb : Below W1.heap.size W1 W) => (hx.below hb hx.lt).cell 0)
  have C1 := Lib.hid (fun W (hb : Below W1.heap.size W1 W) => (hx.below hb hx.lt).cell 1)
  have C2 := Lib.hid (fun W (hb : Below W1.heap.size W1 W) => (hx.below hb hx.lt).cell 2)
  have C3 := Lib.hid (fun W (hb : Below W1.heap.size W1 W) => (hx.below hb hx.lt).cell 3)
  have D0 := Lib.hid d0
  have D1 := Lib.hid d1
  have D2 := Lib.hid d2
  have D3 := Lib.hid d3
  have D4 := Lib.hid d4
  have D5 := Lib.hid d5
  have HF := Lib.hid hF
  have HW1 := Lib.hid hW1
  have HB := Lib.hid hb0
  clear hW1 hb0 hx hF d0 d1 d2 d3 d4 d5
  go_enter Try.func27, Try.ntmps27
  go_wp2
  rw [HW1.out]
  refine wp_region_steps_on (fun w' => Below W1.heap.size W1 w') (fun i v _ => v = ([.int .i64 s, .bool false, .bool false, .int .i64 s, .bool false, .bool false, .bool false, .pointer (some ⟨w.heap.size, 0, none⟩), .int .i64 f, .bool false, .bool false, .bool false, .pointer (some ⟨w.heap.size, 1, none⟩), .int .i64 m, .bool false, .bool false, .bool false, .pointer (some ⟨w.heap.size, 1, none⟩), .int .i64 m, .bool false, .bool false, .bool false, .pointer (some ⟨w.heap.size, 2, none⟩), .int .i64 k, .bool true, .bool true, .bool true, undef, undef, undef, .bool true, .bool true, undef, undef, undef, undef, undef, undef, .bool true] : List Value).getD i undef) (by kernel_rfl) 71 rfl (by kernel_rfl) ((Below.refl _ _).drew) ?_ ?_
  · intro i hi
    have hi2 : i < 39 := hi
    clear hi
    rcases i with _ | i
    · refine step_value (.int .i64 s) rfl ?_
      intro a8 w8 hS ho hn
      have o1 : a8.tmps[1]? = some _ := (ho 1 (by kernel_rfl)).trans rfl
      clear ho hn
      refine ⟨wanted_free rfl, ?_, rfl⟩
      go_simp
    rcases i with _ | i
    · refine step_value (.bool false) rfl ?_
      intro a8 w8 hS ho hn
      obtain ⟨_, n6, rfl⟩ := hn 0 6 (by kernel_rfl) rfl
      clear ho hn
      refine ⟨wanted_free rfl, ?_, rfl⟩
      have hq := D0.out
      go_simp
    rcases i with _ | i
    · refine step_value (.bool false) rfl ?_
      intro a8 w8 hS ho hn
      obtain ⟨_, n7, rfl⟩ := hn 1 7 (by kernel_rfl) rfl
      clear ho hn
      refine ⟨wanted_free rfl, ?_, rfl⟩
      go_simp
    rcases i with _ | i
    · refine step_value (.int .i64 s) rfl ?_
      intro a8 w8 hS ho hn
      have o1 : a8.tmps[1]? = some _ := (ho 1 (by kernel_rfl)).trans rfl
      obtain ⟨_, n8, rfl⟩ := hn 2 8 (by kernel_rfl) rfl
      clear ho hn
      refine ⟨wanted_of 2 8 rfl rfl n8, ?_, rfl⟩
      go_simp
    rcases i with _ | i
    · refine step_value (.bool false) rfl ?_
      intro a8 w8 hS ho hn
      obtain ⟨_, n9, rfl⟩ := hn 3 9 (by kernel_rfl) rfl
      obtain ⟨_, n8, rfl⟩ := hn 2 8 (by kernel_rfl) rfl
      clear ho hn
      refine ⟨wanted_of 2 8 rfl rfl n8, ?_, rfl⟩
      have hq := D1.out
      go_simp
    rcases i with _ | i
    · refine step_value (.bool false) rfl ?_
      intro a8 w8 hS ho hn
      obtain ⟨_, n8, rfl⟩ := hn 2 8 (by kernel_rfl) rfl
      obtain ⟨_, n10, rfl⟩ := hn 4 10 (by kernel_rfl) rfl
      clear ho hn
      refine ⟨wanted_free rfl, ?_, rfl⟩
      go_simp
    rcases i with _ | i
    · refine step_value (.bool false) rfl ?_
      intro a8 w8 hS ho hn
      obtain ⟨_, n11, rfl⟩ := hn 5 11 (by kernel_rfl) rfl
      clear ho hn
      refine ⟨wanted_free rfl, ?_, rfl⟩
      go_simp
    rcases i with _ | i
    · refine step_value (.pointer (some ⟨w.heap.size, 0, none⟩)) rfl ?_
      intro a8 w8 hS ho hn
      have o2 : a8.tmps[2]? = some _ := (ho 2 (by kernel_rfl)).trans rfl
      obtain ⟨_, n12, rfl⟩ := hn 6 12 (by kernel_rfl) rfl
      clear ho hn
      refine ⟨wanted_of 6 12 rfl rfl n12, ?_, rfl⟩
      go_simp
    rcases i with _ | i
    · refine step_value (.int .i64 f) rfl ?_
      intro a8 w8 hS ho hn
      obtain ⟨_, n13, rfl⟩ := hn 7 13 (by kernel_rfl) rfl
      obtain ⟨_, n12, rfl⟩ := hn 6 12 (by kernel_rfl) rfl
      clear ho hn
      refine ⟨wanted_of 6 12 rfl rfl n12, ?_, rfl⟩
      have q8 := C0.out w8 hS
      go_simp
    rcases i with _ | i
    · refine step_value (.bool false) rfl ?_
      intro a8 w8 hS ho hn
      obtain ⟨_, n14, rfl⟩ := hn 8 14 (by kernel_rfl) rfl
      obtain ⟨_, n12, rfl⟩ := hn 6 12 (by kernel_rfl) rfl
      clear ho hn
      refine ⟨wanted_of 6 12 rfl rfl n12, ?_, rfl⟩
      have hq := D2.out
      go_simp
    rcases i with _ | i
    · refine step_value (.bool false) rfl ?_
      intro a8 w8 hS ho hn
      obtain ⟨_, n12, rfl⟩ := hn 6 12 (by kernel_rfl) rfl
      obtain ⟨_, n15, rfl⟩ := hn 9 15 (by kernel_rfl) rfl
      clear ho hn
      refine ⟨wanted_free rfl, ?_, rfl⟩
      go_simp
    rcases i with _ | i
    · refine step_value (.bool false) rfl ?_
      intro a8 w8 hS ho hn
      obtain ⟨_, n16, rfl⟩ := hn 10 16 (by kernel_rfl) rfl
      clear ho hn
      refine ⟨wanted_free rfl, ?_, rfl⟩
      go_simp
    rcases i with _ | i
    · refine step_value (.pointer (some ⟨w.heap.size, 1, none⟩)) rfl ?_
      intro a8 w8 hS ho hn
      have o2 : a8.tmps[2]? = some _ := (ho 2 (by kernel_rfl)).trans rfl
      obtain ⟨_, n17, rfl⟩ := hn 11 17 (by kernel_rfl) rfl
      clear ho hn
      refine ⟨wanted_of 11 17 rfl rfl n17, ?_, rfl⟩
      go_simp
    rcases i with _ | i
    · refine step_value (.int .i64 m) rfl ?_
      intro a8 w8 hS ho hn
      obtain ⟨_, n18, rfl⟩ := hn 12 18 (by kernel_rfl) rfl
      obtain ⟨_, n17, rfl⟩ := hn 11 17 (by kernel_rfl) rfl
      clear ho hn
      refine ⟨wanted_of 11 17 rfl rfl n17, ?_, rfl⟩
      have q8 := C1.out w8 hS
      go_simp
    rcases i with _ | i
    · refine step_value (.bool false) rfl ?_
      intro a8 w8 hS ho hn
      obtain ⟨_, n19, rfl⟩ := hn 13 19 (by kernel_rfl) rfl
      obtain ⟨_, n17, rfl⟩ := hn 11 17 (by kernel_rfl) rfl
      clear ho hn
      refine ⟨wanted_of 11 17 rfl rfl n17, ?_, rfl⟩
      have hq := D3.out
      go_simp
    rcases i with _ | i
    · refine step_value (.bool false) rfl ?_
      intro a8 w8 hS ho hn
      obtain ⟨_, n17, rfl⟩ := hn 11 17 (by kernel_rfl) rfl
      obtain ⟨_, n20, rfl⟩ := hn 14 20 (by kernel_rfl) rfl
      clear ho hn
      refine ⟨wanted_free rfl, ?_, rfl⟩
      go_simp
    rcases i with _ | i
    · refine step_value (.bool false) rfl ?_
      intro a8 w8 hS ho hn
      obtain ⟨_, n21, rfl⟩ := hn 15 21 (by kernel_rfl) rfl
      clear ho hn
      refine ⟨wanted_free rfl, ?_, rfl⟩
      go_simp
    rcases i with _ | i
    · refine step_value (.pointer (some ⟨w.heap.size, 1, none⟩)) rfl ?_
      intro a8 w8 hS ho hn
      have o2 : a8.tmps[2]? = some _ := (ho 2 (by kernel_rfl)).trans rfl
      obtain ⟨_, n22, rfl⟩ := hn 16 22 (by kernel_rfl) rfl
      clear ho hn
      refine ⟨wanted_of 16 22 rfl rfl n22, ?_, rfl⟩
      go_simp
    rcases i with _ | i
    · refine step_value (.int .i64 m) rfl ?_
      intro a8 w8 hS ho hn
      obtain ⟨_, n23, rfl⟩ := hn 17 23 (by kernel_rfl) rfl
      obtain ⟨_, n22, rfl⟩ := hn 16 22 (by kernel_rfl) rfl
      clear ho hn
      refine ⟨wanted_of 16 22 rfl rfl n22, ?_, rfl⟩
      have q8 := C1.out w8 hS
      go_simp
    rcases i with _ | i
    · refine step_value (.bool false) rfl ?_
      intro a8 w8 hS ho hn
      obtain ⟨_, n24, rfl⟩ := hn 18 24 (by kernel_rfl) rfl
      obtain ⟨_, n22, rfl⟩ := hn 16 22 (by kernel_rfl) rfl
      clear ho hn
      refine ⟨wanted_of 16 22 rfl rfl n22, ?_, rfl⟩
      have hq := D4.out
      go_simp
    rcases i with _ | i
    · refine step_value (.bool false) rfl ?_
      intro a8 w8 hS ho hn
      obtain ⟨_, n22, rfl⟩ := hn 16 22 (by kernel_rfl) rfl
      obtain ⟨_, n25, rfl⟩ := hn 19 25 (by kernel_rfl) rfl
      clear ho hn
      refine ⟨wanted_free rfl, ?_, rfl⟩
      go_simp
    rcases i with _ | i
    · refine step_value (.bool false) rfl ?_
      intro a8 w8 hS ho hn
      obtain ⟨_, n26, rfl⟩ := hn 20 26 (by kernel_rfl) rfl
      clear ho hn
      refine ⟨wanted_free rfl, ?_, rfl⟩
      go_simp
    rcases i with _ | i
    · refine step_value (.pointer (some ⟨w.heap.size, 2, none⟩)) rfl ?_
      intro a8 w8 hS ho hn
      have o2 : a8.tmps[2]? = some _ := (ho 2 (by kernel_rfl)).trans rfl
      obtain ⟨_, n27, rfl⟩ := hn 21 27 (by kernel_rfl) rfl
      clear ho hn
      refine ⟨wanted_of 21 27 rfl rfl n27, ?_, rfl⟩
      go_simp
    rcases i with _ | i
    · refine step_value (.int .i64 k) rfl ?_
      intro a8 w8 hS ho hn
      obtain ⟨_, n28, rfl⟩ := hn 22 28 (by kernel_rfl) rfl
      obtain ⟨_, n27, rfl⟩ := hn 21 27 (by kernel_rfl) rfl
      clear ho hn
      refine ⟨wanted_of 21 27 rfl rfl n27, ?_, rfl⟩
      have q8 := C2.out w8 hS
      go_simp
    rcases i with _ | i
    · refine step_value (.bool true) rfl ?_
      intro a8 w8 hS ho hn
      obtain ⟨_, n29, rfl⟩ := hn 23 29 (by kernel_rfl) rfl
      obtain ⟨_, n27, rfl⟩ := hn 21 27 (by kernel_rfl) rfl
      clear ho hn
      refine ⟨wanted_of 21 27 rfl rfl n27, ?_, rfl⟩
      have hq := D5.out
      go_simp
    rcases i with _ | i
    · refine step_value (.bool true) rfl ?_
      intro a8 w8 hS ho hn
      obtain ⟨_, n27, rfl⟩ := hn 21 27 (by kernel_rfl) rfl
      obtain ⟨_, n30, rfl⟩ := hn 24 30 (by kernel_rfl) rfl
      clear ho hn
      refine ⟨wanted_free rfl, ?_, rfl⟩
      go_simp
    rcases i with _ | i
    · refine step_value (.bool true) rfl ?_
      intro a8 w8 hS ho hn
      obtain ⟨_, n31, rfl⟩ := hn 25 31 (by kernel_rfl) rfl
      clear ho hn
      refine ⟨wanted_free rfl, ?_, rfl⟩
      go_simp
    rcases i with _ | i
    · refine step_skip rfl ?_
      intro a8 w8 hS ho hn
      obtain ⟨_, n32, rfl⟩ := hn 26 32 (by kernel_rfl) rfl
      exact ⟨unwanted_of 26 32 rfl rfl n32 rfl, rfl⟩
    rcases i with _ | i
    · refine step_skip rfl ?_
      intro a8 w8 hS ho hn
      obtain ⟨_, n32, rfl⟩ := hn 26 32 (by kernel_rfl) rfl
      exact ⟨unwanted_of 26 32 rfl rfl n32 rfl, rfl⟩
    rcases i with _ | i
    · refine step_skip rfl ?_
      intro a8 w8 hS ho hn
      obtain ⟨_, n32, rfl⟩ := hn 26 32 (by kernel_rfl) rfl
      exact ⟨unwanted_of 26 32 rfl rfl n32 rfl, rfl⟩
    rcases i with _ | i
    · refine step_value (.bool true) rfl ?_
      intro a8 w8 hS ho hn
      obtain ⟨_, n32, rfl⟩ := hn 26 32 (by kernel_rfl) rfl
      obtain ⟨_, n35, rfl⟩ := hn 29 35 (by kernel_rfl) rfl
      clear ho hn
      refine ⟨wanted_free rfl, ?_, rfl⟩
      go_simp
    rcases i with _ | i
    · refine step_value (.bool true) rfl ?_
      intro a8 w8 hS ho hn
      obtain ⟨_, n36, rfl⟩ := hn 30 36 (by kernel_rfl) rfl
      clear ho hn
      refine ⟨wanted_free rfl, ?_, rfl⟩
      go_simp
    rcases i with _ | i
    · refine step_skip rfl ?_
      intro a8 w8 hS ho hn
      obtain ⟨_, n37, rfl⟩ := hn 31 37 (by kernel_rfl) rfl
      exact ⟨unwanted_of 31 37 rfl rfl n37 rfl, rfl⟩
    rcases i with _ | i
    · refine step_skip rfl ?_
      intro a8 w8 hS ho hn
      obtain ⟨_, n37, rfl⟩ := hn 31 37 (by kernel_rfl) rfl
      exact ⟨unwanted_of 31 37 rfl rfl n37 rfl, rfl⟩
    rcases i with _ | i
    · refine step_skip rfl ?_
      intro a8 w8 hS ho hn
      obtain ⟨_, n37, rfl⟩ := hn 31 37 (by kernel_rfl) rfl
      exact ⟨unwanted_of 31 37 rfl rfl n37 rfl, rfl⟩
    rcases i with _ | i
    · refine step_skip rfl ?_
      intro a8 w8 hS ho hn
      obtain ⟨_, n37, rfl⟩ := hn 31 37 (by kernel_rfl) rfl
      exact ⟨unwanted_of 31 37 rfl rfl n37 rfl, rfl⟩
    rcases i with _ | i
    · refine step_skip rfl ?_
      intro a8 w8 hS ho hn
      obtain ⟨_, n37, rfl⟩ := hn 31 37 (by kernel_rfl) rfl
      exact ⟨unwanted_of 31 37 rfl rfl n37 rfl, rfl⟩
    rcases i with _ | i
    · refine step_skip rfl ?_
      intro a8 w8 hS ho hn
      obtain ⟨_, n37, rfl⟩ := hn 31 37 (by kernel_rfl) rfl
      exact ⟨unwanted_of 31 37 rfl rfl n37 rfl, rfl⟩
    rcases i with _ | i
    · refine step_value (.bool true) rfl ?_
      intro a8 w8 hS ho hn
      obtain ⟨_, n37, rfl⟩ := hn 31 37 (by kernel_rfl) rfl
      obtain ⟨_, n43, rfl⟩ := hn 37 43 (by kernel_rfl) rfl
      clear ho hn
      refine ⟨wanted_free rfl, ?_, rfl⟩
      go_simp
    omega
  · intro f w9 hS hR
    have h44 : f 44 = _ := hR 38 44 rfl
    simp only [putAll, List.foldl_cons, List.foldl_nil, Act.put, List.setIfInBounds_toArray, List.set_cons_succ, List.set_cons_zero, h44, List.getD_cons_zero, List.getD_cons_succ]
    clear hR h44
    go_wp2
    go_ret
    exact ⟨rfl, HB.out.trans (hS.mono HB.out.size)⟩

set_option maxRecDepth 100000 in
set_option maxHeartbeats 4000000 in
theorem chk_6 (f m k s F : Int) (A : Option Addr) (n c : Nat) (w : World) (hF : ∀ W, Calls Try.prog 13 #[.int .i64 s] W fun e w' => e = .returned (.int .i64 F) ∧ W = w') (d0 : decide (s < 1) = false) (d1 : decide (64 < s) = false) (d2 : decide (f < 1) = false) (d3 : decide (m < 0) = false) (d4 : decide (4096 ≤ m) = false) (d5 : decide (k < 1) = false) (d6 : decide (2 < k) = true) :
    Calls Try.prog 27 #[.agg #[.int .i64 f, .int .i64 m, .int .i64 k, .slice A n c], .int .i64 s] w fun e w' => e = .returned (.int .i64 50) ∧ Below w.heap.size w w' := by
  obtain ⟨W1, hW1⟩ : ∃ W1, w.alloc (.cells #[.int .i64 f, .int .i64 m, .int .i64 k, .slice A n c] 24) = W1 := ⟨_, rfl⟩
  have hb0 : Below w.heap.size w W1 := by rw [← hW1]; exact (Below.refl _ _).alloc (Nat.le_refl _) _
  have hx : Blk W1 w.heap.size 24 #[.int .i64 f, .int .i64 m, .int .i64 k, .slice A n c] := by rw [← hW1]; exact Blk.new w _ _
  have C0 := Lib.hid (fun W (hb : Below W1.heap.size W1 W) => (hx.below hb hx.lt).cell 0)
  have C1 := Lib.hid (fun W (hb : Below W1.heap.size W1 W) => (hx.below hb hx.lt).cell 1)
  have C2 := Lib.hid (fun W (hb : Below W1.heap.size W1 W) => (hx.below hb hx.lt).cell 2)
  have C3 := Lib.hid (fun W (hb : Below W1.heap.size W1 W) => (hx.below hb hx.lt).cell 3)
  have D0 := Lib.hid d0
  have D1 := Lib.hid d1
  have D2 := Lib.hid d2
  have D3 := Lib.hid d3
  have D4 := Lib.hid d4
  have D5 := Lib.hid d5
  have D6 := Lib.hid d6
  have HF := Lib.hid hF
  have HW1 := Lib.hid hW1
  have HB := Lib.hid hb0
  clear hW1 hb0 hx hF d0 d1 d2 d3 d4 d5 d6
  go_enter Try.func27, Try.ntmps27
  go_wp2
  rw [HW1.out]
  refine wp_region_steps_on (fun w' => Below W1.heap.size W1 w') (fun i v _ => v = ([.int .i64 s, .bool false, .bool false, .int .i64 s, .bool false, .bool false, .bool false, .pointer (some ⟨w.heap.size, 0, none⟩), .int .i64 f, .bool false, .bool false, .bool false, .pointer (some ⟨w.heap.size, 1, none⟩), .int .i64 m, .bool false, .bool false, .bool false, .pointer (some ⟨w.heap.size, 1, none⟩), .int .i64 m, .bool false, .bool false, .bool false, .pointer (some ⟨w.heap.size, 2, none⟩), .int .i64 k, .bool false, .bool false, .bool false, .pointer (some ⟨w.heap.size, 2, none⟩), .int .i64 k, .bool true, .bool true, .bool true, undef, undef, undef, undef, undef, undef, .bool true] : List Value).getD i undef) (by kernel_rfl) 71 rfl (by kernel_rfl) ((Below.refl _ _).drew) ?_ ?_
  · intro i hi
    have hi2 : i < 39 := hi
    clear hi
    rcases i with _ | i
    · refine step_value (.int .i64 s) rfl ?_
      intro a8 w8 hS ho hn
      have o1 : a8.tmps[1]? = some _ := (ho 1 (by kernel_rfl)).trans rfl
      clear ho hn
      refine ⟨wanted_free rfl, ?_, rfl⟩
      go_simp
    rcases i with _ | i
    · refine step_value (.bool false) rfl ?_
      intro a8 w8 hS ho hn
      obtain ⟨_, n6, rfl⟩ := hn 0 6 (by kernel_rfl) rfl
      clear ho hn
      refine ⟨wanted_free rfl, ?_, rfl⟩
      have hq := D0.out
      go_simp
    rcases i with _ | i
    · refine step_value (.bool false) rfl ?_
      intro a8 w8 hS ho hn
      obtain ⟨_, n7, rfl⟩ := hn 1 7 (by kernel_rfl) rfl
      clear ho hn
      refine ⟨wanted_free rfl, ?_, rfl⟩
      go_simp
    rcases i with _ | i
    · refine step_value (.int .i64 s) rfl ?_
      intro a8 w8 hS ho hn
      have o1 : a8.tmps[1]? = some _ := (ho 1 (by kernel_rfl)).trans rfl
      obtain ⟨_, n8, rfl⟩ := hn 2 8 (by kernel_rfl) rfl
      clear ho hn
      refine ⟨wanted_of 2 8 rfl rfl n8, ?_, rfl⟩
      go_simp
    rcases i with _ | i
    · refine step_value (.bool false) rfl ?_
      intro a8 w8 hS ho hn
      obtain ⟨_, n9, rfl⟩ := hn 3 9 (by kernel_rfl) rfl
      obtain ⟨_, n8, rfl⟩ := hn 2 8 (by kernel_rfl) rfl
      clear ho hn
      refine ⟨wanted_of 2 8 rfl rfl n8, ?_, rfl⟩
      have hq := D1.out
      go_simp
    rcases i with _ | i
    · refine step_value (.bool false) rfl ?_
      intro a8 w8 hS ho hn
      obtain ⟨_, n8, rfl⟩ := hn 2 8 (by kernel_rfl) rfl
      obtain ⟨_, n10, rfl⟩ := hn 4 10 (by kernel_rfl) rfl
      clear ho hn
      refine ⟨wanted_free rfl, ?_, rfl⟩
      go_simp
    rcases i with _ | i
    · refine step_value (.bool false) rfl ?_
      intro a8 w8 hS ho hn
      obtain ⟨_, n11, rfl⟩ := hn 5 11 (by kernel_rfl) rfl
      clear ho hn
      refine ⟨wanted_free rfl, ?_, rfl⟩
      go_simp
    rcases i with _ | i
    · refine step_value (.pointer (some ⟨w.heap.size, 0, none⟩)) rfl ?_
      intro a8 w8 hS ho hn
      have o2 : a8.tmps[2]? = some _ := (ho 2 (by kernel_rfl)).trans rfl
      obtain ⟨_, n12, rfl⟩ := hn 6 12 (by kernel_rfl) rfl
      clear ho hn
      refine ⟨wanted_of 6 12 rfl rfl n12, ?_, rfl⟩
      go_simp
    rcases i with _ | i
    · refine step_value (.int .i64 f) rfl ?_
      intro a8 w8 hS ho hn
      obtain ⟨_, n13, rfl⟩ := hn 7 13 (by kernel_rfl) rfl
      obtain ⟨_, n12, rfl⟩ := hn 6 12 (by kernel_rfl) rfl
      clear ho hn
      refine ⟨wanted_of 6 12 rfl rfl n12, ?_, rfl⟩
      have q8 := C0.out w8 hS
      go_simp
    rcases i with _ | i
    · refine step_value (.bool false) rfl ?_
      intro a8 w8 hS ho hn
      obtain ⟨_, n14, rfl⟩ := hn 8 14 (by kernel_rfl) rfl
      obtain ⟨_, n12, rfl⟩ := hn 6 12 (by kernel_rfl) rfl
      clear ho hn
      refine ⟨wanted_of 6 12 rfl rfl n12, ?_, rfl⟩
      have hq := D2.out
      go_simp
    rcases i with _ | i
    · refine step_value (.bool false) rfl ?_
      intro a8 w8 hS ho hn
      obtain ⟨_, n12, rfl⟩ := hn 6 12 (by kernel_rfl) rfl
      obtain ⟨_, n15, rfl⟩ := hn 9 15 (by kernel_rfl) rfl
      clear ho hn
      refine ⟨wanted_free rfl, ?_, rfl⟩
      go_simp
    rcases i with _ | i
    · refine step_value (.bool false) rfl ?_
      intro a8 w8 hS ho hn
      obtain ⟨_, n16, rfl⟩ := hn 10 16 (by kernel_rfl) rfl
      clear ho hn
      refine ⟨wanted_free rfl, ?_, rfl⟩
      go_simp
    rcases i with _ | i
    · refine step_value (.pointer (some ⟨w.heap.size, 1, none⟩)) rfl ?_
      intro a8 w8 hS ho hn
      have o2 : a8.tmps[2]? = some _ := (ho 2 (by kernel_rfl)).trans rfl
      obtain ⟨_, n17, rfl⟩ := hn 11 17 (by kernel_rfl) rfl
      clear ho hn
      refine ⟨wanted_of 11 17 rfl rfl n17, ?_, rfl⟩
      go_simp
    rcases i with _ | i
    · refine step_value (.int .i64 m) rfl ?_
      intro a8 w8 hS ho hn
      obtain ⟨_, n18, rfl⟩ := hn 12 18 (by kernel_rfl) rfl
      obtain ⟨_, n17, rfl⟩ := hn 11 17 (by kernel_rfl) rfl
      clear ho hn
      refine ⟨wanted_of 11 17 rfl rfl n17, ?_, rfl⟩
      have q8 := C1.out w8 hS
      go_simp
    rcases i with _ | i
    · refine step_value (.bool false) rfl ?_
      intro a8 w8 hS ho hn
      obtain ⟨_, n19, rfl⟩ := hn 13 19 (by kernel_rfl) rfl
      obtain ⟨_, n17, rfl⟩ := hn 11 17 (by kernel_rfl) rfl
      clear ho hn
      refine ⟨wanted_of 11 17 rfl rfl n17, ?_, rfl⟩
      have hq := D3.out
      go_simp
    rcases i with _ | i
    · refine step_value (.bool false) rfl ?_
      intro a8 w8 hS ho hn
      obtain ⟨_, n17, rfl⟩ := hn 11 17 (by kernel_rfl) rfl
      obtain ⟨_, n20, rfl⟩ := hn 14 20 (by kernel_rfl) rfl
      clear ho hn
      refine ⟨wanted_free rfl, ?_, rfl⟩
      go_simp
    rcases i with _ | i
    · refine step_value (.bool false) rfl ?_
      intro a8 w8 hS ho hn
      obtain ⟨_, n21, rfl⟩ := hn 15 21 (by kernel_rfl) rfl
      clear ho hn
      refine ⟨wanted_free rfl, ?_, rfl⟩
      go_simp
    rcases i with _ | i
    · refine step_value (.pointer (some ⟨w.heap.size, 1, none⟩)) rfl ?_
      intro a8 w8 hS ho hn
      have o2 : a8.tmps[2]? = some _ := (ho 2 (by kernel_rfl)).trans rfl
      obtain ⟨_, n22, rfl⟩ := hn 16 22 (by kernel_rfl) rfl
      clear ho hn
      refine ⟨wanted_of 16 22 rfl rfl n22, ?_, rfl⟩
      go_simp
    rcases i with _ | i
    · refine step_value (.int .i64 m) rfl ?_
      intro a8 w8 hS ho hn
      obtain ⟨_, n23, rfl⟩ := hn 17 23 (by kernel_rfl) rfl
      obtain ⟨_, n22, rfl⟩ := hn 16 22 (by kernel_rfl) rfl
      clear ho hn
      refine ⟨wanted_of 16 22 rfl rfl n22, ?_, rfl⟩
      have q8 := C1.out w8 hS
      go_simp
    rcases i with _ | i
    · refine step_value (.bool false) rfl ?_
      intro a8 w8 hS ho hn
      obtain ⟨_, n24, rfl⟩ := hn 18 24 (by kernel_rfl) rfl
      obtain ⟨_, n22, rfl⟩ := hn 16 22 (by kernel_rfl) rfl
      clear ho hn
      refine ⟨wanted_of 16 22 rfl rfl n22, ?_, rfl⟩
      have hq := D4.out
      go_simp
    rcases i with _ | i
    · refine step_value (.bool false) rfl ?_
      intro a8 w8 hS ho hn
      obtain ⟨_, n22, rfl⟩ := hn 16 22 (by kernel_rfl) rfl
      obtain ⟨_, n25, rfl⟩ := hn 19 25 (by kernel_rfl) rfl
      clear ho hn
      refine ⟨wanted_free rfl, ?_, rfl⟩
      go_simp
    rcases i with _ | i
    · refine step_value (.bool false) rfl ?_
      intro a8 w8 hS ho hn
      obtain ⟨_, n26, rfl⟩ := hn 20 26 (by kernel_rfl) rfl
      clear ho hn
      refine ⟨wanted_free rfl, ?_, rfl⟩
      go_simp
    rcases i with _ | i
    · refine step_value (.pointer (some ⟨w.heap.size, 2, none⟩)) rfl ?_
      intro a8 w8 hS ho hn
      have o2 : a8.tmps[2]? = some _ := (ho 2 (by kernel_rfl)).trans rfl
      obtain ⟨_, n27, rfl⟩ := hn 21 27 (by kernel_rfl) rfl
      clear ho hn
      refine ⟨wanted_of 21 27 rfl rfl n27, ?_, rfl⟩
      go_simp
    rcases i with _ | i
    · refine step_value (.int .i64 k) rfl ?_
      intro a8 w8 hS ho hn
      obtain ⟨_, n28, rfl⟩ := hn 22 28 (by kernel_rfl) rfl
      obtain ⟨_, n27, rfl⟩ := hn 21 27 (by kernel_rfl) rfl
      clear ho hn
      refine ⟨wanted_of 21 27 rfl rfl n27, ?_, rfl⟩
      have q8 := C2.out w8 hS
      go_simp
    rcases i with _ | i
    · refine step_value (.bool false) rfl ?_
      intro a8 w8 hS ho hn
      obtain ⟨_, n29, rfl⟩ := hn 23 29 (by kernel_rfl) rfl
      obtain ⟨_, n27, rfl⟩ := hn 21 27 (by kernel_rfl) rfl
      clear ho hn
      refine ⟨wanted_of 21 27 rfl rfl n27, ?_, rfl⟩
      have hq := D5.out
      go_simp
    rcases i with _ | i
    · refine step_value (.bool false) rfl ?_
      intro a8 w8 hS ho hn
      obtain ⟨_, n27, rfl⟩ := hn 21 27 (by kernel_rfl) rfl
      obtain ⟨_, n30, rfl⟩ := hn 24 30 (by kernel_rfl) rfl
      clear ho hn
      refine ⟨wanted_free rfl, ?_, rfl⟩
      go_simp
    rcases i with _ | i
    · refine step_value (.bool false) rfl ?_
      intro a8 w8 hS ho hn
      obtain ⟨_, n31, rfl⟩ := hn 25 31 (by kernel_rfl) rfl
      clear ho hn
      refine ⟨wanted_free rfl, ?_, rfl⟩
      go_simp
    rcases i with _ | i
    · refine step_value (.pointer (some ⟨w.heap.size, 2, none⟩)) rfl ?_
      intro a8 w8 hS ho hn
      have o2 : a8.tmps[2]? = some _ := (ho 2 (by kernel_rfl)).trans rfl
      obtain ⟨_, n32, rfl⟩ := hn 26 32 (by kernel_rfl) rfl
      clear ho hn
      refine ⟨wanted_of 26 32 rfl rfl n32, ?_, rfl⟩
      go_simp
    rcases i with _ | i
    · refine step_value (.int .i64 k) rfl ?_
      intro a8 w8 hS ho hn
      obtain ⟨_, n33, rfl⟩ := hn 27 33 (by kernel_rfl) rfl
      obtain ⟨_, n32, rfl⟩ := hn 26 32 (by kernel_rfl) rfl
      clear ho hn
      refine ⟨wanted_of 26 32 rfl rfl n32, ?_, rfl⟩
      have q8 := C2.out w8 hS
      go_simp
    rcases i with _ | i
    · refine step_value (.bool true) rfl ?_
      intro a8 w8 hS ho hn
      obtain ⟨_, n34, rfl⟩ := hn 28 34 (by kernel_rfl) rfl
      obtain ⟨_, n32, rfl⟩ := hn 26 32 (by kernel_rfl) rfl
      clear ho hn
      refine ⟨wanted_of 26 32 rfl rfl n32, ?_, rfl⟩
      have hq := D6.out
      go_simp
    rcases i with _ | i
    · refine step_value (.bool true) rfl ?_
      intro a8 w8 hS ho hn
      obtain ⟨_, n32, rfl⟩ := hn 26 32 (by kernel_rfl) rfl
      obtain ⟨_, n35, rfl⟩ := hn 29 35 (by kernel_rfl) rfl
      clear ho hn
      refine ⟨wanted_free rfl, ?_, rfl⟩
      go_simp
    rcases i with _ | i
    · refine step_value (.bool true) rfl ?_
      intro a8 w8 hS ho hn
      obtain ⟨_, n36, rfl⟩ := hn 30 36 (by kernel_rfl) rfl
      clear ho hn
      refine ⟨wanted_free rfl, ?_, rfl⟩
      go_simp
    rcases i with _ | i
    · refine step_skip rfl ?_
      intro a8 w8 hS ho hn
      obtain ⟨_, n37, rfl⟩ := hn 31 37 (by kernel_rfl) rfl
      exact ⟨unwanted_of 31 37 rfl rfl n37 rfl, rfl⟩
    rcases i with _ | i
    · refine step_skip rfl ?_
      intro a8 w8 hS ho hn
      obtain ⟨_, n37, rfl⟩ := hn 31 37 (by kernel_rfl) rfl
      exact ⟨unwanted_of 31 37 rfl rfl n37 rfl, rfl⟩
    rcases i with _ | i
    · refine step_skip rfl ?_
      intro a8 w8 hS ho hn
      obtain ⟨_, n37, rfl⟩ := hn 31 37 (by kernel_rfl) rfl
      exact ⟨unwanted_of 31 37 rfl rfl n37 rfl, rfl⟩
    rcases i with _ | i
    · refine step_skip rfl ?_
      intro a8 w8 hS ho hn
      obtain ⟨_, n37, rfl⟩ := hn 31 37 (by kernel_rfl) rfl
      exact ⟨unwanted_of 31 37 rfl rfl n37 rfl, rfl⟩
    rcases i with _ | i
    · refine step_skip rfl ?_
      intro a8 w8 hS ho hn
      obtain ⟨_, n37, rfl⟩ := hn 31 37 (by kernel_rfl) rfl
      exact ⟨unwanted_of 31 37 rfl rfl n37 rfl, rfl⟩
    rcases i with _ | i
    · refine step_skip rfl ?_
      intro a8 w8 hS ho hn
      obtain ⟨_, n37, rfl⟩ := hn 31 37 (by kernel_rfl) rfl
      exact ⟨unwanted_of 31 37 rfl rfl n37 rfl, rfl⟩
    rcases i with _ | i
    · refine step_value (.bool true) rfl ?_
      intro a8 w8 hS ho hn
      obtain ⟨_, n37, rfl⟩ := hn 31 37 (by kernel_rfl) rfl
      obtain ⟨_, n43, rfl⟩ := hn 37 43 (by kernel_rfl) rfl
      clear ho hn
      refine ⟨wanted_free rfl, ?_, rfl⟩
      go_simp
    omega
  · intro f w9 hS hR
    have h44 : f 44 = _ := hR 38 44 rfl
    simp only [putAll, List.foldl_cons, List.foldl_nil, Act.put, List.setIfInBounds_toArray, List.set_cons_succ, List.set_cons_zero, h44, List.getD_cons_zero, List.getD_cons_succ]
    clear hR h44
    go_wp2
    go_ret
    exact ⟨rfl, HB.out.trans (hS.mono HB.out.size)⟩

set_option maxRecDepth 100000 in
set_option maxHeartbeats 4000000 in
theorem chk_7 (f m k s F : Int) (A : Option Addr) (n c : Nat) (w : World) (hF : ∀ W, Calls Try.prog 13 #[.int .i64 s] W fun e w' => e = .returned (.int .i64 F) ∧ W = w') (d0 : decide (s < 1) = false) (d1 : decide (64 < s) = false) (d2 : decide (f < 1) = false) (d3 : decide (m < 0) = false) (d4 : decide (4096 ≤ m) = false) (d5 : decide (k < 1) = false) (d6 : decide (2 < k) = false) (d7 : decide (F < (n : Int)) = true) :
    Calls Try.prog 27 #[.agg #[.int .i64 f, .int .i64 m, .int .i64 k, .slice A n c], .int .i64 s] w fun e w' => e = .returned (.int .i64 50) ∧ Below w.heap.size w w' := by
  obtain ⟨W1, hW1⟩ : ∃ W1, w.alloc (.cells #[.int .i64 f, .int .i64 m, .int .i64 k, .slice A n c] 24) = W1 := ⟨_, rfl⟩
  have hb0 : Below w.heap.size w W1 := by rw [← hW1]; exact (Below.refl _ _).alloc (Nat.le_refl _) _
  have hx : Blk W1 w.heap.size 24 #[.int .i64 f, .int .i64 m, .int .i64 k, .slice A n c] := by rw [← hW1]; exact Blk.new w _ _
  have C0 := Lib.hid (fun W (hb : Below W1.heap.size W1 W) => (hx.below hb hx.lt).cell 0)
  have C1 := Lib.hid (fun W (hb : Below W1.heap.size W1 W) => (hx.below hb hx.lt).cell 1)
  have C2 := Lib.hid (fun W (hb : Below W1.heap.size W1 W) => (hx.below hb hx.lt).cell 2)
  have C3 := Lib.hid (fun W (hb : Below W1.heap.size W1 W) => (hx.below hb hx.lt).cell 3)
  have D0 := Lib.hid d0
  have D1 := Lib.hid d1
  have D2 := Lib.hid d2
  have D3 := Lib.hid d3
  have D4 := Lib.hid d4
  have D5 := Lib.hid d5
  have D6 := Lib.hid d6
  have D7 := Lib.hid d7
  have HF := Lib.hid hF
  have HW1 := Lib.hid hW1
  have HB := Lib.hid hb0
  clear hW1 hb0 hx hF d0 d1 d2 d3 d4 d5 d6 d7
  go_enter Try.func27, Try.ntmps27
  go_wp2
  rw [HW1.out]
  refine wp_region_steps_on (fun w' => Below W1.heap.size W1 w') (fun i v _ => v = ([.int .i64 s, .bool false, .bool false, .int .i64 s, .bool false, .bool false, .bool false, .pointer (some ⟨w.heap.size, 0, none⟩), .int .i64 f, .bool false, .bool false, .bool false, .pointer (some ⟨w.heap.size, 1, none⟩), .int .i64 m, .bool false, .bool false, .bool false, .pointer (some ⟨w.heap.size, 1, none⟩), .int .i64 m, .bool false, .bool false, .bool false, .pointer (some ⟨w.heap.size, 2, none⟩), .int .i64 k, .bool false, .bool false, .bool false, .pointer (some ⟨w.heap.size, 2, none⟩), .int .i64 k, .bool false, .bool false, .bool false, .pointer (some ⟨w.heap.size, 3, none⟩), .slice A n c, .int .i64 n, .int .i64 s, .int .i64 F, .bool true, .bool true] : List Value).getD i undef) (by kernel_rfl) 71 rfl (by kernel_rfl) ((Below.refl _ _).drew) ?_ ?_
  · intro i hi
    have hi2 : i < 39 := hi
    clear hi
    rcases i with _ | i
    · refine step_value (.int .i64 s) rfl ?_
      intro a8 w8 hS ho hn
      have o1 : a8.tmps[1]? = some _ := (ho 1 (by kernel_rfl)).trans rfl
      clear ho hn
      refine ⟨wanted_free rfl, ?_, rfl⟩
      go_simp
    rcases i with _ | i
    · refine step_value (.bool false) rfl ?_
      intro a8 w8 hS ho hn
      obtain ⟨_, n6, rfl⟩ := hn 0 6 (by kernel_rfl) rfl
      clear ho hn
      refine ⟨wanted_free rfl, ?_, rfl⟩
      have hq := D0.out
      go_simp
    rcases i with _ | i
    · refine step_value (.bool false) rfl ?_
      intro a8 w8 hS ho hn
      obtain ⟨_, n7, rfl⟩ := hn 1 7 (by kernel_rfl) rfl
      clear ho hn
      refine ⟨wanted_free rfl, ?_, rfl⟩
      go_simp
    rcases i with _ | i
    · refine step_value (.int .i64 s) rfl ?_
      intro a8 w8 hS ho hn
      have o1 : a8.tmps[1]? = some _ := (ho 1 (by kernel_rfl)).trans rfl
      obtain ⟨_, n8, rfl⟩ := hn 2 8 (by kernel_rfl) rfl
      clear ho hn
      refine ⟨wanted_of 2 8 rfl rfl n8, ?_, rfl⟩
      go_simp
    rcases i with _ | i
    · refine step_value (.bool false) rfl ?_
      intro a8 w8 hS ho hn
      obtain ⟨_, n9, rfl⟩ := hn 3 9 (by kernel_rfl) rfl
      obtain ⟨_, n8, rfl⟩ := hn 2 8 (by kernel_rfl) rfl
      clear ho hn
      refine ⟨wanted_of 2 8 rfl rfl n8, ?_, rfl⟩
      have hq := D1.out
      go_simp
    rcases i with _ | i
    · refine step_value (.bool false) rfl ?_
      intro a8 w8 hS ho hn
      obtain ⟨_, n8, rfl⟩ := hn 2 8 (by kernel_rfl) rfl
      obtain ⟨_, n10, rfl⟩ := hn 4 10 (by kernel_rfl) rfl
      clear ho hn
      refine ⟨wanted_free rfl, ?_, rfl⟩
      go_simp
    rcases i with _ | i
    · refine step_value (.bool false) rfl ?_
      intro a8 w8 hS ho hn
      obtain ⟨_, n11, rfl⟩ := hn 5 11 (by kernel_rfl) rfl
      clear ho hn
      refine ⟨wanted_free rfl, ?_, rfl⟩
      go_simp
    rcases i with _ | i
    · refine step_value (.pointer (some ⟨w.heap.size, 0, none⟩)) rfl ?_
      intro a8 w8 hS ho hn
      have o2 : a8.tmps[2]? = some _ := (ho 2 (by kernel_rfl)).trans rfl
      obtain ⟨_, n12, rfl⟩ := hn 6 12 (by kernel_rfl) rfl
      clear ho hn
      refine ⟨wanted_of 6 12 rfl rfl n12, ?_, rfl⟩
      go_simp
    rcases i with _ | i
    · refine step_value (.int .i64 f) rfl ?_
      intro a8 w8 hS ho hn
      obtain ⟨_, n13, rfl⟩ := hn 7 13 (by kernel_rfl) rfl
      obtain ⟨_, n12, rfl⟩ := hn 6 12 (by kernel_rfl) rfl
      clear ho hn
      refine ⟨wanted_of 6 12 rfl rfl n12, ?_, rfl⟩
      have q8 := C0.out w8 hS
      go_simp
    rcases i with _ | i
    · refine step_value (.bool false) rfl ?_
      intro a8 w8 hS ho hn
      obtain ⟨_, n14, rfl⟩ := hn 8 14 (by kernel_rfl) rfl
      obtain ⟨_, n12, rfl⟩ := hn 6 12 (by kernel_rfl) rfl
      clear ho hn
      refine ⟨wanted_of 6 12 rfl rfl n12, ?_, rfl⟩
      have hq := D2.out
      go_simp
    rcases i with _ | i
    · refine step_value (.bool false) rfl ?_
      intro a8 w8 hS ho hn
      obtain ⟨_, n12, rfl⟩ := hn 6 12 (by kernel_rfl) rfl
      obtain ⟨_, n15, rfl⟩ := hn 9 15 (by kernel_rfl) rfl
      clear ho hn
      refine ⟨wanted_free rfl, ?_, rfl⟩
      go_simp
    rcases i with _ | i
    · refine step_value (.bool false) rfl ?_
      intro a8 w8 hS ho hn
      obtain ⟨_, n16, rfl⟩ := hn 10 16 (by kernel_rfl) rfl
      clear ho hn
      refine ⟨wanted_free rfl, ?_, rfl⟩
      go_simp
    rcases i with _ | i
    · refine step_value (.pointer (some ⟨w.heap.size, 1, none⟩)) rfl ?_
      intro a8 w8 hS ho hn
      have o2 : a8.tmps[2]? = some _ := (ho 2 (by kernel_rfl)).trans rfl
      obtain ⟨_, n17, rfl⟩ := hn 11 17 (by kernel_rfl) rfl
      clear ho hn
      refine ⟨wanted_of 11 17 rfl rfl n17, ?_, rfl⟩
      go_simp
    rcases i with _ | i
    · refine step_value (.int .i64 m) rfl ?_
      intro a8 w8 hS ho hn
      obtain ⟨_, n18, rfl⟩ := hn 12 18 (by kernel_rfl) rfl
      obtain ⟨_, n17, rfl⟩ := hn 11 17 (by kernel_rfl) rfl
      clear ho hn
      refine ⟨wanted_of 11 17 rfl rfl n17, ?_, rfl⟩
      have q8 := C1.out w8 hS
      go_simp
    rcases i with _ | i
    · refine step_value (.bool false) rfl ?_
      intro a8 w8 hS ho hn
      obtain ⟨_, n19, rfl⟩ := hn 13 19 (by kernel_rfl) rfl
      obtain ⟨_, n17, rfl⟩ := hn 11 17 (by kernel_rfl) rfl
      clear ho hn
      refine ⟨wanted_of 11 17 rfl rfl n17, ?_, rfl⟩
      have hq := D3.out
      go_simp
    rcases i with _ | i
    · refine step_value (.bool false) rfl ?_
      intro a8 w8 hS ho hn
      obtain ⟨_, n17, rfl⟩ := hn 11 17 (by kernel_rfl) rfl
      obtain ⟨_, n20, rfl⟩ := hn 14 20 (by kernel_rfl) rfl
      clear ho hn
      refine ⟨wanted_free rfl, ?_, rfl⟩
      go_simp
    rcases i with _ | i
    · refine step_value (.bool false) rfl ?_
      intro a8 w8 hS ho hn
      obtain ⟨_, n21, rfl⟩ := hn 15 21 (by kernel_rfl) rfl
      clear ho hn
      refine ⟨wanted_free rfl, ?_, rfl⟩
      go_simp
    rcases i with _ | i
    · refine step_value (.pointer (some ⟨w.heap.size, 1, none⟩)) rfl ?_
      intro a8 w8 hS ho hn
      have o2 : a8.tmps[2]? = some _ := (ho 2 (by kernel_rfl)).trans rfl
      obtain ⟨_, n22, rfl⟩ := hn 16 22 (by kernel_rfl) rfl
      clear ho hn
      refine ⟨wanted_of 16 22 rfl rfl n22, ?_, rfl⟩
      go_simp
    rcases i with _ | i
    · refine step_value (.int .i64 m) rfl ?_
      intro a8 w8 hS ho hn
      obtain ⟨_, n23, rfl⟩ := hn 17 23 (by kernel_rfl) rfl
      obtain ⟨_, n22, rfl⟩ := hn 16 22 (by kernel_rfl) rfl
      clear ho hn
      refine ⟨wanted_of 16 22 rfl rfl n22, ?_, rfl⟩
      have q8 := C1.out w8 hS
      go_simp
    rcases i with _ | i
    · refine step_value (.bool false) rfl ?_
      intro a8 w8 hS ho hn
      obtain ⟨_, n24, rfl⟩ := hn 18 24 (by kernel_rfl) rfl
      obtain ⟨_, n22, rfl⟩ := hn 16 22 (by kernel_rfl) rfl
      clear ho hn
      refine ⟨wanted_of 16 22 rfl rfl n22, ?_, rfl⟩
      have hq := D4.out
      go_simp
    rcases i with _ | i
    · refine step_value (.bool false) rfl ?_
      intro a8 w8 hS ho hn
      obtain ⟨_, n22, rfl⟩ := hn 16 22 (by kernel_rfl) rfl
      obtain ⟨_, n25, rfl⟩ := hn 19 25 (by kernel_rfl) rfl
      clear ho hn
      refine ⟨wanted_free rfl, ?_, rfl⟩
      go_simp
    rcases i with _ | i
    · refine step_value (.bool false) rfl ?_
      intro a8 w8 hS ho hn
      obtain ⟨_, n26, rfl⟩ := hn 20 26 (by kernel_rfl) rfl
      clear ho hn
      refine ⟨wanted_free rfl, ?_, rfl⟩
      go_simp
    rcases i with _ | i
    · refine step_value (.pointer (some ⟨w.heap.size, 2, none⟩)) rfl ?_
      intro a8 w8 hS ho hn
      have o2 : a8.tmps[2]? = some _ := (ho 2 (by kernel_rfl)).trans rfl
      obtain ⟨_, n27, rfl⟩ := hn 21 27 (by kernel_rfl) rfl
      clear ho hn
      refine ⟨wanted_of 21 27 rfl rfl n27, ?_, rfl⟩
      go_simp
    rcases i with _ | i
    · refine step_value (.int .i64 k) rfl ?_
      intro a8 w8 hS ho hn
      obtain ⟨_, n28, rfl⟩ := hn 22 28 (by kernel_rfl) rfl
      obtain ⟨_, n27, rfl⟩ := hn 21 27 (by kernel_rfl) rfl
      clear ho hn
      refine ⟨wanted_of 21 27 rfl rfl n27, ?_, rfl⟩
      have q8 := C2.out w8 hS
      go_simp
    rcases i with _ | i
    · refine step_value (.bool false) rfl ?_
      intro a8 w8 hS ho hn
      obtain ⟨_, n29, rfl⟩ := hn 23 29 (by kernel_rfl) rfl
      obtain ⟨_, n27, rfl⟩ := hn 21 27 (by kernel_rfl) rfl
      clear ho hn
      refine ⟨wanted_of 21 27 rfl rfl n27, ?_, rfl⟩
      have hq := D5.out
      go_simp
    rcases i with _ | i
    · refine step_value (.bool false) rfl ?_
      intro a8 w8 hS ho hn
      obtain ⟨_, n27, rfl⟩ := hn 21 27 (by kernel_rfl) rfl
      obtain ⟨_, n30, rfl⟩ := hn 24 30 (by kernel_rfl) rfl
      clear ho hn
      refine ⟨wanted_free rfl, ?_, rfl⟩
      go_simp
    rcases i with _ | i
    · refine step_value (.bool false) rfl ?_
      intro a8 w8 hS ho hn
      obtain ⟨_, n31, rfl⟩ := hn 25 31 (by kernel_rfl) rfl
      clear ho hn
      refine ⟨wanted_free rfl, ?_, rfl⟩
      go_simp
    rcases i with _ | i
    · refine step_value (.pointer (some ⟨w.heap.size, 2, none⟩)) rfl ?_
      intro a8 w8 hS ho hn
      have o2 : a8.tmps[2]? = some _ := (ho 2 (by kernel_rfl)).trans rfl
      obtain ⟨_, n32, rfl⟩ := hn 26 32 (by kernel_rfl) rfl
      clear ho hn
      refine ⟨wanted_of 26 32 rfl rfl n32, ?_, rfl⟩
      go_simp
    rcases i with _ | i
    · refine step_value (.int .i64 k) rfl ?_
      intro a8 w8 hS ho hn
      obtain ⟨_, n33, rfl⟩ := hn 27 33 (by kernel_rfl) rfl
      obtain ⟨_, n32, rfl⟩ := hn 26 32 (by kernel_rfl) rfl
      clear ho hn
      refine ⟨wanted_of 26 32 rfl rfl n32, ?_, rfl⟩
      have q8 := C2.out w8 hS
      go_simp
    rcases i with _ | i
    · refine step_value (.bool false) rfl ?_
      intro a8 w8 hS ho hn
      obtain ⟨_, n34, rfl⟩ := hn 28 34 (by kernel_rfl) rfl
      obtain ⟨_, n32, rfl⟩ := hn 26 32 (by kernel_rfl) rfl
      clear ho hn
      refine ⟨wanted_of 26 32 rfl rfl n32, ?_, rfl⟩
      have hq := D6.out
      go_simp
    rcases i with _ | i
    · refine step_value (.bool false) rfl ?_
      intro a8 w8 hS ho hn
      obtain ⟨_, n32, rfl⟩ := hn 26 32 (by kernel_rfl) rfl
      obtain ⟨_, n35, rfl⟩ := hn 29 35 (by kernel_rfl) rfl
      clear ho hn
      refine ⟨wanted_free rfl, ?_, rfl⟩
      go_simp
    rcases i with _ | i
    · refine step_value (.bool false) rfl ?_
      intro a8 w8 hS ho hn
      obtain ⟨_, n36, rfl⟩ := hn 30 36 (by kernel_rfl) rfl
      clear ho hn
      refine ⟨wanted_free rfl, ?_, rfl⟩
      go_simp
    rcases i with _ | i
    · refine step_value (.pointer (some ⟨w.heap.size, 3, none⟩)) rfl ?_
      intro a8 w8 hS ho hn
      have o2 : a8.tmps[2]? = some _ := (ho 2 (by kernel_rfl)).trans rfl
      obtain ⟨_, n37, rfl⟩ := hn 31 37 (by kernel_rfl) rfl
      clear ho hn
      refine ⟨wanted_of 31 37 rfl rfl n37, ?_, rfl⟩
      go_simp
    rcases i with _ | i
    · refine step_value (.slice A n c) rfl ?_
      intro a8 w8 hS ho hn
      obtain ⟨_, n38, rfl⟩ := hn 32 38 (by kernel_rfl) rfl
      obtain ⟨_, n37, rfl⟩ := hn 31 37 (by kernel_rfl) rfl
      clear ho hn
      refine ⟨wanted_of 31 37 rfl rfl n37, ?_, rfl⟩
      have q8 := C3.out w8 hS
      go_simp
    rcases i with _ | i
    · refine step_value (.int .i64 n) rfl ?_
      intro a8 w8 hS ho hn
      obtain ⟨_, n39, rfl⟩ := hn 33 39 (by kernel_rfl) rfl
      obtain ⟨_, n37, rfl⟩ := hn 31 37 (by kernel_rfl) rfl
      clear ho hn
      refine ⟨wanted_of 31 37 rfl rfl n37, ?_, rfl⟩
      go_simp
    rcases i with _ | i
    · refine step_value (.int .i64 s) rfl ?_
      intro a8 w8 hS ho hn
      have o1 : a8.tmps[1]? = some _ := (ho 1 (by kernel_rfl)).trans rfl
      obtain ⟨_, n37, rfl⟩ := hn 31 37 (by kernel_rfl) rfl
      clear ho hn
      refine ⟨wanted_of 31 37 rfl rfl n37, ?_, rfl⟩
      go_simp
    rcases i with _ | i
    · refine step_call 13 #[.int .i64 s] rfl ?_
      intro a8 w8 hS ho hn
      obtain ⟨_, n41, rfl⟩ := hn 35 41 (by kernel_rfl) rfl
      obtain ⟨_, n37, rfl⟩ := hn 31 37 (by kernel_rfl) rfl
      clear ho hn
      refine ⟨wanted_of 31 37 rfl rfl n37, by go_simp, ?_⟩
      refine (HF.out w8).mono ?_
      rintro e w9 ⟨rfl, hw⟩
      exact ⟨_, rfl, by subst hw; exact hS, rfl, fun j u _ h => h⟩
    rcases i with _ | i
    · refine step_value (.bool true) rfl ?_
      intro a8 w8 hS ho hn
      obtain ⟨_, n40, rfl⟩ := hn 34 40 (by kernel_rfl) rfl
      obtain ⟨_, n42, rfl⟩ := hn 36 42 (by kernel_rfl) rfl
      obtain ⟨_, n37, rfl⟩ := hn 31 37 (by kernel_rfl) rfl
      clear ho hn
      refine ⟨wanted_of 31 37 rfl rfl n37, ?_, rfl⟩
      have hq := D7.out
      go_simp
    rcases i with _ | i
    · refine step_value (.bool true) rfl ?_
      intro a8 w8 hS ho hn
      obtain ⟨_, n37, rfl⟩ := hn 31 37 (by kernel_rfl) rfl
      obtain ⟨_, n43, rfl⟩ := hn 37 43 (by kernel_rfl) rfl
      clear ho hn
      refine ⟨wanted_free rfl, ?_, rfl⟩
      go_simp
    omega
  · intro f w9 hS hR
    have h44 : f 44 = _ := hR 38 44 rfl
    simp only [putAll, List.foldl_cons, List.foldl_nil, Act.put, List.setIfInBounds_toArray, List.set_cons_succ, List.set_cons_zero, h44, List.getD_cons_zero, List.getD_cons_succ]
    clear hR h44
    go_wp2
    go_ret
    exact ⟨rfl, HB.out.trans (hS.mono HB.out.size)⟩

end Go.Proofs.Ytpededkfgjmhcaa.tile

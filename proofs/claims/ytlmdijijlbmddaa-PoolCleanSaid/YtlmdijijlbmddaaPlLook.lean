/-
  The pool of layer 10: its tests of a frame; the iterator of frames; the first one that passes a test.
-/
import Derived.Test.YtlmdijijlbmddaaPlForm
namespace Go.Proofs.Ytlmdijijlbmddaa.pool
open Go.RowKit

section
variable {w : World} {f : FL} {v : FV}
set_option maxHeartbeats 1000000 in
theorem pinned1_any (h : FrAt w f v) (C : Nat) (a b : Int) (hC : Blk w C 29 #[.int .i64 a, .int .i64 b]) : Calls Try.prog 86 #[.pointer (some ⟨f.b, 0, none⟩), .pointer (some ⟨C, 0, none⟩)] w fun e w' => e = .returned (.bool (v.pinned a b)) ∧ Below w.heap.size w w' := by
  obtain ⟨⟨vf, vn, vk, el⟩, pins, dirty, num⟩ := v
  have hb := h.blk
  unfold frC at hb
  simp only at hb
  unfold FV.pinned TV.is
  simp only
  have HC : Hid (∀ W, Below w.heap.size w W → W.cell? ⟨f.b, 0, none⟩ = some (.int .i64 vf) ∧ W.cell? ⟨f.b, 1, none⟩ = some (.int .i64 vn) ∧ W.cell? ⟨f.b, 2, none⟩ = some (.int .i64 vk) ∧ W.cell? ⟨f.b, 3, none⟩ = some (.slice (some ⟨f.g, 0, none⟩) 4 f.c) ∧ W.cell? ⟨f.b, 4, none⟩ = some (.int .i64 (pins : Int)) ∧ W.cell? ⟨C, 0, none⟩ = some (.int .i64 a) ∧ W.cell? ⟨C, 1, none⟩ = some (.int .i64 b)) := Lib.hid (fun W hW => ⟨(hb.below hW hb.lt).cell 0, (hb.below hW hb.lt).cell 1, (hb.below hW hb.lt).cell 2, (hb.below hW hb.lt).cell 3, (hb.below hW hb.lt).cell 4, (hC.below hW hC.lt).cell 0, (hC.below hW hC.lt).cell 1⟩)
  clear hb hC h
  have HK : Hid (∀ W, Calls Try.prog 56 #[.agg #[.int .i64 vf, .int .i64 vn, .int .i64 vk, .slice (some ⟨f.g, 0, none⟩) 4 f.c]] W fun e w' => e = .returned (kvv vf vn) ∧ Below W.heap.size W w') := Lib.hid (fun W => keyof_any vf vn vk _ 4 f.c W)
  by_cases hh : vf = a ∧ vn = b
  · obtain ⟨rfl, rfl⟩ := hh
    simp only [beq_self_eq_true, Bool.true_and, Bool.and_true]
    have HH := Lib.hid True.intro
    go_enter Try.func86, Try.ntmps86
    go_wp2
    refine wp_region_steps_on (fun W => Below w.heap.size w W) (fun i v _ => v = ([.pointer (some ⟨f.b, 0, none⟩), .pointer (some ⟨f.b, 0, none⟩), .pointer (some ⟨f.b, 0, none⟩), .agg #[.int .i64 vf, .int .i64 vn, .int .i64 vk, .slice (some ⟨f.g, 0, none⟩) 4 f.c], kvv vf vn, kvv vf vn, .bool true, .bool true, .pointer (some ⟨f.b, 0, none⟩), .pointer (some ⟨f.b, 0, none⟩), .pointer (some ⟨f.b, 4, none⟩), .int .i64 (pins : Int), .bool (decide (0 < pins)), .bool (decide (0 < pins)), .bool (decide (0 < pins))] : List Value).getD i undef) (by kernel_rfl) 18 rfl (by kernel_rfl) ((Below.refl _ _).drew) ?_ ?_
    · intro i hi
      have hi2 : i < 15 := hi
      clear hi
      rcases i with _ | i
      · refine step_value (.pointer (some ⟨f.b, 0, none⟩)) rfl ?_
        intro a8 w8 hS ho hn
        have o0 : a8.tmps[0]? = some _ := (ho 0 (by kernel_rfl)).trans rfl
        clear ho hn
        refine ⟨wanted_free rfl, ?_, rfl⟩
        go_simp
      rcases i with _ | i
      · refine step_value (.pointer (some ⟨f.b, 0, none⟩)) rfl ?_
        intro a8 w8 hS ho hn
        obtain ⟨_, n4, rfl⟩ := hn 0 4 (by kernel_rfl) rfl
        clear ho hn
        refine ⟨wanted_free rfl, ?_, rfl⟩
        go_simp
      rcases i with _ | i
      · refine step_value (.pointer (some ⟨f.b, 0, none⟩)) rfl ?_
        intro a8 w8 hS ho hn
        obtain ⟨_, n5, rfl⟩ := hn 1 5 (by kernel_rfl) rfl
        clear ho hn
        refine ⟨wanted_free rfl, ?_, rfl⟩
        go_simp
      rcases i with _ | i
      · refine step_value (.agg #[.int .i64 vf, .int .i64 vn, .int .i64 vk, .slice (some ⟨f.g, 0, none⟩) 4 f.c]) rfl ?_
        intro a8 w8 hS ho hn
        obtain ⟨_, n6, rfl⟩ := hn 2 6 (by kernel_rfl) rfl
        clear ho hn
        refine ⟨wanted_free rfl, ?_, rfl⟩
        obtain ⟨c0, c1, c2, c3, c4, k0, k1⟩ := HC.out w8 hS
        go_simp
      rcases i with _ | i
      · refine step_call 56 #[.agg #[.int .i64 vf, .int .i64 vn, .int .i64 vk, .slice (some ⟨f.g, 0, none⟩) 4 f.c]] rfl ?_
        intro a8 w8 hS ho hn
        obtain ⟨_, n7, rfl⟩ := hn 3 7 (by kernel_rfl) rfl
        clear ho hn
        refine ⟨wanted_free rfl, by go_simp, ?_⟩
        refine ((HK.out w8)).mono ?_
        rintro e w9 ⟨rfl, hw⟩
        exact ⟨_, rfl, hS.trans (hw.mono hS.size), rfl, fun j u _ h => h⟩
      rcases i with _ | i
      · refine step_value (kvv vf vn) rfl ?_
        intro a8 w8 hS ho hn
        have o1 : a8.tmps[1]? = some _ := (ho 1 (by kernel_rfl)).trans rfl
        clear ho hn
        refine ⟨wanted_free rfl, ?_, rfl⟩
        obtain ⟨c0, c1, c2, c3, c4, k0, k1⟩ := HC.out w8 hS
        go_simp
      rcases i with _ | i
      · refine step_value (.bool true) rfl ?_
        intro a8 w8 hS ho hn
        obtain ⟨_, n8, rfl⟩ := hn 4 8 (by kernel_rfl) rfl
        obtain ⟨_, n9, rfl⟩ := hn 5 9 (by kernel_rfl) rfl
        clear ho hn
        refine ⟨wanted_free rfl, ?_, rfl⟩
        have h1 := HH.out
        go_simp
        try simp_all
      rcases i with _ | i
      · refine step_value (.bool true) rfl ?_
        intro a8 w8 hS ho hn
        obtain ⟨_, n10, rfl⟩ := hn 6 10 (by kernel_rfl) rfl
        clear ho hn
        refine ⟨wanted_free rfl, ?_, rfl⟩
        go_simp
      rcases i with _ | i
      · refine step_value (.pointer (some ⟨f.b, 0, none⟩)) rfl ?_
        intro a8 w8 hS ho hn
        have o0 : a8.tmps[0]? = some _ := (ho 0 (by kernel_rfl)).trans rfl
        obtain ⟨_, n11, rfl⟩ := hn 7 11 (by kernel_rfl) rfl
        clear ho hn
        refine ⟨wanted_of 7 11 rfl rfl n11, ?_, rfl⟩
        go_simp
      rcases i with _ | i
      · refine step_value (.pointer (some ⟨f.b, 0, none⟩)) rfl ?_
        intro a8 w8 hS ho hn
        obtain ⟨_, n12, rfl⟩ := hn 8 12 (by kernel_rfl) rfl
        obtain ⟨_, n11, rfl⟩ := hn 7 11 (by kernel_rfl) rfl
        clear ho hn
        refine ⟨wanted_of 7 11 rfl rfl n11, ?_, rfl⟩
        go_simp
      rcases i with _ | i
      · refine step_value (.pointer (some ⟨f.b, 4, none⟩)) rfl ?_
        intro a8 w8 hS ho hn
        obtain ⟨_, n13, rfl⟩ := hn 9 13 (by kernel_rfl) rfl
        obtain ⟨_, n11, rfl⟩ := hn 7 11 (by kernel_rfl) rfl
        clear ho hn
        refine ⟨wanted_of 7 11 rfl rfl n11, ?_, rfl⟩
        go_simp
      rcases i with _ | i
      · refine step_value (.int .i64 (pins : Int)) rfl ?_
        intro a8 w8 hS ho hn
        obtain ⟨_, n14, rfl⟩ := hn 10 14 (by kernel_rfl) rfl
        obtain ⟨_, n11, rfl⟩ := hn 7 11 (by kernel_rfl) rfl
        clear ho hn
        refine ⟨wanted_of 7 11 rfl rfl n11, ?_, rfl⟩
        obtain ⟨c0, c1, c2, c3, c4, k0, k1⟩ := HC.out w8 hS
        go_simp
      rcases i with _ | i
      · refine step_value (.bool (decide (0 < pins))) rfl ?_
        intro a8 w8 hS ho hn
        obtain ⟨_, n15, rfl⟩ := hn 11 15 (by kernel_rfl) rfl
        obtain ⟨_, n11, rfl⟩ := hn 7 11 (by kernel_rfl) rfl
        clear ho hn
        refine ⟨wanted_of 7 11 rfl rfl n11, ?_, rfl⟩
        go_simp
      rcases i with _ | i
      · refine step_value (.bool (decide (0 < pins))) rfl ?_
        intro a8 w8 hS ho hn
        obtain ⟨_, n11, rfl⟩ := hn 7 11 (by kernel_rfl) rfl
        obtain ⟨_, n16, rfl⟩ := hn 12 16 (by kernel_rfl) rfl
        clear ho hn
        refine ⟨wanted_free rfl, ?_, rfl⟩
        go_simp
      rcases i with _ | i
      · refine step_value (.bool (decide (0 < pins))) rfl ?_
        intro a8 w8 hS ho hn
        obtain ⟨_, n17, rfl⟩ := hn 13 17 (by kernel_rfl) rfl
        clear ho hn
        refine ⟨wanted_free rfl, ?_, rfl⟩
        go_simp
      omega
    · intro f w9 hS hR
      have h3 : f 3 = _ := hR 14 3 rfl
      simp only [putAll, List.foldl_cons, List.foldl_nil, Act.put, List.setIfInBounds_toArray, List.set_cons_succ, List.set_cons_zero, h3, List.getD_cons_zero, List.getD_cons_succ]
      clear hR h3
      go_wp2
      go_ret
      exact ⟨rfl, hS⟩
  · have hf : (vf == a && vn == b) = false := by
      by_cases h1 : vf = a <;> by_cases h2 : vn = b <;> simp_all
    rw [hf, Bool.false_and]
    have HH := Lib.hid hh
    clear hh hf
    go_enter Try.func86, Try.ntmps86
    go_wp2
    refine wp_region_steps_on (fun W => Below w.heap.size w W) (fun i v _ => v = ([.pointer (some ⟨f.b, 0, none⟩), .pointer (some ⟨f.b, 0, none⟩), .pointer (some ⟨f.b, 0, none⟩), .agg #[.int .i64 vf, .int .i64 vn, .int .i64 vk, .slice (some ⟨f.g, 0, none⟩) 4 f.c], kvv vf vn, kvv a b, .bool false, .bool false, undef, undef, undef, undef, undef, .bool false, .bool false] : List Value).getD i undef) (by kernel_rfl) 18 rfl (by kernel_rfl) ((Below.refl _ _).drew) ?_ ?_
    · intro i hi
      have hi2 : i < 15 := hi
      clear hi
      rcases i with _ | i
      · refine step_value (.pointer (some ⟨f.b, 0, none⟩)) rfl ?_
        intro a8 w8 hS ho hn
        have o0 : a8.tmps[0]? = some _ := (ho 0 (by kernel_rfl)).trans rfl
        clear ho hn
        refine ⟨wanted_free rfl, ?_, rfl⟩
        go_simp
      rcases i with _ | i
      · refine step_value (.pointer (some ⟨f.b, 0, none⟩)) rfl ?_
        intro a8 w8 hS ho hn
        obtain ⟨_, n4, rfl⟩ := hn 0 4 (by kernel_rfl) rfl
        clear ho hn
        refine ⟨wanted_free rfl, ?_, rfl⟩
        go_simp
      rcases i with _ | i
      · refine step_value (.pointer (some ⟨f.b, 0, none⟩)) rfl ?_
        intro a8 w8 hS ho hn
        obtain ⟨_, n5, rfl⟩ := hn 1 5 (by kernel_rfl) rfl
        clear ho hn
        refine ⟨wanted_free rfl, ?_, rfl⟩
        go_simp
      rcases i with _ | i
      · refine step_value (.agg #[.int .i64 vf, .int .i64 vn, .int .i64 vk, .slice (some ⟨f.g, 0, none⟩) 4 f.c]) rfl ?_
        intro a8 w8 hS ho hn
        obtain ⟨_, n6, rfl⟩ := hn 2 6 (by kernel_rfl) rfl
        clear ho hn
        refine ⟨wanted_free rfl, ?_, rfl⟩
        obtain ⟨c0, c1, c2, c3, c4, k0, k1⟩ := HC.out w8 hS
        go_simp
      rcases i with _ | i
      · refine step_call 56 #[.agg #[.int .i64 vf, .int .i64 vn, .int .i64 vk, .slice (some ⟨f.g, 0, none⟩) 4 f.c]] rfl ?_
        intro a8 w8 hS ho hn
        obtain ⟨_, n7, rfl⟩ := hn 3 7 (by kernel_rfl) rfl
        clear ho hn
        refine ⟨wanted_free rfl, by go_simp, ?_⟩
        refine ((HK.out w8)).mono ?_
        rintro e w9 ⟨rfl, hw⟩
        exact ⟨_, rfl, hS.trans (hw.mono hS.size), rfl, fun j u _ h => h⟩
      rcases i with _ | i
      · refine step_value (kvv a b) rfl ?_
        intro a8 w8 hS ho hn
        have o1 : a8.tmps[1]? = some _ := (ho 1 (by kernel_rfl)).trans rfl
        clear ho hn
        refine ⟨wanted_free rfl, ?_, rfl⟩
        obtain ⟨c0, c1, c2, c3, c4, k0, k1⟩ := HC.out w8 hS
        go_simp
      rcases i with _ | i
      · refine step_value (.bool false) rfl ?_
        intro a8 w8 hS ho hn
        obtain ⟨_, n8, rfl⟩ := hn 4 8 (by kernel_rfl) rfl
        obtain ⟨_, n9, rfl⟩ := hn 5 9 (by kernel_rfl) rfl
        clear ho hn
        refine ⟨wanted_free rfl, ?_, rfl⟩
        have h1 := HH.out
        go_simp
        try simp_all
      rcases i with _ | i
      · refine step_value (.bool false) rfl ?_
        intro a8 w8 hS ho hn
        obtain ⟨_, n10, rfl⟩ := hn 6 10 (by kernel_rfl) rfl
        clear ho hn
        refine ⟨wanted_free rfl, ?_, rfl⟩
        go_simp
      rcases i with _ | i
      · refine step_skip rfl ?_
        intro a8 w8 hS ho hn
        obtain ⟨_, n11, rfl⟩ := hn 7 11 (by kernel_rfl) rfl
        exact ⟨unwanted_of 7 11 rfl rfl n11 rfl, rfl⟩
      rcases i with _ | i
      · refine step_skip rfl ?_
        intro a8 w8 hS ho hn
        obtain ⟨_, n11, rfl⟩ := hn 7 11 (by kernel_rfl) rfl
        exact ⟨unwanted_of 7 11 rfl rfl n11 rfl, rfl⟩
      rcases i with _ | i
      · refine step_skip rfl ?_
        intro a8 w8 hS ho hn
        obtain ⟨_, n11, rfl⟩ := hn 7 11 (by kernel_rfl) rfl
        exact ⟨unwanted_of 7 11 rfl rfl n11 rfl, rfl⟩
      rcases i with _ | i
      · refine step_skip rfl ?_
        intro a8 w8 hS ho hn
        obtain ⟨_, n11, rfl⟩ := hn 7 11 (by kernel_rfl) rfl
        exact ⟨unwanted_of 7 11 rfl rfl n11 rfl, rfl⟩
      rcases i with _ | i
      · refine step_skip rfl ?_
        intro a8 w8 hS ho hn
        obtain ⟨_, n11, rfl⟩ := hn 7 11 (by kernel_rfl) rfl
        exact ⟨unwanted_of 7 11 rfl rfl n11 rfl, rfl⟩
      rcases i with _ | i
      · refine step_value (.bool false) rfl ?_
        intro a8 w8 hS ho hn
        obtain ⟨_, n11, rfl⟩ := hn 7 11 (by kernel_rfl) rfl
        obtain ⟨_, n16, rfl⟩ := hn 12 16 (by kernel_rfl) rfl
        clear ho hn
        refine ⟨wanted_free rfl, ?_, rfl⟩
        go_simp
      rcases i with _ | i
      · refine step_value (.bool false) rfl ?_
        intro a8 w8 hS ho hn
        obtain ⟨_, n17, rfl⟩ := hn 13 17 (by kernel_rfl) rfl
        clear ho hn
        refine ⟨wanted_free rfl, ?_, rfl⟩
        go_simp
      omega
    · intro f w9 hS hR
      have h3 : f 3 = _ := hR 14 3 rfl
      simp only [putAll, List.foldl_cons, List.foldl_nil, Act.put, List.setIfInBounds_toArray, List.set_cons_succ, List.set_cons_zero, h3, List.getD_cons_zero, List.getD_cons_succ]
      clear hR h3
      go_wp2
      go_ret
      exact ⟨rfl, hS⟩

theorem free1_any (h : FrAt w f v) : Calls Try.prog 83 #[.pointer (some ⟨f.b, 0, none⟩)] w fun e w' => e = .returned (.bool (decide (v.pins = 0))) ∧ Below w.heap.size w w' := by
  have c4 : w.cell? ⟨f.b, 4, none⟩ = some (.int .i64 (v.pins : Int)) := h.blk.cell 4
  clear h
  generalize v.pins = n at *
  by_cases hn : n = 0
  · subst hn
    go_enter Try.func83, Try.ntmps83
    go_wp2
    go_ret
    exact ⟨rfl, Below.refl _ _⟩
  · have hd : ((n : Int) == 0) = false := by simp [hn]
    rw [decide_eq_false hn]
    go_enter Try.func83, Try.ntmps83
    go_wp2
    go_ret
    exact ⟨rfl, Below.refl _ _⟩
end
theorem oldest_any (p : Nat) (w : World) : Calls Try.prog 55 #[.pointer (some ⟨p, 0, none⟩)] w fun e w' => e = .returned (.func (.func 87) #[] #[.pointer (some ⟨w.heap.size, 0, none⟩)]) ∧ w.alloc (.cells #[.pointer (some ⟨p, 0, none⟩)] 24) = w' := by
  go_enter Try.func55, Try.ntmps55
  go_wp2
  go_ret
  exact ⟨rfl, rfl⟩
end Go.Proofs.Ytlmdijijlbmddaa.pool

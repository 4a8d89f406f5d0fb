/-
  The document's own Sound for layer 5.
-/
import Derived.Test.YtpededkfgjmhcaaTLaw
import Derived.Test.YtpededkfgjmhcaaTRef2
namespace Go.Proofs.Ytpededkfgjmhcaa.tile
open Go.RowKit Go.Proofs.Ytpededkfgjmhcaa.crc

theorem r5sound_no (A : Option Addr) (c n : Nat) (w : World) (hn : n ≤ 140737488355000) (h : n = 0 ∨ n % 128 ≠ 0 ∨ 64 < n / 128) :
    Calls Try.prog 18 #[.slice A n c] w fun e w' => e = .returned (.bool false) ∧ w = w' := by
  by_cases h0 : n = 0
  · subst h0
    go_enter Try.func18, Try.ntmps18
    go_wp2
    go_ret
    exact ⟨rfl, rfl⟩
  · have hb0 : ((n : Int) == 0) = false := by rw [beq_eq_false_iff_ne]; omega
    by_cases h1 : n % 128 = 0
    · have hb1 : ((n : Int) % 128 != 0) = false := by rw [bne_eq_false_iff_eq]; omega
      have hb2 : decide ((64 : Int) < (n : Int) / 128) = true := decide_eq_true (by omega)
      go_enter Try.func18, Try.ntmps18
      go_wp2
      go_ret
      exact ⟨rfl, rfl⟩
    · have hb1 : ((n : Int) % 128 != 0) = true := by rw [bne_iff_ne]; omega
      go_enter Try.func18, Try.ntmps18
      go_wp2
      go_ret
      exact ⟨rfl, rfl⟩

set_option maxRecDepth 100000 in
set_option maxHeartbeats 4000000 in
theorem r5sound_yes (A : Option Addr) (c n : Nat) (l : List UInt8) (w : World) (hl : l.length = n) (hr : Reads w w.heap.size 1 A n (l.map bv)) (hc : n ≤ c ∧ c ≤ 9223372036854775807) (h : 128 ≤ n ∧ n % 128 = 0 ∧ n / 128 ≤ 64) :
    Calls Try.prog 18 #[.slice A n c] w fun e w' => e = .returned (.bool (isSealed l)) ∧ Below w.heap.size w w' := by
  obtain ⟨m, hm⟩ : ∃ m, n - 4 = m := ⟨_, rfl⟩
  have hb0 : ((n : Int) == 0) = false := by rw [beq_eq_false_iff_ne]; omega
  have hb1 : ((n : Int) % 128 != 0) = false := by rw [bne_eq_false_iff_eq]; omega
  have hb2 : decide ((64 : Int) < (n : Int) / 128) = false := decide_eq_false (by omega)
  have hn4 : (n : Int) - 4 = (m : Int) := by omega
  have hrt := hr.front (k := m) (by omega)
  have hrd : Reads w w.heap.size 1 (if c = m then A else A.map (·.add m)) 4 ((l.drop m).map bv) := by
    have h := hr.cut (k := m) (cap := c) (by omega) hc.1
    rw [Nat.mul_one, ← List.map_drop, show n - m = 4 from by omega] at h
    exact h
  have hsl : isSealed l = (four (sum (bitsB (l.take m))) == l.drop m) := by
    unfold isSealed
    rw [show l.length - 4 = m from by omega, decide_eq_true (show 4 ≤ l.length by omega), Bool.true_and]
  have hltk : (l.take m).length = m := by rw [List.length_take]; omega
  have HOF := Lib.hid (fun W (hS : Below w.heap.size w W) => r2of_cut A c (l.take m) m W ((hrt.below hS).more hS.size) hltk (by omega))
  have CD := Lib.hid (fun W (hS : Below w.heap.size w W) => conv_reads (c - m) (hrd.below hS))
  obtain ⟨sB, hsB⟩ : ∃ sB, sum (bitsB (l.take m)) = sB := ⟨_, rfl⟩
  obtain ⟨ld, hld⟩ : ∃ ld, l.drop m = ld := ⟨_, rfl⟩
  rw [hsB, hld] at hsl
  rw [hsB] at HOF
  rw [hld] at CD
  have HSL := Lib.hid hsl
  have HN4 := Lib.hid hn4
  have HC := Lib.hid hc
  have HCM : Hid (m ≤ c) := Lib.hid (by omega)
  have HNM : Hid (m + 4 = n) := Lib.hid (by omega)
  have HTL := Lib.hid tl
  have HWR : Hid (IntKind.i64.wrap (m : Int) = (m : Int)) := Lib.hid (by rw [IntKind.wrap_i64]; omega)
  have hn2 : n ≤ 9000 := by omega
  clear hr hrt hrd hsl hsB hld hltk hl hm hn4
  go_enter Try.func18, Try.ntmps18
  go_wp2
  refine wp_region_steps_on (fun w' => Below w.heap.size w w') (fun i v w' => match i with | 5 => ∃ A4 c4, v = .slice A4 4 c4 ∧ (convert 25 9 (.slice A4 4 c4)).run Try.prog w' = .ok (.string ⟨(four sB).toArray⟩) w' | i => v = ([.slice A n c, .int .i64 n, .int .i64 m, .slice A m c, rv sB, undef, .string ⟨(four sB).toArray⟩, .slice A n c, .int .i64 n, .int .i64 m, .slice (if c = m then A else A.map (·.add m)) 4 (c - m), .string ⟨ld.toArray⟩, .bool (four sB == ld), .bool (four sB == ld)] : List Value).getD i undef) (by kernel_rfl) 31 rfl (by kernel_rfl) ((Below.refl _ _).drew) ?_ ?_
  · intro i hi
    have hi2 : i < 14 := hi
    clear hi
    rcases i with _ | i
    · refine step_value (.slice A n c) rfl ?_
      intro a8 w8 hS ho hn
      have o0 : a8.tmps[0]? = some _ := (ho 0 (by kernel_rfl)).trans rfl
      clear ho hn
      refine ⟨wanted_free rfl, ?_, rfl⟩
      go_simp
    rcases i with _ | i
    · refine step_value (.int .i64 n) rfl ?_
      intro a8 w8 hS ho hn
      have o3 : a8.tmps[3]? = some _ := (ho 3 (by kernel_rfl)).trans rfl
      clear ho hn
      refine ⟨wanted_free rfl, ?_, rfl⟩
      go_simp
    rcases i with _ | i
    · refine step_value (.int .i64 m) rfl ?_
      intro a8 w8 hS ho hn
      obtain ⟨_, n19, rfl⟩ := hn 1 19 (by kernel_rfl) rfl
      clear ho hn
      refine ⟨wanted_free rfl, ?_, rfl⟩
      have hq := HN4.out
      have hw := HWR.out
      go_simp
    rcases i with _ | i
    · refine step_value (.slice A m c) rfl ?_
      intro a8 w8 hS ho hn
      obtain ⟨_, n18, rfl⟩ := hn 0 18 (by kernel_rfl) rfl
      obtain ⟨_, n20, rfl⟩ := hn 2 20 (by kernel_rfl) rfl
      clear ho hn
      refine ⟨wanted_free rfl, ?_, rfl⟩
      have hcc := HC.out
      have hcm := HCM.out
      go_simp
      try (intro h; omega)
    rcases i with _ | i
    · refine step_call 31 #[.slice A m c] rfl ?_
      intro a8 w8 hS ho hn
      obtain ⟨_, n21, rfl⟩ := hn 3 21 (by kernel_rfl) rfl
      clear ho hn
      refine ⟨wanted_free rfl, by go_simp, ?_⟩
      refine (HOF.out w8 hS).mono ?_
      rintro e w9 ⟨rfl, rfl⟩
      exact ⟨_, rfl, hS, rfl, fun _ _ _ h => h⟩
    rcases i with _ | i
    · refine step_call 30 #[rv sB] rfl ?_
      intro a8 w8 hS ho hn
      obtain ⟨_, n22, rfl⟩ := hn 4 22 (by kernel_rfl) rfl
      clear ho hn
      refine ⟨wanted_free rfl, by go_simp, ?_⟩
      refine (r2four_any sB w8).mono ?_
      rintro e w9 ⟨v, rfl, A4, c4, rfl, g4, k4⟩
      refine ⟨_, rfl, hS.trans (k4.mono hS.size), ⟨A4, c4, rfl, conv_reads c4 (Reads.of_own g4)⟩, fun j u hj hR => ?_⟩
      match j, hj, hR with
      | 5, hj, _ => exact absurd rfl hj
      | 0, _, h | 1, _, h | 2, _, h | 3, _, h | 4, _, h => exact h
      | n + 6, _, h => exact h
    rcases i with _ | i
    · refine step_value (.string ⟨(four sB).toArray⟩) rfl ?_
      intro a8 w8 hS ho hn
      obtain ⟨_, n23, A4, c4, rfl, cv⟩ := hn 5 23 (by kernel_rfl) rfl
      clear ho hn
      refine ⟨wanted_free rfl, ?_, rfl⟩
      go_simp
    rcases i with _ | i
    · refine step_value (.slice A n c) rfl ?_
      intro a8 w8 hS ho hn
      have o0 : a8.tmps[0]? = some _ := (ho 0 (by kernel_rfl)).trans rfl
      clear ho hn
      refine ⟨wanted_free rfl, ?_, rfl⟩
      go_simp
    rcases i with _ | i
    · refine step_value (.int .i64 n) rfl ?_
      intro a8 w8 hS ho hn
      have o3 : a8.tmps[3]? = some _ := (ho 3 (by kernel_rfl)).trans rfl
      clear ho hn
      refine ⟨wanted_free rfl, ?_, rfl⟩
      go_simp
    rcases i with _ | i
    · refine step_value (.int .i64 m) rfl ?_
      intro a8 w8 hS ho hn
      obtain ⟨_, n26, rfl⟩ := hn 8 26 (by kernel_rfl) rfl
      clear ho hn
      refine ⟨wanted_free rfl, ?_, rfl⟩
      have hq := HN4.out
      have hw := HWR.out
      go_simp
    rcases i with _ | i
    · refine step_value (.slice (if c = m then A else A.map (·.add m)) 4 (c - m)) rfl ?_
      intro a8 w8 hS ho hn
      obtain ⟨_, n25, rfl⟩ := hn 7 25 (by kernel_rfl) rfl
      obtain ⟨_, n27, rfl⟩ := hn 9 27 (by kernel_rfl) rfl
      clear ho hn
      refine ⟨wanted_free rfl, ?_, rfl⟩
      have hcc := HC.out
      have hcm := HCM.out
      have hmn : m ≤ n := (by have := HNM.out; omega)
      have hnm4 : n - m = 4 := (by have := HNM.out; omega)
      go_simp
      try (intro h; omega)
    rcases i with _ | i
    · refine step_value (.string ⟨ld.toArray⟩) rfl ?_
      intro a8 w8 hS ho hn
      obtain ⟨_, n28, rfl⟩ := hn 10 28 (by kernel_rfl) rfl
      clear ho hn
      refine ⟨wanted_free rfl, ?_, rfl⟩
      have cvd := CD.out w8 hS
      go_simp
    rcases i with _ | i
    · refine step_value (.bool (four sB == ld)) rfl ?_
      intro a8 w8 hS ho hn
      obtain ⟨_, n24, rfl⟩ := hn 6 24 (by kernel_rfl) rfl
      obtain ⟨_, n29, rfl⟩ := hn 11 29 (by kernel_rfl) rfl
      clear ho hn
      refine ⟨wanted_free rfl, ?_, rfl⟩
      have htl := HTL.out
      go_simp
    rcases i with _ | i
    · refine step_value (.bool (four sB == ld)) rfl ?_
      intro a8 w8 hS ho hn
      obtain ⟨_, n30, rfl⟩ := hn 12 30 (by kernel_rfl) rfl
      clear ho hn
      refine ⟨wanted_free rfl, ?_, rfl⟩
      go_simp
    omega
  · intro f w9 hS hR
    have h2 : f 2 = _ := hR 13 2 rfl
    simp only [putAll, List.foldl_cons, List.foldl_nil, Act.put, List.setIfInBounds_toArray, List.set_cons_succ, List.set_cons_zero, h2, List.getD_cons_zero, List.getD_cons_succ]
    clear hR h2
    generalize (four sB == ld) = b at *
    go_wp2
    go_ret
    exact ⟨by rw [HSL.out]; rfl, hS⟩

theorem r5sound_any (A : Option Addr) (c n : Nat) (l : List UInt8) (w : World) (hl : l.length = n) (hr : Reads w w.heap.size 1 A n (l.map bv)) (hc : n ≤ c ∧ c ≤ 9223372036854775807) (hn : n ≤ 140737488355000) :
    Calls Try.prog 18 #[.slice A n c] w fun e w' => e = .returned (.bool (soundB l)) ∧ Below w.heap.size w w' := by
  by_cases h : n = 0 ∨ n % 128 ≠ 0 ∨ 64 < n / 128
  · have h0 : secs l = 0 := by
      unfold secs
      rw [hl, if_neg (fun hh => by
        have := inT_iff.1 hh.2
        omega)]
    have hs : soundB l = false := by unfold soundB; rw [h0]; rfl
    rw [hs]
    refine (r5sound_no A c n w hn h).mono ?_
    rintro e w' ⟨rfl, rfl⟩
    exact ⟨rfl, Below.refl _ _⟩
  · have h0 : secs l ≠ 0 := by
      unfold secs
      rw [hl, if_pos ⟨by omega, inT_iff.2 (by omega)⟩]
      omega
    have hs : soundB l = isSealed l := by unfold soundB; rw [decide_eq_true h0, Bool.true_and]
    rw [hs]
    exact r5sound_yes A c n l w hl hr hc (by omega)

end Go.Proofs.Ytpededkfgjmhcaa.tile

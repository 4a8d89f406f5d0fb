/-
  The tile of layer 5: the calls that only look: isSize, Fit, sectorsOf, isNoCharacter, ContainsFunc, isOfKind, Check.
-/
import Derived.Test.YtpededkfgjmhcaaTForm
import Derived.Test.YtpededkfgjmhcaaHeads
import Derived.Test.YtpededkfgjmhcaaAny
namespace Go.Proofs.Ytpededkfgjmhcaa.tile
open Go.RowKit Go.Proofs.Ytpededkfgjmhcaa.crc

theorem tissize_any (s : Int) (w : World) : Calls Try.prog 32 #[.int .i64 s] w fun e w' => e = .returned (.bool (inT s)) ∧ w = w' := by
  unfold inT
  by_cases h1 : 1 ≤ s
  · have hd : decide (1 ≤ s) = true := decide_eq_true h1
    by_cases h2 : s ≤ 64
    · have hd2 : decide (s ≤ 64) = true := decide_eq_true h2
      rw [hd, hd2]
      go_enter Try.func32, Try.ntmps32
      go_wp2
      go_ret
      exact ⟨rfl, rfl⟩
    · have hd2 : decide (s ≤ 64) = false := decide_eq_false h2
      rw [hd, hd2]
      go_enter Try.func32, Try.ntmps32
      go_wp2
      go_ret
      exact ⟨rfl, rfl⟩
  · have hd : decide (1 ≤ s) = false := decide_eq_false h1
    rw [hd, Bool.false_and]
    go_enter Try.func32, Try.ntmps32
    go_wp2
    go_ret
    exact ⟨rfl, rfl⟩

theorem tfit_any (s : Int) (w : World) : Calls Try.prog 12 #[.int .i64 s] w fun e w' => e = .returned (.int .i64 (fitT s)) ∧ w = w' := by
  have H := Lib.hid (tissize_any s w)
  unfold fitT
  cases hs : inT s
  · rw [hs] at H
    rw [if_neg Bool.false_ne_true]
    go_enter Try.func12, Try.ntmps12
    go_wp2_with (go_at_call 32; refine H.out.mono ?_; rintro e _ ⟨rfl, rfl⟩)
    go_ret
    exact ⟨rfl, rfl⟩
  · rw [hs] at H
    rw [if_pos rfl]
    obtain ⟨h1, h2⟩ := inT_iff.1 hs
    obtain ⟨n, rfl⟩ := Int.eq_ofNat_of_zero_le (a := s) (by omega)
    have e : ((n : Int) * 128 - 24) / 8 = (((n * 128 - 24) / 8 : Nat) : Int) := by omega
    have e1 : (n : Int) * 128 - 20 - 4 = ((n * 128 - 24 : Nat) : Int) := by omega
    have e2 : (n : Int) * 128 - 20 = ((n * 128 - 20 : Nat) : Int) := by omega
    have hn : n * 128 ≤ 8192 := by omega
    rw [e]
    clear hs
    go_enter Try.func12, Try.ntmps12
    go_wp2_with (go_at_call 32; refine H.out.mono ?_; rintro e _ ⟨rfl, rfl⟩)
    go_ret
    exact ⟨by go_num, rfl⟩

theorem tsectors_any (A : Option Addr) (c : Nat) (l : List UInt8) (w : World) (hl : l.length ≤ 140737488355328) :
    Calls Try.prog 35 #[.slice A l.length c] w fun e w' => e = .returned (.int .i64 (secs l)) ∧ w = w' := by
  have H := Lib.hid (tissize_any ((l.length / 128 : Nat) : Int) w)
  unfold secs
  generalize l.length = n at *
  have hq : ((n / 128 : Nat) : Int) = (n : Int) / 128 := by omega
  by_cases h1 : n % 128 = 0
  · have hm : ((n : Int) % 128 != 0) = false := by rw [bne_eq_false_iff_eq]; omega
    cases hs : inT ((n / 128 : Nat) : Int)
    · rw [hs] at H
      rw [if_neg (fun h => by cases h.2)]
      go_enter Try.func35, Try.ntmps35
      go_wp2_with (go_at_call 32; refine H.out.mono ?_; rintro e _ ⟨rfl, rfl⟩)
      go_ret
      exact ⟨rfl, rfl⟩
    · rw [hs] at H
      rw [if_pos ⟨h1, rfl⟩]
      go_enter Try.func35, Try.ntmps35
      go_wp2_with (go_at_call 32; refine H.out.mono ?_; rintro e _ ⟨rfl, rfl⟩)
      go_ret
      exact ⟨by go_num, rfl⟩
  · have hm : ((n : Int) % 128 != 0) = true := by rw [bne_iff_ne]; omega
    rw [if_neg (fun h => h1 h.1)]
    clear H
    go_enter Try.func35, Try.ntmps35
    go_wp2
    go_ret
    exact ⟨rfl, rfl⟩

theorem tnochar_any (x : Int) (w : World) : Calls Try.prog 49 #[.int .i64 x] w fun e w' => e = .returned (.bool (!charT x)) ∧ w = w' := by
  unfold charT
  by_cases h1 : 0 ≤ x
  · have hd : decide (x < 0) = false := decide_eq_false (by omega)
    rw [decide_eq_true h1, Bool.true_and]
    by_cases h2 : x ≤ 1114111
    · have hd2 : decide (1114111 < x) = false := decide_eq_false (by omega)
      rw [decide_eq_true h2]
      go_enter Try.func49, Try.ntmps49
      go_wp2
      go_ret
      exact ⟨rfl, rfl⟩
    · have hd2 : decide (1114111 < x) = true := decide_eq_true (by omega)
      rw [decide_eq_false h2]
      go_enter Try.func49, Try.ntmps49
      go_wp2
      go_ret
      exact ⟨rfl, rfl⟩
  · have hd : decide (x < 0) = true := decide_eq_true (by omega)
    rw [decide_eq_false h1, Bool.false_and]
    go_enter Try.func49, Try.ntmps49
    go_wp2
    go_ret
    exact ⟨rfl, rfl⟩

set_option maxHeartbeats 1000000 in
/-- Where the first one that is no character stands. -/
theorem tindex_any (A : Option Addr) (c n : Nat) (l : List Int) (w : World) (hl : l.length = n) (ha : Reads w w.heap.size 1 A n (l.map iv)) (hn : n ≤ 9223372036854775807) :
    Calls Try.prog 57 #[.slice A n c, .func (.func 49) #[] #[]] w fun e w' => ∃ k : Int, e = .returned (.int .i64 k) ∧ (decide (k ≥ 0) = !(l.all charT)) ∧ w = w' := by
  have HA := Lib.hid ha
  have HL := Lib.hid hl
  clear ha hl
  go_enter Try.func57, Try.ntmps57
  go_wp2
  go_loopw [8] (fun i wr => ∃ j, j ≤ n ∧ i = .int .i64 ((j : Nat) : Int) ∧ (l.take j).all charT = true ∧ wr = w) (fun i _ => n - (intOf i).toNat)
  case atStart => exact ⟨0, Nat.zero_le _, rfl, by simp, rfl⟩
  case round =>
    obtain ⟨j, hj, rfl, hni, rfl⟩ := hrel
    by_cases hlt : j < n
    · obtain ⟨adA, rfl, _, cA⟩ := HA.out.int_at hlt HL.out
      have hjl : j < l.length := by have := HL.out; omega
      have hin : l[j] ∈ l := List.getElem_mem hjl
      have hstep : charT l[j] = true → (l.take (j + 1)).all charT = true := fun h => by
        rw [List.take_succ_eq_append_getElem hjl, List.all_append, hni]
        simpa using h
      have hno : charT l[j] = false → l.all charT = false := fun h => by
        rw [List.all_eq_false]
        exact ⟨_, hin, by rw [h]; decide⟩
      generalize l[j] = y at *
      have HST := Lib.hid hstep
      have HNO := Lib.hid hno
      have HC := Lib.hid (tnochar_any y wr)
      clear hin hstep hno hni
      cases hy : charT y
      · rw [hy] at HC
        have HY := Lib.hid hy
        clear hy
        go_wp2_with (go_at_call 49; refine HC.out.mono ?_; rintro e _ ⟨rfl, rfl⟩)
        go_ret
        refine ⟨_, rfl, ?_, rfl⟩
        rw [HNO.out HY.out, decide_eq_true (by omega)]
        rfl
      · rw [hy] at HC
        have HY := Lib.hid hy
        clear hy
        go_wp2_with (go_at_call 49; refine HC.out.mono ?_; rintro e _ ⟨rfl, rfl⟩)
        exact ⟨⟨j + 1, by omega, by go_num, HST.out HY.out, trivial⟩, by simp [intOf]; omega⟩
    · obtain rfl : j = n := by omega
      have hall : l.all charT = true := by
        rwa [List.take_of_length_le (by have := HL.out; omega)] at hni
      have HALL := Lib.hid hall
      clear hall hni
      go_wp2
      go_ret
      refine ⟨_, rfl, ?_, rfl⟩
      rw [HALL.out]
      rfl

theorem tcontains_any (A : Option Addr) (c n : Nat) (l : List Int) (w : World) (hl : l.length = n) (ha : Reads w w.heap.size 1 A n (l.map iv)) (hn : n ≤ 9223372036854775807) :
    Calls Try.prog 48 #[.slice A n c, .func (.func 49) #[] #[]] w fun e w' => e = .returned (.bool (!(l.all charT))) ∧ w = w' := by
  have H := Lib.hid (tindex_any A c n l w hl ha hn)
  clear ha hl
  go_enter Try.func48, Try.ntmps48
  go_wp2_with (go_at_call 57; refine H.out.mono ?_; rintro e _ ⟨k, rfl, hk, rfl⟩)
  go_ret
  exact ⟨by rw [← hk]; rfl, rfl⟩

theorem tkind_any (k : Int) (A : Option Addr) (c n : Nat) (l : List Int) (w : World) (hl : l.length = n) (ha : Reads w w.heap.size 1 A n (l.map iv)) (hn : n ≤ 9223372036854775807) :
    Calls Try.prog 33 #[.int .i64 k, .slice A n c] w fun e w' => e = .returned (.bool (kindT k l)) ∧ w = w' := by
  have H := Lib.hid (tcontains_any A c n l w hl ha hn)
  clear ha hl
  unfold kindT
  by_cases h1 : k = 1
  · subst h1
    clear H
    rw [decide_eq_true rfl, Bool.true_or]
    go_enter Try.func33, Try.ntmps33
    go_wp2
    go_ret
    exact ⟨rfl, rfl⟩
  · by_cases h2 : k = 2
    · subst h2
      generalize l.all charT = b at *
      go_enter Try.func33, Try.ntmps33
      go_wp2_with (go_at_call 48; refine H.out.mono ?_; rintro e _ ⟨rfl, rfl⟩)
      go_ret
      exact ⟨by simp, rfl⟩
    · have b1 : (k == 1) = false := by simpa using h1
      have b2 : (k == 2) = false := by simpa using h2
      rw [decide_eq_false h1, decide_eq_false h2]
      clear H
      go_enter Try.func33, Try.ntmps33
      go_wp2
      go_ret
      exact ⟨rfl, rfl⟩

/-- A tile as a value, its elements in memory. -/
def tv (t : TV) (A : Option Addr) (n c : Nat) : Value := .agg #[.int .i64 t.file, .int .i64 t.no, .int .i64 t.kind, .slice A n c]
structure TEl (w : World) (t : TV) (A : Option Addr) (n : Nat) : Prop where
  len : t.el.length = n
  reads : Reads w w.heap.size 1 A n (t.el.map iv)
  big : n ≤ 9223372036854775807
  fine : t.Fine

theorem TEl.below {w w' : World} {t : TV} {A : Option Addr} {n : Nat} (h : TEl w t A n) (hb : Below w.heap.size w w') : TEl w' t A n := ⟨h.len, (h.reads.below hb).more hb.size, h.big, h.fine⟩

set_option maxHeartbeats 4000000 in
theorem tcheck_any (t : TV) (s : Int) (A : Option Addr) (n c : Nat) (w : World) (h : TEl w t A n) :
    Calls Try.prog 11 #[tv t A n c, .int .i64 s] w fun e w' => e = .returned (.int .i64 (errT t s)) ∧ Below w.heap.size w w' := by
  obtain ⟨f, m, k, el⟩ := t
  obtain ⟨hl, hr, hn, _⟩ := h
  simp only at hl hr
  have hb0 : Below w.heap.size w (w.alloc (.cells #[.int .i64 f, .int .i64 m, .int .i64 k, .slice A n c] 24)) := (Below.refl _ _).alloc (Nat.le_refl _) _
  have H1 := Lib.hid (tissize_any s (w.alloc (.cells #[.int .i64 f, .int .i64 m, .int .i64 k, .slice A n c] 24)))
  have HF := Lib.hid (fun W => tfit_any s W)
  have HK := Lib.hid (fun W (hb : Below w.heap.size w W) => tkind_any k A c n el W hl ((hr.below hb).more hb.size) hn)
  have HB := Lib.hid hb0
  have HEQ : Hid (okT ⟨f, m, k, el⟩ s = (inT s && decide (1 ≤ f) && decide (0 ≤ m) && decide (m < 4096) && (decide ((n : Int) ≤ fitT s) && kindT k el))) := Lib.hid (by
    unfold okT headOk
    simp only [hl])
  unfold errT tv
  rw [HEQ.out]
  clear hl hr hb0 HEQ
  cases hs : inT s
  · rw [hs] at H1
    simp only [Bool.false_and, Bool.false_eq_true, if_false]
    go_enter Try.func11, Try.ntmps11
    go_wp2_with (go_at_call 32; refine H1.out.mono ?_; rintro e _ ⟨rfl, rfl⟩)
    go_ret
    exact ⟨rfl, HB.out⟩
  rw [hs] at H1
  by_cases h1 : 1 ≤ f
  case neg =>
    have d1 : decide (f < 1) = true := decide_eq_true (by omega)
    rw [decide_eq_false h1]
    simp only [Bool.true_and, Bool.false_and, Bool.false_eq_true, if_false]
    go_enter Try.func11, Try.ntmps11
    go_wp2_with (go_at_call 32; refine H1.out.mono ?_; rintro e _ ⟨rfl, rfl⟩)
    go_ret
    exact ⟨rfl, HB.out⟩
  have d1 : decide (f < 1) = false := decide_eq_false (by omega)
  rw [decide_eq_true h1]
  by_cases h2 : 0 ≤ m
  case neg =>
    have d2 : decide (m < 0) = true := decide_eq_true (by omega)
    rw [decide_eq_false h2]
    simp only [Bool.true_and, Bool.false_and, Bool.false_eq_true, if_false]
    go_enter Try.func11, Try.ntmps11
    go_wp2_with (go_at_call 32; refine H1.out.mono ?_; rintro e _ ⟨rfl, rfl⟩)
    go_ret
    exact ⟨rfl, HB.out⟩
  have d2 : decide (m < 0) = false := decide_eq_false (by omega)
  rw [decide_eq_true h2]
  by_cases h3 : m < 4096
  case neg =>
    have d3 : decide (4096 ≤ m) = true := decide_eq_true (by omega)
    rw [decide_eq_false h3]
    simp only [Bool.true_and, Bool.false_and, Bool.false_eq_true, if_false]
    go_enter Try.func11, Try.ntmps11
    go_wp2_with (go_at_call 32; refine H1.out.mono ?_; rintro e _ ⟨rfl, rfl⟩)
    go_ret
    exact ⟨rfl, HB.out⟩
  have d3 : decide (4096 ≤ m) = false := decide_eq_false (by omega)
  rw [decide_eq_true h3]
  simp only [Bool.true_and]
  generalize fitT s = F at *
  obtain ⟨gt, hgt⟩ : ∃ gt : Bool, decide (F < (n : Int)) = gt := ⟨_, rfl⟩
  have HGT := Lib.hid hgt
  obtain ⟨W1, hW1⟩ : ∃ W1, w.alloc (.cells #[.int .i64 f, .int .i64 m, .int .i64 k, .slice A n c] 24) = W1 := ⟨_, rfl⟩
  have hx : Blk W1 w.heap.size 24 #[.int .i64 f, .int .i64 m, .int .i64 k, .slice A n c] := by rw [← hW1]; exact Blk.new w _ _
  have C2 := Lib.hid (fun W (hb : Below W1.heap.size W1 W) => (hx.below hb hx.lt).cell 2)
  have C3 := Lib.hid (fun W (hb : Below W1.heap.size W1 W) => (hx.below hb hx.lt).cell 3)
  have HW1 := Lib.hid hW1
  rw [hW1] at HB
  clear hgt hW1 hx hs
  generalize kindT k el = b at *
  cases gt
  · rw [decide_eq_true (show (n : Int) ≤ F by have := of_decide_eq_false HGT.out; omega), Bool.true_and]
    go_enter Try.func11, Try.ntmps11
    go_wp2_with (go_at_call 32; refine H1.out.mono ?_; rintro e _ ⟨rfl, rfl⟩)
    rw [HW1.out]
    refine wp_region_steps_on (fun w' => Below W1.heap.size W1 w') (fun i v _ => v = ([.pointer (some ⟨w.heap.size, 3, none⟩), .slice A n c, .int .i64 n, .int .i64 s, .int .i64 F, .bool false, .bool false, .pointer (some ⟨w.heap.size, 2, none⟩), .int .i64 k, .pointer (some ⟨w.heap.size, 3, none⟩), .slice A n c, .bool b, .bool (!b), .bool (!b)] : List Value).getD i undef) (by kernel_rfl) 37 rfl (by kernel_rfl) ((Below.refl _ _).drew) ?_ ?_
    · intro i hi
      have hi2 : i < 14 := hi
      clear hi
      rcases i with _ | i
      · refine step_value (.pointer (some ⟨w.heap.size, 3, none⟩)) rfl ?_
        intro a8 w8 hS ho hn
        have o2 : a8.tmps[2]? = some _ := (ho 2 (by kernel_rfl)).trans rfl
        clear ho hn
        refine ⟨wanted_free rfl, ?_, rfl⟩
        go_simp
      rcases i with _ | i
      · refine step_value (.slice A n c) rfl ?_
        intro a8 w8 hS ho hn
        obtain ⟨_, n23, rfl⟩ := hn 0 23 (by kernel_rfl) rfl
        clear ho hn
        refine ⟨wanted_free rfl, ?_, rfl⟩
        have c3 := C3.out w8 hS
        go_simp
      rcases i with _ | i
      · refine step_value (.int .i64 n) rfl ?_
        intro a8 w8 hS ho hn
        obtain ⟨_, n24, rfl⟩ := hn 1 24 (by kernel_rfl) rfl
        clear ho hn
        refine ⟨wanted_free rfl, ?_, rfl⟩
        go_simp
      rcases i with _ | i
      · refine step_value (.int .i64 s) rfl ?_
        intro a8 w8 hS ho hn
        have o1 : a8.tmps[1]? = some _ := (ho 1 (by kernel_rfl)).trans rfl
        clear ho hn
        refine ⟨wanted_free rfl, ?_, rfl⟩
        go_simp
      rcases i with _ | i
      · refine step_call 12 #[.int .i64 s] rfl ?_
        intro a8 w8 hS ho hn
        obtain ⟨_, n26, rfl⟩ := hn 3 26 (by kernel_rfl) rfl
        clear ho hn
        refine ⟨wanted_free rfl, by go_simp, ?_⟩
        refine (HF.out w8).mono ?_
        rintro e w9 ⟨rfl, rfl⟩
        exact ⟨_, rfl, hS, rfl, fun j u _ h => h⟩
      rcases i with _ | i
      · refine step_value (.bool false) rfl ?_
        intro a8 w8 hS ho hn
        obtain ⟨_, n25, rfl⟩ := hn 2 25 (by kernel_rfl) rfl
        obtain ⟨_, n27, rfl⟩ := hn 4 27 (by kernel_rfl) rfl
        clear ho hn
        refine ⟨wanted_free rfl, ?_, rfl⟩
        have hq := HGT.out
        go_simp
      rcases i with _ | i
      · refine step_value (.bool false) rfl ?_
        intro a8 w8 hS ho hn
        obtain ⟨_, n28, rfl⟩ := hn 5 28 (by kernel_rfl) rfl
        clear ho hn
        refine ⟨wanted_free rfl, ?_, rfl⟩
        go_simp
      rcases i with _ | i
      · refine step_value (.pointer (some ⟨w.heap.size, 2, none⟩)) rfl ?_
        intro a8 w8 hS ho hn
        have o2 : a8.tmps[2]? = some _ := (ho 2 (by kernel_rfl)).trans rfl
        obtain ⟨_, n29, rfl⟩ := hn 6 29 (by kernel_rfl) rfl
        clear ho hn
        refine ⟨wanted_of 6 29 rfl rfl n29, ?_, rfl⟩
        go_simp
      rcases i with _ | i
      · refine step_value (.int .i64 k) rfl ?_
        intro a8 w8 hS ho hn
        obtain ⟨_, n30, rfl⟩ := hn 7 30 (by kernel_rfl) rfl
        obtain ⟨_, n29, rfl⟩ := hn 6 29 (by kernel_rfl) rfl
        clear ho hn
        refine ⟨wanted_of 6 29 rfl rfl n29, ?_, rfl⟩
        have c2 := C2.out w8 hS
        go_simp
      rcases i with _ | i
      · refine step_value (.pointer (some ⟨w.heap.size, 3, none⟩)) rfl ?_
        intro a8 w8 hS ho hn
        have o2 : a8.tmps[2]? = some _ := (ho 2 (by kernel_rfl)).trans rfl
        obtain ⟨_, n29, rfl⟩ := hn 6 29 (by kernel_rfl) rfl
        clear ho hn
        refine ⟨wanted_of 6 29 rfl rfl n29, ?_, rfl⟩
        go_simp
      rcases i with _ | i
      · refine step_value (.slice A n c) rfl ?_
        intro a8 w8 hS ho hn
        obtain ⟨_, n32, rfl⟩ := hn 9 32 (by kernel_rfl) rfl
        obtain ⟨_, n29, rfl⟩ := hn 6 29 (by kernel_rfl) rfl
        clear ho hn
        refine ⟨wanted_of 6 29 rfl rfl n29, ?_, rfl⟩
        have c3 := C3.out w8 hS
        go_simp
      rcases i with _ | i
      · refine step_call 33 #[.int .i64 k, .slice A n c] rfl ?_
        intro a8 w8 hS ho hn
        obtain ⟨_, n31, rfl⟩ := hn 8 31 (by kernel_rfl) rfl
        obtain ⟨_, n33, rfl⟩ := hn 10 33 (by kernel_rfl) rfl
        obtain ⟨_, n29, rfl⟩ := hn 6 29 (by kernel_rfl) rfl
        clear ho hn
        refine ⟨wanted_of 6 29 rfl rfl n29, by go_simp, ?_⟩
        refine (HK.out w8 (HB.out.trans (hS.mono HB.out.size))).mono ?_
        rintro e w9 ⟨rfl, rfl⟩
        exact ⟨_, rfl, hS, rfl, fun j u _ h => h⟩
      rcases i with _ | i
      · refine step_value (.bool (!b)) rfl ?_
        intro a8 w8 hS ho hn
        obtain ⟨_, n34, rfl⟩ := hn 11 34 (by kernel_rfl) rfl
        obtain ⟨_, n29, rfl⟩ := hn 6 29 (by kernel_rfl) rfl
        clear ho hn
        refine ⟨wanted_of 6 29 rfl rfl n29, ?_, rfl⟩
        go_simp
      rcases i with _ | i
      · refine step_value (.bool (!b)) rfl ?_
        intro a8 w8 hS ho hn
        obtain ⟨_, n29, rfl⟩ := hn 6 29 (by kernel_rfl) rfl
        obtain ⟨_, n35, rfl⟩ := hn 12 35 (by kernel_rfl) rfl
        clear ho hn
        refine ⟨wanted_free rfl, ?_, rfl⟩
        go_simp
      omega
    · intro f w9 hS hR
      have h36 : f 36 = _ := hR 13 36 rfl
      simp only [putAll, List.foldl_cons, List.foldl_nil, Act.put, List.setIfInBounds_toArray, List.set_cons_succ, List.set_cons_zero, h36, List.getD_cons_zero, List.getD_cons_succ]
      clear hR h36
      cases b
      · go_wp2
        go_ret
        exact ⟨rfl, HB.out.trans (hS.mono HB.out.size)⟩
      · go_wp2
        go_ret
        exact ⟨rfl, HB.out.trans (hS.mono HB.out.size)⟩
  · rw [decide_eq_false (show ¬ (n : Int) ≤ F by have := of_decide_eq_true HGT.out; omega), Bool.false_and]
    simp only [Bool.false_eq_true, if_false]
    go_enter Try.func11, Try.ntmps11
    go_wp2_with (go_at_call 32; refine H1.out.mono ?_; rintro e _ ⟨rfl, rfl⟩)
    rw [HW1.out]
    refine wp_region_steps_on (fun w' => Below W1.heap.size W1 w') (fun i v _ => v = ([.pointer (some ⟨w.heap.size, 3, none⟩), .slice A n c, .int .i64 n, .int .i64 s, .int .i64 F, .bool true, .bool true, undef, undef, undef, undef, undef, undef, .bool true] : List Value).getD i undef) (by kernel_rfl) 37 rfl (by kernel_rfl) ((Below.refl _ _).drew) ?_ ?_
    · intro i hi
      have hi2 : i < 14 := hi
      clear hi
      rcases i with _ | i
      · refine step_value (.pointer (some ⟨w.heap.size, 3, none⟩)) rfl ?_
        intro a8 w8 hS ho hn
        have o2 : a8.tmps[2]? = some _ := (ho 2 (by kernel_rfl)).trans rfl
        clear ho hn
        refine ⟨wanted_free rfl, ?_, rfl⟩
        go_simp
      rcases i with _ | i
      · refine step_value (.slice A n c) rfl ?_
        intro a8 w8 hS ho hn
        obtain ⟨_, n23, rfl⟩ := hn 0 23 (by kernel_rfl) rfl
        clear ho hn
        refine ⟨wanted_free rfl, ?_, rfl⟩
        have c3 := C3.out w8 hS
        go_simp
      rcases i with _ | i
      · refine step_value (.int .i64 n) rfl ?_
        intro a8 w8 hS ho hn
        obtain ⟨_, n24, rfl⟩ := hn 1 24 (by kernel_rfl) rfl
        clear ho hn
        refine ⟨wanted_free rfl, ?_, rfl⟩
        go_simp
      rcases i with _ | i
      · refine step_value (.int .i64 s) rfl ?_
        intro a8 w8 hS ho hn
        have o1 : a8.tmps[1]? = some _ := (ho 1 (by kernel_rfl)).trans rfl
        clear ho hn
        refine ⟨wanted_free rfl, ?_, rfl⟩
        go_simp
      rcases i with _ | i
      · refine step_call 12 #[.int .i64 s] rfl ?_
        intro a8 w8 hS ho hn
        obtain ⟨_, n26, rfl⟩ := hn 3 26 (by kernel_rfl) rfl
        clear ho hn
        refine ⟨wanted_free rfl, by go_simp, ?_⟩
        refine (HF.out w8).mono ?_
        rintro e w9 ⟨rfl, rfl⟩
        exact ⟨_, rfl, hS, rfl, fun j u _ h => h⟩
      rcases i with _ | i
      · refine step_value (.bool true) rfl ?_
        intro a8 w8 hS ho hn
        obtain ⟨_, n25, rfl⟩ := hn 2 25 (by kernel_rfl) rfl
        obtain ⟨_, n27, rfl⟩ := hn 4 27 (by kernel_rfl) rfl
        clear ho hn
        refine ⟨wanted_free rfl, ?_, rfl⟩
        have hq := HGT.out
        go_simp
      rcases i with _ | i
      · refine step_value (.bool true) rfl ?_
        intro a8 w8 hS ho hn
        obtain ⟨_, n28, rfl⟩ := hn 5 28 (by kernel_rfl) rfl
        clear ho hn
        refine ⟨wanted_free rfl, ?_, rfl⟩
        go_simp
      rcases i with _ | i
      · refine step_skip rfl ?_
        intro a8 w8 hS ho hn
        obtain ⟨_, n29, rfl⟩ := hn 6 29 (by kernel_rfl) rfl
        exact ⟨unwanted_of 6 29 rfl rfl n29 rfl, rfl⟩
      rcases i with _ | i
      · refine step_skip rfl ?_
        intro a8 w8 hS ho hn
        obtain ⟨_, n29, rfl⟩ := hn 6 29 (by kernel_rfl) rfl
        exact ⟨unwanted_of 6 29 rfl rfl n29 rfl, rfl⟩
      rcases i with _ | i
      · refine step_skip rfl ?_
        intro a8 w8 hS ho hn
        obtain ⟨_, n29, rfl⟩ := hn 6 29 (by kernel_rfl) rfl
        exact ⟨unwanted_of 6 29 rfl rfl n29 rfl, rfl⟩
      rcases i with _ | i
      · refine step_skip rfl ?_
        intro a8 w8 hS ho hn
        obtain ⟨_, n29, rfl⟩ := hn 6 29 (by kernel_rfl) rfl
        exact ⟨unwanted_of 6 29 rfl rfl n29 rfl, rfl⟩
      rcases i with _ | i
      · refine step_skip rfl ?_
        intro a8 w8 hS ho hn
        obtain ⟨_, n29, rfl⟩ := hn 6 29 (by kernel_rfl) rfl
        exact ⟨unwanted_of 6 29 rfl rfl n29 rfl, rfl⟩
      rcases i with _ | i
      · refine step_skip rfl ?_
        intro a8 w8 hS ho hn
        obtain ⟨_, n29, rfl⟩ := hn 6 29 (by kernel_rfl) rfl
        exact ⟨unwanted_of 6 29 rfl rfl n29 rfl, rfl⟩
      rcases i with _ | i
      · refine step_value (.bool true) rfl ?_
        intro a8 w8 hS ho hn
        obtain ⟨_, n29, rfl⟩ := hn 6 29 (by kernel_rfl) rfl
        obtain ⟨_, n35, rfl⟩ := hn 12 35 (by kernel_rfl) rfl
        clear ho hn
        refine ⟨wanted_free rfl, ?_, rfl⟩
        go_simp
      omega
    · intro f w9 hS hR
      have h36 : f 36 = _ := hR 13 36 rfl
      simp only [putAll, List.foldl_cons, List.foldl_nil, Act.put, List.setIfInBounds_toArray, List.set_cons_succ, List.set_cons_zero, h36, List.getD_cons_zero, List.getD_cons_succ]
      clear hR h36
      go_wp2
      go_ret
      exact ⟨rfl, HB.out.trans (hS.mono HB.out.size)⟩

end Go.Proofs.Ytpededkfgjmhcaa.tile

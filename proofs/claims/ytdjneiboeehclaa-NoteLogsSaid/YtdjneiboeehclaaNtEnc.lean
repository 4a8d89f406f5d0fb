/-
  The notes of layer 9: isNumber, isValid, Encode, candidate, Decode.
-/
import Derived.Test.YtdjneiboeehclaaNtForm
namespace Go.Proofs.Ytdjneiboeehclaa.note
open Go.RowKit Go.Proofs.Ytdjneiboeehclaa.crc Go.Proofs.Ytdjneiboeehclaa.root

theorem nnumber_any (z : Int) (w : World) : Calls Try.prog 41 #[.int .i64 z] w fun e w' => e = .returned (.bool (numN z)) ∧ w = w' := by
  unfold numN
  by_cases h1 : 0 ≤ z
  · have d1 : decide (0 ≤ z) = true := decide_eq_true h1
    by_cases h2 : z ≤ 1048576
    · have d2 : decide (z ≤ 1048576) = true := decide_eq_true h2
      rw [d1, d2]
      go_enter Try.func41, Try.ntmps41
      go_wp2
      go_ret
      exact ⟨rfl, rfl⟩
    · have d2 : decide (z ≤ 1048576) = false := decide_eq_false h2
      rw [d1, d2]
      go_enter Try.func41, Try.ntmps41
      go_wp2
      go_ret
      exact ⟨rfl, rfl⟩
  · have d1 : decide (0 ≤ z) = false := decide_eq_false h1
    rw [d1]
    go_enter Try.func41, Try.ntmps41
    go_wp2
    go_ret
    exact ⟨rfl, rfl⟩

set_option maxHeartbeats 2000000 in
theorem nvalid_any (x : NV) (w : World) : Calls Try.prog 28 #[nv x] w fun e w' => e = .returned (.bool (okN x)) ∧ Below w.heap.size w w' := by
  obtain ⟨k, a, b, n⟩ := x
  have HA := Lib.hid (fun W => nnumber_any a W)
  have HB := Lib.hid (fun W => nnumber_any b W)
  have hok : okN ⟨k, a, b, n⟩ = ((numN a && (numN b && decide (0 ≤ n))) && (((decide (k = 1) || decide (k = 4)) && (decide (b = 0) && decide (n = 0))) || ((decide (k = 2) || decide (k = 3)) || (decide (k = 5) && decide (n = 0))))) := rfl
  rw [hok]
  unfold nv
  simp only
  generalize numN a = pa at *
  generalize numN b = pb at *
  have hbl : Below w.heap.size w (w.alloc (.cells #[.int .i64 k, .int .i64 a, .int .i64 b, .int .i64 n] 23)) := (Below.refl _ _).alloc (Nat.le_refl _) _
  have HBL := Lib.hid hbl
  clear hbl hok
  cases pa
  · simp only [Bool.false_and]
    go_enter Try.func28, Try.ntmps28
    go_wp2_with (first
      | (go_at_call 41; (with_reducible refine (HA.out _).mono ?_); rintro e _ ⟨rfl, rfl⟩)
      | (go_at_call 41; (with_reducible refine (HB.out _).mono ?_); rintro e _ ⟨rfl, rfl⟩))
    go_ret
    exact ⟨rfl, HBL.out⟩
  cases pb
  · simp only [Bool.false_and, Bool.and_false]
    go_enter Try.func28, Try.ntmps28
    go_wp2_with (first
      | (go_at_call 41; (with_reducible refine (HA.out _).mono ?_); rintro e _ ⟨rfl, rfl⟩)
      | (go_at_call 41; (with_reducible refine (HB.out _).mono ?_); rintro e _ ⟨rfl, rfl⟩))
    go_ret
    exact ⟨rfl, HBL.out⟩
  by_cases hn : n < 0
  · rw [decide_eq_false (show ¬ 0 ≤ n by omega)]
    have d1 : decide (n < 0) = true := decide_eq_true hn
    simp only [Bool.false_and, Bool.and_false]
    go_enter Try.func28, Try.ntmps28
    go_wp2_with (first
      | (go_at_call 41; (with_reducible refine (HA.out _).mono ?_); rintro e _ ⟨rfl, rfl⟩)
      | (go_at_call 41; (with_reducible refine (HB.out _).mono ?_); rintro e _ ⟨rfl, rfl⟩))
    go_ret
    exact ⟨rfl, HBL.out⟩
  rw [decide_eq_true (show 0 ≤ n by omega)]
  have d1 : decide (n < 0) = false := decide_eq_false hn
  simp only [Bool.true_and]
  obtain ⟨r, hr⟩ : ∃ r, (((decide (k = 1) || decide (k = 4)) && (decide (b = 0) && decide (n = 0))) || ((decide (k = 2) || decide (k = 3)) || (decide (k = 5) && decide (n = 0)))) = r := ⟨_, rfl⟩
  rw [hr]
  have HR := Lib.hid hr
  clear hn hr
  by_cases k1 : k = 1
  · subst k1
    by_cases hb0 : b = 0
    · subst hb0
      by_cases hn0 : n = 0
      · subst hn0
        obtain rfl : r = true := by rw [← HR.out]; simp
        go_enter Try.func28, Try.ntmps28
        go_wp2_with (first
          | (go_at_call 41; (with_reducible refine (HA.out _).mono ?_); rintro e _ ⟨rfl, rfl⟩)
          | (go_at_call 41; (with_reducible refine (HB.out _).mono ?_); rintro e _ ⟨rfl, rfl⟩))
        go_ret
        exact ⟨rfl, HBL.out⟩
      · have en : (n == 0) = false := by simpa using hn0
        obtain rfl : r = false := by rw [← HR.out]; simp [hn0]
        clear hn0
        go_enter Try.func28, Try.ntmps28
        go_wp2_with (first
          | (go_at_call 41; (with_reducible refine (HA.out _).mono ?_); rintro e _ ⟨rfl, rfl⟩)
          | (go_at_call 41; (with_reducible refine (HB.out _).mono ?_); rintro e _ ⟨rfl, rfl⟩))
        go_ret
        exact ⟨rfl, HBL.out⟩
    · have eb : (b == 0) = false := by simpa using hb0
      obtain rfl : r = false := by rw [← HR.out]; simp [hb0]
      clear hb0
      go_enter Try.func28, Try.ntmps28
      go_wp2_with (first
        | (go_at_call 41; (with_reducible refine (HA.out _).mono ?_); rintro e _ ⟨rfl, rfl⟩)
        | (go_at_call 41; (with_reducible refine (HB.out _).mono ?_); rintro e _ ⟨rfl, rfl⟩))
      go_ret
      exact ⟨rfl, HBL.out⟩
  have e1 : (k == 1) = false := by simpa using k1
  by_cases k4 : k = 4
  · subst k4
    by_cases hb0 : b = 0
    · subst hb0
      by_cases hn0 : n = 0
      · subst hn0
        obtain rfl : r = true := by rw [← HR.out]; simp
        go_enter Try.func28, Try.ntmps28
        go_wp2_with (first
          | (go_at_call 41; (with_reducible refine (HA.out _).mono ?_); rintro e _ ⟨rfl, rfl⟩)
          | (go_at_call 41; (with_reducible refine (HB.out _).mono ?_); rintro e _ ⟨rfl, rfl⟩))
        go_ret
        exact ⟨rfl, HBL.out⟩
      · have en : (n == 0) = false := by simpa using hn0
        obtain rfl : r = false := by rw [← HR.out]; simp [hn0]
        clear hn0
        go_enter Try.func28, Try.ntmps28
        go_wp2_with (first
          | (go_at_call 41; (with_reducible refine (HA.out _).mono ?_); rintro e _ ⟨rfl, rfl⟩)
          | (go_at_call 41; (with_reducible refine (HB.out _).mono ?_); rintro e _ ⟨rfl, rfl⟩))
        go_ret
        exact ⟨rfl, HBL.out⟩
    · have eb : (b == 0) = false := by simpa using hb0
      obtain rfl : r = false := by rw [← HR.out]; simp [hb0]
      clear hb0
      go_enter Try.func28, Try.ntmps28
      go_wp2_with (first
        | (go_at_call 41; (with_reducible refine (HA.out _).mono ?_); rintro e _ ⟨rfl, rfl⟩)
        | (go_at_call 41; (with_reducible refine (HB.out _).mono ?_); rintro e _ ⟨rfl, rfl⟩))
      go_ret
      exact ⟨rfl, HBL.out⟩
  have e4 : (k == 4) = false := by simpa using k4
  by_cases k2 : k = 2
  · subst k2
    obtain rfl : r = true := by rw [← HR.out]; simp
    go_enter Try.func28, Try.ntmps28
    go_wp2_with (first
      | (go_at_call 41; (with_reducible refine (HA.out _).mono ?_); rintro e _ ⟨rfl, rfl⟩)
      | (go_at_call 41; (with_reducible refine (HB.out _).mono ?_); rintro e _ ⟨rfl, rfl⟩))
    go_ret
    exact ⟨rfl, HBL.out⟩
  have e2 : (k == 2) = false := by simpa using k2
  by_cases k3 : k = 3
  · subst k3
    obtain rfl : r = true := by rw [← HR.out]; simp
    go_enter Try.func28, Try.ntmps28
    go_wp2_with (first
      | (go_at_call 41; (with_reducible refine (HA.out _).mono ?_); rintro e _ ⟨rfl, rfl⟩)
      | (go_at_call 41; (with_reducible refine (HB.out _).mono ?_); rintro e _ ⟨rfl, rfl⟩))
    go_ret
    exact ⟨rfl, HBL.out⟩
  have e3 : (k == 3) = false := by simpa using k3
  by_cases k5 : k = 5
  · subst k5
    by_cases hn0 : n = 0
    · subst hn0
      obtain rfl : r = true := by rw [← HR.out]; simp
      go_enter Try.func28, Try.ntmps28
      go_wp2_with (first
        | (go_at_call 41; (with_reducible refine (HA.out _).mono ?_); rintro e _ ⟨rfl, rfl⟩)
        | (go_at_call 41; (with_reducible refine (HB.out _).mono ?_); rintro e _ ⟨rfl, rfl⟩))
      go_ret
      exact ⟨rfl, HBL.out⟩
    · have en : (n == 0) = false := by simpa using hn0
      obtain rfl : r = false := by rw [← HR.out]; simp [hn0]
      clear hn0
      go_enter Try.func28, Try.ntmps28
      go_wp2_with (first
        | (go_at_call 41; (with_reducible refine (HA.out _).mono ?_); rintro e _ ⟨rfl, rfl⟩)
        | (go_at_call 41; (with_reducible refine (HB.out _).mono ?_); rintro e _ ⟨rfl, rfl⟩))
      go_ret
      exact ⟨rfl, HBL.out⟩
  have e5 : (k == 5) = false := by simpa using k5
  obtain rfl : r = false := by rw [← HR.out]; simp [k1, k2, k3, k4, k5]
  clear k1 k2 k3 k4 k5
  go_enter Try.func28, Try.ntmps28
  go_wp2_with (first
    | (go_at_call 41; (with_reducible refine (HA.out _).mono ?_); rintro e _ ⟨rfl, rfl⟩)
    | (go_at_call 41; (with_reducible refine (HB.out _).mono ?_); rintro e _ ⟨rfl, rfl⟩))
  go_ret
  exact ⟨rfl, HBL.out⟩

theorem i64_num {z : Int} (h0 : 0 ≤ z) (h1 : z ≤ 1048576) : IntKind.u64.wrap z = ((z.toNat : Nat) : Int) := by rw [wrap_u64]; omega
theorem enc8 {n : Int} (h0 : 0 ≤ n) (h1 : i64ok n) : be 8 (n % 18446744073709551616).toNat = be 8 n.toNat := by unfold i64ok at h1; congr 1; omega
theorem wrn_int {N w : World} {b : Nat} {l : List UInt8} (h : WrN N w b l) (n : Int) (hlen : l.length + 8 ≤ 140737488355328) :
    Calls Try.prog 30 #[.pointer (some ⟨b, 0, none⟩), .int .i64 n] w fun e w' => e = .returned (.int .i64 0) ∧ WrN N w' b (l ++ be 8 (n % 18446744073709551616).toNat) := by
  obtain ⟨A, c, u, h1, h2, h3⟩ := h
  refine (wint_any w b A c u l h1 n hlen).mono ?_
  rintro e w' ⟨rfl, hq⟩
  exact ⟨rfl, WrN.wrote h2 h3 hq⟩
theorem load_note (w : World) (g : Nat) (a b c d : Value) (hb : Blk w g 23 #[a, b, c, d]) : (loadVar 23 ⟨g, 0, none⟩).run Try.prog w = .ok (.agg #[a, b, c, d]) w := by
  have h1 : w.rangeAt g 0 [a, b, c, d] := fun j v hv => by
    rw [Nat.zero_add, hb.cell]
    simpa using hv
  exact run_loadVar_mid w g 0 23 [a, b, c, d] _ h1 Try.underlying23 rfl (by kernel_rfl)
theorem results_note {fn : Func} {t : Tmp} {tmps : Array Value} {w : World} {g : Nat} {a b c d : Value} (h : fn.results = #[.cell t 23]) (ht : tmps.getD t undef = .pointer (some ⟨g, 0, none⟩)) (hb : Blk w g 23 #[a, b, c, d]) : (results fn tmps).run Try.prog w = .ok (.agg #[a, b, c, d]) w := by
  have h1 := load_note w g a b c d hb
  rw [Array.getD_eq_getD_getElem?] at ht
  simp [results, h, ht, h1, asAddr]
theorem results_note2 {fn : Func} {t i : Tmp} {tmps : Array Value} {w : World} {g : Nat} {a b c d v : Value} (h : fn.results = #[.cell t 23, .tmp i]) (ht : tmps.getD t undef = .pointer (some ⟨g, 0, none⟩)) (hv : tmps.getD i undef = v) (hb : Blk w g 23 #[a, b, c, d]) : (results fn tmps).run Try.prog w = .ok (.tuple #[.agg #[a, b, c, d], v]) w := by
  have h1 := load_note w g a b c d hb
  rw [Array.getD_eq_getD_getElem?] at ht hv
  simp [results, h, ht, h1, hv, asAddr]
theorem keep_note (W : World) (g : Nat) (a b c d : Value) : Keep (fun k => k = g) W ((((W.setCell ⟨g, 0, none⟩ a).setCell ⟨g, 1, none⟩ b).setCell ⟨g, 2, none⟩ c).setCell ⟨g, 3, none⟩ d) := by
  have h1 : Keep (fun k => k = g) W (W.setCell ⟨g, 0, none⟩ a) := (Keep.refl _ _).setCell _ _ (fun _ => rfl)
  have h2 : Keep (fun k => k = g) W ((W.setCell ⟨g, 0, none⟩ a).setCell ⟨g, 1, none⟩ b) := h1.setCell _ _ (fun _ => rfl)
  exact (h2.setCell _ _ (fun _ => rfl)).setCell _ _ (fun _ => rfl)
theorem blk_note {W : World} {g : Nat} {a b c d : Value} (x y z u : Value) (h : Blk W g 23 #[a, b, c, d]) : Blk ((((W.setCell ⟨g, 0, none⟩ x).setCell ⟨g, 1, none⟩ y).setCell ⟨g, 2, none⟩ z).setCell ⟨g, 3, none⟩ u) g 23 #[x, y, z, u] :=
  (((h.set_ 0 x).set_ 1 y).set_ 2 z).set_ 3 u

set_option maxRecDepth 100000 in
set_option maxHeartbeats 4000000 in
theorem nencode_bad (x : NV) (w : World) (hok : okN x = false) : Calls Try.prog 9 #[nv x] w fun e w' => e = .returned (.tuple #[.slice none 0 0, .int .i64 90]) ∧ Below w.heap.size w w' := by
  have HV := Lib.hid (fun W => nvalid_any x W)
  rw [hok] at HV
  obtain ⟨k, a, b, n⟩ := x
  unfold nv at *
  simp only at HV ⊢
  have hbl : Below w.heap.size w (w.alloc (.cells #[.int .i64 k, .int .i64 a, .int .i64 b, .int .i64 n] 23)) := (Below.refl _ _).alloc (Nat.le_refl _) _
  have HBL := Lib.hid hbl
  clear hbl hok
  go_enter Try.func9, Try.ntmps9
  go_wp2_with (go_at_call 28; refine (HV.out _).mono ?_; rintro e w1 ⟨rfl, hb⟩; have HB1 := Lib.hid (HBL.out.trans (hb.mono HBL.out.size)); clear hb)
  go_ret2
  exact ⟨rfl, HB1.out⟩

set_option maxRecDepth 100000 in
set_option maxHeartbeats 4000000 in
theorem nencode_ok (x : NV) (w : World) (hf : x.Fine) (hok : okN x = true) : Calls Try.prog 9 #[nv x] w fun e w' => ∃ v, e = .returned (.tuple #[v, .int .i64 0]) ∧ Gives w w' v (encN x) := by
  have HV := Lib.hid (fun W => nvalid_any x W)
  rw [hok] at HV
  have hk := ok_kind hok
  obtain ⟨⟨a1, a2⟩, ⟨b1, b2⟩, n1, _⟩ := okN_iff.1 hok
  have hn := hf.n
  obtain ⟨k, a, b, n⟩ := x
  simp only at hk a1 a2 b1 b2 n1 hn
  obtain ⟨k, rfl⟩ := Int.eq_ofNat_of_zero_le (a := k) (by omega)
  obtain ⟨a, rfl⟩ := Int.eq_ofNat_of_zero_le a1
  obtain ⟨b, rfl⟩ := Int.eq_ofNat_of_zero_le b1
  have hn8 := enc8 n1 hn
  obtain ⟨L0, hL0⟩ : ∃ L, encN ⟨(k : Int), (a : Int), (b : Int), n⟩ = L := ⟨_, rfl⟩
  have hL : be 1 k ++ (be 4 a ++ (be 4 b ++ be 8 (n % 18446744073709551616).toNat)) = L0 := by rw [← hL0, hn8]; rfl
  have hLl : L0.length = 17 := by rw [← hL0]; exact encN_length _
  rw [hL0]
  unfold nv at *
  simp only at HV ⊢
  obtain ⟨w0, hw0⟩ : ∃ w0, w.alloc (.cells #[.int .i64 (k : Int), .int .i64 (a : Int), .int .i64 (b : Int), .int .i64 n] 23) = w0 := ⟨_, rfl⟩
  have hx : Blk w0 w.heap.size 23 #[.int .i64 (k : Int), .int .i64 (a : Int), .int .i64 (b : Int), .int .i64 n] := by rw [← hw0]; exact Blk.new w _ _
  have hb0 : Below w.heap.size w w0 := by rw [← hw0]; exact (Below.refl _ _).alloc (Nat.le_refl _) _
  have XC : Hid (∀ W, Below w0.heap.size w0 W → W.cell? ⟨w.heap.size, 0, none⟩ = some (.int .i64 (k : Int)) ∧ W.cell? ⟨w.heap.size, 1, none⟩ = some (.int .i64 (a : Int)) ∧ W.cell? ⟨w.heap.size, 2, none⟩ = some (.int .i64 (b : Int)) ∧ W.cell? ⟨w.heap.size, 3, none⟩ = some (.int .i64 n)) := Lib.hid (fun W h => by
    have hb := hx.below h hx.lt
    exact ⟨hb.cell 0, hb.cell 1, hb.cell 2, hb.cell 3⟩)
  have HB0 := Lib.hid hb0
  have u1 : IntKind.u64.wrap (k : Int) = (k : Int) := by rw [wrap_u64]; omega
  have u2 : IntKind.u64.wrap (a : Int) = (a : Int) := by rw [wrap_u64]; omega
  have u3 : IntKind.u64.wrap (b : Int) = (b : Int) := by rw [wrap_u64]; omega
  have f1 : fitsB 1 k = true := by simp [fitsB]; omega
  have f2 : fitsB 4 a = true := by simp [fitsB]; omega
  have f3 : fitsB 4 b = true := by simp [fitsB]; omega
  have N1 := Lib.hid (fun (N W : World) (g : Nat) (h : WrN N W g []) => wrn_num h 1 k 1 rfl (by omega) f1 (by omega) (by simp))
  have N2 := Lib.hid (fun (N W : World) (g : Nat) (h : WrN N W g (be 1 k)) => wrn_num h 4 a 4 rfl (by omega) f2 (by omega) (by simp [be_length]))
  have N3 := Lib.hid (fun (N W : World) (g : Nat) (h : WrN N W g (be 1 k ++ be 4 a)) => wrn_num h 4 b 4 rfl (by omega) f3 (by omega) (by simp [be_length]))
  have N4 := Lib.hid (fun (N W : World) (g : Nat) (h : WrN N W g (be 1 k ++ be 4 a ++ be 4 b)) => wrn_int h n (by simp [be_length]))
  have HL : Hid (be 1 k ++ be 4 a ++ be 4 b ++ be 8 (n % 18446744073709551616).toNat = L0) := Lib.hid (by rw [← hL]; simp only [List.append_assoc])
  have N5 := Lib.hid (fun (N W : World) (g : Nat) (h : WrN N W g L0) => h.bytes (by rw [hLl]; omega))
  obtain ⟨x0, x1, x2, x3⟩ := XC.out w0 (Below.refl _ _)
  clear hL0 hL hLl hx hb0 hf hok hn8 f1 f2 f3
  go_enter Try.func9, Try.ntmps9
  go_wp2_with (first
    | (go_at_call 28; refine (HV.out _).mono ?_; rintro e w1 ⟨rfl, hb⟩; clear hw0
       have M1 := Lib.hid (WrN.made w1)
       have K1 := Lib.hid hb
       obtain ⟨x0, x1, x2, x3⟩ := XC.out _ (hb.trans ((M1.out.frame).mono hb.size)); clear hb)
    | (go_at_call 29; (have l0 := G3.out; clear l0); refine (N3.out _ _ _ G3.out).mono ?_; rintro e w4 ⟨rfl, hg⟩; have G4 := Lib.hid hg; obtain ⟨x0, x1, x2, x3⟩ := XC.out w4 (K1.out.trans (hg.frame.mono K1.out.size)); clear hg)
    | (go_at_call 29; (have l0 := G2.out; clear l0); refine (N2.out _ _ _ G2.out).mono ?_; rintro e w3 ⟨rfl, hg⟩; have G3 := Lib.hid hg; obtain ⟨x0, x1, x2, x3⟩ := XC.out w3 (K1.out.trans (hg.frame.mono K1.out.size)); clear hg)
    | (go_at_call 29; refine (N1.out _ _ _ M1.out).mono ?_; rintro e w2 ⟨rfl, hg⟩; rw [List.nil_append] at hg; have G2 := Lib.hid hg; obtain ⟨x0, x1, x2, x3⟩ := XC.out w2 (K1.out.trans (hg.frame.mono K1.out.size)); clear hg)
    | (go_at_call 30; refine (N4.out _ _ _ G4.out).mono ?_; rintro e w5 ⟨rfl, hg⟩; rw [HL.out] at hg; have G5 := Lib.hid hg; clear hg)
    | (go_at_call 31; refine (N5.out _ _ _ G5.out).mono ?_; rintro e w6 ⟨v6, rfl, g6⟩; have G6 := Lib.hid g6; clear g6))
  go_ret2
  obtain ⟨A, c, h1, h2, h3⟩ := G6.out
  have k1 := HB0.out.trans (K1.out.mono HB0.out.size)
  exact ⟨v6, rfl, A, c, h1, own_mono h2 k1.size, k1.trans (h3.mono k1.size)⟩

theorem nencode_any (x : NV) (w : World) (hf : x.Fine) : Calls Try.prog 9 #[nv x] w fun e w' => ∃ v, e = .returned (.tuple #[v, .int .i64 (errN x)]) ∧ Gives w w' v (outN x) := by
  unfold errN outN
  cases hok : okN x
  · rw [if_neg (by decide), if_neg (by decide)]
    refine (nencode_bad x w hok).mono ?_
    rintro e w' ⟨rfl, hb⟩
    exact ⟨_, rfl, none, 0, rfl, World.ownsRow_nil _ _ _ _, hb⟩
  · rw [if_pos rfl, if_pos rfl]
    exact nencode_ok x w hf hok

end Go.Proofs.Ytdjneiboeehclaa.note

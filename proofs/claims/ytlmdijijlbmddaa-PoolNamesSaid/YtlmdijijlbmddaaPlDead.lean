/-
  The pool of layer 10: calls on none (a nil pool, a zero one); what New, Tile and Fresh refuse.
-/
import Derived.Test.YtlmdijijlbmddaaPlKeq
namespace Go.Proofs.Ytlmdijijlbmddaa.pool
open Go.RowKit

section
variable {w : World} {a : Option Addr}

set_option maxRecDepth 100000 in
set_option maxHeartbeats 2000000 in
theorem pin_dead (f n : Int) (h : PDead w a) : Calls Try.prog 14 #[.pointer a, kvv f n] w fun e w' => e = .returned (.int .i64 1) ∧ Below w.heap.size w w' := by
  obtain ⟨w1, hw1⟩ : ∃ w1, w.alloc (.cells #[.int .i64 f, .int .i64 n] 29) = w1 := ⟨_, rfl⟩
  have hb1 : Below w.heap.size w w1 := by rw [← hw1]; exact (Below.refl _ _).alloc (Nat.le_refl _) _
  have HU := Lib.hid (usable_dead a w1 (h.below hb1))
  have HB := Lib.hid hb1
  clear h hb1
  go_enter Try.func14, Try.ntmps14
  go_wp2_with (go_at_call 47; refine HU.out.mono ?_; rintro e _ ⟨rfl, rfl⟩)
  go_ret
  exact ⟨rfl, HB.out⟩
set_option maxRecDepth 100000 in
set_option maxHeartbeats 2000000 in
theorem unpin_dead (f n : Int) (h : PDead w a) : Calls Try.prog 16 #[.pointer a, kvv f n] w fun e w' => e = .returned (.int .i64 1) ∧ Below w.heap.size w w' := by
  obtain ⟨w1, hw1⟩ : ∃ w1, w.alloc (.cells #[.int .i64 f, .int .i64 n] 29) = w1 := ⟨_, rfl⟩
  have hb1 : Below w.heap.size w w1 := by rw [← hw1]; exact (Below.refl _ _).alloc (Nat.le_refl _) _
  have HU := Lib.hid (usable_dead a w1 (h.below hb1))
  have HB := Lib.hid hb1
  clear h hb1
  go_enter Try.func16, Try.ntmps16
  go_wp2_with (go_at_call 47; refine HU.out.mono ?_; rintro e _ ⟨rfl, rfl⟩)
  go_ret
  exact ⟨rfl, HB.out⟩
set_option maxRecDepth 100000 in
set_option maxHeartbeats 2000000 in
theorem clean_dead (f n : Int) (h : PDead w a) : Calls Try.prog 22 #[.pointer a, kvv f n] w fun e w' => e = .returned (.int .i64 1) ∧ Below w.heap.size w w' := by
  obtain ⟨w1, hw1⟩ : ∃ w1, w.alloc (.cells #[.int .i64 f, .int .i64 n] 29) = w1 := ⟨_, rfl⟩
  have hb1 : Below w.heap.size w w1 := by rw [← hw1]; exact (Below.refl _ _).alloc (Nat.le_refl _) _
  have HU := Lib.hid (usable_dead a w1 (h.below hb1))
  have HB := Lib.hid hb1
  clear h hb1
  go_enter Try.func22, Try.ntmps22
  go_wp2_with (go_at_call 47; refine HU.out.mono ?_; rintro e _ ⟨rfl, rfl⟩)
  go_ret
  exact ⟨rfl, HB.out⟩
set_option maxRecDepth 100000 in
set_option maxHeartbeats 2000000 in
theorem drop_dead (f n : Int) (h : PDead w a) : Calls Try.prog 21 #[.pointer a, kvv f n] w fun e w' => e = .returned (.int .i64 1) ∧ Below w.heap.size w w' := by
  obtain ⟨w1, hw1⟩ : ∃ w1, w.alloc (.cells #[.int .i64 f, .int .i64 n] 29) = w1 := ⟨_, rfl⟩
  have hb1 : Below w.heap.size w w1 := by rw [← hw1]; exact (Below.refl _ _).alloc (Nat.le_refl _) _
  have HU := Lib.hid (usable_dead a w1 (h.below hb1))
  have HB := Lib.hid hb1
  clear h hb1
  go_enter Try.func21, Try.ntmps21
  go_wp2_with (go_at_call 47; refine HU.out.mono ?_; rintro e _ ⟨rfl, rfl⟩)
  go_ret
  exact ⟨rfl, HB.out⟩
set_option maxRecDepth 100000 in
set_option maxHeartbeats 2000000 in
theorem plset_dead (f n i x u : Int) (h : PDead w a) : Calls Try.prog 15 #[.pointer a, kvv f n, .int .i64 i, .int .i64 x, .int .i64 u] w fun e w' => e = .returned (.int .i64 1) ∧ Below w.heap.size w w' := by
  obtain ⟨w1, hw1⟩ : ∃ w1, w.alloc (.cells #[.int .i64 f, .int .i64 n] 29) = w1 := ⟨_, rfl⟩
  have hb1 : Below w.heap.size w w1 := by rw [← hw1]; exact (Below.refl _ _).alloc (Nat.le_refl _) _
  have HU := Lib.hid (usable_dead a w1 (h.below hb1))
  have HB := Lib.hid hb1
  clear h hb1
  go_enter Try.func15, Try.ntmps15
  go_wp2_with (go_at_call 47; refine HU.out.mono ?_; rintro e _ ⟨rfl, rfl⟩)
  go_ret
  exact ⟨rfl, HB.out⟩
set_option maxRecDepth 100000 in
set_option maxHeartbeats 2000000 in
theorem get_dead (f n i : Int) (h : PDead w a) : Calls Try.prog 23 #[.pointer a, kvv f n, .int .i64 i] w fun e w' => e = .returned (.tuple #[.int .i64 0, .int .i64 1]) ∧ Below w.heap.size w w' := by
  obtain ⟨w1, hw1⟩ : ∃ w1, w.alloc (.cells #[.int .i64 f, .int .i64 n] 29) = w1 := ⟨_, rfl⟩
  have hb1 : Below w.heap.size w w1 := by rw [← hw1]; exact (Below.refl _ _).alloc (Nat.le_refl _) _
  have HU := Lib.hid (valid_dead a w1 (h.below hb1))
  have HB := Lib.hid hb1
  clear h hb1
  go_enter Try.func23, Try.ntmps23
  go_wp2_with (go_at_call 54; refine HU.out.mono ?_; rintro e _ ⟨rfl, rfl⟩)
  go_ret2
  exact ⟨rfl, HB.out⟩
set_option maxRecDepth 100000 in
set_option maxHeartbeats 2000000 in
theorem fresh_dead (f n d : Int) (h : PDead w a) : Calls Try.prog 25 #[.pointer a, .agg #[.int .i64 f, .int .i64 n, .int .i64 d, .slice none 0 0]] w fun e w' => e = .returned (.int .i64 1) ∧ Below w.heap.size w w' := by
  obtain ⟨w1, hw1⟩ : ∃ w1, w.alloc (.cells #[.int .i64 f, .int .i64 n, .int .i64 d, .slice none 0 0] 43) = w1 := ⟨_, rfl⟩
  have hb1 : Below w.heap.size w w1 := by rw [← hw1]; exact (Below.refl _ _).alloc (Nat.le_refl _) _
  have HU := Lib.hid (usable_dead a w1 (h.below hb1))
  have HB := Lib.hid hb1
  clear h hb1
  go_enter Try.func25, Try.ntmps25
  go_wp2_with (go_at_call 47; refine HU.out.mono ?_; rintro e _ ⟨rfl, rfl⟩)
  go_ret
  exact ⟨rfl, HB.out⟩
set_option maxRecDepth 100000 in
set_option maxHeartbeats 2000000 in
theorem pins_dead (h : PDead w a) : Calls Try.prog 19 #[.pointer a] w fun e w' => e = .returned (.int .i64 0) ∧ w = w' := by
  have HU := Lib.hid (valid_dead a w h)
  clear h
  go_enter Try.func19, Try.ntmps19
  go_wp2_with (go_at_call 54; refine HU.out.mono ?_; rintro e _ ⟨rfl, rfl⟩)
  go_ret
  exact ⟨rfl, rfl⟩
set_option maxRecDepth 100000 in
set_option maxHeartbeats 2000000 in
theorem held_dead (h : PDead w a) : Calls Try.prog 20 #[.pointer a] w fun e w' => e = .returned (.int .i64 0) ∧ w = w' := by
  have HU := Lib.hid (valid_dead a w h)
  clear h
  go_enter Try.func20, Try.ntmps20
  go_wp2_with (go_at_call 54; refine HU.out.mono ?_; rintro e _ ⟨rfl, rfl⟩)
  go_ret
  exact ⟨rfl, rfl⟩
set_option maxRecDepth 100000 in
set_option maxHeartbeats 2000000 in
theorem keys_dead (h : PDead w a) : Calls Try.prog 18 #[.pointer a] w fun e w' => e = .returned (.slice none 0 0) ∧ w = w' := by
  have HU := Lib.hid (valid_dead a w h)
  clear h
  go_enter Try.func18, Try.ntmps18
  go_wp2_with (go_at_call 54; refine HU.out.mono ?_; rintro e _ ⟨rfl, rfl⟩)
  go_ret
  exact ⟨rfl, rfl⟩
set_option maxRecDepth 100000 in
set_option maxHeartbeats 2000000 in
theorem plnew_few (n : Int) (x : Value) (w : World) (h : n < 1) : Calls Try.prog 13 #[.int .i64 n, x] w fun e w' => e = .returned (.tuple #[.pointer none, .int .i64 100]) ∧ w = w' := by
  have hd : decide (n < 1) = true := decide_eq_true h
  go_enter Try.func13, Try.ntmps13
  go_wp2
  go_ret2
  exact ⟨rfl, rfl⟩
set_option maxRecDepth 100000 in
set_option maxHeartbeats 2000000 in
theorem plnew_many (n : Int) (x : Value) (w : World) (h : 64 < n) : Calls Try.prog 13 #[.int .i64 n, x] w fun e w' => e = .returned (.tuple #[.pointer none, .int .i64 100]) ∧ w = w' := by
  have hd : decide (n < 1) = false := decide_eq_false (by omega)
  go_enter Try.func13, Try.ntmps13
  go_wp2
  go_ret2
  exact ⟨rfl, rfl⟩
set_option maxRecDepth 100000 in
set_option maxHeartbeats 2000000 in
theorem plnew_nil (w : World) : Calls Try.prog 13 #[.int .i64 2, .nilIface] w fun e w' => e = .returned (.tuple #[.pointer none, .int .i64 100]) ∧ w = w' := by
  go_enter Try.func13, Try.ntmps13
  go_wp2
  go_ret2
  exact ⟨rfl, rfl⟩
end
end Go.Proofs.Ytlmdijijlbmddaa.pool

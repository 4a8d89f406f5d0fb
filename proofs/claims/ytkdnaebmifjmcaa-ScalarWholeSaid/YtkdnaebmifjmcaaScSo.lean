/-
  Layer 12 (scalar): what the statements ask of an answer: a number of 64 bits, or the error.
-/
import Derived.Test.YtkdnaebmifjmcaaScWideB
namespace Go.Proofs.Ytkdnaebmifjmcaa.sc
open Go.RowKit

set_option maxHeartbeats 1000000 in
theorem so_yes (v : Int) (h : InR v) (w : World) : Calls Try.prog 23 #[.int .i64 v, .int .i64 0, wv v] w fun e w' => e = .returned (.bool true) ∧ Below w.heap.size w w' := by
  have HO : Hid (∀ W, Calls Try.prog 24 #[.int .i64 v] W fun e w' => e = .returned (wv v) ∧ Below W.heap.size W w') := Lib.hid (fun W => of_any v h W)
  have e1 : wrap64 (loN v : Int) = v := by rw [wrap_lo]; exact IntWalk.wrap64_in _ h
  have e2 : IntKind.i64.wrap (loN v : Int) = v := by rw [IntWalk.i64_left]; exact e1
  have hq : ∀ W : World, (binOp .eql 50 (wv v) (wv v)).run Try.prog W = .ok (.bool true) W := fun W => by
    have := eql_wide (hiN v) (loN v) (hiN v) (loN v) W
    rwa [decide_eq_true ⟨rfl, rfl⟩] at this
  unfold wv at HO hq ⊢
  generalize loN v = L at *
  generalize hiN v = H at *
  have c0 := (Blk.new w 50 #[.int .u64 (H : Int), .int .u64 (L : Int)]).cell 0
  have c1 := (Blk.new w 50 #[.int .u64 (H : Int), .int .u64 (L : Int)]).cell 1
  have HX := Lib.hid (Blk.new w 50 #[.int .u64 (H : Int), .int .u64 (L : Int)])
  clear h
  go_enter Try.func23, Try.ntmps23
  go_wp2
  go_region_with (go_at_call 24; (with_reducible refine (HO.out _).mono ?_); rintro e w2 ⟨rfl, b2⟩; have hx2 := HX.out.drew.below b2 HX.out.lt; have g0 := hx2.cell 0; have g1 := hx2.cell 1; have B2 := Lib.hid b2; clear hx2 b2)
  all_goals go_wp2
  all_goals go_ret
  all_goals exact ⟨by simp, (alloc_below w _).drew.trans (B2.out.mono (by simp))⟩
set_option maxHeartbeats 1000000 in
theorem so_no (v : Int) (hb : -170141183460469231731687303715884105728 ≤ v ∧ v < 170141183460469231731687303715884105728) (h : ¬ InR v) (w : World) : Calls Try.prog 23 #[.int .i64 0, .int .i64 7, wv v] w fun e w' => e = .returned (.bool true) ∧ Below w.heap.size w w' := by
  obtain ⟨s, hs⟩ : ∃ s, wrap64 v = s := ⟨_, rfl⟩
  have HO : Hid (∀ W, Calls Try.prog 24 #[.int .i64 s] W fun e w' => e = .returned (.agg #[.int .u64 (hiN s : Int), .int .u64 (loN v : Int)]) ∧ Below W.heap.size W w') := Lib.hid (fun W => by
    have := of_any s (by rw [← hs]; exact wrap_inR v) W
    unfold wv at this
    rw [show loN s = loN v by rw [← hs]; exact lo_wrap v] at this
    exact this)
  have e1 : wrap64 (loN v : Int) = s := by rw [wrap_lo]; exact hs
  have e2 : IntKind.i64.wrap (loN v : Int) = s := by rw [IntWalk.i64_left]; exact e1
  have hne := hi_other hb h
  rw [hs] at hne
  have hq : ∀ W : World, (binOp .eql 50 (.agg #[.int .u64 (hiN s : Int), .int .u64 (loN v : Int)]) (wv v)).run Try.prog W = .ok (.bool false) W := fun W => by
    have := eql_wide (hiN s) (loN v) (hiN v) (loN v) W
    rwa [decide_eq_false (fun e => hne (by omega))] at this
  unfold wv at hq ⊢
  generalize loN v = L at *
  generalize hiN v = H at *
  generalize hiN s = H2 at *
  have c0 := (Blk.new w 50 #[.int .u64 (H : Int), .int .u64 (L : Int)]).cell 0
  have c1 := (Blk.new w 50 #[.int .u64 (H : Int), .int .u64 (L : Int)]).cell 1
  have HX := Lib.hid (Blk.new w 50 #[.int .u64 (H : Int), .int .u64 (L : Int)])
  clear h hb hs hne
  go_enter Try.func23, Try.ntmps23
  go_wp2
  go_region_with (go_at_call 24; (with_reducible refine (HO.out _).mono ?_); rintro e w2 ⟨rfl, b2⟩; have hx2 := HX.out.drew.below b2 HX.out.lt; have g0 := hx2.cell 0; have g1 := hx2.cell 1; have B2 := Lib.hid b2; clear hx2 b2)
  all_goals go_wp2
  all_goals go_ret
  all_goals exact ⟨by simp, (alloc_below w _).drew.trans (B2.out.mono (by simp))⟩
end Go.Proofs.Ytkdnaebmifjmcaa.sc

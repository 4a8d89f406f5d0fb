/-
  Layer 12 (scalar): the statements' own helpers 'is', 'fails', 'alive'; Two and One with their answers named.
-/
import Derived.Test.YtkdnaebmifjmcaaDoorScTwo
namespace Go.Proofs.YtkdnaebmifjmcaaDoor.sc
open Go.RowKit

abbrev TwoAt (f x y v e : Int) : Prop := ∀ W, Calls Tryd.prog 7 #[.int .i64 f, .int .i64 x, .int .i64 y] W fun q w' => q = .returned (.tuple #[.int .i64 v, .int .i64 e]) ∧ Below W.heap.size W w'
abbrev OneAt (f y v e : Int) : Prop := ∀ W, Calls Tryd.prog 5 #[.int .i64 f, .int .i64 y] W fun q w' => q = .returned (.tuple #[.int .i64 v, .int .i64 e]) ∧ Below W.heap.size W w'
theorem two_at {f x y v e : Int} (hx : InR x) (hy : InR y) (hv : twoV f x y = v) (he : twoE f x y = e) : Hid (TwoAt f x y v e) := Lib.hid (fun W => by
  subst hv
  subst he
  exact sctwo_any f x y hx hy W)
theorem one_at {f y v e : Int} (hy : InR y) (hv : oneV f y = v) (he : oneE f y = e) : Hid (OneAt f y v e) := Lib.hid (fun W => by
  subst hv
  subst he
  exact scone_any f y hy W)
theorem is_any {f x y v : Int} (hx : InR x) (hy : InR y) (hv : twoV f x y = v) (he : twoE f x y = 0) (w : World) : Calls Tryd.prog 24 #[.int .i64 f, .int .i64 x, .int .i64 y, .int .i64 v] w fun q w' => q = .returned (.bool true) ∧ Below w.heap.size w w' := by
  have H := two_at hx hy hv he
  clear hx hy hv he
  go_enter Tryd.func24, Tryd.ntmps24
  go_wp2_with (go_at_call 7; (with_reducible refine (H.out _).mono ?_); rintro e w2 ⟨rfl, b2⟩)
  go_ret
  exact ⟨by simp, b2⟩
set_option maxHeartbeats 1000000 in
theorem alive12_any (w : World) : Calls Tryd.prog 31 #[] w fun q w' => q = .returned (.bool true) ∧ Below w.heap.size w w' := by
  have H1 := Lib.hid (fun W => is_any (f := 4) (x := -7) (y := 2) (v := -4) (by decide) (by decide) (by decide +kernel) (by decide +kernel) W)
  have H2 := Lib.hid (fun W => is_any (f := 5) (x := 2) (y := -7) (v := 1) (by decide) (by decide) (by decide +kernel) (by decide +kernel) W)
  have H3 := Lib.hid (fun W => is_any (f := 5) (x := -2) (y := 7) (v := -1) (by decide) (by decide) (by decide +kernel) (by decide +kernel) W)
  have H4 := Lib.hid (fun W => is_any (f := 5) (x := 0) (y := 5) (v := 5) (by decide) (by decide) (by decide +kernel) (by decide +kernel) W)
  have H5 := Lib.hid (fun W => is_any (f := 8) (x := -2) (y := 63) (v := -9223372036854775808) (by decide) (by decide) (by decide +kernel) (by decide +kernel) W)
  go_enter Tryd.func31, Tryd.ntmps31
  go_wp2_with (first
    | (go_at_call 24; (with_reducible refine (H1.out _).mono ?_); rintro e w1 ⟨rfl, b1⟩)
    | (go_at_call 24; (with_reducible refine (H2.out _).mono ?_); rintro e w2 ⟨rfl, b2⟩)
    | (go_at_call 24; (with_reducible refine (H3.out _).mono ?_); rintro e w3 ⟨rfl, b3⟩)
    | (go_at_call 24; (with_reducible refine (H4.out _).mono ?_); rintro e w4 ⟨rfl, b4⟩)
    | (go_at_call 24; (with_reducible refine (H5.out _).mono ?_); rintro e w5 ⟨rfl, b5⟩))
  go_ret
  exact ⟨rfl, below_on (below_on (below_on (below_on b1 b2) b3) b4) b5⟩
end Go.Proofs.YtkdnaebmifjmcaaDoor.sc

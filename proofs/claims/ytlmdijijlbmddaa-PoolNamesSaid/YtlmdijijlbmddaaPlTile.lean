/-
  The pool of layer 10: Tile of a tile that is not pinned; Fresh of one that is there.
-/
import Derived.Test.YtlmdijijlbmddaaPlDead
namespace Go.Proofs.Ytlmdijijlbmddaa.pool
open Go.RowKit

section
variable {N p m : Nat} {w : World} {s : PS}
set_option maxRecDepth 100000 in
set_option maxHeartbeats 4000000 in
theorem tile_no (f n : Int) (h : PB N w p m s) (hno : takeF (fun v => v.pinned f n) s.fr = none) :
    Calls Try.prog 24 #[pv p, kvv f n] w fun e w' => e = .returned (.tuple #[.agg #[.int .i64 0, .int .i64 0, .int .i64 0, .slice none 0 0], .int .i64 100]) ∧ Below w.heap.size w w' := by
  obtain ⟨q, ml, h⟩ := h
  obtain ⟨w1, hw1⟩ : ∃ w1, (w.alloc (.cells #[.int .i64 f, .int .i64 n] 29)).alloc (.cells #[.int .i64 0, .int .i64 0, .int .i64 0, .slice none 0 0] 43) = w1 := ⟨_, rfl⟩
  have hb1 : Below w.heap.size w w1 := by rw [← hw1]; exact ((Below.refl _ _).alloc (Nat.le_refl _) _).alloc (by simp) _
  have hx1 : Blk w1 w.heap.size 29 #[.int .i64 f, .int .i64 n] := by rw [← hw1]; exact (Blk.new w _ _).alloc _
  have hy1 : Blk w1 (w.heap.size + 1) 43 #[.int .i64 0, .int .i64 0, .int .i64 0, .slice none 0 0] := by
    have h := Blk.new (w.alloc (.cells #[.int .i64 f, .int .i64 n] 29)) 43 #[.int .i64 0, .int .i64 0, .int .i64 0, .slice none 0 0]
    rw [hw1] at h
    simpa only [World.size_alloc] using h
  have h1 := h.below hb1
  have HU := Lib.hid (valid_any h1.pool.blk5.1)
  have HFI := Lib.hid (pinned_any f n h1.pool)
  have k0 := hx1.cell 0
  have k1 := hx1.cell 1
  have H1 := Lib.hid h1
  have HB1 := Lib.hid hb1
  have HY1 := Lib.hid hy1
  have hno2 : takeF (fun v => v.pinned f n) (q.map (·.2)) = none := by rw [← h.fr]; exact hno
  have HNO := Lib.hid hno2
  clear h h1 hx1 hb1 hy1 hno hno2
  have qn := fun w => run_eql_nilnil (P := Try.prog) w (tp := 79) (te := 82) Try.underlying79
  go_enter Try.func24, Try.ntmps24
  go_wp2_with (first
    | (go_at_call 54; refine HU.out.mono ?_; rintro e _ ⟨rfl, rfl⟩)
    | (go_at_call 52; refine HFI.out.mono ?_; rintro e w2 ⟨⟨x, rfl, hx⟩, hb2⟩; have HX := Lib.hid hx; have HB2 := Lib.hid hb2; clear hx hb2))
  have hft := found_take HX.out
  rcases hft with ⟨pre, ⟨fl, v⟩, post, hq, hy, rfl, ht⟩ | ⟨rfl, ht⟩
  · rw [HNO.out] at ht
    cases ht
  · have hy2 := HY1.out.below HB2.out HY1.out.lt
    have y0 := hy2.cell 0
    have y1 := hy2.cell 1
    have y2 := hy2.cell 2
    have y3 := hy2.cell 3
    have g0 := hy2.frozen 0
    have g1 := hy2.frozen 1
    have g2 := hy2.frozen 2
    have g3 := hy2.frozen 3
    have HY2 := Lib.hid hy2
    clear ht hy2
    simp [eqGuard, qn]
    go_wp2
    have hk4 := keep_tile w2 (w.heap.size + 1) (.int .i64 0) (.int .i64 0) (.int .i64 0) (.slice none 0 0)
    refine bodyPost_ret (results_tile2 rfl rfl rfl (blk_tile _ _ _ _ HY2.out)) rfl ?_
    have hs := HB1.out.size
    have hs2 := HB2.out.size
    exact ⟨rfl, (HB1.out.trans (HB2.out.mono hs)).trans (hk4.below (by omega) (fun i hi e => by omega))⟩
set_option maxRecDepth 100000 in
set_option maxHeartbeats 4000000 in
theorem fresh_there (f n d : Int) (h : PB N w p m s) {r : List FV × FV × List FV} (hin : takeF (fun v => v.is f n) s.fr = some r) :
    Calls Try.prog 25 #[pv p, .agg #[.int .i64 f, .int .i64 n, .int .i64 d, .slice none 0 0]] w fun e w' => e = .returned (.int .i64 100) ∧ Below w.heap.size w w' := by
  obtain ⟨q, ml, h⟩ := h
  obtain ⟨w1, hw1⟩ : ∃ w1, w.alloc (.cells #[.int .i64 f, .int .i64 n, .int .i64 d, .slice none 0 0] 43) = w1 := ⟨_, rfl⟩
  have hb1 : Below w.heap.size w w1 := by rw [← hw1]; exact (Below.refl _ _).alloc (Nat.le_refl _) _
  have hx1 : Blk w1 w.heap.size 43 #[.int .i64 f, .int .i64 n, .int .i64 d, .slice none 0 0] := by rw [← hw1]; exact Blk.new w _ _
  have h1 := h.below hb1
  have HU := Lib.hid (usable_any h1.pool)
  have HKO := Lib.hid (keyof_any f n d none 0 0 w1)
  have HFI : Hid (∀ X, Below w1.heap.size w1 X → _) := Lib.hid (fun X hX => find_any f n (h1.pool.below hX))
  have k0 := hx1.cell 0
  have k1 := hx1.cell 1
  have k2 := hx1.cell 2
  have k3 := hx1.cell 3
  have HB1 := Lib.hid hb1
  have hin2 : takeF (fun v => v.is f n) (q.map (·.2)) = some r := by rw [← h.fr]; exact hin
  have HNO := Lib.hid hin2
  clear h h1 hx1 hb1 hin hin2
  go_enter Try.func25, Try.ntmps25
  go_wp2_with (first
    | (go_at_call 47; refine HU.out.mono ?_; rintro e _ ⟨rfl, rfl⟩)
    | (go_at_call 56; refine HKO.out.mono ?_; rintro e w2 ⟨rfl, hb2⟩; have HB2 := Lib.hid hb2; have HF2 := Lib.hid (HFI.out w2 hb2); clear hb2)
    | (go_at_call 48; refine HF2.out.mono ?_; rintro e w3 ⟨⟨x, rfl, hx⟩, hb3⟩; have HX := Lib.hid hx; have HB3 := Lib.hid hb3; clear hx hb3))
  have hft := found_take HX.out
  rcases hft with ⟨pre, ⟨fl, v⟩, post, hq, hy, rfl, ht⟩ | ⟨rfl, ht⟩
  · clear ht hq hy
    simp only [pv]
    go_wp2
    go_ret
    exact ⟨rfl, HB1.out.trans ((HB2.out.trans (HB3.out.mono HB2.out.size)).mono HB1.out.size)⟩
  · rw [HNO.out] at ht
    cases ht
end
end Go.Proofs.Ytlmdijijlbmddaa.pool

/-
  Layer 11 (array): the given Same, of equal arrays.
-/
import Derived.Test.YtkabdkblcgklmaaArNew
import Derived.Test.YtkabdkblcgklmaaArRef
import Derived.BigQuiet
namespace Go.Proofs.Ytkabdkblcgklmaa.arr
open Go.RowKit

/-- The two boxes. -/
structure Bx (w : World) (a : AV) (p q : AP) (w1 : World) : Prop where
  x : Blk w1 w.heap.size 25 (arC a p)
  y : Blk w1 (w.heap.size + 1) 25 (arC a q)
  b : Below w.heap.size w w1
  e : AEl w1 a p
  f : AEl w1 a q
theorem Bx.below {w w1 W : World} {a : AV} {p q : AP} (h : Bx w a p q w1) (hb : Below w1.heap.size w1 W) : Bx w a p q W :=
  ⟨h.x.below hb h.x.lt, h.y.below hb h.y.lt, h.b.trans (hb.mono h.b.size), h.e.below hb, h.f.below hb⟩
theorem Bx.cells {w w1 : World} {k : Int} {sh el : List Int} {A0 A1 B0 B1 : Option Addr} {c0 c1 d0 d1 : Nat} (h : Bx w ⟨k, sh, el⟩ ⟨A0, c0, A1, c1⟩ ⟨B0, d0, B1, d1⟩ w1) :
    (w1.cell? ⟨w.heap.size, 0, none⟩ = some (.int .i64 k) ∧ w1.cell? ⟨w.heap.size, 1, none⟩ = some (.slice A0 sh.length c0) ∧ w1.cell? ⟨w.heap.size, 2, none⟩ = some (.slice A1 el.length c1)) ∧
    w1.cell? ⟨w.heap.size + 1, 0, none⟩ = some (.int .i64 k) ∧ w1.cell? ⟨w.heap.size + 1, 1, none⟩ = some (.slice B0 sh.length d0) ∧ w1.cell? ⟨w.heap.size + 1, 2, none⟩ = some (.slice B1 el.length d1) :=
  ⟨⟨h.x.cell 0, h.x.cell 1, h.x.cell 2⟩, h.y.cell 0, h.y.cell 1, h.y.cell 2⟩

set_option maxHeartbeats 4000000 in
theorem r11same_eq (a : AV) (p q : AP) (w : World) (h : AEl w a p) (k : AEl w a q) :
    Calls Try.prog 38 #[.agg (arC a p), .agg (arC a q)] w fun e w' => e = .returned (.bool true) ∧ Below w.heap.size w w' := by
  obtain ⟨kd, sh, el⟩ := a
  obtain ⟨A0, c0, A1, c1⟩ := p
  obtain ⟨B0, d0, B1, d1⟩ := q
  have hb := (Below.refl w.heap.size w).alloc (Nat.le_refl _) (.cells (arC ⟨kd, sh, el⟩ ⟨A0, c0, A1, c1⟩) 25)
  have hb2 := hb.alloc hb.size (.cells (arC ⟨kd, sh, el⟩ ⟨B0, d0, B1, d1⟩) 25)
  have hy := Blk.new (w.alloc (.cells (arC ⟨kd, sh, el⟩ ⟨A0, c0, A1, c1⟩) 25)) 25 (arC ⟨kd, sh, el⟩ ⟨B0, d0, B1, d1⟩)
  rw [World.size_alloc] at hy
  have h1 : Bx w ⟨kd, sh, el⟩ ⟨A0, c0, A1, c1⟩ ⟨B0, d0, B1, d1⟩ ((w.alloc (.cells (arC ⟨kd, sh, el⟩ ⟨A0, c0, A1, c1⟩) 25)).alloc (.cells (arC ⟨kd, sh, el⟩ ⟨B0, d0, B1, d1⟩) 25)) :=
    ⟨(Blk.new w _ _).alloc _, hy, hb2, h.below hb2, k.below hb2⟩
  obtain ⟨w1, hw1⟩ : ∃ w1, (w.alloc (.cells (arC ⟨kd, sh, el⟩ ⟨A0, c0, A1, c1⟩) 25)).alloc (.cells (arC ⟨kd, sh, el⟩ ⟨B0, d0, B1, d1⟩) 25) = w1 := ⟨_, rfl⟩
  rw [hw1] at h1
  obtain ⟨⟨x0, x1, x2⟩, y0, y1, y2⟩ := h1.cells
  have H1 := Lib.hid h1
  have HS : Hid (Calls Try.prog 22 #[.slice A0 sh.length c0, .slice B0 sh.length d0] w1 fun e w' => e = .returned (.bool true) ∧ Below w1.heap.size w1 w') := Lib.hid (by
    have := r11shapes_any A0 B0 c0 d0 _ _ sh sh w1 rfl rfl h1.e.r0 h1.f.r0 h1.e.b0 h1.e.b0
    rw [decide_eq_true rfl] at this
    exact this)
  clear hb hb2 hy h1 h k
  unfold arC at *
  go_enter Try.func38, Try.ntmps38
  go_wp2_with (go_at_call 22; (try rw [hw1]); refine HS.out.mono ?_; rintro e w2 ⟨rfl, b2⟩; have h2 := H1.out.below b2; clear x0 x1 x2 y0 y1 y2; obtain ⟨⟨x0, x1, x2⟩, y0, y1, y2⟩ := h2.cells; have H2 := Lib.hid h2; clear h2 b2)
  obtain ⟨n, hn⟩ : ∃ n, el.length = n := ⟨_, rfl⟩
  have HN := Lib.hid hn
  have hn1 : n ≤ 9223372036854775807 := hn ▸ H2.out.e.b1
  rw [hn] at x2 y2 ⊢
  go_loopw [6] (fun i wr => ∃ j : Nat, j ≤ n ∧ i = .int .i64 (j : Int) ∧ Below w2.heap.size w2 wr) (fun i _ => n - (intOf i).toNat)
  case atStart => exact ⟨0, Nat.zero_le _, rfl, Below.refl _ _⟩
  case round =>
    obtain ⟨j, hj, rfl, hbw⟩ := hrel
    have hr := H2.out.below hbw
    clear x0 x1 x2 y0 y1 y2
    obtain ⟨⟨x0, x1, x2⟩, y0, y1, y2⟩ := hr.cells
    rw [hn] at x2 y2
    have HB := Lib.hid hr.b
    have HW := Lib.hid hbw
    by_cases hlt : j < n
    · have hd : (j : Int) < (n : Int) := by omega
      have r1 : Reads wr wr.heap.size 1 A1 n (el.map iv) := by rw [← hn]; exact hr.e.r1
      have r2 : Reads wr wr.heap.size 1 B1 n (el.map iv) := by rw [← hn]; exact hr.f.r1
      obtain ⟨adA, rfl, _, cA⟩ := r1.int_at hlt hn
      obtain ⟨adB, rfl, _, cB⟩ := r2.int_at hlt hn
      clear r1 r2
      generalize el[j] = v at *
      clear hr hbw hn
      go_wp2
      go_quiet (fail)
      go_wp2
      exact ⟨⟨j + 1, by omega, by go_num, below_drewN HW.out _⟩, by simp [intOf]; omega⟩
    · obtain rfl : j = n := by omega
      clear hr hbw hn
      go_wp2
      go_ret
      exact ⟨rfl, HB.out⟩
end Go.Proofs.Ytkabdkblcgklmaa.arr

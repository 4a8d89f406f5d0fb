/-
  The Writer's Num, whole: an error and nothing written, or the number's bytes behind what was written.
-/
import Derived.Test.YtoiopoghcjkgcaaGreatNum
import Derived.WalkMore
namespace Go.Proofs.YtoiopoghcjkgcaaGreat
open Go.RowKit

/-- The room of eight bytes, k rounds over. -/
def roomArr (size n k : Nat) : Array Value := ((List.range 8).map fun i => if size ≤ i + k ∧ i < size then bv (lowByte n (size - 1 - i)) else .int .u8 0).toArray

theorem roomArr_zero (size n : Nat) : roomArr size n 0 = #[.int .u8 0, .int .u8 0, .int .u8 0, .int .u8 0, .int .u8 0, .int .u8 0, .int .u8 0, .int .u8 0] := by
  have h : ∀ i, ¬ (size ≤ i + 0 ∧ i < size) := fun i => by omega
  unfold roomArr
  simp only [if_neg (h _)]
  rfl

theorem roomArr_step (size n k r : Nat) (h : r + 1 + k = size) (h8 : size ≤ 8) : (roomArr size n k).setIfInBounds r (bv (lowByte n k)) = roomArr size n (k + 1) := by
  apply Array.ext
  · simp [roomArr]
  · intro i h1 h2
    have hi : i < 8 := by simpa [roomArr] using h2
    rw [Array.getElem_setIfInBounds (by simpa [roomArr] using hi)]
    simp only [roomArr, List.getElem_toArray, List.getElem_map, List.getElem_range]
    by_cases e : r = i
    · subst e
      rw [if_pos rfl, if_pos ⟨by omega, by omega⟩]
      congr 2
      omega
    · rw [if_neg e]
      by_cases g : size ≤ i + k ∧ i < size
      · rw [if_pos g, if_pos ⟨by omega, g.2⟩]
      · rw [if_neg g, if_neg (by omega)]

theorem roomArr_reads (size n : Nat) (h8 : size ≤ 8) (W : World) (R : Nat) (h : Blk W R 121 (roomArr size n size)) : Reads W W.heap.size 1 (some ⟨R, 0, none⟩) size ((be size n).map bv) := by
  refine ⟨by simp [be], fun h0 => ⟨_, rfl, h.lt, fun j u hu => ?_⟩⟩
  have hj : j < size := by
    have := (List.getElem?_eq_some_iff.1 hu).1
    simpa [be] using this
  have hp : (⟨R, 0, none⟩ : Addr).add j = ⟨R, j, none⟩ := by unfold Addr.add; split <;> simp_all
  rw [hp, h.cell j]
  simp only [be, List.map_map, List.getElem?_map, List.getElem?_range hj, Option.map_some] at hu
  rw [← hu]
  simp only [roomArr]
  rw [List.getElem?_toArray, List.getElem?_map, List.getElem?_range (by omega), Option.map_some, if_pos ⟨by omega, hj⟩]
  rfl

theorem blk_own {W W' : World} {B g : Nat} {t : TypeId} {cs : Array Value} {row : Option Nat} (h : Blk W g t cs) (hg : W.grownBy W' row) (hr : ∀ r, row = some r → B ≤ r ∧ ∃ o : Obj, W.heap[r]? = some o ∧ o.isCells = false) : Blk W' g t cs :=
  h.grown hg (fun e => by
    obtain ⟨_, o, ho, hc⟩ := hr g e.symm
    rw [show W.heap[g]? = _ from h] at ho
    cases ho
    cases hc)

theorem wpIn_scope_wide {n : Nat} {P : Program} {c : Code} {Q : Exit → Act → World → Prop} {a : Act} {w : World} (h : c.wpIn Fence.wide n P (Exit.noGoto Q) a w) : (Code.scope c).wpIn Fence.wide n P Q a w :=
  wpIn_wide.2 (wp_scope_straight (wpIn_wide.1 h))

/-- Num on nil, or of another size. -/
theorem wnum_nil (size n : Int) (w : World) : Calls Tryz.prog 46 #[.pointer none, .int .i64 size, .int .u64 n] w fun e w' => e = .returned (.int .i64 1) ∧ w = w' := by
  go_enter Tryz.func46, Tryz.ntmps46
  go_wp2
  go_step3
  go_wp2
  rw [Exit.noGoto_ret]
  go_ret
  exact ⟨rfl, rfl⟩

theorem wnum_arg (b : Nat) (size n : Int) (w : World) (h1 : -9223372036854775808 ≤ size) (h2 : size ≤ 9223372036854775807) (hs : sized size = false) :
    Calls Tryz.prog 46 #[.pointer (some ⟨b, 0, none⟩), .int .i64 size, .int .u64 n] w fun e w' => e = .returned (.int .i64 2) ∧ w = w' := by
  go_enter Tryz.func46, Tryz.ntmps46
  go_wp2
  go_step3
  go_wp2_with (go_at_call 71; refine (isSize_any _ _ h1 h2).mono ?_; rintro e w' ⟨rfl, rfl⟩)
  rw [Exit.noGoto_ret]
  go_ret
  exact ⟨rfl, rfl⟩

theorem sized_of {size : Nat} (hs : size = 1 ∨ size = 2 ∨ size = 4 ∨ size = 8) : sized (size : Int) = true := by
  unfold sized
  rcases hs with rfl | rfl | rfl | rfl <;> rfl

theorem wnum_much (b size n : Nat) (w : World) (hs : size = 1 ∨ size = 2 ∨ size = 4 ∨ size = 8) (hf : fitsB size n = false) :
    Calls Tryz.prog 46 #[.pointer (some ⟨b, 0, none⟩), .int .i64 size, .int .u64 n] w fun e w' => e = .returned (.int .i64 10) ∧ w = w' := by
  have h0 := sized_of hs
  have h8 : (size : Int) ≤ 9223372036854775807 := by omega
  have c1 := isSize_any size w (by omega) h8
  have c2 := fits_any size n w hs
  have H := Lib.hid hs
  clear hs
  go_enter Tryz.func46, Tryz.ntmps46
  go_wp2
  go_step3
  go_wp2_with (first
    | (go_at_call 71; refine c1.mono ?_; rintro e w' ⟨rfl, rfl⟩)
    | (go_at_call 72; refine c2.mono ?_; rintro e w' ⟨rfl, rfl⟩))
  rw [Exit.noGoto_ret]
  go_ret
  exact ⟨rfl, rfl⟩

theorem slice8 (W : World) (R size : Nat) (h : size ≤ 8) : (Instr.sliceAt 121 (.pointer (some ⟨R, 0, none⟩)) none (some (.int .i64 size)) none).run Tryz.prog W = .ok (.slice (some ⟨R, 0, none⟩) size 8) W := by
  obtain ⟨i0, hi, hz0, hz1, hz2⟩ := info_parts infoU8
  have z5 : ∀ w, Sem.run Tryz.prog (Go.sizeOf 5) w = .ok 1 w := fun w => by simp [Go.sizeOf, typeInfo, hi, hz1]
  have ht : Tryz.prog.underlying 121 = some (.array (Tryz.prog.arrayLen 121) (Tryz.prog.elem 121)) := by kernel_rfl
  have hl : Tryz.prog.arrayLen 121 = 8 := by kernel_rfl
  have he : Tryz.prog.elem 121 = 5 := by kernel_rfl
  rw [run_sliceAt_array_h W 121 ⟨R, 0, none⟩ ht .i64 size (by omega) (by rw [hl]; omega), hl, he, z5]
  simp [slicedAt, Addr.add, Result.andThen]

section
attribute [local go_sem] Oper.semAt_some
set_option maxRecDepth 100000 in
set_option maxHeartbeats 2000000 in
theorem wnum_ok (w : World) (b : Nat) (A : Option Addr) (c : Nat) (u : Option Addr) (l : List UInt8) (hw : Wr w b A c u l) (size n : Nat) (hs : size = 1 ∨ size = 2 ∨ size = 4 ∨ size = 8) (hf : fitsB size n = true)
    (hn : n < 18446744073709551616) (hlen : l.length + size ≤ 140737488355328) :
    Calls Tryz.prog 46 #[.pointer (some ⟨b, 0, none⟩), .int .i64 size, .int .u64 n] w fun e w' => e = .returned (.int .i64 0) ∧ ∃ A' c' u', Wr w' b A' c' u' (l ++ be size n) ∧
      (∀ k, foot b A' u' k → foot b A u k ∨ w.heap.size ≤ k) ∧ Keep (foot b A u) w w' := by
  have h0 := sized_of hs
  have h8 : (size : Int) ≤ 9223372036854775807 := by omega
  have hs8 : size ≤ 8 := by omega
  have hs1 : 1 ≤ size := by omega
  have c1 := isSize_any size w (by omega) h8
  have c2 := fits_any size n w hs
  have H := Lib.hid hs
  have HW := Lib.hid hw
  clear hs hw
  refine (callsIn_wide (n := 5)).1 ?_
  refine callsIn_of_wp_marks Tryz.func46 rfl trivial ?_
  simp only [Tryz.ntmps46, List.size_toArray, List.length_cons, List.length_nil, Nat.reduceAdd, Nat.reduceSub, Array.replicate_succ, Array.replicate_zero, List.push_toArray, List.append_toArray, List.nil_append, List.cons_append]
  gi_wp2
  refine wpIn_scope_wide ?_
  gi_wp2_with (first
    | (refine ⟨trivial, ?_⟩; gi_at_call 71; refine (callsIn_wide.2 c1).mono ?_; rintro e w' ⟨rfl, rfl⟩)
    | (refine ⟨trivial, ?_⟩; gi_at_call 72; refine (callsIn_wide.2 c2).mono ?_; rintro e w' ⟨rfl, rfl⟩))
  refine wpIn_label ?_
  gi_wp2_with (refine ⟨trivial, ?_⟩; gi_at_call 73; refine (callsIn_wide.2 (low_any _ _)).mono ?_; rintro e w' ⟨rfl, rfl⟩)
  obtain ⟨w3, hw3⟩ : ∃ w3, ((w.alloc (.cells #[.int .u8 0, .int .u8 0, .int .u8 0, .int .u8 0, .int .u8 0, .int .u8 0, .int .u8 0, .int .u8 0] 121)).alloc (.cells #[.int .i64 size] 3)).alloc (.cells #[.int .u64 n] 32) = w3 := ⟨_, rfl⟩
  have hb3 : Below w.heap.size w w3 := by
    rw [← hw3]
    exact (((Below.refl _ w).alloc (Nat.le_refl _) _).alloc (by simp) _).alloc (by simp; omega) _
  have hz3 : w3.heap.size = w.heap.size + 3 := by rw [← hw3]; simp
  have hr3 : Blk w3 w.heap.size 121 (roomArr size n 0) := by
    rw [← hw3, roomArr_zero]
    exact ((Blk.new w _ _).alloc _).alloc _
  have ha3 : Blk w3 (w.heap.size + 1) 3 #[.int .i64 size] := by
    rw [← hw3]
    have := Blk.new (w.alloc (.cells #[.int .u8 0, .int .u8 0, .int .u8 0, .int .u8 0, .int .u8 0, .int .u8 0, .int .u8 0, .int .u8 0] 121)) 3 #[.int .i64 size]
    simp only [World.size_alloc] at this
    exact this.alloc _
  have hc3 : w3.cell? ⟨w.heap.size + 1 + 1, 0, none⟩ = some (.int .u64 n) := by
    rw [← hw3]
    have := (Blk.new ((w.alloc (.cells #[.int .u8 0, .int .u8 0, .int .u8 0, .int .u8 0, .int .u8 0, .int .u8 0, .int .u8 0, .int .u8 0] 121)).alloc (.cells #[.int .i64 size] 3)) 32 #[.int .u64 n]).cell 0
    simp only [World.size_alloc] at this
    exact this
  rw [hw3]
  clear hw3 c1 c2 h0
  refine wpIn_rangeFunc_left rfl (by omega) (gf := 87) (lb := #[.pointer (some ⟨w.heap.size + 1 + 1, 0, none⟩)]) rfl trivial (enters_of Tryz.func87 (by kernel_rfl) rfl)
    (low_left Fence.wide 4 trivial rfl (by omega) (w.heap.size + 1 + 1) n size w3 (by omega) hn hc3) (Below.refl _ _) (fun _ => rfl)
    (fun k W => ∃ r, 0 < r ∧ r + k = size ∧ Blk W (w.heap.size + 1) 3 #[.int .i64 (r : Nat)] ∧ Blk W w.heap.size 121 (roomArr size n k) ∧ Below w.heap.size w W)
    (fun c W => c = .exit 0 ∧ Blk W w.heap.size 121 (roomArr size n size) ∧ Below w.heap.size w W)
    (fun s W W' row ⟨r, h0, h1, h2, h3, h4⟩ hg hr => ⟨r, h0, h1, blk_own h2 hg hr, blk_own h3 hg hr, h4.grown hg h4.size (fun k e => by have := (hr k e).1; omega)⟩)
    (fun s W W' row ⟨h0, h3, h4⟩ hg hr => ⟨h0, blk_own h3 hg hr, h4.grown hg h4.size (fun k e => by have := (hr k e).1; omega)⟩)
    (fun k W ⟨r, h0, h1, _⟩ => by omega)
    (fun k k' W ⟨r, h0, h1, h2, _⟩ ⟨r', h0', h1', h2', _⟩ => by
      have e : #[Value.int .i64 (r : Nat)] = #[Value.int .i64 (r' : Nat)] := by
        have e := h2.symm.trans h2'
        injection e with e
        injection e
      have e' : (r : Int) = r' := by simpa using e
      omega)
    ⟨size, hs1, rfl, ha3, hr3, hb3⟩
    (fun k => { tmps := #[.pointer (some ⟨b, 0, none⟩), .int .i64 size, .int .u64 n, undef,
          undef, undef, .int .i64 0, .pointer (some ⟨w.heap.size, 0, none⟩),
          .pointer (some ⟨w.heap.size + 1, 0, none⟩), .int .u8 ((lowByte n k).toNat : Int),
          .pointer (some ⟨b, 0, none⟩), .bool false, .int .i64 size, .bool true,
          .bool false, .int .i64 size, .int .u64 n, .bool true, .bool false,
          .int .i64 size, .int .u64 n,
          .func (.func 87) #[] #[.pointer (some ⟨w.heap.size + 1 + 1, 0, none⟩)], .int .u8 ((lowByte n k).toNat : Int), undef,
          undef, undef, undef, undef, undef, undef, undef, undef, undef, undef], defers := [] }) ?assign ?body ?stop
  case assign =>
    intro l k W K hK
    gi_wp2
    exact hK
  case body =>
    rintro l k W ⟨r, h0, h1, h2, h3, h4⟩
    obtain ⟨r, rfl⟩ : ∃ q, r = q + 1 := ⟨r - 1, by omega⟩
    have hrr := roomArr_step size n k r (by omega) hs8
    have ca : W.cell? ⟨w.heap.size + 1, 0, none⟩ = some (.int .i64 ((r + 1 : Nat) : Int)) := h2.cell 0
    have fa := h2.frozen 0
    have hlt : r < 8 := by omega
    have cr : W.cell? ⟨w.heap.size, r, none⟩ = some ((roomArr size n k).getD r undef) := by
      rw [h3.cell r]
      simp [roomArr, hlt]
    have fr := h3.frozen r
    have H2 := Lib.hid h2
    have H3 := Lib.hid h3
    have HR := Lib.hid hrr
    have H1 := Lib.hid h1
    clear h2 h3 hrr h1
    by_cases hr0 : r = 0
    · subst hr0
      gi_wp2
      have hk1 : size = k + 1 := by have := H1.out; omega
      have hR := HR.out
      have hne : w.heap.size ≠ w.heap.size + 1 := by omega
      refine ⟨((KeepsOthers.setCell _ _ _).trans (KeepsOthers.setCell _ _ _)).from _, rfl, ?_, ?_⟩
      · have h := (H3.out.far (p := ⟨w.heap.size + 1, 0, none⟩) hne (.int .i64 0)).set_ 0 (bv (lowByte n k))
        rw [hR, ← hk1] at h
        exact h
      · exact (h4.setCell (p := ⟨w.heap.size + 1, 0, none⟩) (by simp) _).setCell (p := ⟨w.heap.size, 0, none⟩) (Nat.le_refl _) _
    · gi_wp2
      have hR := HR.out
      have hne : w.heap.size ≠ w.heap.size + 1 := by omega
      refine ⟨((KeepsOthers.setCell _ _ _).trans (KeepsOthers.setCell _ _ _)).from _, r, by omega, by have := H1.out; omega, ?_, ?_, ?_⟩
      · exact (H2.out.set_ 0 (.int .i64 r)).far (p := ⟨w.heap.size, r, none⟩) (Ne.symm hne) _
      · have h := (H3.out.far (p := ⟨w.heap.size + 1, 0, none⟩) hne (.int .i64 r)).set_ r (bv (lowByte n k))
        rw [hR] at h
        exact h
      · exact (h4.setCell (p := ⟨w.heap.size + 1, 0, none⟩) (by simp) _).setCell (p := ⟨w.heap.size, r, none⟩) (Nat.le_refl _) _
  case stop =>
    rintro D c' W hD ⟨rfl, h3, h4⟩ hK
    have hs := slice8 W w.heap.size size hs8
    have hW : Wr W b A c u l := HW.out.keep (Keep.of_below (S := fun _ => False) h4) (fun _ _ h => h)
    have hp := put_any W b A c u l (some ⟨w.heap.size, 0, none⟩) size 8 (be size n) hW (roomArr_reads size n hs8 W _ h3) (fun ad e => by cases e; have := HW.out.blk.lt; simp; omega) hlen
    clear hW h3
    gi_wp2_with (refine ⟨trivial, ?_⟩; gi_at_call 68; refine (callsIn_wide.2 hp).mono ?_; rintro e w' ⟨⟨x, rfl⟩, A', c', u', h5, h6, h7⟩)
    have hDW : D < W.heap.size := (Array.getElem?_eq_some_iff.1 hK).1
    have hDf : ¬ foot b A u D := fun h => by have := HW.out.foot_lt D h; omega
    have hK' : w'.heap[D]? = some (Obj.deferred (some [])) := (h7.block D hDW hDf).trans hK
    rw [Exit.noGoto_ret]
    refine ⟨by simp, .inl ⟨_, _, rfl, run_takeDeferred hK', ?_⟩⟩
    have hk2 : Keep (fun k => k = D) w' (w'.putObj D (.deferred none)) := (Keep.refl (fun k => k = D) w').grown (grownBy_putObj' w' D (.deferred none)) (fun g e _ => by cases e; rfl)
    refine ⟨_, results_tmp rfl _ _ _, rfl, A', c', u', h5.keep hk2 (fun k hk e => ?_), fun k hk => ?_, ?_⟩
    · subst e
      rcases h6 k hk with h | h
      · exact hDf h
      · omega
    · rcases h6 k hk with h | h
      · exact .inl h
      · exact .inr (Nat.le_trans h4.size h)
    · exact ((Keep.of_below (S := foot b A u) h4).trans h7 (fun _ _ h => h)).trans hk2 (fun i hi e => by omega)
end
end Go.Proofs.YtoiopoghcjkgcaaGreat

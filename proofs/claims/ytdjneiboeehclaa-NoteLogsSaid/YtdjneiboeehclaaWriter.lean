/-
  The Writer's Num: its sizes, what fits, the iterator of a number's bytes (the lowest one first, without end), and the bytes that are put.
  The Writer's Num, whole: an error and nothing written, or the number's bytes behind what was written.
  The Writer's other calls: Int, Raw, Text, Len, Bytes.
-/
import Derived.Test.YtdjneiboeehclaaPut
import Derived.WalkMore
namespace Go.Proofs.Ytdjneiboeehclaa
open Go.RowKit

/-! ### PLAIN -/
/-- Byte number k of n, the lowest one being 0. -/
def lowByte (n k : Nat) : UInt8 := UInt8.ofNat (n / 256 ^ k % 256)
/-- A number of size bytes, the highest one first. -/
def be (size n : Nat) : List UInt8 := (List.range size).map fun i => lowByte n (size - 1 - i)
def sized (size : Int) : Bool := size = 1 || size = 2 || size = 4 || size = 8
def fitsB (size n : Nat) : Bool := decide (n < 256 ^ size)
theorem be_length (size n : Nat) : (be size n).length = size := by simp [be]
theorem lowByte_toNat (n k : Nat) : (lowByte n k).toNat = n / 256 ^ k % 256 := by
  unfold lowByte
  rw [UInt8.toNat_ofNat']
  exact Nat.mod_mod_of_dvd _ (by decide)

theorem bv_low (n k : Nat) : bv (lowByte n k) = .int .u8 ((n : Int) / 256 ^ k % 256) := by
  unfold bv
  rw [lowByte_toNat]
  simp

theorem isSize_any (size : Int) (w : World) (h1 : -9223372036854775808 ≤ size) (h2 : size ≤ 9223372036854775807) :
    Calls Try.prog 42 #[.int .i64 size] w fun e w' => e = .returned (.bool (sized size)) ∧ w = w' := by
  unfold sized
  by_cases a1 : size = 1
  · subst a1
    go_enter Try.func42, Try.ntmps42
    go_wp2
    go_ret
    exact ⟨rfl, rfl⟩
  by_cases a2 : size = 2
  · subst a2
    go_enter Try.func42, Try.ntmps42
    go_wp2
    go_ret
    exact ⟨rfl, rfl⟩
  by_cases a4 : size = 4
  · subst a4
    go_enter Try.func42, Try.ntmps42
    go_wp2
    go_ret
    exact ⟨rfl, rfl⟩
  by_cases a8 : size = 8
  · subst a8
    go_enter Try.func42, Try.ntmps42
    go_wp2
    go_ret
    exact ⟨rfl, rfl⟩
  have b1 : (size == 1) = false := by simpa using a1
  have b2 : (size == 2) = false := by simpa using a2
  have b4 : (size == 4) = false := by simpa using a4
  have b8 : (size == 8) = false := by simpa using a8
  go_enter Try.func42, Try.ntmps42
  go_wp2
  go_ret
  exact ⟨by simp [a1, a2, a4, a8], rfl⟩

theorem shr_fits (size n : Nat) : ((n : Int) / 2 ^ (8 * size) == 0) = fitsB size n := by
  unfold fitsB
  rw [show (2 : Int) ^ (8 * size) = ((256 ^ size : Nat) : Int) from by rw [Int.pow_mul]; simp]
  rw [show ((n : Int) / ((256 ^ size : Nat) : Int)) = ((n / 256 ^ size : Nat) : Int) from rfl]
  rw [Bool.eq_iff_iff, beq_iff_eq, decide_eq_true_iff, ← Nat.div_eq_zero_iff_lt (Nat.pow_pos (by decide))]
  omega

theorem fits_any (size n : Nat) (w : World) (hs : size = 1 ∨ size = 2 ∨ size = 4 ∨ size = 8) :
    Calls Try.prog 43 #[.int .i64 size, .int .u64 n] w fun e w' => e = .returned (.bool (fitsB size n)) ∧ w = w' := by
  go_enter Try.func43, Try.ntmps43
  go_wp2
  go_ret
  exact ⟨by rw [shr_fits]; rfl, rfl⟩

theorem low_any (n : Nat) (w : World) : Calls Try.prog 44 #[.int .u64 n] w fun e w' => e = .returned (.func (.func 53) #[] #[.pointer (some ⟨w.heap.size, 0, none⟩)]) ∧ w.alloc (.cells #[.int .u64 n] 61) = w' := by
  go_enter Try.func44, Try.ntmps44
  go_wp2
  go_ret
  exact ⟨rfl, rfl⟩

open Classical in
/-- How many rounds are over, told by J. -/
noncomputable def over (J : Nat → World → Prop) (W : World) : Nat := if h : ∃ k, J k W then Classical.choose h else 0
theorem over_eq {J : Nat → World → Prop} {W : World} {k : Nat} (hu : ∀ k k' W, J k W → J k' W → k = k') (h : J k W) : over J W = k := by
  have hex : ∃ k, J k W := ⟨k, h⟩
  unfold over
  rw [dif_pos hex]
  exact hu _ _ W (Classical.choose_spec hex) h

section
attribute [local go_sem] Oper.semAt_some
set_option maxRecDepth 100000 in
set_option maxHeartbeats 1000000 in
/-- The iterator of a number's bytes: it ends only where a round has said so. -/
theorem low_left (F : Fence) (n : Nat) (h6 : F.fn 53) (hro : F.round = none) (h1 : 1 ≤ n) (C nn N : Nat) (w : World) (hC : C < w.heap.size) (hnn : nn < 18446744073709551616)
    (hc : w.cell? ⟨C, 0, none⟩ = some (.int .u64 nn)) :
    SeqLeft F n Try.prog 53 #[.pointer (some ⟨C, 0, none⟩)] (fun k => #[bv (lowByte nn k)]) N w := by
  intro l J Jx W hW hJN hJu hY h0
  have hC' : W.cell? ⟨C, 0, none⟩ = some (.int .u64 nn) := (hW.cell (p := ⟨C, 0, none⟩) hC).trans hc
  refine callsIn_of_wp Try.func53 rfl h6 ?_ hro
  simp only [Try.ntmps53, List.size_toArray, List.length_cons, List.length_nil, Nat.reduceAdd, Nat.reduceSub, Array.replicate_succ, Array.replicate_zero, List.push_toArray, List.append_toArray, List.nil_append, List.cons_append]
  gi_wp2
  gi_loopw [3] (fun p wr => ∃ k, p = .int .u64 ((nn / 256 ^ k : Nat) : Int) ∧ J k wr)
    (fun p wr => N - over J wr)
  case atStart => exact ⟨0, by simp, h0⟩
  case round =>
    obtain ⟨k, rfl, hJ⟩ := hrel
    have hlt := hJN k wr hJ
    obtain ⟨fn, tmps, assign, body, hy, hR⟩ := hY k wr hJ
    have hk : nn / 256 ^ k < 18446744073709551616 := Nat.lt_of_le_of_lt (Nat.div_le_self _ _) hnn
    rw [bv_low] at hy
    gi_wp2
    refine hR.mono ?_
    rintro e W3 (⟨rfl, hJ3⟩ | ⟨rfl, hJx3⟩)
    · gi_wp2
      go_roundw
      case rel => exact ⟨k + 1, by rw [Nat.pow_succ, ← Nat.div_div_eq_div_mul]; simp, hJ3⟩
      case measure =>
        have := hJN _ _ hJ3
        rw [over_eq hJu hJ3, over_eq hJu hJ]
        omega
    · gi_wp2
      go_end0
      exact ⟨⟨_, rfl⟩, hJx3⟩
end

end Go.Proofs.Ytdjneiboeehclaa

namespace Go.Proofs.Ytdjneiboeehclaa
open Go.RowKit

/-- The room of eight bytes, k rounds over. -/
def roomArr (size n k : Nat) : Array Value := ((List.range 8).map fun i => if size ≤ i + k ∧ i < size then bv (lowByte n (size - 1 - i)) else .int .u8 0).toArray

theorem roomArr_zero (size n : Nat) : roomArr size n 0 = #[.int .u8 0, .int .u8 0, .int .u8 0, .int .u8 0, .int .u8 0, .int .u8 0, .int .u8 0, .int .u8 0] := by
  have h : ∀ i, ¬ (size ≤ i + 0 ∧ i < size) := fun i => by omega
  unfold roomArr
  simp only [if_neg (h _)]
  rfl

theorem roomArr_step (size n k r : Nat) (h : r + 1 + k = size) (h8 : size ≤ 8) : (roomArr size n k).setIfInBounds r (bv (lowByte n k)) = roomArr size n (k + 1) := by
  apply Array.ext
  · simp [roomArr]
  · intro i h1 h2
    have hi : i < 8 := by simpa [roomArr] using h2
    rw [Array.getElem_setIfInBounds (by simpa [roomArr] using hi)]
    simp only [roomArr, List.getElem_toArray, List.getElem_map, List.getElem_range]
    by_cases e : r = i
    · subst e
      rw [if_pos rfl, if_pos ⟨by omega, by omega⟩]
      congr 2
      omega
    · rw [if_neg e]
      by_cases g : size ≤ i + k ∧ i < size
      · rw [if_pos g, if_pos ⟨by omega, g.2⟩]
      · rw [if_neg g, if_neg (by omega)]

theorem roomArr_reads (size n : Nat) (h8 : size ≤ 8) (W : World) (R : Nat) (h : Blk W R 81 (roomArr size n size)) : Reads W W.heap.size 1 (some ⟨R, 0, none⟩) size ((be size n).map bv) := by
  refine ⟨by simp [be], fun h0 => ⟨_, rfl, h.lt, fun j u hu => ?_⟩⟩
  have hj : j < size := by
    have := (List.getElem?_eq_some_iff.1 hu).1
    simpa [be] using this
  have hp : (⟨R, 0, none⟩ : Addr).add j = ⟨R, j, none⟩ := by unfold Addr.add; split <;> simp_all
  rw [hp, h.cell j]
  simp only [be, List.map_map, List.getElem?_map, List.getElem?_range hj, Option.map_some] at hu
  rw [← hu]
  simp only [roomArr]
  rw [List.getElem?_toArray, List.getElem?_map, List.getElem?_range (by omega), Option.map_some, if_pos ⟨by omega, hj⟩]
  rfl

theorem blk_own {W W' : World} {B g : Nat} {t : TypeId} {cs : Array Value} {row : Option Nat} (h : Blk W g t cs) (hg : W.grownBy W' row) (hr : ∀ r, row = some r → B ≤ r ∧ ∃ o : Obj, W.heap[r]? = some o ∧ o.isCells = false) : Blk W' g t cs :=
  h.grown hg (fun e => by
    obtain ⟨_, o, ho, hc⟩ := hr g e.symm
    rw [show W.heap[g]? = _ from h] at ho
    cases ho
    cases hc)

theorem wpIn_scope_wide {n : Nat} {P : Program} {c : Code} {Q : Exit → Act → World → Prop} {a : Act} {w : World} (h : c.wpIn Fence.wide n P (Exit.noGoto Q) a w) : (Code.scope c).wpIn Fence.wide n P Q a w :=
  wpIn_wide.2 (wp_scope_straight (wpIn_wide.1 h))

/-- Num on nil, or of another size. -/
theorem wnum_nil (size n : Int) (w : World) : Calls Try.prog 29 #[.pointer none, .int .i64 size, .int .u64 n] w fun e w' => e = .returned (.int .i64 1) ∧ w = w' := by
  go_enter Try.func29, Try.ntmps29
  go_wp2
  go_step3
  go_wp2
  rw [Exit.noGoto_ret]
  go_ret
  exact ⟨rfl, rfl⟩

theorem wnum_arg (b : Nat) (size n : Int) (w : World) (h1 : -9223372036854775808 ≤ size) (h2 : size ≤ 9223372036854775807) (hs : sized size = false) :
    Calls Try.prog 29 #[.pointer (some ⟨b, 0, none⟩), .int .i64 size, .int .u64 n] w fun e w' => e = .returned (.int .i64 2) ∧ w = w' := by
  go_enter Try.func29, Try.ntmps29
  go_wp2
  go_step3
  go_wp2_with (go_at_call 42; refine (isSize_any _ _ h1 h2).mono ?_; rintro e w' ⟨rfl, rfl⟩)
  rw [Exit.noGoto_ret]
  go_ret
  exact ⟨rfl, rfl⟩

theorem sized_of {size : Nat} (hs : size = 1 ∨ size = 2 ∨ size = 4 ∨ size = 8) : sized (size : Int) = true := by
  unfold sized
  rcases hs with rfl | rfl | rfl | rfl <;> rfl

theorem wnum_much (b size n : Nat) (w : World) (hs : size = 1 ∨ size = 2 ∨ size = 4 ∨ size = 8) (hf : fitsB size n = false) :
    Calls Try.prog 29 #[.pointer (some ⟨b, 0, none⟩), .int .i64 size, .int .u64 n] w fun e w' => e = .returned (.int .i64 10) ∧ w = w' := by
  have h0 := sized_of hs
  have h8 : (size : Int) ≤ 9223372036854775807 := by omega
  have c1 := isSize_any size w (by omega) h8
  have c2 := fits_any size n w hs
  have H := Lib.hid hs
  clear hs
  go_enter Try.func29, Try.ntmps29
  go_wp2
  go_step3
  go_wp2_with (first
    | (go_at_call 42; refine c1.mono ?_; rintro e w' ⟨rfl, rfl⟩)
    | (go_at_call 43; refine c2.mono ?_; rintro e w' ⟨rfl, rfl⟩))
  rw [Exit.noGoto_ret]
  go_ret
  exact ⟨rfl, rfl⟩

theorem slice8 (W : World) (R size : Nat) (h : size ≤ 8) : (Instr.sliceAt 81 (.pointer (some ⟨R, 0, none⟩)) none (some (.int .i64 size)) none).run Try.prog W = .ok (.slice (some ⟨R, 0, none⟩) size 8) W := by
  obtain ⟨i0, hi, hz0, hz1, hz2⟩ := info_parts infoU8
  have z5 : ∀ w, Sem.run Try.prog (Go.sizeOf 5) w = .ok 1 w := fun w => by simp [Go.sizeOf, typeInfo, hi, hz1]
  have ht : Try.prog.underlying 81 = some (.array (Try.prog.arrayLen 81) (Try.prog.elem 81)) := by kernel_rfl
  have hl : Try.prog.arrayLen 81 = 8 := by kernel_rfl
  have he : Try.prog.elem 81 = 5 := by kernel_rfl
  rw [run_sliceAt_array_h W 81 ⟨R, 0, none⟩ ht .i64 size (by omega) (by rw [hl]; omega), hl, he, z5]
  simp [slicedAt, Addr.add, Result.andThen]

section
attribute [local go_sem] Oper.semAt_some
set_option maxRecDepth 100000 in
set_option maxHeartbeats 2000000 in
theorem wnum_ok (w : World) (b : Nat) (A : Option Addr) (c : Nat) (u : Option Addr) (l : List UInt8) (hw : Wr w b A c u l) (size n : Nat) (hs : size = 1 ∨ size = 2 ∨ size = 4 ∨ size = 8) (hf : fitsB size n = true)
    (hn : n < 18446744073709551616) (hlen : l.length + size ≤ 140737488355328) :
    Calls Try.prog 29 #[.pointer (some ⟨b, 0, none⟩), .int .i64 size, .int .u64 n] w fun e w' => e = .returned (.int .i64 0) ∧ ∃ A' c' u', Wr w' b A' c' u' (l ++ be size n) ∧
      (∀ k, foot b A' u' k → foot b A u k ∨ w.heap.size ≤ k) ∧ Keep (foot b A u) w w' := by
  have h0 := sized_of hs
  have h8 : (size : Int) ≤ 9223372036854775807 := by omega
  have hs8 : size ≤ 8 := by omega
  have hs1 : 1 ≤ size := by omega
  have c1 := isSize_any size w (by omega) h8
  have c2 := fits_any size n w hs
  have H := Lib.hid hs
  have HW := Lib.hid hw
  clear hs hw
  refine (callsIn_wide (n := 5)).1 ?_
  refine callsIn_of_wp_marks Try.func29 rfl trivial ?_
  simp only [Try.ntmps29, List.size_toArray, List.length_cons, List.length_nil, Nat.reduceAdd, Nat.reduceSub, Array.replicate_succ, Array.replicate_zero, List.push_toArray, List.append_toArray, List.nil_append, List.cons_append]
  gi_wp2
  refine wpIn_scope_wide ?_
  gi_wp2_with (first
    | (refine ⟨trivial, ?_⟩; gi_at_call 42; refine (callsIn_wide.2 c1).mono ?_; rintro e w' ⟨rfl, rfl⟩)
    | (refine ⟨trivial, ?_⟩; gi_at_call 43; refine (callsIn_wide.2 c2).mono ?_; rintro e w' ⟨rfl, rfl⟩))
  refine wpIn_label ?_
  gi_wp2_with (refine ⟨trivial, ?_⟩; gi_at_call 44; refine (callsIn_wide.2 (low_any _ _)).mono ?_; rintro e w' ⟨rfl, rfl⟩)
  obtain ⟨w3, hw3⟩ : ∃ w3, ((w.alloc (.cells #[.int .u8 0, .int .u8 0, .int .u8 0, .int .u8 0, .int .u8 0, .int .u8 0, .int .u8 0, .int .u8 0] 81)).alloc (.cells #[.int .i64 size] 3)).alloc (.cells #[.int .u64 n] 61) = w3 := ⟨_, rfl⟩
  have hb3 : Below w.heap.size w w3 := by
    rw [← hw3]
    exact (((Below.refl _ w).alloc (Nat.le_refl _) _).alloc (by simp) _).alloc (by simp; omega) _
  have hz3 : w3.heap.size = w.heap.size + 3 := by rw [← hw3]; simp
  have hr3 : Blk w3 w.heap.size 81 (roomArr size n 0) := by
    rw [← hw3, roomArr_zero]
    exact ((Blk.new w _ _).alloc _).alloc _
  have ha3 : Blk w3 (w.heap.size + 1) 3 #[.int .i64 size] := by
    rw [← hw3]
    have := Blk.new (w.alloc (.cells #[.int .u8 0, .int .u8 0, .int .u8 0, .int .u8 0, .int .u8 0, .int .u8 0, .int .u8 0, .int .u8 0] 81)) 3 #[.int .i64 size]
    simp only [World.size_alloc] at this
    exact this.alloc _
  have hc3 : w3.cell? ⟨w.heap.size + 1 + 1, 0, none⟩ = some (.int .u64 n) := by
    rw [← hw3]
    have := (Blk.new ((w.alloc (.cells #[.int .u8 0, .int .u8 0, .int .u8 0, .int .u8 0, .int .u8 0, .int .u8 0, .int .u8 0, .int .u8 0] 81)).alloc (.cells #[.int .i64 size] 3)) 61 #[.int .u64 n]).cell 0
    simp only [World.size_alloc] at this
    exact this
  rw [hw3]
  clear hw3 c1 c2 h0
  refine wpIn_rangeFunc_left rfl (by omega) (gf := 53) (lb := #[.pointer (some ⟨w.heap.size + 1 + 1, 0, none⟩)]) rfl trivial (enters_of Try.func53 (by kernel_rfl) rfl)
    (low_left Fence.wide 4 trivial rfl (by omega) (w.heap.size + 1 + 1) n size w3 (by omega) hn hc3) (Below.refl _ _) (fun _ => rfl)
    (fun k W => ∃ r, 0 < r ∧ r + k = size ∧ Blk W (w.heap.size + 1) 3 #[.int .i64 (r : Nat)] ∧ Blk W w.heap.size 81 (roomArr size n k) ∧ Below w.heap.size w W)
    (fun c W => c = .exit 0 ∧ Blk W w.heap.size 81 (roomArr size n size) ∧ Below w.heap.size w W)
    (fun s W W' row ⟨r, h0, h1, h2, h3, h4⟩ hg hr => ⟨r, h0, h1, blk_own h2 hg hr, blk_own h3 hg hr, h4.grown hg h4.size (fun k e => by have := (hr k e).1; omega)⟩)
    (fun s W W' row ⟨h0, h3, h4⟩ hg hr => ⟨h0, blk_own h3 hg hr, h4.grown hg h4.size (fun k e => by have := (hr k e).1; omega)⟩)
    (fun k W ⟨r, h0, h1, _⟩ => by omega)
    (fun k k' W ⟨r, h0, h1, h2, _⟩ ⟨r', h0', h1', h2', _⟩ => by
      have e : #[Value.int .i64 (r : Nat)] = #[Value.int .i64 (r' : Nat)] := by
        have e := h2.symm.trans h2'
        injection e with e
        injection e
      have e' : (r : Int) = r' := by simpa using e
      omega)
    ⟨size, hs1, rfl, ha3, hr3, hb3⟩
    (fun k => { tmps := #[.pointer (some ⟨b, 0, none⟩), .int .i64 size, .int .u64 n, undef,
          undef, undef, .int .i64 0, .pointer (some ⟨w.heap.size, 0, none⟩),
          .pointer (some ⟨w.heap.size + 1, 0, none⟩), .int .u8 ((lowByte n k).toNat : Int),
          .pointer (some ⟨b, 0, none⟩), .bool false, .int .i64 size, .bool true,
          .bool false, .int .i64 size, .int .u64 n, .bool true, .bool false,
          .int .i64 size, .int .u64 n,
          .func (.func 53) #[] #[.pointer (some ⟨w.heap.size + 1 + 1, 0, none⟩)], .int .u8 ((lowByte n k).toNat : Int), undef,
          undef, undef, undef, undef, undef, undef, undef, undef, undef, undef], defers := [] }) ?assign ?body ?stop
  case assign =>
    intro l k W K hK
    gi_wp2
    exact hK
  case body =>
    rintro l k W ⟨r, h0, h1, h2, h3, h4⟩
    obtain ⟨r, rfl⟩ : ∃ q, r = q + 1 := ⟨r - 1, by omega⟩
    have hrr := roomArr_step size n k r (by omega) hs8
    have ca : W.cell? ⟨w.heap.size + 1, 0, none⟩ = some (.int .i64 ((r + 1 : Nat) : Int)) := h2.cell 0
    have fa := h2.frozen 0
    have hlt : r < 8 := by omega
    have cr : W.cell? ⟨w.heap.size, r, none⟩ = some ((roomArr size n k).getD r undef) := by
      rw [h3.cell r]
      simp [roomArr, hlt]
    have fr := h3.frozen r
    have H2 := Lib.hid h2
    have H3 := Lib.hid h3
    have HR := Lib.hid hrr
    have H1 := Lib.hid h1
    clear h2 h3 hrr h1
    by_cases hr0 : r = 0
    · subst hr0
      gi_wp2
      have hk1 : size = k + 1 := by have := H1.out; omega
      have hR := HR.out
      have hne : w.heap.size ≠ w.heap.size + 1 := by omega
      refine ⟨((KeepsOthers.setCell _ _ _).trans (KeepsOthers.setCell _ _ _)).from _, rfl, ?_, ?_⟩
      · have h := (H3.out.far (p := ⟨w.heap.size + 1, 0, none⟩) hne (.int .i64 0)).set_ 0 (bv (lowByte n k))
        rw [hR, ← hk1] at h
        exact h
      · exact (h4.setCell (p := ⟨w.heap.size + 1, 0, none⟩) (by simp) _).setCell (p := ⟨w.heap.size, 0, none⟩) (Nat.le_refl _) _
    · gi_wp2
      have hR := HR.out
      have hne : w.heap.size ≠ w.heap.size + 1 := by omega
      refine ⟨((KeepsOthers.setCell _ _ _).trans (KeepsOthers.setCell _ _ _)).from _, r, by omega, by have := H1.out; omega, ?_, ?_, ?_⟩
      · exact (H2.out.set_ 0 (.int .i64 r)).far (p := ⟨w.heap.size, r, none⟩) (Ne.symm hne) _
      · have h := (H3.out.far (p := ⟨w.heap.size + 1, 0, none⟩) hne (.int .i64 r)).set_ r (bv (lowByte n k))
        rw [hR] at h
        exact h
      · exact (h4.setCell (p := ⟨w.heap.size + 1, 0, none⟩) (by simp) _).setCell (p := ⟨w.heap.size, r, none⟩) (Nat.le_refl _) _
  case stop =>
    rintro D c' W hD ⟨rfl, h3, h4⟩ hK
    have hs := slice8 W w.heap.size size hs8
    have hW : Wr W b A c u l := HW.out.keep (Keep.of_below (S := fun _ => False) h4) (fun _ _ h => h)
    have hp := put_any W b A c u l (some ⟨w.heap.size, 0, none⟩) size 8 (be size n) hW (roomArr_reads size n hs8 W _ h3) (fun ad e => by cases e; have := HW.out.blk.lt; simp; omega) hlen
    clear hW h3
    gi_wp2_with (refine ⟨trivial, ?_⟩; gi_at_call 45; refine (callsIn_wide.2 hp).mono ?_; rintro e w' ⟨⟨x, rfl⟩, A', c', u', h5, h6, h7⟩)
    have hDW : D < W.heap.size := (Array.getElem?_eq_some_iff.1 hK).1
    have hDf : ¬ foot b A u D := fun h => by have := HW.out.foot_lt D h; omega
    have hK' : w'.heap[D]? = some (Obj.deferred (some [])) := (h7.block D hDW hDf).trans hK
    rw [Exit.noGoto_ret]
    refine ⟨by simp, .inl ⟨_, _, rfl, run_takeDeferred hK', ?_⟩⟩
    have hk2 : Keep (fun k => k = D) w' (w'.putObj D (.deferred none)) := (Keep.refl (fun k => k = D) w').grown (grownBy_putObj' w' D (.deferred none)) (fun g e _ => by cases e; rfl)
    refine ⟨_, results_tmp rfl _ _ _, rfl, A', c', u', h5.keep hk2 (fun k hk e => ?_), fun k hk => ?_, ?_⟩
    · subst e
      rcases h6 k hk with h | h
      · exact hDf h
      · omega
    · rcases h6 k hk with h | h
      · exact .inl h
      · exact .inr (Nat.le_trans h4.size h)
    · exact ((Keep.of_below (S := foot b A u) h4).trans h7 (fun _ _ h => h)).trans hk2 (fun i hi e => by omega)
end
end Go.Proofs.Ytdjneiboeehclaa

namespace Go.Proofs.Ytdjneiboeehclaa
open Go.RowKit

/-- The Writer at b (row A, count u) has written l' behind what it did from w to w'; nothing else that lay there has turned. -/
def Wrote (w w' : World) (b : Nat) (A u : Option Addr) (l' : List UInt8) : Prop :=
  ∃ A' c' u', Wr w' b A' c' u' l' ∧ (∀ k, foot b A' u' k → foot b A u k ∨ w.heap.size ≤ k) ∧ Keep (foot b A u) w w'

theorem Wrote.same {w : World} {b c : Nat} {A u : Option Addr} {l : List UInt8} (h : Wr w b A c u l) : Wrote w w b A u l := ⟨A, c, u, h, fun _ h => .inl h, Keep.refl _ _⟩

theorem Wrote.trans {w w1 w2 w3 : World} {b : Nat} {A A1 u u1 : Option Addr} {l2 : List UInt8} (hf : ∀ k, foot b A1 u1 k → foot b A u k ∨ w.heap.size ≤ k) (hk : Keep (foot b A u) w w1) (hb : Below w1.heap.size w1 w2)
    (h2 : Wrote w2 w3 b A1 u1 l2) : Wrote w w3 b A u l2 := by
  obtain ⟨A', c', u', h3, h4, h5⟩ := h2
  refine ⟨A', c', u', h3, fun k h => ?_, ((hk.trans (Keep.of_below (S := foot b A u) hb) (fun _ _ h => h)).trans h5 (fun k hlt h => ?_))⟩
  · rcases h4 k h with h | h
    · exact hf k h
    · exact .inr (Nat.le_trans hk.size (Nat.le_trans hb.size h))
  · rcases hf k h with h | h
    · exact h
    · omega

theorem wrap_u64 (n : Int) : IntKind.u64.wrap n = ((n % 18446744073709551616).toNat : Int) := by
  rw [Int.toNat_of_nonneg (by omega)]
  simp [IntKind.wrap, IntKind.bits, IntKind.signed]

theorem wint_any (w : World) (b : Nat) (A : Option Addr) (c : Nat) (u : Option Addr) (l : List UInt8) (hw : Wr w b A c u l) (n : Int) (hlen : l.length + 8 ≤ 140737488355328) :
    Calls Try.prog 30 #[.pointer (some ⟨b, 0, none⟩), .int .i64 n] w fun e w' => e = .returned (.int .i64 0) ∧ Wrote w w' b A u (l ++ be 8 (n % 18446744073709551616).toNat) := by
  have hc := wnum_ok w b A c u l hw 8 (n % 18446744073709551616).toNat (.inr (.inr (.inr rfl))) (by simp [fitsB]; omega) (by omega) hlen
  rw [← wrap_u64] at hc
  have H := Lib.hid hc
  clear hc hw
  go_enter Try.func30, Try.ntmps30
  go_wp2_with (go_at_call 29; refine H.out.mono ?_; rintro e w' ⟨rfl, hq⟩)
  go_ret
  exact ⟨rfl, hq⟩

theorem wint_nil (n : Int) (w : World) : Calls Try.prog 30 #[.pointer none, .int .i64 n] w fun e w' => e = .returned (.int .i64 1) ∧ w = w' := by
  go_enter Try.func30, Try.ntmps30
  go_wp2_with (go_at_call 29; refine (wnum_nil _ _ _).mono ?_; rintro e w' ⟨rfl, rfl⟩)
  go_ret
  exact ⟨rfl, rfl⟩

theorem wbytes_nil (w : World) : Calls Try.prog 31 #[.pointer none] w fun e w' => e = .returned (.slice none 0 0) ∧ w = w' := by
  go_enter Try.func31, Try.ntmps31
  go_wp2
  go_ret
  exact ⟨rfl, rfl⟩

theorem wbytes_any (w : World) (b : Nat) (A : Option Addr) (c : Nat) (u : Option Addr) (l : List UInt8) (hw : Wr w b A c u l) (hn : l.length ≤ 140737488355328) :
    Calls Try.prog 31 #[.pointer (some ⟨b, 0, none⟩)] w fun e w' => ∃ A' c', e = .returned (.slice A' l.length c') ∧ w'.ownsRow w.heap.size 5 1 (.slice A' l.length c') l.length (l.map bv) ∧ Below w.heap.size w w' := by
  have c0 : w.cell? ⟨b, 0, none⟩ = some (.slice A l.length c) := hw.blk.cell 0
  have hc := clone_any A l.length c l w hw.reads hn
  have H := Lib.hid hc
  clear hc hw
  go_enter Try.func31, Try.ntmps31
  go_wp2_with (go_at_call 46; refine H.out.mono ?_; rintro e w' ⟨A', c', rfl, h1, h2⟩)
  go_ret
  exact ⟨A', c', rfl, h1, h2⟩

end Go.Proofs.Ytdjneiboeehclaa

/-
  The disk of layer 3: which sectors a crash keeps (marked).
-/
import Derived.Test.YtkebbjodkhjbmaaKDiskN
namespace Go.Proofs.Ytkebbjodkhjbmaa
open Go.RowKit Go.Maps

/-- Of each sector whether the list names it. -/
def marks (n : Nat) (l : List Int) : List Value := (List.range n).map fun (k : Nat) => Value.bool (decide ((k : Int) ∈ l))
theorem marks_length (n : Nat) (l : List Int) : (marks n l).length = n := by unfold marks; simp
theorem marks_at {n k : Nat} {l : List Int} (h : k < n) : (marks n l)[k]? = some (.bool (decide ((k : Int) ∈ l))) := by
  unfold marks
  rw [List.getElem?_map, List.getElem?_range h]
  rfl
theorem marks_none {n : Nat} {l : List Int} {x : Int} (h : ¬ (0 ≤ x ∧ x < (n : Int))) : marks n (l ++ [x]) = marks n l := by
  apply List.ext_getElem?
  intro k
  by_cases hk : k < n
  · rw [marks_at hk, marks_at hk]
    have : ((k : Int) ∈ l ++ [x]) ↔ (k : Int) ∈ l := by
      rw [List.mem_append, List.mem_singleton]
      constructor
      · rintro (h1 | h1)
        · exact h1
        · omega
      · exact .inl
    rw [decide_eq_decide.2 this]
  · rw [List.getElem?_eq_none (by rw [marks_length]; omega), List.getElem?_eq_none (by rw [marks_length]; omega)]
theorem marks_snoc {n k : Nat} {l : List Int} : marks n (l ++ [(k : Int)]) = (marks n l).set k (.bool true) := by
  apply List.ext_getElem?
  intro j
  by_cases hj : j < n
  · rw [marks_at hj]
    by_cases e : k = j
    · subst e
      rw [List.getElem?_set_self (by rw [marks_length]; exact hj), decide_eq_true (List.mem_append_right _ (List.mem_singleton.2 rfl))]
    · rw [List.getElem?_set_ne e, marks_at hj]
      have : ((j : Int) ∈ l ++ [(k : Int)]) ↔ (j : Int) ∈ l := by
        rw [List.mem_append, List.mem_singleton]
        constructor
        · rintro (h1 | h1)
          · exact h1
          · omega
        · exact .inl
      rw [decide_eq_decide.2 this]
  · rw [List.getElem?_eq_none (by rw [marks_length]; omega), List.getElem?_eq_none (by rw [List.length_set, marks_length]; omega)]

theorem infoBool : (Try.prog.info? 4).map (fun i => (i.zero, i.size, i.bytes)) = some (some (.bool false), 1, 1) := by kernel_rfl

section
variable {w : World} {d : DAt} {kv : Value} {s : RSt}

set_option maxRecDepth 100000 in
set_option maxHeartbeats 2000000 in
theorem dmarked_any (A : Option Addr) (c n : Nat) (l : List Int) (h : DK w d kv s) (hl : l.length = n) (hr : Reads w w.heap.size 1 A n (l.map iv)) (hn : n ≤ 9223372036854775807) :
    Calls Try.prog 47 #[.pointer (some ⟨d.b, 0, none⟩), .slice A n c] w fun e w' => ∃ g, e = .returned (.slice (some ⟨g, 0, none⟩) s.stays.length s.stays.length) ∧ w.heap.size ≤ g ∧ Blk w' g 4 (marks s.stays.length l).toArray ∧ Below w.heap.size w w' := by
  obtain ⟨i0, hi, hz0, hz1, hz2⟩ := info_parts infoBool
  have c1 : w.cell? ⟨d.b, 1, none⟩ = some (.slice (some ⟨d.g, 0, none⟩) s.stays.length d.cS) := h.blk.cell 1
  have hf := h.ok.few
  have H := Lib.hid h
  have HR := Lib.hid hr
  have HL := Lib.hid hl
  have HH : Hid (∀ (a : Int) (W : World), Below w.heap.size w W → Calls Try.prog 31 #[.pointer (some ⟨d.b, 0, none⟩), .int .i64 a] W fun e w' => e = .returned (.bool (decide (0 ≤ a ∧ a < (s.stays.length : Int)))) ∧ W = w') := Lib.hid (fun a W hb => dhas_any a (h.below hb))
  generalize hN : s.stays.length = N at *
  clear h hr hl hN
  have hmk : ∀ w : World, (Instr.makeSlice 80 (.int .i64 (N : Int)) (.int .i64 (N : Int))).run Try.prog w = .ok (.slice (some ⟨w.heap.size, 0, none⟩) N N) (w.alloc (.cells (marks N []).toArray 4)) := fun w => by
    have := run_make (P := Try.prog) w 80 4 i0 _ Try.underlying80 hi hz0 .i64 .i64 (N : Int) (N : Int) (by omega) (by omega) (by rw [hz2]; omega) (by omega)
    rw [hz1, Int.toNat_natCast, Nat.mul_one] at this
    have e : madeCells (Value.cells (.bool false)) N = (marks N []).toArray := by
      have h1 := toList_madeCells_one (.bool false) N
      apply Array.toList_inj.1
      show (madeCells #[Value.bool false] N).toList = _
      rw [h1]
      apply List.ext_getElem?
      intro k
      by_cases hk : k < N
      · rw [show (marks N []).toArray.toList = marks N [] from rfl, marks_at hk, List.getElem?_replicate, if_pos hk]
        simp
      · rw [List.getElem?_eq_none (by rw [List.length_replicate]; omega), List.getElem?_eq_none (by show (marks N []).length ≤ k; rw [marks_length]; omega)]
    rw [e] at this
    exact this
  obtain ⟨W1, hW1⟩ : ∃ W1, w.alloc (.cells (marks N []).toArray 4) = W1 := ⟨_, rfl⟩
  have hB1 : Below w.heap.size w W1 := by rw [← hW1]; exact (Below.refl _ w).alloc (Nat.le_refl _) _
  have hb1 : Blk W1 w.heap.size 4 (marks N []).toArray := by rw [← hW1]; exact Blk.new w _ _
  obtain ⟨M0, hM0⟩ : ∃ M0, (marks N []).toArray = M0 := ⟨_, rfl⟩
  have HM0 := Lib.hid hM0
  have HB1 := Lib.hid hB1
  have HBK := Lib.hid hb1
  rw [hM0] at hmk hW1
  clear hB1 hb1 hi hz0 hz1 hz2 hM0
  go_enter Try.func47, Try.ntmps47
  go_wp2
  try rw [hW1]
  clear hW1 hmk
  go_loopw [16] (fun i wr => ∃ j, j ≤ n ∧ i = .int .i64 ((j : Nat) : Int) ∧ Blk wr w.heap.size 4 (marks N (l.take j)).toArray ∧ Below w.heap.size w wr) (fun i _ => n - (RowKit.intOf i).toNat)
  case atStart => exact ⟨0, Nat.zero_le _, rfl, by rw [List.take_zero]; exact HBK.out, HB1.out⟩
  case round =>
    obtain ⟨j, hj, rfl, hblk, hbw⟩ := hrel
    by_cases hlt : j < n
    · obtain ⟨ad, rfl, _, cA⟩ := (HR.out.below hbw).int_at hlt HL.out
      have hjl : j < l.length := by have := HL.out; omega
      have hst : l.take (j + 1) = l.take j ++ [l[j]] := List.take_succ_eq_append_getElem hjl
      generalize l[j] = x at *
      have HC := Lib.hid (HH.out x wr hbw)
      have HBW := Lib.hid hbw
      by_cases hx : 0 ≤ x ∧ x < (N : Int)
      · obtain ⟨k, rfl⟩ := Int.eq_ofNat_of_zero_le hx.1
        have hk : k < N := by omega
        have hc : ∃ v, wr.cell? ⟨w.heap.size, k, none⟩ = some v := ⟨_, (hblk.cell k).trans (Array.getElem?_eq_getElem (by rw [List.size_toArray, marks_length]; exact hk))⟩
        obtain ⟨v, hc⟩ := hc
        have hfz := hblk.frozen k
        have hn' : Blk (wr.setCell ⟨w.heap.size, k, none⟩ (.bool true)) w.heap.size 4 (marks N (l.take (j + 1))).toArray := by
          rw [hst, marks_snoc, ← List.setIfInBounds_toArray]
          exact hblk.set_ k (.bool true)
        have HN := Lib.hid hn'
        rw [decide_eq_true hx] at HC
        clear hst hblk hbw hn' hx
        go_wp2_with (go_at_call 31; refine HC.out.mono ?_; rintro e _ ⟨rfl, rfl⟩)
        exact ⟨⟨j + 1, by omega, by go_num, HN.out, HBW.out.setCell (p := ⟨w.heap.size, k, none⟩) (Nat.le_refl _) _⟩, by simp [RowKit.intOf]; omega⟩
      · have hn' : Blk wr w.heap.size 4 (marks N (l.take (j + 1))).toArray := by rw [hst, marks_none hx]; exact hblk
        have HN := Lib.hid hn'
        rw [decide_eq_false hx] at HC
        clear hst hblk hbw hn' hx
        go_wp2_with (go_at_call 31; refine HC.out.mono ?_; rintro e _ ⟨rfl, rfl⟩)
        exact ⟨⟨j + 1, by omega, by go_num, HN.out, HBW.out⟩, by simp [RowKit.intOf]; omega⟩
    · obtain rfl : j = n := by omega
      rw [List.take_of_length_le (by have := HL.out; omega)] at hblk
      have HB := Lib.hid hblk
      have HBW := Lib.hid hbw
      clear hblk hbw
      go_wp2
      go_ret
      exact ⟨_, rfl, Nat.le_refl _, HB.out, HBW.out⟩
end

end Go.Proofs.Ytkebbjodkhjbmaa

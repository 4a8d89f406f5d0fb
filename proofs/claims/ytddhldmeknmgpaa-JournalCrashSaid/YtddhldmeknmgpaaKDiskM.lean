/-
  The disk of layer 3: New, Arm.
  The disk of layer 3: which sectors a crash keeps (marked).
-/
import Derived.Test.YtddhldmeknmgpaaKDiskF
namespace Go.Proofs.Ytddhldmeknmgpaa
open Go.RowKit Go.Maps Go.MapKept Go.ChangeMaps

theorem uInts : ∀ w, Sem.run Try.prog (underlying 50) w = .ok (TypeDesc.slice 3) w := run_underlying Try.underlying50
theorem qInts : ∀ (w : World) (a : Option Addr) (n c n' c' : Nat), (binOp .eql 50 (.slice a n c) (.slice none n' c')).run Try.prog w = .ok (.bool a.isNone) w := fun w a n c n' c' => Lib.run_eql_slice_nil w _ _ a n c n' c' Try.underlying50

/-- A slice's block, if it has one, is from N on. -/
def Fresh (N : Nat) (v : Value) : Prop := ∀ ad n c, v = .slice (some ad) n c → N ≤ ad.block
theorem Fresh.nil (N : Nat) : Fresh N (.slice none 0 0) := fun ad n c e => by cases e
theorem Fresh.own {w : World} {N : Nat} {e : TypeId} {size n : Nat} {v : Value} {xs : List Value} (h : w.ownsRow N e size v n xs) : Fresh N v := by
  rcases h.2 with ⟨rfl, _⟩ | ⟨g, cap, cur, rfl, hb, _⟩
  · exact Fresh.nil N
  · intro ad n c e
    injection e with e
    injection e with e
    subst e
    exact hb
theorem Fresh.mono {N M : Nat} {v : Value} (h : Fresh N v) (hm : M ≤ N) : Fresh M v := fun ad n c e => Nat.le_trans hm (h ad n c e)

set_option maxHeartbeats 1000000 in
/-- slices.Clone of numbers. -/
theorem cloneI_any (A : Option Addr) (n c : Nat) (l : List Int) (w : World) (hl : l.length = n) (hr : Reads w w.heap.size 1 A n (l.map iv)) (hn : n ≤ 17592186044416) :
    Calls Try.prog 45 #[.slice A n c] w fun e w' => ∃ A' c', e = .returned (.slice A' n c') ∧ Head w' 3 (l.map iv) (.slice A' n c') ∧ Fresh w.heap.size (.slice A' n c') ∧ Below w.heap.size w w' := by
  obtain ⟨i0, hi, hz0, hz1, hz2⟩ := info_parts infoInt
  have q := qInts
  have z5 : ∀ w, Sem.run Try.prog (Go.sizeOf 3) w = .ok 1 w := fun w => by simp [Go.sizeOf, typeInfo, hi, hz1]
  rcases A with _ | ad
  · have h0 : n = 0 := by
      rcases Nat.eq_zero_or_pos n with h0 | h0
      · exact h0
      · obtain ⟨ad, h, _⟩ := hr.2 h0
        cases h
    subst h0
    obtain rfl : l = [] := List.eq_nil_of_length_eq_zero hl
    clear hr
    go_enter Try.func45, Try.ntmps45
    go_wp2
    go_ret
    exact ⟨_, _, rfl, Head.nil _ _, Fresh.nil _, Below.refl _ _⟩
  · go_enter Try.func45, Try.ntmps45
    go_wp2_with (at_builtin; refine wpList_append_any _ rfl _ _ 50 rfl w.heap.size 3 i0 (.int .i64 0) 1 8 Try.underlying50 hi hz0 hz1 hz2 rfl (by decide) _ _ _ rfl (World.ownsRow_made w #[] 0 (Nat.le_refl _) (Nat.zero_le _) rfl) w.heap.size (some ad) n c (l.map iv) rfl (hr.alloc (Nat.le_refl _) _) (iv_one l) (by unfold maxLen; omega) (by omega) (by simp) ?_)
    intro v' w1 hown hgrow hat
    have hB : Below w.heap.size w w1 := ((Below.refl _ w).alloc (Nat.le_refl _) _).grown hgrow (by simp) (by intro k hk; simp [Value.ownBlock] at hk; omega)
    have hF := Fresh.own hown
    obtain ⟨A', c', rfl⟩ : ∃ A' c', v' = .slice A' n c' := by
      rcases hown.2 with ⟨rfl, h0⟩ | ⟨g, cap, cur, e, hb, _⟩
      · exact ⟨none, 0, by rw [h0]⟩
      · exact ⟨_, cap, e⟩
    have hH : Head w1 3 (l.map iv) (.slice A' n c') := by
      have h2 : w1.ownsRow w.heap.size 3 1 (.slice A' n c') n (l.map iv) := by simpa using hown
      exact Head.own h2
    have HB := Lib.hid hB
    have HF := Lib.hid hF
    have HH := Lib.hid hH
    clear hat hB hF hH hown hgrow hr
    go_wp2
    go_ret
    exact ⟨_, _, rfl, HH.out, HF.out, HB.out⟩

def newSt (n : Nat) : RSt := ⟨List.replicate n (List.replicate 128 0), List.replicate n [], 0, [], 0, 0, 0, false⟩

theorem newSt_ok {n : Nat} (h : n ≤ 4096) : (newSt n).Ok := by
  refine ⟨by simp [newSt], by simpa [newSt] using h, fun l hl => ?_, fun l hl => ?_⟩
  · rw [(List.mem_replicate.1 hl).2, List.length_replicate]
  · rw [(List.mem_replicate.1 hl).2]
    exact .inl rfl
theorem newSt_more (n : Nat) : (newSt n).More := ⟨by simp [newSt], by simp [newSt], ⟨by simp [newSt], by simp [newSt]⟩, ⟨by simp [newSt], by simp [newSt]⟩, fun x hx => by cases hx⟩

theorem made_at {m i : Nat} (h : i < m) : (madeCells (secV (List.replicate 128 0)).cells m)[i]? = some (bv 0) := by
  have e : (secV (List.replicate 128 0)).cells = Array.replicate 128 (bv 0) := by
    show ((List.replicate 128 (0 : UInt8)).map bv).toArray = _
    rw [List.map_replicate, List.toArray_replicate]
  have hr : (Array.range m)[i]? = some i := by simp [h]
  unfold madeCells
  rw [e, Array.getElem?_map, hr, Option.map_some, Array.size_replicate]
  have hlt : i % 128 < (Array.replicate 128 (bv 0)).size := by rw [Array.size_replicate]; exact Nat.mod_lt _ (by decide)
  rw [getElem!_pos (Array.replicate 128 (bv 0)) (i % 128) hlt, Array.getElem_replicate]

theorem new_dk {w : World} {b g m n : Nat} {C : Array Value} (hC : madeCells (secV (List.replicate 128 0)).cells (n * 128) = C) (h1 : 1 ≤ n) (h2 : n ≤ 4096)
    (hb : Blk w b 76 #[.pointer (some ⟨b, 0, none⟩), .slice (some ⟨g, 0, none⟩) n n, .map (some m), .int .i64 0, .bool false, .int .i64 0, .slice none 0 0, .int .i64 0, .int .i64 0])
    (hg : Blk w g 80 C) (hm : w.heap[m]? = some (.map #[] 0)) : DK w ⟨b, g, m, n⟩ (.slice none 0 0) (newSt n) := by
  have hl : (newSt n).stays.length = n := List.length_replicate
  refine ⟨newSt_ok h2, newSt_more n, by rw [hl]; omega, by rw [hl]; exact hb, ⟨C, hg, by rw [hl]; exact Nat.le_refl _, by rw [← hC]; exact size_madeCells _ _, fun k l hk j x hx => ?_⟩, ⟨.map [], ⟨#[], 0, hm, ⟨by simp, stamped_empty 0, by simp⟩, by simp, rfl⟩, ⟨fun k l hk h0 => ?_, fun x hx => by cases hx⟩⟩, Head.nil _ _⟩
  · have hkl := (List.getElem?_eq_some_iff.1 hk).1
    rw [hl] at hkl
    have el : l = List.replicate 128 0 := (List.mem_replicate.1 (List.mem_of_getElem? hk)).2
    subst el
    have hj := (List.getElem?_eq_some_iff.1 hx).1
    rw [List.length_replicate] at hj
    have ex : x = 0 := (List.mem_replicate.1 (List.mem_of_getElem? hx)).2
    subst ex
    rw [← hC]
    exact made_at (by omega)
  · have el : l = [] := (List.mem_replicate.1 (List.mem_of_getElem? hk)).2
    subst el
    cases h0

set_option maxRecDepth 100000 in
theorem dnew_bad (n : Int) (w : World) (h : n < 1 ∨ 4096 < n) : Calls Try.prog 13 #[.int .i64 n] w fun e w' => e = .returned (.tuple #[.pointer none, .int .i64 30]) ∧ w = w' := by
  by_cases h1 : n < 1
  · go_enter Try.func13, Try.ntmps13
    go_wp2
    go_ret2
    exact ⟨rfl, rfl⟩
  · have h2 : 4096 < n := by omega
    go_enter Try.func13, Try.ntmps13
    go_wp2
    go_ret2
    exact ⟨rfl, rfl⟩

set_option maxRecDepth 100000 in
set_option maxHeartbeats 2000000 in
theorem dnew_any (n : Nat) (w : World) (h1 : 1 ≤ n) (h2 : n ≤ 4096) : Calls Try.prog 13 #[.int .i64 (n : Int)] w fun e w' => ∃ d, e = .returned (.tuple #[.pointer (some ⟨d.b, 0, none⟩), .int .i64 0]) ∧ DK w' d (.slice none 0 0) (newSt n) ∧ (∀ k, d.foot k → w.heap.size ≤ k) ∧ Below w.heap.size w w' := by
  obtain ⟨i0, hi, hz0, hz1, hz2⟩ := info_parts infoSec
  obtain ⟨C, hC⟩ : ∃ C, madeCells (secV (List.replicate 128 0)).cells (n * 128) = C := ⟨_, rfl⟩
  have hmk : ∀ w : World, (Instr.makeSlice 73 (.int .i64 (n : Int)) (.int .i64 (n : Int))).run Try.prog w = .ok (.slice (some ⟨w.heap.size, 0, none⟩) n n) (w.alloc (.cells C 80)) := fun w => by
    have := run_make (P := Try.prog) w 73 80 i0 _ Try.underlying73 hi hz0 .i64 .i64 (n : Int) (n : Int) (by omega) (by omega) (by rw [hz2]; omega) (by omega)
    rw [hz1, Int.toNat_natCast, hC] at this
    exact this
  have hmm := @run_makeMap Try.prog
  have HC := Lib.hid hC
  clear hC hi hz0 hz1 hz2
  go_enter Try.func13, Try.ntmps13
  go_wp2
  go_ret2
  have hsz : ∀ (W : World) (o : Obj), (W.alloc o).heap.size = W.heap.size + 1 := fun W o => by simp
  refine ⟨⟨w.heap.size + 1 + 1, w.heap.size, w.heap.size + 1, n⟩, rfl, new_dk HC.out h1 h2 ?_ ?_ ?_, ?_, ?_⟩
  · have := Blk.new ((w.alloc (.cells C 80)).alloc (.map #[] 0)) 76 #[.pointer (some ⟨w.heap.size + 1 + 1, 0, none⟩), .slice (some ⟨w.heap.size, 0, none⟩) n n, .map (some (w.heap.size + 1)), .int .i64 0, .bool false, .int .i64 0, .slice none 0 0, .int .i64 0, .int .i64 0]
    rw [hsz, hsz] at this
    exact this
  · exact ((Blk.new w 80 C).alloc _).alloc _
  · refine (heap_alloc_old _ _ _ (by rw [hsz, hsz]; omega)).trans ?_
    have := heap_alloc_new (w.alloc (.cells C 80)) (.map #[] 0)
    rwa [hsz] at this
  · rintro k (rfl | rfl | rfl)
    · show w.heap.size ≤ w.heap.size + 1 + 1; omega
    · exact Nat.le_refl _
    · show w.heap.size ≤ w.heap.size + 1; omega
  · exact (((Below.refl _ w).alloc (Nat.le_refl _) _).alloc (by simp) _).alloc (by simp; omega) _

section
variable {w : World} {d : DAt} {kv : Value} {s : RSt}

set_option maxRecDepth 100000 in
set_option maxHeartbeats 2000000 in
theorem darm_any (c : DCrash) (KA : Option Addr) (Kc : Nat) (hf : c.Fine) (h : DK w d kv s) (hk : Sl w w.heap.size KA Kc (c.keep.map iv)) (hK : c.keep.length ≤ 17592186044416) (hKA : ∀ ad, KA = some ad → ad.block ≠ d.b) :
    Calls Try.prog 22 #[.pointer (some ⟨d.b, 0, none⟩), .agg #[.int .i64 c.write, .slice KA c.keep.length Kc, .int .i64 c.torn, .int .i64 c.at_]] w fun e w' => ∃ kv', e = .returned (.int .i64 (armErr3 c)) ∧ DK w' d kv' (armSt3 s c) ∧ (kv' = kv ∨ Fresh w.heap.size kv') ∧ Keep (fun k => k = d.b) w w' := by
  obtain ⟨X, hX⟩ : ∃ X, (#[.int .i64 c.write, .slice KA c.keep.length Kc, .int .i64 c.torn, .int .i64 c.at_] : Array Value) = X := ⟨_, rfl⟩
  obtain ⟨W1, hW1⟩ : ∃ W1, w.alloc (.cells #[.int .i64 c.write, .slice KA c.keep.length Kc, .int .i64 c.torn, .int .i64 c.at_] 52) = W1 := ⟨_, rfl⟩
  have hB1 : Below w.heap.size w W1 := by rw [← hW1]; exact (Below.refl _ w).alloc (Nat.le_refl _) _
  have h1 : DK W1 d kv s := h.below hB1
  have hN1 : Blk W1 w.heap.size 52 #[.int .i64 c.write, .slice KA c.keep.length Kc, .int .i64 c.torn, .int .i64 c.at_] := by rw [← hW1]; exact Blk.new w _ _
  have hlt := h.lt _ (.inl rfl)
  have HV := Lib.hid (dvalid_any h1)
  have b0 : W1.cell? ⟨w.heap.size, 0, none⟩ = some (.int .i64 c.write) := hN1.cell 0
  by_cases hw : c.write < 1
  · have ha : armErr3 c = 2 := by unfold armErr3; rw [if_pos hw]
    have hs : armSt3 s c = s := by unfold armSt3; rw [if_pos hw]
    rw [ha, hs]
    have HF := Lib.hid (And.intro h1 (Keep.of_below (S := fun k => k = d.b) hB1))
    clear ha hs h h1 hk hB1 hN1 hlt hX hf
    go_enter Try.func22, Try.ntmps22
    go_wp2_with (go_at_call 44; refine HV.out.mono ?_; rintro e _ ⟨rfl, rfl⟩)
    go_ret
    exact ⟨_, rfl, HF.out.1, .inl rfl, HF.out.2⟩
  · have ha : armErr3 c = 0 := by unfold armErr3; rw [if_neg hw]
    have hs : armSt3 s c = { s with write := c.write, keep := c.keep, torn := c.torn, at_ := c.at_ } := by unfold armSt3; rw [if_neg hw]
    rw [ha, hs]
    have hX4 : X.toList = [.int .i64 c.write, .slice KA c.keep.length Kc, .int .i64 c.torn, .int .i64 c.at_] := by rw [← hX]
    obtain ⟨W2, hW2⟩ : ∃ W2, W1.setCells d.b 5 X.toList = W2 := ⟨_, rfl⟩
    have hk2 : Keep (fun k => k = d.b) w W2 := by rw [← hW2]; exact keep_setCells X.toList 5 W1 (Keep.of_below hB1) (fun _ => rfl)
    have hb2 : Blk W2 d.b 76 #[.pointer (some ⟨d.b, 0, none⟩), .slice (some ⟨d.g, 0, none⟩) s.stays.length d.cS, .map (some d.m), .int .i64 s.many, .bool s.down, .int .i64 c.write, .slice KA c.keep.length Kc, .int .i64 c.torn, .int .i64 c.at_] := by
      rw [← hW2, hX4]
      have := blk_setCells [.int .i64 c.write, .slice KA c.keep.length Kc, .int .i64 c.torn, .int .i64 c.at_] 5 W1 _ h1.blk (by simp)
      exact this
    have hs2 : w.heap.size ≤ W2.heap.size := hk2.size
    have hN2 : Blk W2 w.heap.size 52 #[.int .i64 c.write, .slice KA c.keep.length Kc, .int .i64 c.torn, .int .i64 c.at_] := by
      have hk12 : Keep (fun k => k = d.b) W1 W2 := by rw [← hW2]; exact keep_setCells X.toList 5 W1 (Keep.refl _ _) (fun _ => rfl)
      exact hk12.blk hN1 (fun e => by omega)
    have hr2 : Reads W2 W2.heap.size 1 KA c.keep.length (c.keep.map iv) := by
      have h0 := hk.reads
      rw [List.length_map] at h0
      exact (h0.keepS hk2 (Nat.le_refl _) (fun ad e => hKA ad e)).more hs2
    have e1 : W2.cell? ⟨w.heap.size, 1, none⟩ = some (.slice KA c.keep.length Kc) := hN2.cell 1
    have HC := Lib.hid (cloneI_any KA c.keep.length Kc c.keep W2 rfl hr2 hK)
    have ht : W1.there d.b 5 X.size := fun j hj => by
      rw [← hX] at hj
      have hj4 : j < 4 := hj
      refine ⟨?_, h1.blk.frozen _⟩
      rw [h1.blk.cell, Array.getElem?_eq_getElem (by simp; omega)]
      rfl
    have hX1 : X.all (·.oneCell') = true := by rw [← hX]; simp [Value.oneCell']
    have hXi : (Try.prog.info? 52).map (·.size) = some X.size := by rw [← hX]; kernel_rfl
    have hnx : ∀ W3, Below W2.heap.size W2 W3 → W3.cell? ⟨d.b, 6, none⟩ = some (.slice KA c.keep.length Kc) ∧ W3.frozen? ⟨d.b, 6, none⟩ = false := fun W3 hb3 => by
      have hx := hb2.below hb3 hb2.lt
      exact ⟨hx.cell 6, hx.frozen 6⟩
    have HNX := Lib.hid hnx
    have HN1 := Lib.hid (show W1.heap[w.heap.size]? = some (.cells X 52 (0, 0)) from by rw [← hX]; exact hN1)
    have HT := Lib.hid ht
    have HX1 := Lib.hid hX1
    have HXI := Lib.hid hXi
    have HB2 := Lib.hid hb2
    have HK2 := Lib.hid hk2
    have HW2 := Lib.hid hW2
    have H := Lib.hid h
    have HFI := Lib.hid hf
    have hW1x : w.alloc (.cells X 52) = W1 := by rw [← hX]; exact hW1
    clear hnx ha hs h h1 hk hB1 hN1 hlt hX4 hb2 hk2 hs2 hr2 ht hX1 hXi hN2 hW2 hW1 hf
    go_enter Try.func22, Try.ntmps22
    go_wp2_with (first
      | (go_at_call 44; refine HV.out.mono ?_; rintro e _ ⟨rfl, rfl⟩)
      | (with_reducible refine wpList_load_row rfl 52 (.tmp 3) rfl w.heap.size rfl 52 X (0, 0) _ HN1.out Try.underlying52 rfl HXI.out ?_)
      | (go_at_call 45; refine HC.out.mono ?_; rintro e W3 ⟨A3, c3, rfl, hh3, hf3, hb3⟩; obtain ⟨y6, f6⟩ := HNX.out W3 hb3; have HH3 := Lib.hid hh3; have HF3 := Lib.hid hf3; have HB3 := Lib.hid hb3; clear hh3 hf3 hb3)
      | (with_reducible refine wpList_store_mid rfl 52 (.tmp 14) (.tmp 12) rfl d.b 5 X rfl rfl HT.out HXI.out HX1.out ?_; rw [HW2.out]))
    go_ret
    have hk3 : Keep (fun k => k = d.b) w W3 := HK2.out.trans (Keep.of_below (S := fun _ => False) HB3.out) (fun _ _ h => h.elim)
    have hk4 : Keep (fun k => k = d.b) w (W3.setCell ⟨d.b, 6, none⟩ (.slice A3 c.keep.length c3)) := hk3.setCell _ _ (fun _ => rfl)
    have hb4 : Blk (W3.setCell ⟨d.b, 6, none⟩ (.slice A3 c.keep.length c3)) d.b 76 _ := (HB2.out.below HB3.out HB2.out.lt).set_ 6 (.slice A3 c.keep.length c3)
    have hh4 : Head (W3.setCell ⟨d.b, 6, none⟩ (.slice A3 c.keep.length c3)) 3 (c.keep.map iv) (.slice A3 c.keep.length c3) := HH3.out.keep ((Keep.refl (fun k => k = d.b) W3).setCell _ _ (fun _ => rfl)) (fun k e => by
      subst e
      have hb3 : Blk W3 d.b 76 _ := HB2.out.below HB3.out HB2.out.lt
      exact fun e => absurd (hb3.typ.ne e) (by decide))
    exact ⟨_, rfl, H.out.self hk4 rfl rfl ⟨H.out.more.many, by have := HFI.out.w; unfold i64ok at this; show 0 ≤ c.write ∧ c.write ≤ _; omega, HFI.out.t, HFI.out.a, HFI.out.k⟩ hb4 hh4, .inr (HF3.out.mono HK2.out.size), hk4⟩

theorem darm_dead (p : Option Addr) (v : Value) (w : World) (h : Dead w p) (hv : ∃ a b c d, v = .agg #[a, b, c, d]) : Calls Try.prog 22 #[.pointer p, v] w fun e w' => e = .returned (.int .i64 1) ∧ Below w.heap.size w w' := by
  obtain ⟨a, b, c, d, rfl⟩ := hv
  have HV := Lib.hid (dvalid_dead p _ (h.below ((Below.refl _ w).alloc (Nat.le_refl _) (.cells #[a, b, c, d] 52))))
  clear h
  go_enter Try.func22, Try.ntmps22
  go_wp2_with (go_at_call 44; refine HV.out.mono ?_; rintro e _ ⟨rfl, rfl⟩)
  go_ret
  exact ⟨rfl, (Below.refl _ w).alloc (Nat.le_refl _) _⟩
end

end Go.Proofs.Ytddhldmeknmgpaa

namespace Go.Proofs.Ytddhldmeknmgpaa
open Go.RowKit Go.Maps

/-- Of each sector whether the list names it. -/
def marks (n : Nat) (l : List Int) : List Value := (List.range n).map fun (k : Nat) => Value.bool (decide ((k : Int) ∈ l))
theorem marks_length (n : Nat) (l : List Int) : (marks n l).length = n := by unfold marks; simp
theorem marks_at {n k : Nat} {l : List Int} (h : k < n) : (marks n l)[k]? = some (.bool (decide ((k : Int) ∈ l))) := by
  unfold marks
  rw [List.getElem?_map, List.getElem?_range h]
  rfl
theorem marks_none {n : Nat} {l : List Int} {x : Int} (h : ¬ (0 ≤ x ∧ x < (n : Int))) : marks n (l ++ [x]) = marks n l := by
  apply List.ext_getElem?
  intro k
  by_cases hk : k < n
  · rw [marks_at hk, marks_at hk]
    have : ((k : Int) ∈ l ++ [x]) ↔ (k : Int) ∈ l := by
      rw [List.mem_append, List.mem_singleton]
      constructor
      · rintro (h1 | h1)
        · exact h1
        · omega
      · exact .inl
    rw [decide_eq_decide.2 this]
  · rw [List.getElem?_eq_none (by rw [marks_length]; omega), List.getElem?_eq_none (by rw [marks_length]; omega)]
theorem marks_snoc {n k : Nat} {l : List Int} : marks n (l ++ [(k : Int)]) = (marks n l).set k (.bool true) := by
  apply List.ext_getElem?
  intro j
  by_cases hj : j < n
  · rw [marks_at hj]
    by_cases e : k = j
    · subst e
      rw [List.getElem?_set_self (by rw [marks_length]; exact hj), decide_eq_true (List.mem_append_right _ (List.mem_singleton.2 rfl))]
    · rw [List.getElem?_set_ne e, marks_at hj]
      have : ((j : Int) ∈ l ++ [(k : Int)]) ↔ (j : Int) ∈ l := by
        rw [List.mem_append, List.mem_singleton]
        constructor
        · rintro (h1 | h1)
          · exact h1
          · omega
        · exact .inl
      rw [decide_eq_decide.2 this]
  · rw [List.getElem?_eq_none (by rw [marks_length]; omega), List.getElem?_eq_none (by rw [List.length_set, marks_length]; omega)]

theorem infoBool : (Try.prog.info? 4).map (fun i => (i.zero, i.size, i.bytes)) = some (some (.bool false), 1, 1) := by kernel_rfl

section
variable {w : World} {d : DAt} {kv : Value} {s : RSt}

set_option maxRecDepth 100000 in
set_option maxHeartbeats 2000000 in
theorem dmarked_any (A : Option Addr) (c n : Nat) (l : List Int) (h : DK w d kv s) (hl : l.length = n) (hr : Reads w w.heap.size 1 A n (l.map iv)) (hn : n ≤ 9223372036854775807) :
    Calls Try.prog 73 #[.pointer (some ⟨d.b, 0, none⟩), .slice A n c] w fun e w' => ∃ g, e = .returned (.slice (some ⟨g, 0, none⟩) s.stays.length s.stays.length) ∧ w.heap.size ≤ g ∧ Blk w' g 4 (marks s.stays.length l).toArray ∧ Below w.heap.size w w' := by
  obtain ⟨i0, hi, hz0, hz1, hz2⟩ := info_parts infoBool
  have c1 : w.cell? ⟨d.b, 1, none⟩ = some (.slice (some ⟨d.g, 0, none⟩) s.stays.length d.cS) := h.blk.cell 1
  have hf := h.ok.few
  have H := Lib.hid h
  have HR := Lib.hid hr
  have HL := Lib.hid hl
  have HH : Hid (∀ (a : Int) (W : World), Below w.heap.size w W → Calls Try.prog 43 #[.pointer (some ⟨d.b, 0, none⟩), .int .i64 a] W fun e w' => e = .returned (.bool (decide (0 ≤ a ∧ a < (s.stays.length : Int)))) ∧ W = w') := Lib.hid (fun a W hb => dhas_any a (h.below hb))
  generalize hN : s.stays.length = N at *
  clear h hr hl hN
  have hmk : ∀ w : World, (Instr.makeSlice 116 (.int .i64 (N : Int)) (.int .i64 (N : Int))).run Try.prog w = .ok (.slice (some ⟨w.heap.size, 0, none⟩) N N) (w.alloc (.cells (marks N []).toArray 4)) := fun w => by
    have := run_make (P := Try.prog) w 116 4 i0 _ Try.underlying116 hi hz0 .i64 .i64 (N : Int) (N : Int) (by omega) (by omega) (by rw [hz2]; omega) (by omega)
    rw [hz1, Int.toNat_natCast, Nat.mul_one] at this
    have e : madeCells (Value.cells (.bool false)) N = (marks N []).toArray := by
      have h1 := toList_madeCells_one (.bool false) N
      apply Array.toList_inj.1
      show (madeCells #[Value.bool false] N).toList = _
      rw [h1]
      apply List.ext_getElem?
      intro k
      by_cases hk : k < N
      · rw [show (marks N []).toArray.toList = marks N [] from rfl, marks_at hk, List.getElem?_replicate, if_pos hk]
        simp
      · rw [List.getElem?_eq_none (by rw [List.length_replicate]; omega), List.getElem?_eq_none (by show (marks N []).length ≤ k; rw [marks_length]; omega)]
    rw [e] at this
    exact this
  obtain ⟨W1, hW1⟩ : ∃ W1, w.alloc (.cells (marks N []).toArray 4) = W1 := ⟨_, rfl⟩
  have hB1 : Below w.heap.size w W1 := by rw [← hW1]; exact (Below.refl _ w).alloc (Nat.le_refl _) _
  have hb1 : Blk W1 w.heap.size 4 (marks N []).toArray := by rw [← hW1]; exact Blk.new w _ _
  obtain ⟨M0, hM0⟩ : ∃ M0, (marks N []).toArray = M0 := ⟨_, rfl⟩
  have HM0 := Lib.hid hM0
  have HB1 := Lib.hid hB1
  have HBK := Lib.hid hb1
  rw [hM0] at hmk hW1
  clear hB1 hb1 hi hz0 hz1 hz2 hM0
  go_enter Try.func73, Try.ntmps73
  go_wp2
  try rw [hW1]
  clear hW1 hmk
  go_loopw [16] (fun i wr => ∃ j, j ≤ n ∧ i = .int .i64 ((j : Nat) : Int) ∧ Blk wr w.heap.size 4 (marks N (l.take j)).toArray ∧ Below w.heap.size w wr) (fun i _ => n - (RowKit.intOf i).toNat)
  case atStart => exact ⟨0, Nat.zero_le _, rfl, by rw [List.take_zero]; exact HBK.out, HB1.out⟩
  case round =>
    obtain ⟨j, hj, rfl, hblk, hbw⟩ := hrel
    by_cases hlt : j < n
    · obtain ⟨ad, rfl, _, cA⟩ := (HR.out.below hbw).int_at hlt HL.out
      have hjl : j < l.length := by have := HL.out; omega
      have hst : l.take (j + 1) = l.take j ++ [l[j]] := List.take_succ_eq_append_getElem hjl
      generalize l[j] = x at *
      have HC := Lib.hid (HH.out x wr hbw)
      have HBW := Lib.hid hbw
      by_cases hx : 0 ≤ x ∧ x < (N : Int)
      · obtain ⟨k, rfl⟩ := Int.eq_ofNat_of_zero_le hx.1
        have hk : k < N := by omega
        have hc : ∃ v, wr.cell? ⟨w.heap.size, k, none⟩ = some v := ⟨_, (hblk.cell k).trans (Array.getElem?_eq_getElem (by rw [List.size_toArray, marks_length]; exact hk))⟩
        obtain ⟨v, hc⟩ := hc
        have hfz := hblk.frozen k
        have hn' : Blk (wr.setCell ⟨w.heap.size, k, none⟩ (.bool true)) w.heap.size 4 (marks N (l.take (j + 1))).toArray := by
          rw [hst, marks_snoc, ← List.setIfInBounds_toArray]
          exact hblk.set_ k (.bool true)
        have HN := Lib.hid hn'
        rw [decide_eq_true hx] at HC
        clear hst hblk hbw hn' hx
        go_wp2_with (go_at_call 43; refine HC.out.mono ?_; rintro e _ ⟨rfl, rfl⟩)
        exact ⟨⟨j + 1, by omega, by go_num, HN.out, HBW.out.setCell (p := ⟨w.heap.size, k, none⟩) (Nat.le_refl _) _⟩, by simp [RowKit.intOf]; omega⟩
      · have hn' : Blk wr w.heap.size 4 (marks N (l.take (j + 1))).toArray := by rw [hst, marks_none hx]; exact hblk
        have HN := Lib.hid hn'
        rw [decide_eq_false hx] at HC
        clear hst hblk hbw hn' hx
        go_wp2_with (go_at_call 43; refine HC.out.mono ?_; rintro e _ ⟨rfl, rfl⟩)
        exact ⟨⟨j + 1, by omega, by go_num, HN.out, HBW.out⟩, by simp [RowKit.intOf]; omega⟩
    · obtain rfl : j = n := by omega
      rw [List.take_of_length_le (by have := HL.out; omega)] at hblk
      have HB := Lib.hid hblk
      have HBW := Lib.hid hbw
      clear hblk hbw
      go_wp2
      go_ret
      exact ⟨_, rfl, Nat.le_refl _, HB.out, HBW.out⟩
end

end Go.Proofs.Ytddhldmeknmgpaa

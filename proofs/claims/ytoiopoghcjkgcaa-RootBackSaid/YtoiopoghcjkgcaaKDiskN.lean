/-
  The disk of layer 3: New, Arm.
-/
import Derived.Test.YtoiopoghcjkgcaaKDiskF
namespace Go.Proofs.Ytoiopoghcjkgcaa
open Go.RowKit Go.Maps Go.MapKept Go.ChangeMaps

theorem uInts : ∀ w, Sem.run Try.prog (underlying 76) w = .ok (TypeDesc.slice 3) w := run_underlying Try.underlying76
theorem qInts : ∀ (w : World) (a : Option Addr) (n c n' c' : Nat), (binOp .eql 76 (.slice a n c) (.slice none n' c')).run Try.prog w = .ok (.bool a.isNone) w := fun w a n c n' c' => Lib.run_eql_slice_nil w _ _ a n c n' c' Try.underlying76

/-- A slice's block, if it has one, is from N on. -/
def Fresh (N : Nat) (v : Value) : Prop := ∀ ad n c, v = .slice (some ad) n c → N ≤ ad.block
theorem Fresh.nil (N : Nat) : Fresh N (.slice none 0 0) := fun ad n c e => by cases e
theorem Fresh.own {w : World} {N : Nat} {e : TypeId} {size n : Nat} {v : Value} {xs : List Value} (h : w.ownsRow N e size v n xs) : Fresh N v := by
  rcases h.2 with ⟨rfl, _⟩ | ⟨g, cap, cur, rfl, hb, _⟩
  · exact Fresh.nil N
  · intro ad n c e
    injection e with e
    injection e with e
    subst e
    exact hb
theorem Fresh.mono {N M : Nat} {v : Value} (h : Fresh N v) (hm : M ≤ N) : Fresh M v := fun ad n c e => Nat.le_trans hm (h ad n c e)

def newSt (n : Nat) : RSt := ⟨List.replicate n (List.replicate 128 0), List.replicate n [], 0, [], 0, 0, 0, false⟩

theorem newSt_ok {n : Nat} (h : n ≤ 4096) : (newSt n).Ok := by
  refine ⟨by simp [newSt], by simpa [newSt] using h, fun l hl => ?_, fun l hl => ?_⟩
  · rw [(List.mem_replicate.1 hl).2, List.length_replicate]
  · rw [(List.mem_replicate.1 hl).2]
    exact .inl rfl
theorem newSt_more (n : Nat) : (newSt n).More := ⟨by simp [newSt], by simp [newSt], ⟨by simp [newSt], by simp [newSt]⟩, ⟨by simp [newSt], by simp [newSt]⟩, fun x hx => by cases hx⟩

theorem made_at {m i : Nat} (h : i < m) : (madeCells (secV (List.replicate 128 0)).cells m)[i]? = some (bv 0) := by
  have e : (secV (List.replicate 128 0)).cells = Array.replicate 128 (bv 0) := by
    show ((List.replicate 128 (0 : UInt8)).map bv).toArray = _
    rw [List.map_replicate, List.toArray_replicate]
  have hr : (Array.range m)[i]? = some i := by simp [h]
  unfold madeCells
  rw [e, Array.getElem?_map, hr, Option.map_some, Array.size_replicate]
  have hlt : i % 128 < (Array.replicate 128 (bv 0)).size := by rw [Array.size_replicate]; exact Nat.mod_lt _ (by decide)
  rw [getElem!_pos (Array.replicate 128 (bv 0)) (i % 128) hlt, Array.getElem_replicate]

theorem new_dk {w : World} {b g m n : Nat} {C : Array Value} (hC : madeCells (secV (List.replicate 128 0)).cells (n * 128) = C) (h1 : 1 ≤ n) (h2 : n ≤ 4096)
    (hb : Blk w b 80 #[.pointer (some ⟨b, 0, none⟩), .slice (some ⟨g, 0, none⟩) n n, .map (some m), .int .i64 0, .bool false, .int .i64 0, .slice none 0 0, .int .i64 0, .int .i64 0])
    (hg : Blk w g 95 C) (hm : w.heap[m]? = some (.map #[] 0)) : DK w ⟨b, g, m, n⟩ (.slice none 0 0) (newSt n) := by
  have hl : (newSt n).stays.length = n := List.length_replicate
  refine ⟨newSt_ok h2, newSt_more n, by rw [hl]; omega, by rw [hl]; exact hb, ⟨C, hg, by rw [hl]; exact Nat.le_refl _, by rw [← hC]; exact size_madeCells _ _, fun k l hk j x hx => ?_⟩, ⟨.map [], ⟨#[], 0, hm, ⟨by simp, stamped_empty 0, by simp⟩, by simp, rfl⟩, ⟨fun k l hk h0 => ?_, fun x hx => by cases hx⟩⟩, Head.nil _ _⟩
  · have hkl := (List.getElem?_eq_some_iff.1 hk).1
    rw [hl] at hkl
    have el : l = List.replicate 128 0 := (List.mem_replicate.1 (List.mem_of_getElem? hk)).2
    subst el
    have hj := (List.getElem?_eq_some_iff.1 hx).1
    rw [List.length_replicate] at hj
    have ex : x = 0 := (List.mem_replicate.1 (List.mem_of_getElem? hx)).2
    subst ex
    rw [← hC]
    exact made_at (by omega)
  · have el : l = [] := (List.mem_replicate.1 (List.mem_of_getElem? hk)).2
    subst el
    cases h0

set_option maxRecDepth 100000 in
theorem dnew_bad (n : Int) (w : World) (h : n < 1 ∨ 4096 < n) : Calls Try.prog 25 #[.int .i64 n] w fun e w' => e = .returned (.tuple #[.pointer none, .int .i64 30]) ∧ w = w' := by
  by_cases h1 : n < 1
  · go_enter Try.func25, Try.ntmps25
    go_wp2
    go_ret2
    exact ⟨rfl, rfl⟩
  · have h2 : 4096 < n := by omega
    go_enter Try.func25, Try.ntmps25
    go_wp2
    go_ret2
    exact ⟨rfl, rfl⟩

set_option maxRecDepth 100000 in
set_option maxHeartbeats 2000000 in
theorem dnew_any (n : Nat) (w : World) (h1 : 1 ≤ n) (h2 : n ≤ 4096) : Calls Try.prog 25 #[.int .i64 (n : Int)] w fun e w' => ∃ d, e = .returned (.tuple #[.pointer (some ⟨d.b, 0, none⟩), .int .i64 0]) ∧ DK w' d (.slice none 0 0) (newSt n) ∧ (∀ k, d.foot k → w.heap.size ≤ k) ∧ Below w.heap.size w w' := by
  obtain ⟨i0, hi, hz0, hz1, hz2⟩ := info_parts infoSec
  obtain ⟨C, hC⟩ : ∃ C, madeCells (secV (List.replicate 128 0)).cells (n * 128) = C := ⟨_, rfl⟩
  have hmk : ∀ w : World, (Instr.makeSlice 74 (.int .i64 (n : Int)) (.int .i64 (n : Int))).run Try.prog w = .ok (.slice (some ⟨w.heap.size, 0, none⟩) n n) (w.alloc (.cells C 95)) := fun w => by
    have := run_make (P := Try.prog) w 74 95 i0 _ Try.underlying74 hi hz0 .i64 .i64 (n : Int) (n : Int) (by omega) (by omega) (by rw [hz2]; omega) (by omega)
    rw [hz1, Int.toNat_natCast, hC] at this
    exact this
  have hmm := @run_makeMap Try.prog
  have HC := Lib.hid hC
  clear hC hi hz0 hz1 hz2
  go_enter Try.func25, Try.ntmps25
  go_wp2
  go_ret2
  have hsz : ∀ (W : World) (o : Obj), (W.alloc o).heap.size = W.heap.size + 1 := fun W o => by simp
  refine ⟨⟨w.heap.size + 1 + 1, w.heap.size, w.heap.size + 1, n⟩, rfl, new_dk HC.out h1 h2 ?_ ?_ ?_, ?_, ?_⟩
  · have := Blk.new ((w.alloc (.cells C 95)).alloc (.map #[] 0)) 80 #[.pointer (some ⟨w.heap.size + 1 + 1, 0, none⟩), .slice (some ⟨w.heap.size, 0, none⟩) n n, .map (some (w.heap.size + 1)), .int .i64 0, .bool false, .int .i64 0, .slice none 0 0, .int .i64 0, .int .i64 0]
    rw [hsz, hsz] at this
    exact this
  · exact ((Blk.new w 95 C).alloc _).alloc _
  · refine (heap_alloc_old _ _ _ (by rw [hsz, hsz]; omega)).trans ?_
    have := heap_alloc_new (w.alloc (.cells C 95)) (.map #[] 0)
    rwa [hsz] at this
  · rintro k (rfl | rfl | rfl)
    · show w.heap.size ≤ w.heap.size + 1 + 1; omega
    · exact Nat.le_refl _
    · show w.heap.size ≤ w.heap.size + 1; omega
  · exact (((Below.refl _ w).alloc (Nat.le_refl _) _).alloc (by simp) _).alloc (by simp; omega) _

section
variable {w : World} {d : DAt} {kv : Value} {s : RSt}

end

end Go.Proofs.Ytoiopoghcjkgcaa

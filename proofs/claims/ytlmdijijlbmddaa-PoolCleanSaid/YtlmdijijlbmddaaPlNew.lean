/-
  The pool of layer 10: New, and a pool over the memory of twelve tiles.
-/
import Derived.Test.YtlmdijijlbmddaaPlBack
namespace Go.Proofs.Ytlmdijijlbmddaa.pool
open Go.RowKit

set_option maxRecDepth 100000 in
set_option maxHeartbeats 4000000 in
theorem plnew_any (n m : Nat) (w : World) (h1 : 1 ≤ n) (h2 : n ≤ 64) : Calls Try.prog 13 #[.int .i64 (n : Int), .iface 22 (pv m)] w fun e w' =>
    e = .returned (.tuple #[pv w.heap.size, .int .i64 0]) ∧ Blk w' w.heap.size 54 #[pv w.heap.size, .iface 22 (pv m), .int .i64 (n : Int), .slice none 0 0, .bool false] ∧ Below w.heap.size w w' := by
  have e1 : ¬ (n : Int) < 1 := by omega
  have e2 : ¬ (64 : Int) < (n : Int) := by omega
  go_enter Try.func13, Try.ntmps13
  go_wp2
  go_ret2
  exact ⟨rfl, Blk.new w _ _, (Below.refl _ _).alloc (Nat.le_refl _) _⟩

/-- What is laid: a pool of n frames over the memory of twelve tiles. -/
def ps0 (n : Nat) : PS := ⟨n, [], L0, []⟩
theorem L0_length : L0.length = 12 := rfl
theorem L0_at {i : Nat} {t : TV} (h : L0[i]? = some t) : t = tv0 i ∧ i < 12 := by
  have hi : i < 12 := (List.getElem?_eq_some_iff.1 h).1
  refine ⟨?_, hi⟩
  unfold L0 at h
  rw [List.getElem?_map, List.getElem?_range hi] at h
  simpa using h.symm
theorem BkF.mem {z : Nat} {w W : World} {v : Value} {ll : List (Nat × Nat)} (h : BkF z w W v ll 12) : ∃ ml, MemAt z W z ml L0 [] := by
  obtain ⟨hl, h0 | ⟨g, cap, cur, rfl, hb, hh, hnc, hcap, hsz, htk⟩⟩ := h.own
  · exact absurd h0.2 (by decide)
  · refine ⟨⟨g, ll⟩, ⟨Nat.le_refl _, ⟨cap, .slice none 0 0, h.box, World.ownsRow_nil _ _ _ _, hb, cur, hh, fun i t g' c hi hm => ?_⟩, h.len, fun i t g' c hi hm => ?_⟩⟩
    · obtain ⟨rfl, hlt⟩ := L0_at hi
      have hat := tilesC_at ll 0 i g' c hm
      rw [Nat.zero_add, ← htk] at hat
      rw [List.getElem?_take_of_lt (by omega), List.getElem?_take_of_lt (by omega), List.getElem?_take_of_lt (by omega), List.getElem?_take_of_lt (by omega)] at hat
      simp only [Array.getElem?_toList] at hat
      exact hat
    · obtain ⟨rfl, _⟩ := L0_at hi
      exact h.el i g' c hm
theorem pool_new {z n p : Nat} {w W W' : World} {v : Value} {ll : List (Nat × Nat)} (h : BkF z w W v ll 12) (hn : n ≤ 64) (hp : p = W.heap.size) (hb : Below W.heap.size W W') (hx : Blk W' p 54 #[pv p, .iface 22 (pv z), .int .i64 (n : Int), .slice none 0 0, .bool false]) : PB z W' p z (ps0 n) := by
  obtain ⟨ml, hm⟩ := h.mem
  have hz := h.box.lt
  refine ⟨[], ml, ⟨⟨by omega, ⟨none, 0, hx, World.ownsRow_nil _ _ _ _⟩, fun x hx => by simp at hx, List.nodup_nil, List.nodup_nil, by simp, hn⟩, hm.below hb, fun x hx => by simp at hx, rfl⟩⟩
end Go.Proofs.Ytlmdijijlbmddaa.pool

/-
  The Reader's calls: Read, Num, Int, Raw, Left, End (Text lies in a text of its own).
-/
import Derived.Test.YtoiopoghcjkgcaaGreatRd
import Derived.Test.YtoiopoghcjkgcaaGreatTotal
namespace Go.Proofs.YtoiopoghcjkgcaaGreat
open Go.RowKit

/-- How many bytes a call takes, its error being e. -/
def taken (e : Int) (k : Nat) : Nat := if e = 0 then k else 0
def rnumErr (size : Int) (l : List UInt8) : Int := if sized size then (if l.length < size.toNat then 10 else 0) else 2
def rrawErr (n : Int) (l : List UInt8) : Int := if n < 0 then 2 else if (l.length : Int) < n then 10 else 0

theorem sized_nat {size : Int} (hs : sized size = true) : ∃ k : Nat, size = k ∧ (k = 1 ∨ k = 2 ∨ k = 4 ∨ k = 8) := by
  unfold sized at hs
  simp at hs
  exact ⟨size.toNat, by omega, by omega⟩

theorem rd_of (B : Option Addr) (m d : Nat) (l : List UInt8) (w : World) (hr : Reads w w.heap.size 1 B m (l.map bv)) (hn : m ≤ 140737488355328) :
    Calls Tryz.prog 65 #[.slice B m d] w fun e w' => ∃ b A c, e = .returned (.pointer (some ⟨b, 0, none⟩)) ∧ Rd w' b A c l ∧ w.heap.size ≤ b ∧ (∀ ad, A = some ad → w.heap.size ≤ ad.block) ∧ Below w.heap.size w w' := by
  have H := Lib.hid (clone_any B m d l w hr hn)
  have hm : m = l.length := by have := hr.1; simp at this; omega
  have HM := Lib.hid hm
  clear hr hm
  go_enter Tryz.func65, Tryz.ntmps65
  go_wp2_with (go_at_call 74; refine H.out.mono ?_; rintro e w1 ⟨A', c', rfl, h1, h2⟩)
  go_ret
  have hm := HM.out
  subst hm
  have hcap : l.length ≤ c' ∧ c' ≤ 9223372036854775807 ∧ (∀ ad, A' = some ad → w.heap.size ≤ ad.block ∧ ad.block < w1.heap.size) := by
    rcases h1.2 with ⟨e, h0⟩ | ⟨g, cap, cur, e, hb, hh, hc, hcm, _⟩
    · injection e with e1 e2 e3
      subst e1 e3
      exact ⟨by omega, by omega, fun ad e => by cases e⟩
    · injection e with e1 e2 e3
      subst e1 e3
      refine ⟨hc, by unfold maxLen at hcm; omega, fun ad e => ?_⟩
      injection e with e
      subst e
      exact ⟨hb, (Array.getElem?_eq_some_iff.1 hh).1⟩
  obtain ⟨hc1, hc2, hc3⟩ := hcap
  refine ⟨w1.heap.size, A', c', rfl, ⟨Blk.new w1 _ _, ?_, fun ad e => by have := hc3 ad e; omega, fun ad e => by have := hc3 ad e; simp; omega, hc1, hc2⟩, h2.size, fun ad e => (hc3 ad e).1, h2.trans (((Below.refl _ w1).alloc (Nat.le_refl _) _).mono h2.size)⟩
  exact ((Reads.of_own h1).alloc (Nat.le_refl _) _).more (by simp)

set_option maxHeartbeats 1000000 in
theorem rnum_total (w : World) (b c : Nat) (A : Option Addr) (l : List UInt8) (h : Rd w b A c l) (size : Int) (h1 : -9223372036854775808 ≤ size) (h2 : size ≤ 9223372036854775807) :
    Calls Tryz.prog 67 #[.pointer (some ⟨b, 0, none⟩), .int .i64 size] w fun e w' =>
      e = .returned (.tuple #[.int .u64 (num (l.take (taken (rnumErr size l) size.toNat))), .int .i64 (rnumErr size l)]) ∧ Took w w' b A (l.drop (taken (rnumErr size l) size.toNat)) := by
  have c0 : w.cell? ⟨b, 0, none⟩ = some (.slice A l.length c) := h.blk.cell 0
  have hv := valid_any b _ _ w h.blk
  have HV := Lib.hid hv
  have H := Lib.hid h
  have hcl : l.length ≤ 9223372036854775807 := by have := h.cap; have := h.big; omega
  have HS := Lib.hid (isSize_any size w h1 h2)
  clear hv h
  cases hs : sized size
  · rw [hs] at HS
    have he : rnumErr size l = 2 := by simp [rnumErr, hs]
    have ht : taken (rnumErr size l) size.toNat = 0 := by simp [taken, he]
    have HE := Lib.hid he
    have HT := Lib.hid ht
    clear he ht hs
    go_enter Tryz.func67, Tryz.ntmps67
    go_wp2_with (first
      | (go_at_call 83; refine HV.out.mono ?_; rintro e w' ⟨rfl, rfl⟩)
      | (go_at_call 71; refine HS.out.mono ?_; rintro e w' ⟨rfl, rfl⟩))
    go_ret2
    rw [HT.out, HE.out]
    exact ⟨rfl, Took.same H.out⟩
  · obtain ⟨k, rfl, hk⟩ := sized_nat hs
    rw [hs] at HS
    have hk8 : k ≤ 8 := by omega
    have HK := Lib.hid hk
    by_cases hl : l.length < k
    · have he : rnumErr k l = 10 := by simp [rnumErr, hs, hl]
      have ht : taken (rnumErr k l) ((k : Int)).toNat = 0 := by simp [taken, he]
      have HE := Lib.hid he
      have HT := Lib.hid ht
      clear he ht hs hk
      go_enter Tryz.func67, Tryz.ntmps67
      go_wp2_with (first
        | (go_at_call 83; refine HV.out.mono ?_; rintro e w' ⟨rfl, rfl⟩)
        | (go_at_call 71; refine HS.out.mono ?_; rintro e w' ⟨rfl, rfl⟩))
      go_ret2
      rw [HT.out, HE.out]
      exact ⟨rfl, Took.same H.out⟩
    · have hl' : k ≤ l.length := by omega
      have he : rnumErr k l = 0 := by simp [rnumErr, hs, hl]
      have ht : taken (rnumErr k l) ((k : Int)).toNat = k := by simp [taken, he]
      have HJ := Lib.hid (join_any w b c A l H.out k hk8 hl')
      have HE := Lib.hid he
      have HT := Lib.hid ht
      clear he ht hs hk hl
      go_enter Tryz.func67, Tryz.ntmps67
      go_wp2_with (first
        | (go_at_call 83; refine HV.out.mono ?_; rintro e w' ⟨rfl, rfl⟩)
        | (go_at_call 71; refine HS.out.mono ?_; rintro e w' ⟨rfl, rfl⟩)
        | (go_at_call 84; refine HJ.out.mono ?_; rintro e w' ⟨rfl, hT⟩))
      go_ret2
      rw [HT.out, HE.out]
      exact ⟨rfl, hT⟩

theorem rnum_nil (size : Int) (w : World) : Calls Tryz.prog 67 #[.pointer none, .int .i64 size] w fun e w' => e = .returned (.tuple #[.int .u64 0, .int .i64 1]) ∧ w = w' := by
  go_enter Tryz.func67, Tryz.ntmps67
  go_wp2_with (go_at_call 83; refine (valid_nil _).mono ?_; rintro e w' ⟨rfl, rfl⟩)
  go_ret2
  exact ⟨rfl, rfl⟩
theorem rnum_zero (b : Nat) (v : Value) (size : Int) (w : World) (h : Blk w b 136 #[v, .bool false]) : Calls Tryz.prog 67 #[.pointer (some ⟨b, 0, none⟩), .int .i64 size] w fun e w' => e = .returned (.tuple #[.int .u64 0, .int .i64 1]) ∧ w = w' := by
  have HV := Lib.hid (valid_any b _ _ w h)
  clear h
  go_enter Tryz.func67, Tryz.ntmps67
  go_wp2_with (go_at_call 83; refine HV.out.mono ?_; rintro e w' ⟨rfl, rfl⟩)
  go_ret2
  exact ⟨rfl, rfl⟩

def endErr (l : List UInt8) : Int := if l = [] then 0 else 10
end Go.Proofs.YtoiopoghcjkgcaaGreat

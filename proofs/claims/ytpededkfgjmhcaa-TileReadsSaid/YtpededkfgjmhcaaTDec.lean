/-
  The tile of layer 5: bytes.Equal, Decode, Sound.
-/
import Derived.Test.YtpededkfgjmhcaaTCand
import Derived.Test.YtpededkfgjmhcaaTEnc
namespace Go.Proofs.Ytpededkfgjmhcaa.tile
open Go.RowKit Go.Proofs.Ytpededkfgjmhcaa.crc Go.Proofs.Ytpededkfgjmhcaa.crcSeals Go.Proofs.Ytpededkfgjmhcaa.crcJoins

theorem tl (l : List UInt8) : (⟨l.toArray⟩ : ByteArray).toList = l := by rw [ByteArray.toList_eq]

theorem equal_any (A B : Option Addr) (n m c d : Nat) (l k : List UInt8) (w : World) (hl : Reads w w.heap.size 1 A n (l.map bv)) (hk : Reads w w.heap.size 1 B m (k.map bv)) :
    Calls Try.prog 37 #[.slice A n c, .slice B m d] w fun e w' => e = .returned (.bool (l == k)) ∧ w = w' := by
  have c1 := conv_reads c hl
  have c2 := conv_reads d hk
  have t1 := tl
  clear hl hk
  go_enter Try.func37, Try.ntmps37
  go_wp2
  go_ret
  exact ⟨rfl, rfl⟩

theorem tsound_any (A : Option Addr) (c : Nat) (l : List UInt8) (w : World) (hr : Reads w w.heap.size 1 A l.length (l.map bv)) (hl : l.length ≤ 140737488355000) :
    Calls Try.prog 17 #[.slice A l.length c] w fun e w' => e = .returned (.bool (soundB l)) ∧ Below w.heap.size w w' := by
  have HS := Lib.hid (tsectors_any A c l w (by omega))
  have HO := Lib.hid (copen_any A c l w hr hl)
  have hse : secs l ≤ 64 := by
    by_cases h : secs l = 0
    · omega
    · exact (secs_some h).2.2
  have ho : openErr l = if isSealed l then 0 else 20 := rfl
  unfold soundB
  rw [ho] at HO
  clear hr ho
  generalize secs l = s at *
  generalize l.length = n at *
  by_cases h0 : s = 0
  · subst h0
    rw [decide_eq_false (by omega), Bool.false_and]
    go_enter Try.func17, Try.ntmps17
    go_wp2_with (go_at_call 35; refine HS.out.mono ?_; rintro e _ ⟨rfl, rfl⟩)
    go_ret
    exact ⟨rfl, Below.refl _ _⟩
  · rw [decide_eq_true (show s ≠ 0 from h0), Bool.true_and]
    have hs0 : ((s : Int) == 0) = false := by rw [beq_eq_false_iff_ne]; omega
    generalize isSealed l = b at *
    cases b
    · simp only [Bool.false_eq_true, if_false] at HO
      go_enter Try.func17, Try.ntmps17
      go_wp2_with (first
        | (go_at_call 35; refine HS.out.mono ?_; rintro e _ ⟨rfl, rfl⟩)
        | (go_at_call 39; refine HO.out.mono ?_; rintro e w1 ⟨v, rfl, g⟩; have hb : Below w.heap.size w w1 := by { obtain ⟨_, _, _, _, hb⟩ := g; exact hb }; have HB := Lib.hid hb; clear hb g))
      go_ret
      exact ⟨rfl, HB.out⟩
    · simp only [if_true] at HO
      go_enter Try.func17, Try.ntmps17
      go_wp2_with (first
        | (go_at_call 35; refine HS.out.mono ?_; rintro e _ ⟨rfl, rfl⟩)
        | (go_at_call 39; refine HO.out.mono ?_; rintro e w1 ⟨v, rfl, g⟩; have hb : Below w.heap.size w w1 := by { obtain ⟨_, _, _, _, hb⟩ := g; exact hb }; have HB := Lib.hid hb; clear hb g))
      go_ret
      exact ⟨rfl, HB.out⟩

theorem cand_fine (l : List UInt8) : (candT l).Fine := by
  have h4 : ∀ k : List UInt8, num (k.take 4) < 4294967296 := fun k => by
    have := num_lt (k.take 4)
    rw [List.length_take] at this
    exact Nat.lt_of_lt_of_le this (by rw [show (4294967296 : Nat) = 256 ^ 4 from rfl]; exact Nat.pow_le_pow_right (by omega) (by omega))
  have h1 : ∀ k : List UInt8, num (k.take 1) < 256 := fun k => by
    have := num_lt (k.take 1)
    rw [List.length_take] at this
    exact Nat.lt_of_lt_of_le this (by rw [show (256 : Nat) = 256 ^ 1 from rfl]; exact Nat.pow_le_pow_right (by omega) (by omega))
  refine ⟨wrap64_bounds _, ?_, ?_, ?_⟩
  · have := h4 (((l.drop 3).drop 1).drop 8)
    unfold i64ok candT
    simp only
    omega
  · have := h1 (l.drop 3)
    unfold i64ok candT
    simp only
    omega
  · have : ∀ (n : Nat) (k : List UInt8), ∀ x ∈ chunks n k, i64ok x := by
      intro n
      induction n with
      | zero => intro k x hx; cases hx
      | succ n ih =>
        intro k x hx
        unfold chunks at hx
        split at hx
        · cases hx
        · rcases List.mem_cons.1 hx with rfl | hx
          · exact wrap64_bounds _
          · exact ih _ x hx
    exact this _ _

/-- How a tile by value lies, its elements in memory of its own since base. -/
structure TOwn (base : Nat) (w : World) (t : TV) (A : Option Addr) (c : Nat) : Prop where
  own : w.ownsRow base 2 1 (.slice A t.el.length c) t.el.length (t.el.map iv)
  fine : t.Fine
theorem TOwn.el {base : Nat} {w : World} {t : TV} {A : Option Addr} {c : Nat} (h : TOwn base w t A c) (hl : t.el.length ≤ 9223372036854775807) : TEl w t A t.el.length := ⟨rfl, Reads.of_own h.own, hl, h.fine⟩

theorem chunks_le : ∀ (n : Nat) (l : List UInt8), 8 * (chunks n l).length ≤ l.length
  | 0, _ => by unfold chunks; simp
  | n + 1, l => by
    unfold chunks
    split
    · simp
    · have := chunks_le n (l.drop 8)
      rw [List.length_drop] at this
      rw [List.length_cons]
      omega
theorem cand_le (l : List UInt8) : (candT l).el.length ≤ l.length := by
  have := chunks_le (num (((((l.drop 3).drop 1).drop 8).drop 4).take 4)) (((((l.drop 3).drop 1).drop 8).drop 4).drop 4)
  simp only [List.length_drop] at this
  unfold candT
  simp only
  omega
theorem noT_fine : noT.Fine := ⟨by unfold i64ok noT; simp, by unfold i64ok noT; simp, by unfold i64ok noT; simp, fun x hx => by cases hx⟩

end Go.Proofs.Ytpededkfgjmhcaa.tile

/-
  The chapter's first example holds: 'alive' answers true, and what lay there lies.
-/
import Derived.Test.YtlonejpphmpnjaaWriter
namespace Go.Proofs.Ytlonejpphmpnjaa
open Go.RowKit

/-- 'string(b)' of a slice that reads as l. -/
theorem conv_reads {W : World} {B n : Nat} {A : Option Addr} {l : List UInt8} (c : Nat) (h : Reads W B 1 A n (l.map bv)) : (convert 24 9 (.slice A n c)).run Try.prog W = .ok (.string ⟨l.toArray⟩) W := by
  have hl : l.length = n := by simpa using h.1
  subst hl
  rcases A with _ | ad
  · have h0 : l = [] := by
      rcases l with _ | ⟨x, l⟩
      · rfl
      · obtain ⟨ad, h, _⟩ := h.2 (by simp)
        cases h
    subst h0
    exact run_convert_bytes_nil W 24 5 Try.underlying24 Try.underlying5 _ _ _ Try.underlying9
  · refine run_convert_bytes_back W 24 9 5 ad c l Try.underlying24 Try.underlying5 Try.underlying9 (fun j hj => ?_)
    obtain ⟨ad', e, _, hc⟩ := h.2 (by omega)
    injection e with e
    subst e
    exact hc j _ (by rw [List.getElem?_map, List.getElem?_eq_getElem hj]; rfl)

theorem Wr.made (w : World) : Wr (w.alloc (.cells #[.slice none 0 0, .pointer none] 27)) w.heap.size none 0 none [] := Wr.zero (Blk.new w _ _)
theorem foot_new {b k : Nat} (h : foot b none none k) : k = b := by
  rcases h with h | ⟨ad, e, _⟩ | ⟨p, e, _⟩
  · exact h
  · cases e
  · cases e

theorem alive_bytes : ([] : List UInt8) ++ be 2 258 ++ be 8 ((-2 : Int) % 18446744073709551616).toNat ++ be 2 2 ++ [97, 98] = [1, 2, 255, 255, 255, 255, 255, 255, 255, 254, 0, 2, 97, 98] := by decide +kernel

set_option maxHeartbeats 1000000 in
theorem alive_any (w : World) : Calls Try.prog 29 #[] w fun e w' => e = .returned (.bool true) ∧ Below w.heap.size w w' := by
  have hz := Wr.made w
  have c1 := wnum_ok _ _ _ _ _ _ hz 2 258 (.inr (.inl rfl)) (by decide) (by omega) (by simp)
  have H1 := Lib.hid c1
  clear c1 hz
  go_enter Try.func29, Try.ntmps29
  go_wp2_with (go_at_call 10; refine H1.out.mono ?_; rintro e w1 ⟨rfl, A1, c1, u1, g1, f1, k1⟩)
  have c2 := wint_any w1 _ _ _ _ _ g1 (-2) (by simp [be_length])
  have H2 := Lib.hid c2
  have G1 := Lib.hid g1
  clear c2 g1
  go_wp2_with (go_at_call 12; refine H2.out.mono ?_; rintro e w2 ⟨rfl, A2, c2, u2, g2, f2, k2⟩)
  have c3 := wtext_any w2 _ _ _ _ _ g2 { data := #[97, 98] } (by decide) (by simp [be_length]; decide)
  have H3 := Lib.hid c3
  have G2 := Lib.hid g2
  clear c3 g2
  go_wp2_with (go_at_call 14; refine H3.out.mono ?_; rintro e w3 ⟨rfl, A3, c3, u3, g3, f3, k3⟩)
  replace g3 : Wr w3 w.heap.size A3 c3 u3 [1, 2, 255, 255, 255, 255, 255, 255, 255, 254, 0, 2, 97, 98] := by rw [← alive_bytes]; exact g3
  have c4 := wbytes_any w3 _ _ _ _ _ g3 (by simp)
  have H4 := Lib.hid c4
  clear c4 g3
  have K : Below w.heap.size w w3 := by
    have f1' : ∀ k, foot w.heap.size A1 u1 k → ¬ k < w.heap.size := fun k h hk => by
      rcases f1 k h with h | h
      · have := foot_new h; omega
      · simp at h; omega
    have f2' : ∀ k, foot w.heap.size A2 u2 k → ¬ k < w.heap.size := fun k h hk => by
      rcases f2 k h with h | h
      · exact f1' k h hk
      · have := k1.size; simp at this; omega
    have b1 : Below w.heap.size w w1 := ((Below.refl _ w).alloc (Nat.le_refl _) _).trans (k1.below (by simp) (fun i hi h => by have := foot_new h; omega))
    exact (b1.trans (k2.below b1.size (fun i hi h => f1' i h hi))).trans (k3.below (Nat.le_trans b1.size k2.size) (fun i hi h => f2' i h hi))
  clear f1 f2 f3 k1 k2 k3
  go_wp2_with (go_at_call 18; refine H4.out.mono ?_; rintro e w4 ⟨A4, c4, rfl, g4, k4⟩; have cv : (convert 24 9 (.slice A4 14 c4)).run Try.prog w4 = .ok (.string { data := #[1, 2, 255, 255, 255, 255, 255, 255, 255, 254, 0, 2, 97, 98] }) w4 := conv_reads c4 (Reads.of_own g4); clear g4)
  go_ret
  exact ⟨rfl, K.trans (k4.mono K.size)⟩

end Go.Proofs.Ytlonejpphmpnjaa

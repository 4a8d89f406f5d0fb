/-
  Layer 9: alive, the chapter's first examples, is true for every world.
-/
import Derived.Test.YtdjneiboeehclaaNtRows
namespace Go.Proofs.Ytdjneiboeehclaa.note
open Go.RowKit Go.Maps Go.Proofs.Ytdjneiboeehclaa.crc Go.Proofs.Ytdjneiboeehclaa.root

theorem al_out : outN ⟨2, 2, 3, 9⟩ = [2, 0, 0, 0, 2, 0, 0, 0, 3, 0, 0, 0, 0, 0, 0, 0, 9] := by decide +kernel
theorem al_err : errN ⟨2, 2, 3, 9⟩ = 0 := by decide +kernel
def alN : List NV := [⟨1, 4, 0, 0⟩, ⟨2, 0, 0, 7⟩]
def alL : List (List UInt8) := alN.map outN
theorem al_fine : ∀ x ∈ alN, x.Fine := by
  intro x hx
  simp only [alN, List.mem_cons, List.not_mem_nil, or_false] at hx
  rcases hx with rfl | rfl <;> refine ⟨?_, ?_, ?_, ?_⟩ <;> unfold i64ok <;> simp
theorem al_begun : begunN 4 alL = true := by decide +kernel
theorem al_notes : notesN 4 alL = [⟨2, 0, 0, 7⟩] := by decide +kernel
theorem al_tile0 : (fileN [⟨2, 0, 0, 7⟩] 2 0 0).getD 0 = 7 ∧ (fileN [⟨2, 0, 0, 7⟩] 2 0 0).isSome = true := by decide +kernel
theorem al_tile1 : (fileN [⟨2, 0, 0, 7⟩] 2 0 1).getD 0 = 0 ∧ (fileN [⟨2, 0, 0, 7⟩] 2 0 1).isSome = false := by decide +kernel
theorem al_reads (w : World) : Reads (w.alloc (.cells #[.int .i64 1, .int .i64 4, .int .i64 0, .int .i64 0, .int .i64 2, .int .i64 0, .int .i64 0, .int .i64 7] 23)) (w.alloc (.cells #[.int .i64 1, .int .i64 4, .int .i64 0, .int .i64 0, .int .i64 2, .int .i64 0, .int .i64 0, .int .i64 7] 23)).heap.size 4 (some ⟨w.heap.size, 0, none⟩) 2 (alN.flatMap nc) := by
  refine ⟨rfl, fun _ => ⟨_, rfl, by simp, fun j u hu => ?_⟩⟩
  have e : (⟨w.heap.size, 0, none⟩ : Addr).add j = ⟨w.heap.size, j, none⟩ := by unfold Addr.add; split <;> simp_all
  rw [e, (Blk.new w _ _).cell j]
  simp [alN, nc] at hu ⊢
  exact hu

set_option maxRecDepth 100000 in
set_option maxHeartbeats 4000000 in
theorem nalive_any (w : World) : Calls Try.prog 27 #[] w fun e w' => e = .returned (.bool true) ∧ Below w.heap.size w w' := by
  have HEN := Lib.hid (nencode_any ⟨2, 2, 3, 9⟩ w ⟨by unfold i64ok; simp, by unfold i64ok; simp, by unfold i64ok; simp, by unfold i64ok; simp⟩)
  rw [al_out, al_err] at HEN
  unfold nv at HEN
  simp only at HEN
  have i1 : i64ok 0 := by unfold i64ok; omega
  have i2 : i64ok 1 := by unfold i64ok; omega
  have I1 := Lib.hid i1
  have I2 := Lib.hid i2
  clear i1 i2
  go_enter Try.func27, Try.ntmps27
  go_wp2_with (first
    | (go_at_call 9; refine HEN.out.mono ?_; rintro e w1 ⟨v, rfl, g⟩; obtain ⟨A1, c1, rfl, o1, b1⟩ := gives_len g (show ([2, 0, 0, 0, 2, 0, 0, 0, 3, 0, 0, 0, 0, 0, 0, 0, 9] : List UInt8).length = 17 from rfl)
       have O1 := Lib.hid o1; have B1 := Lib.hid b1
       have HBY := Lib.hid (nbytes_any (n := 2) (c := 2) rfl al_fine (by decide) (al_reads w1))
       clear g o1 b1)
    | (go_at_call 26; refine HBY.out.mono ?_; rintro e w2 ⟨B, d, us, rfl, hG⟩
       have B12 : Below w1.heap.size w1 w2 := ((Below.refl _ w1).alloc (Nat.le_refl _) _).trans (hG.below.mono (by simp))
       have hnw := nnew_any 4 (c := d) hG.rws (by decide) (own_cap9 hG.own)
       rw [show List.map outN alN = alL from rfl, al_begun, al_notes] at hnw
       have HNW := Lib.hid hnw
       have B2 := Lib.hid (B1.out.trans (B12.mono B1.out.size))
       have O2 := Lib.hid (own_stay O1.out B12)
       clear hG B12 hnw)
    | (go_at_call 14; refine HNW.out.mono ?_; rintro e w3 ⟨b, mf, md, v, rfl, hl, b3⟩
       have HL := Lib.hid hl
       have B3 := Lib.hid (B2.out.trans (b3.mono B2.out.size))
       have O3 := Lib.hid (own_stay O2.out b3)
       have ht := ltile_any hl 0 0 I1.out I1.out
       rw [al_tile0.1, al_tile0.2] at ht
       have HT := Lib.hid ht
       clear hl b3 ht)
    | (go_at_call 18; (have l0 := HT1.out; clear l0); refine HT1.out.mono ?_; rintro e w5 ⟨rfl, b5⟩
       have HL5 := Lib.hid (HL4.out.below b5)
       have B5 := Lib.hid (B4.out.trans (b5.mono B4.out.size))
       have cv := conv_reads c1 (Reads.of_own (own_stay O4.out b5))
       have HBG := Lib.hid (lbegun_any HL5.out)
       clear b5)
    | (go_at_call 18; refine HT.out.mono ?_; rintro e w4 ⟨rfl, b4⟩
       have HL4 := Lib.hid (HL.out.below b4)
       have B4 := Lib.hid (B3.out.trans (b4.mono B3.out.size))
       have O4 := Lib.hid (own_stay O3.out b4)
       have ht := ltile_any HL4.out 0 1 I1.out I2.out
       rw [al_tile1.1, al_tile1.2] at ht
       have HT1 := Lib.hid ht
       clear b4 ht)
    | (go_at_call 21; refine HBG.out.mono ?_; rintro e _ ⟨rfl, rfl⟩))
  go_ret
  exact ⟨rfl, B5.out⟩
end Go.Proofs.Ytdjneiboeehclaa.note

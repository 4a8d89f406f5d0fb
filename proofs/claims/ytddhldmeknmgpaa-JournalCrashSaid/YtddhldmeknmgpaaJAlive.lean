/-
  Layer 8: the chapter's first examples hold: alive answers true, whatever the world.
-/
import Derived.Test.YtddhldmeknmgpaaJFlat
import Derived.Test.YtddhldmeknmgpaaJRecs
namespace Go.Proofs.Ytddhldmeknmgpaa.journal
open Go.RowKit Go.Proofs.Ytddhldmeknmgpaa.crc Go.Proofs.Ytddhldmeknmgpaa.root

def aS1 : List (List UInt8) := (zeros 4).set 1 (sectJ ⟨7, 1, [97]⟩)
def aS2 : List (List UInt8) := aS1.set 2 (sectJ ⟨7, 2, [98, 99]⟩)
theorem aS1_len : aS1.length = 4 := by unfold aS1; rw [List.length_set, zeros_length]
theorem aS2_len : aS2.length = 4 := by unfold aS2; rw [List.length_set, aS1_len]
theorem a_on1 : OnDisk aS1 1 7 [[97]] := by
  have := (OnDisk.nil (zeros 4) 1 7).app (l := [97]) (by rw [zeros_length]; decide)
  exact this
theorem a_on2 : OnDisk aS2 1 7 [[97], [98, 99]] := by
  have := a_on1.app (l := [98, 99]) (by rw [aS1_len]; decide)
  exact this
theorem a_third : aS2.getD 3 [] = List.replicate 128 0 := by
  unfold aS2 aS1
  rw [getD_set_ne (by decide), getD_set_ne (by decide)]
  rfl
theorem a_open0 : openE (flat (zeros 4) 0) 1 (3 : Nat) = 0 := open_flat (a := 1) (by decide) (by rw [zeros_length]; decide) (by rw [zeros_length]; decide)
theorem a_open2 : openE (flat aS2 2) 1 (3 : Nat) = 0 := open_flat (a := 1) (by decide) (by rw [aS2_len]; decide) (by rw [aS2_len]; decide)
theorem a_ls0 : openL (flat (zeros 4) 0) 1 3 7 = [] := openL_is (a := 1) (by rw [zeros_length]; decide) (by rw [zeros_length]; decide) (by decide) (fun l h => by cases h) (OnDisk.nil _ _ _) (by decide) (fun _ => validJ_bad zero_bad)
theorem a_ls2 : openL (flat aS2 2) 1 3 7 = [[97], [98, 99]] := openL_is (a := 1) (by rw [aS2_len]; decide) (by rw [aS2_len]; decide) (by decide) (by decide) a_on2 (by decide) (fun _ => by
  show validJ 7 2 (aS2.getD 3 []) = false
  rw [a_third]
  exact validJ_bad zero_bad)
/-- A literal's bytes, once they are converted. -/
theorem lit_read (w : World) (C : Array Value) (l : List UInt8) (n : Nat) (hc : C = (l.map bv).toArray) (hn : l.length = n) (fr : Nat × Nat) : Reads (w.alloc (.cells C 5 fr)) (w.alloc (.cells C 5 fr)).heap.size 1 (some ⟨w.heap.size, 0, none⟩) n (l.map bv) := reads_mark w C fr l n hc hn

theorem sep_lit {N : Nat} {w0 w : World} {C : Array Value} {fr : Nat × Nat} {d : DAt} {s : RSt} (L : Lives N w0 (w.alloc (.cells C 5 fr)) d s) : ∀ ad, some (⟨w.heap.size, 0, none⟩ : Addr) = some ad → ¬ d.foot ad.block := fun ad e hf => by
  injection e with e
  subst e
  obtain ⟨kv, h⟩ := L.dk
  exact (h.foot_typ _ hf).2 ⟨C, fr, heap_alloc_new w _⟩
theorem lit_reads {w : World} {C : Array Value} {t : TypeId} {n : Nat} {xs : List Value} (hc : C = xs.toArray) (hn : xs.length = n) : Reads (w.alloc (.cells C t)) (w.alloc (.cells C t)).heap.size 1 (some ⟨w.heap.size, 0, none⟩) n xs := by
  subst hc hn
  refine ⟨by omega, fun _ => ⟨_, rfl, by simp, fun j u hu => ?_⟩⟩
  have hp : (⟨w.heap.size, 0, none⟩ : Addr).add j = ⟨w.heap.size, j, none⟩ := by unfold Addr.add; split <;> simp_all
  rw [hp, (Blk.new w t xs.toArray).cell j, List.getElem?_toArray]
  exact hu
/-- Append of a literal. -/
theorem lapp_lit {N b n M ep a m : Nat} {w0 w W : World} {d : DAt} {S S' : List (List UInt8)} {pv : Value} {vs : List Value} {ls : List (List UInt8)} {l : List UInt8} {C : Array Value} {fr : Nat × Nat} (L : Lives N w0 w d (flat S m)) (J : JAt N w b (some ⟨d.b, 0, none⟩) pv vs ⟨(a : Int), M, ep, ls⟩) (hf : (⟨(a : Int), M, ep, ls⟩ : JS).Fit) (hW : w.alloc (.cells C 5 fr) = W) (hc : C = (l.map bv).toArray) (hl : l.length = n) (h64 : n ≤ 64) (hlt : ls.length < M) (hS : a + M ≤ S.length) (hm : m < 1000000) (hS' : S.set (a + ls.length) (sectJ ⟨ep, ls.length + 1, l⟩) = S') :
    Calls Try.prog 15 #[.pointer (some ⟨b, 0, none⟩), .slice (some ⟨w.heap.size, 0, none⟩) n n] W fun e w' => e = .returned (.int .i64 0) ∧ Lives N w0 w' d (flat S' (m + 1)) ∧ (∃ pv' vs', JAt N w' b (some ⟨d.b, 0, none⟩) pv' vs' ⟨(a : Int), M, ep, ls ++ [l]⟩) ∧ (⟨(a : Int), M, ep, ls ++ [l]⟩ : JS).Fit := by
  subst hW
  have hb : Below w.heap.size w (w.alloc (.cells C 5 fr)) := (Below.refl _ _).alloc (Nat.le_refl _) _
  have L' := L.next L.lt hb
  refine (lapp L' (J.below hb) hf hl (lit_read w C l n hc hl fr) (fun _ => sep_lit L') h64 hlt hS hm hS').mono ?_
  rintro e w' ⟨h1, h2, h3, _⟩
  exact ⟨h1, h2, h3, fit_app hf hlt⟩

set_option maxRecDepth 100000 in
set_option maxHeartbeats 4000000 in
theorem jalive_any (w : World) : Calls Try.prog 19 #[] w fun e w' => e = .returned (.bool true) ∧ Below w.heap.size w w' := by
  have HN := Lib.hid (lnew (w0 := w) (w := w) 4 (Nat.le_refl _) (Below.refl _ _) (by decide) (by decide) (flat_new 4))
  go_enter Try.func19, Try.ntmps19
  go_wp2_with (go_at_call 13; refine HN.out.mono ?_; rintro e w1 ⟨d, rfl, L1, hb1, hf1⟩
               have HO := Lib.hid (lopen_ok (M := 3) (ep := 7) L1 a_open0 (by decide) (by decide) (by decide) a_ls0)
               have HB1 := Lib.hid hb1; clear L1 hf1 hb1)
  go_wp2_with (first
    | (go_at_call 14; (have l0 := HO3.out; clear l0); refine HO3.out.mono ?_; rintro e w5 ⟨b5, pv5, vs5, rfl, hb5, bl5, L5, J5, F5⟩
       have HL5 := Lib.hid L5; have HJ5 := Lib.hid J5; have HJ5o := Lib.hid (H4.out.2.below bl5); have HF5 := Lib.hid F5
       have HLN := Lib.hid (jlen_any HJ5o.out); have HLF := Lib.hid (jleft_any (k := 1) HJ5o.out H4f.out rfl)
       clear hb5 bl5 L5 J5 F5)
    | (go_at_call 14; refine HO.out.mono ?_; rintro e w2 ⟨b, pv, vs, rfl, hb2, bl2, L2, J2, F2⟩
       have cv1 := conv_lit w2 #[.int .u8 97] 1 1
       have HA1 := Lib.hid (lapp_lit (l := [97]) (fr := (1, 2)) L2 (J2.mono HB1.out.size) F2 rfl rfl rfl (by decide) (by decide) (by rw [zeros_length]; decide) (by decide) (S' := aS1) rfl)
       clear hb2 bl2 L2 J2 F2)
    | (go_at_call 15; (have l0 := HA2.out; clear l0); refine HA2.out.mono ?_; rintro e w4 ⟨rfl, L4, ⟨pv4, vs4, J4⟩, F4⟩
       have HO3 := Lib.hid (lopen_ok (M := 3) (ep := 7) L4 a_open2 (by decide) (by decide) (by decide) a_ls2)
       have H4 := Lib.hid (And.intro L4 J4); have H4f := Lib.hid F4
       clear L4 J4 F4)
    | (go_at_call 15; refine HA1.out.mono ?_; rintro e w3 ⟨rfl, L3, ⟨pv3, vs3, J3⟩, F3⟩
       have cv2 := conv_lit w3 #[.int .u8 98, .int .u8 99] 2 2
       have HA2 := Lib.hid (lapp_lit (l := [98, 99]) (fr := (2, 3)) L3 J3 F3 rfl rfl rfl (by decide) (by decide) (by rw [aS1_len]; decide) (by decide) (S' := aS2) rfl)
       clear L3 J3 F3)
    | (go_at_call 16; refine HLN.out.mono ?_; rintro e _ ⟨rfl, rfl⟩)
    | (go_at_call 17; refine HLF.out.mono ?_; rintro e _ ⟨rfl, nz, rfl⟩
       have HR := Lib.hid (jrecords_any (HJ5.out.below (below_drewN (Below.refl _ _) nz)) (by decide))
       have HL6 := Lib.hid (HL5.out.next HL5.out.lt (below_drewN (Below.refl _ _) nz)))
    | (go_at_call 20; refine HR.out.mono ?_; rintro e w7 ⟨A7, c7, us7, rfl, g7⟩
       have HLI := Lib.hid (jlist_any (w := w7.alloc (.cells #[.string ⟨#[97]⟩, .string ⟨#[98, 99]⟩] 9)) (ss := [⟨#[97]⟩, ⟨#[98, 99]⟩]) (n := 2) (c := 2) (A := some ⟨w7.heap.size, 0, none⟩) rfl (by decide) (by decide) (lit_reads rfl rfl))
       have HG7 := Lib.hid g7; have HL7 := Lib.hid (HL6.out.next HL6.out.lt g7.below); clear g7)
    | (go_at_call 41; refine HLI.out.mono ?_; rintro e w9 ⟨B9, d9, us9, rfl, o9, h9, b9⟩
       have b79 : Below w7.heap.size w7 w9 := ((Below.refl _ w7).alloc (Nat.le_refl _) _).trans (b9.mono (by simp))
       have g9 := HG7.out.next b79
       have HLS := Lib.hid (lists_any (w := w9) (la := [[97], [98, 99]]) (lb := txts [⟨#[97]⟩, ⟨#[98, 99]⟩]) (c := c7) (d := d9) rfl rfl (by decide) (Reads.of_own g9.own) (Reads.of_own o9) (RHeads.of g9.owns.heads) (RHeads.of h9))
       have HL9 := Lib.hid (HL7.out.next HL7.out.lt b79); clear o9 h9 b9 b79 g9)
    | (go_at_call 24; refine HLS.out.mono ?_; rintro e _ ⟨rfl, z, rfl⟩))
  go_ret
  exact ⟨rfl, (HL9.out.next HL9.out.lt (below_drewN (Below.refl _ _) z)).below⟩
end Go.Proofs.Ytddhldmeknmgpaa.journal

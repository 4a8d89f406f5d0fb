/-
  The tile of layer 5: Decode.
-/
import Derived.Test.YtpededkfgjmhcaaTDec
namespace Go.Proofs.Ytpededkfgjmhcaa.tile
open Go.RowKit Go.Proofs.Ytpededkfgjmhcaa.crc Go.Proofs.Ytpededkfgjmhcaa.crcSeals Go.Proofs.Ytpededkfgjmhcaa.crcJoins

set_option maxRecDepth 100000 in
set_option maxHeartbeats 400000 in
theorem tdecode_any (A : Option Addr) (c : Nat) (l : List UInt8) (w : World) (hr : Reads w w.heap.size 1 A l.length (l.map bv)) (hl : l.length ≤ 140737488355000) :
    Calls Try.prog 15 #[.slice A l.length c] w fun e w' => ∃ A' c', e = .returned (.tuple #[tv (decT l) A' (decT l).el.length c', .int .i64 (decErr l)]) ∧ TOwn w.heap.size w' (decT l) A' c' ∧ Below w.heap.size w w' := by
  have hb0 : Below w.heap.size w (w.alloc (.cells #[.int .i64 0, .int .i64 0, .int .i64 0, .slice none 0 0] 24)) := (Below.refl _ _).alloc (Nat.le_refl _) _
  have hx0 := Blk.new w 24 #[.int .i64 0, .int .i64 0, .int .i64 0, .slice none 0 0]
  have hr0 := (hr.below hb0).more hb0.size
  have HS := Lib.hid (tsectors_any A c l (w.alloc (.cells #[.int .i64 0, .int .i64 0, .int .i64 0, .slice none 0 0] 24)) (by omega))
  by_cases h0 : secs l = 0
  · have hg : goodB l = false := by unfold goodB; rw [decide_eq_false (by omega), Bool.false_and]
    have hd : decT l = noT := by unfold decT; rw [hg]; rfl
    have he : decErr l = 50 := by unfold decErr; rw [hg]; rfl
    rw [hd, he]
    rw [h0, show ((0 : Nat) : Int) = 0 from rfl] at HS
    have HX := Lib.hid hx0
    have HB := Lib.hid hb0
    clear hr hr0 hx0 hb0 hg hd he
    generalize l.length = n at *
    go_enter Try.func15, Try.ntmps15
    go_wp2_with (go_at_call 35; refine HS.out.mono ?_; rintro e _ ⟨rfl, rfl⟩)
    refine bodyPost_ret (results_tile2 rfl rfl rfl HX.out) rfl ?_
    exact ⟨none, 0, rfl, ⟨World.ownsRow_nil _ _ _ _, noT_fine⟩, HB.out⟩
  · obtain ⟨hs1, hs2, hs3⟩ := secs_some h0
    have hgood : goodB l = (okT (candT l) (secs l) && (bytesT (candT l) (secs l) == l)) := by unfold goodB; rw [decide_eq_true (show secs l ≠ 0 from h0), Bool.true_and]
    have hcl := cand_le l
    have hcf := cand_fine l
    have HC := Lib.hid (tcand_any A c l (w.alloc (.cells #[.int .i64 0, .int .i64 0, .int .i64 0, .slice none 0 0] 24)) hr0 (by omega) (by omega))
    have HX := Lib.hid hx0
    have HB := Lib.hid hb0
    have HR := Lib.hid hr0
    obtain ⟨S, hS⟩ : ∃ S, secs l = S := ⟨_, rfl⟩
    have hse : ((S : Int) == 0) = false := by rw [beq_eq_false_iff_ne]; omega
    unfold decT decErr
    rw [hgood]
    rw [hS] at HS h0 hs1 hs2 hs3 ⊢
    clear hgood hr hr0 hx0 hb0 hS
    obtain ⟨T, hT⟩ : ∃ T, candT l = T := ⟨_, rfl⟩
    rw [hT] at HC hcl hcf ⊢
    have ENC : Hid (∀ W A' c', TEl W T A' T.el.length → Calls Try.prog 9 #[tv T A' T.el.length c', .int .i64 S] W fun e w' => ∃ v, e = .returned (.tuple #[v, .int .i64 (errT T S)]) ∧ Gives W w' v (outT T S)) := Lib.hid (fun W A' c' h => tencode_any T S A' T.el.length c' W h)
    have HFI := Lib.hid hcf
    have HCL := Lib.hid hcl
    have HN2 : Hid (l.length ≤ 8192) := Lib.hid (by omega)
    have hS64 : S ≤ 64 := by omega
    clear hT hcf hcl hs1 hs2 hs3 hl
    unfold errT outT at ENC
    generalize l.length = n at *
    cases hok : okT T S
    · rw [hok] at ENC
      simp only [Bool.false_eq_true, if_false, Bool.false_and] at ENC ⊢
      clear hok
      unfold tv at *
      generalize hen : T.el.length = en at *
      have HEN := Lib.hid hen
      have HE9 : Hid (en ≤ 9223372036854775807) := Lib.hid (by have := HCL.out; have := HN2.out; omega)
      clear hen
      go_enter Try.func15, Try.ntmps15
      go_wp2_with (first
        | (go_at_call 35; refine HS.out.mono ?_; rintro e _ ⟨rfl, rfl⟩)
        | (go_at_call 36; refine HC.out.mono ?_; rintro e w1 ⟨A', c', rfl, ho, hb⟩; have HO := Lib.hid ho; have HB1 := Lib.hid hb; clear ho hb)
        | (go_at_call 9; refine (ENC.out _ _ _ ⟨HEN.out, (Reads.of_own (HO.out.alloc _)), HE9.out, HFI.out⟩).mono ?_; rintro e w2 ⟨v, rfl, g⟩; obtain ⟨A2, c2, rfl, o2, b2, _⟩ := gives_conv g
           have hb12 : Below w1.heap.size w1 w2 := ((Below.refl _ w1).alloc (Nat.le_refl _) _).trans (b2.mono (by simp))
           have hb02 := HB1.out.trans (hb12.mono HB1.out.size)
           have hx2 := HX.out.below hb02 HX.out.lt
           have x0 := hx2.cell 0; have x1 := hx2.cell 1; have x2 := hx2.cell 2; have x3 := hx2.cell 3; have f0 := hx2.frozen 0; have f1 := hx2.frozen 1; have f2 := hx2.frozen 2; have f3 := hx2.frozen 3
           have hy2 := (Blk.new w1 24 #[.int .i64 T.file, .int .i64 T.no, .int .i64 T.kind, .slice A' en c']).below b2 (by simp)
           have y0 := hy2.cell 0; have y1 := hy2.cell 1; have y2 := hy2.cell 2; have y3 := hy2.cell 3
           have HX2 := Lib.hid hx2; have O2 := Lib.hid o2; have HB02 := Lib.hid hb02; have HB12 := Lib.hid hb12
           clear g o2 b2 hb12 hb02 hx2 hy2)
        | (go_at_call 37; refine (equal_any A2 A _ _ c2 c BT l w2 (Reads.of_own O2.out) ((HR.out.below HB02.out).more HB02.out.size)).mono ?_; rintro e _ ⟨rfl, rfl⟩))
      refine bodyPost_ret (results_tile2 rfl rfl rfl (blk_tile _ _ _ _ HX2.out)) rfl ?_
      have hk := keep_tile w2 w.heap.size (.int .i64 0) (.int .i64 0) (.int .i64 0) (.slice none 0 0)
      exact ⟨none, 0, rfl, ⟨World.ownsRow_nil _ _ _ _, noT_fine⟩, HB.out.trans ((HB02.out.mono HB.out.size).trans (hk.below (by have := HB.out.size; have := HB02.out.size; omega) (fun i hi e => by omega)))⟩
    · rw [hok] at ENC
      simp only [if_true, Bool.true_and, Int.toNat_natCast] at ENC ⊢
      clear hok
      generalize bytesT T S = BT at *
      cases heq : BT == l
      · simp only [Bool.false_eq_true, if_false]
        unfold tv at *
        generalize hen : T.el.length = en at *
        have HEN := Lib.hid hen
        have HE9 : Hid (en ≤ 9223372036854775807) := Lib.hid (by have := HCL.out; have := HN2.out; omega)
        clear hen
        go_enter Try.func15, Try.ntmps15
        go_wp2_with (first
          | (go_at_call 35; refine HS.out.mono ?_; rintro e _ ⟨rfl, rfl⟩)
          | (go_at_call 36; refine HC.out.mono ?_; rintro e w1 ⟨A', c', rfl, ho, hb⟩; have HO := Lib.hid ho; have HB1 := Lib.hid hb; clear ho hb)
          | (go_at_call 9; refine (ENC.out _ _ _ ⟨HEN.out, (Reads.of_own (HO.out.alloc _)), HE9.out, HFI.out⟩).mono ?_; rintro e w2 ⟨v, rfl, g⟩; obtain ⟨A2, c2, rfl, o2, b2, _⟩ := gives_conv g
             have hb12 : Below w1.heap.size w1 w2 := ((Below.refl _ w1).alloc (Nat.le_refl _) _).trans (b2.mono (by simp))
             have hb02 := HB1.out.trans (hb12.mono HB1.out.size)
             have hx2 := HX.out.below hb02 HX.out.lt
             have x0 := hx2.cell 0; have x1 := hx2.cell 1; have x2 := hx2.cell 2; have x3 := hx2.cell 3; have f0 := hx2.frozen 0; have f1 := hx2.frozen 1; have f2 := hx2.frozen 2; have f3 := hx2.frozen 3
             have hy2 := (Blk.new w1 24 #[.int .i64 T.file, .int .i64 T.no, .int .i64 T.kind, .slice A' en c']).below b2 (by simp)
             have y0 := hy2.cell 0; have y1 := hy2.cell 1; have y2 := hy2.cell 2; have y3 := hy2.cell 3
             have HX2 := Lib.hid hx2; have O2 := Lib.hid o2; have HB02 := Lib.hid hb02; have HB12 := Lib.hid hb12
             clear g o2 b2 hb12 hb02 hx2 hy2)
          | (go_at_call 37; refine (equal_any A2 A _ _ c2 c BT l w2 (Reads.of_own O2.out) ((HR.out.below HB02.out).more HB02.out.size)).mono ?_; rintro e _ ⟨rfl, rfl⟩))
        refine bodyPost_ret (results_tile2 rfl rfl rfl (blk_tile _ _ _ _ HX2.out)) rfl ?_
        have hk := keep_tile w2 w.heap.size (.int .i64 0) (.int .i64 0) (.int .i64 0) (.slice none 0 0)
        exact ⟨none, 0, rfl, ⟨World.ownsRow_nil _ _ _ _, noT_fine⟩, HB.out.trans ((HB02.out.mono HB.out.size).trans (hk.below (by have := HB.out.size; have := HB02.out.size; omega) (fun i hi e => by omega)))⟩
      · simp only [if_true]
        unfold tv at *
        generalize hen : T.el.length = en at *
        have HEN := Lib.hid hen
        have HE9 : Hid (en ≤ 9223372036854775807) := Lib.hid (by have := HCL.out; have := HN2.out; omega)
        clear hen
        go_enter Try.func15, Try.ntmps15
        go_wp2_with (first
          | (go_at_call 35; refine HS.out.mono ?_; rintro e _ ⟨rfl, rfl⟩)
          | (go_at_call 36; refine HC.out.mono ?_; rintro e w1 ⟨A', c', rfl, ho, hb⟩; have HO := Lib.hid ho; have HB1 := Lib.hid hb; clear ho hb)
          | (go_at_call 9; refine (ENC.out _ _ _ ⟨HEN.out, (Reads.of_own (HO.out.alloc _)), HE9.out, HFI.out⟩).mono ?_; rintro e w2 ⟨v, rfl, g⟩; obtain ⟨A2, c2, rfl, o2, b2, _⟩ := gives_conv g
             have hb12 : Below w1.heap.size w1 w2 := ((Below.refl _ w1).alloc (Nat.le_refl _) _).trans (b2.mono (by simp))
             have hb02 := HB1.out.trans (hb12.mono HB1.out.size)
             have hx2 := HX.out.below hb02 HX.out.lt
             have x0 := hx2.cell 0; have x1 := hx2.cell 1; have x2 := hx2.cell 2; have x3 := hx2.cell 3; have f0 := hx2.frozen 0; have f1 := hx2.frozen 1; have f2 := hx2.frozen 2; have f3 := hx2.frozen 3
             have hy2 := (Blk.new w1 24 #[.int .i64 T.file, .int .i64 T.no, .int .i64 T.kind, .slice A' en c']).below b2 (by simp)
             have y0 := hy2.cell 0; have y1 := hy2.cell 1; have y2 := hy2.cell 2; have y3 := hy2.cell 3
             have HX2 := Lib.hid hx2; have O2 := Lib.hid o2; have HB02 := Lib.hid hb02; have HB12 := Lib.hid hb12
             clear g o2 b2 hb12 hb02 hx2 hy2)
          | (go_at_call 37; refine (equal_any A2 A _ _ c2 c BT l w2 (Reads.of_own O2.out) ((HR.out.below HB02.out).more HB02.out.size)).mono ?_; rintro e _ ⟨rfl, rfl⟩))
        refine bodyPost_ret (results_tile2 rfl rfl rfl (blk_tile _ _ _ _ HX2.out)) rfl ?_
        have hk := keep_tile w2 w.heap.size (.int .i64 T.file) (.int .i64 T.no) (.int .i64 T.kind) (.slice A' en c')
        have ho := hk.own ((Keep.of_below (S := fun _ => False) HB12.out).own HO.out (fun _ _ h => h)) (fun g e e2 => by have := (own_is HO.out g e).1; simp at this; omega)
        refine ⟨A', c', rfl, ⟨?_, HFI.out⟩, HB.out.trans ((HB02.out.mono HB.out.size).trans (hk.below (by have := HB.out.size; have := HB02.out.size; omega) (fun i hi e => by omega)))⟩
        rw [HEN.out]
        exact own_mono ho (by simp)

end Go.Proofs.Ytpededkfgjmhcaa.tile

/-
  The root of layer 6: candidate, Decode.
-/
import Derived.Test.YtoiopoghcjkgcaaRtEnc
import Derived.Deep.MidRow
namespace Go.Proofs.Ytoiopoghcjkgcaa.root
open Go.RowKit Go.Proofs.Ytoiopoghcjkgcaa.crc

theorem load_root (w : World) (g : Nat) (x y z : Value) (hb : Blk w g 25 #[x, y, z]) : (loadVar 25 ⟨g, 0, none⟩).run Try.prog w = .ok (.agg #[x, y, z]) w := by
  have h1 : w.rangeAt g 0 [x, y, z] := fun j v hv => by
    rw [Nat.zero_add, hb.cell]
    simpa using hv
  exact run_loadVar_mid w g 0 25 [x, y, z] _ h1 Try.underlying25 rfl (by kernel_rfl)
theorem results_root {fn : Func} {t : Tmp} {tmps : Array Value} {w : World} {g : Nat} {x y z : Value} (h : fn.results = #[.cell t 25]) (ht : tmps.getD t undef = .pointer (some ⟨g, 0, none⟩)) (hb : Blk w g 25 #[x, y, z]) : (results fn tmps).run Try.prog w = .ok (.agg #[x, y, z]) w := by
  have h1 := load_root w g x y z hb
  rw [Array.getD_eq_getD_getElem?] at ht
  simp [results, h, ht, h1, asAddr]
theorem results_root2 {fn : Func} {t i : Tmp} {tmps : Array Value} {w : World} {g : Nat} {x y z v : Value} (h : fn.results = #[.cell t 25, .tmp i]) (ht : tmps.getD t undef = .pointer (some ⟨g, 0, none⟩)) (hv : tmps.getD i undef = v) (hb : Blk w g 25 #[x, y, z]) : (results fn tmps).run Try.prog w = .ok (.tuple #[.agg #[x, y, z], v]) w := by
  have h1 := load_root w g x y z hb
  rw [Array.getD_eq_getD_getElem?] at ht hv
  simp [results, h, ht, h1, hv, asAddr]
theorem keep_root (W : World) (g : Nat) (x y z : Value) : Keep (fun k => k = g) W (((W.setCell ⟨g, 0, none⟩ x).setCell ⟨g, 1, none⟩ y).setCell ⟨g, 2, none⟩ z) := by
  have h1 : Keep (fun k => k = g) W (W.setCell ⟨g, 0, none⟩ x) := (Keep.refl _ _).setCell _ _ (fun _ => rfl)
  exact (h1.setCell _ _ (fun _ => rfl)).setCell _ _ (fun _ => rfl)
theorem blk_root {W : World} {g : Nat} {a b c : Value} (x y z : Value) (h : Blk W g 25 #[a, b, c]) : Blk (((W.setCell ⟨g, 0, none⟩ x).setCell ⟨g, 1, none⟩ y).setCell ⟨g, 2, none⟩ z) g 25 #[x, y, z] :=
  ((h.set_ 0 x).set_ 1 y).set_ 2 z

set_option maxRecDepth 100000 in
set_option maxHeartbeats 4000000 in
theorem rcand_any (A : Option Addr) (c : Nat) (l : List UInt8) (w : World) (hr : Reads w w.heap.size 1 A l.length (l.map bv)) (h1 : l.length = 128) :
    Calls Try.prog 21 #[.slice A 128 c] w fun e w' => e = .returned (rtv (candR l)) ∧ Below w.heap.size w w' := by
  obtain ⟨w0, hw0⟩ : ∃ w0, w.alloc (.cells #[.int .u64 0, .int .i64 0, .int .u32 0] 25) = w0 := ⟨_, rfl⟩
  have hx : Blk w0 w.heap.size 25 #[.int .u64 0, .int .i64 0, .int .u32 0] := by rw [← hw0]; exact Blk.new w _ _
  have hb0 : Below w.heap.size w w0 := by rw [← hw0]; exact (Below.refl _ _).alloc (Nat.le_refl _) _
  have HRD := Lib.hid (RdN.read w0 A c l ((hr.below hb0).more hb0.size) (by omega))
  rw [h1] at HRD
  obtain ⟨l4, hl4⟩ : ∃ x, l.drop 4 = x := ⟨_, rfl⟩
  obtain ⟨l12, hl12⟩ : ∃ x, l4.drop 8 = x := ⟨_, rfl⟩
  obtain ⟨l16, hl16⟩ : ∃ x, l12.drop 4 = x := ⟨_, rfl⟩
  obtain ⟨l20, hl20⟩ : ∃ x, l16.drop 4 = x := ⟨_, rfl⟩
  obtain ⟨f, hf⟩ : ∃ x, num (l4.take 8) = x := ⟨_, rfl⟩
  obtain ⟨m, hm⟩ : ∃ x, num (l12.take 4) = x := ⟨_, rfl⟩
  obtain ⟨s, hs⟩ : ∃ x, num (l16.take 4) = x := ⟨_, rfl⟩
  have n4 : l4.length = 124 := by rw [← hl4, List.length_drop]; omega
  have n12 : l12.length = 116 := by rw [← hl12, List.length_drop, n4]
  have n16 : l16.length = 112 := by rw [← hl16, List.length_drop, n12]
  have hcand : candR l = ⟨f, (m : Int), s⟩ := by
    unfold candR
    rw [hl4, hl12, hl16, hf, hm, hs]
  have hfb : f < 18446744073709551616 := by rw [← hf]; exact num_take_lt _ 8
  have hmb : m < 4294967296 := by rw [← hm]; exact num_take_lt _ 4
  have hsb : s < 4294967296 := by rw [← hs]; exact num_take_lt _ 4
  rw [hcand]
  have R4 : ∀ (N W : World) (b : Nat), RdN N W b l → Calls Try.prog 38 #[.pointer (some ⟨b, 0, none⟩), .int .i64 4] W fun e w' => (∃ v, e = .returned v) ∧ RdN N w' b l4 := fun N W b h => by
    refine (h.raw (by omega) 4 (by omega)).mono ?_
    rintro e w' ⟨A', c', rfl, _, _, h'⟩
    rw [hl4] at h'
    exact ⟨⟨_, rfl⟩, h'⟩
  have R12 : ∀ (N W : World) (b : Nat), RdN N W b l4 → Calls Try.prog 39 #[.pointer (some ⟨b, 0, none⟩), .int .i64 8] W fun e w' => e = .returned (.tuple #[.int .u64 f, .int .i64 0]) ∧ RdN N w' b l12 := fun N W b h => by
    have := h.num 8 (by omega) (by omega)
    rw [hl12, hf] at this
    exact this.mono fun e w' h => ⟨h.1, h.2.1⟩
  have R16 : ∀ (N W : World) (b : Nat), RdN N W b l12 → Calls Try.prog 39 #[.pointer (some ⟨b, 0, none⟩), .int .i64 4] W fun e w' => e = .returned (.tuple #[.int .u64 m, .int .i64 0]) ∧ RdN N w' b l16 := fun N W b h => by
    have := h.num 4 (by omega) (by omega)
    rw [hl16, hm] at this
    exact this.mono fun e w' h => ⟨h.1, h.2.1⟩
  have R20 : ∀ (N W : World) (b : Nat), RdN N W b l16 → Calls Try.prog 39 #[.pointer (some ⟨b, 0, none⟩), .int .i64 4] W fun e w' => e = .returned (.tuple #[.int .u64 s, .int .i64 0]) ∧ RdN N w' b l20 := fun N W b h => by
    have := h.num 4 (by omega) (by omega)
    rw [hl20, hs] at this
    exact this.mono fun e w' h => ⟨h.1, h.2.1⟩
  have R4 := Lib.hid R4
  have R12 := Lib.hid R12
  have R16 := Lib.hid R16
  have R20 := Lib.hid R20
  have k1 : IntKind.i64.wrap (m : Int) = (m : Int) := IntWalk.i64_in _ (by omega)
  have k2 : IntKind.u32.wrap (s : Int) = (s : Int) := by unfold IntKind.wrap; simp [IntKind.signed, IntKind.bits]; omega
  have HX := Lib.hid hx
  have HB0 := Lib.hid hb0
  unfold rtv
  simp only
  clear hr hb0 hx hcand hf hm hs n4 n12 n16 hl4 hl12 hl16 hl20 h1
  go_enter Try.func21, Try.ntmps21
  go_wp2_with (first
    | (go_at_call 37; refine HRD.out.mono ?_; rintro e w1 ⟨b, rfl, hg⟩; clear hw0; have G1 := Lib.hid hg; clear hg)
    | (go_at_call 38; refine (R4.out _ _ _ G1.out).mono ?_; rintro e w2 ⟨⟨v3, rfl⟩, hg⟩; have G2 := Lib.hid hg; clear hg)
    | (go_at_call 39; (have l0 := G4.out; clear l0); refine (R20.out _ _ _ G4.out).mono ?_; rintro e w5 ⟨rfl, hg⟩; have hx5 := HX.out.below hg.frame HX.out.lt; have x0 := hx5.cell 0; have x1 := hx5.cell 1; have x2 := hx5.cell 2; have f0 := hx5.frozen 0; have f1 := hx5.frozen 1; have f2 := hx5.frozen 2; have HX5 := Lib.hid hx5; have G5 := Lib.hid hg; clear hg hx5)
    | (go_at_call 39; (have l0 := G3.out; clear l0); refine (R16.out _ _ _ G3.out).mono ?_; rintro e w4 ⟨rfl, hg⟩; have G4 := Lib.hid hg; clear hg)
    | (go_at_call 39; refine (R12.out _ _ _ G2.out).mono ?_; rintro e w3 ⟨rfl, hg⟩; have G3 := Lib.hid hg; clear hg))
  refine bodyPost_ret (results_root rfl rfl (blk_root _ _ _ HX5.out)) rfl ?_
  have hk := keep_root w5 w.heap.size (.int .u64 f) (.int .i64 m) (.int .u32 s)
  have hb5 := G5.out.frame
  exact ⟨rfl, HB0.out.trans ((hb5.mono HB0.out.size).trans (hk.below (by have := HB0.out.size; have := hb5.size; omega) (fun i hi e => by omega)))⟩

set_option maxHeartbeats 2000000 in
theorem rdec_short (A : Option Addr) (c n : Nat) (w : World) (h1 : n ≠ 128) :
    Calls Try.prog 8 #[.slice A n c] w fun e w' => e = .returned (.tuple #[rtv noR, .int .i64 60]) ∧ Below w.heap.size w w' := by
  have hx := Blk.new w 25 #[.int .u64 0, .int .i64 0, .int .u32 0]
  have hb0 : Below w.heap.size w (w.alloc (.cells #[.int .u64 0, .int .i64 0, .int .u32 0] 25)) := (Below.refl _ _).alloc (Nat.le_refl _) _
  have hd : ((n : Int) != 128) = true := by rw [bne_iff_ne]; omega
  have HX := Lib.hid hx
  have HB0 := Lib.hid hb0
  clear hx hb0 h1
  go_enter Try.func8, Try.ntmps8
  go_wp2
  refine bodyPost_ret (results_root2 rfl rfl rfl HX.out) rfl ?_
  exact ⟨rfl, HB0.out⟩

set_option maxRecDepth 100000 in
set_option maxHeartbeats 4000000 in
theorem rdec_long (A : Option Addr) (c : Nat) (l : List UInt8) (w : World) (hr : Reads w w.heap.size 1 A l.length (l.map bv)) (h1 : l.length = 128) :
    Calls Try.prog 8 #[.slice A 128 c] w fun e w' => e = .returned (.tuple #[rtv (decR l), .int .i64 (decErrR l)]) ∧ Below w.heap.size w w' := by
  obtain ⟨w0, hw0⟩ : ∃ w0, w.alloc (.cells #[.int .u64 0, .int .i64 0, .int .u32 0] 25) = w0 := ⟨_, rfl⟩
  have hx : Blk w0 w.heap.size 25 #[.int .u64 0, .int .i64 0, .int .u32 0] := by rw [← hw0]; exact Blk.new w _ _
  have hb0 : Below w.heap.size w w0 := by rw [← hw0]; exact (Below.refl _ _).alloc (Nat.le_refl _) _
  have hr0 := (hr.below hb0).more hb0.size
  have HC := Lib.hid (rcand_any A c l w0 hr0 h1)
  have hgood : goodR l = (okR (candR l) && (sectR (candR l) == l)) := by unfold goodR; rw [decide_eq_true h1, Bool.true_and]
  have hcf := candR_fine l
  unfold decR decErrR
  rw [hgood]
  rw [h1] at hr0
  obtain ⟨T, hT⟩ : ∃ T, candR l = T := ⟨_, rfl⟩
  rw [hT] at HC hcf ⊢
  have ENC := Lib.hid (fun W => rencode_any T W hcf)
  unfold errR outR at ENC
  have HSL := Lib.hid (sectR_length T)
  have HX := Lib.hid hx
  have HB := Lib.hid hb0
  have HR := Lib.hid hr0
  clear hgood hr hr0 hx hb0 hT hcf h1
  cases hok : okR T
  · rw [hok] at ENC
    simp only [Bool.false_eq_true, if_false, Bool.false_and] at ENC ⊢
    clear hok
    unfold rtv at *
    go_enter Try.func8, Try.ntmps8
    go_wp2_with (first
      | (go_at_call 21; refine HC.out.mono ?_; rintro e w1 ⟨rfl, hb⟩; clear hw0; have HB1 := Lib.hid hb; clear hb)
      | (go_at_call 6; refine (ENC.out _).mono ?_; rintro e w2 ⟨v, rfl, g⟩; obtain ⟨A2, c2, rfl, o2, b2⟩ := gives_len g rfl
         have hb12 : Below w1.heap.size w1 w2 := ((Below.refl _ w1).alloc (Nat.le_refl _) _).trans (b2.mono (by simp))
         have hb02 := HB1.out.trans (hb12.mono HB1.out.size)
         have hx2 := HX.out.below hb02 HX.out.lt
         have x0 := hx2.cell 0; have x1 := hx2.cell 1; have x2 := hx2.cell 2; have f0 := hx2.frozen 0; have f1 := hx2.frozen 1; have f2 := hx2.frozen 2
         have HX2 := Lib.hid hx2; have HB02 := Lib.hid hb02
         clear g o2 b2 hb12 hb02 hx2))
    refine bodyPost_ret (results_root2 rfl rfl rfl (blk_root _ _ _ HX2.out)) rfl ?_
    have hk := keep_root w2 w.heap.size (.int .u64 0) (.int .i64 0) (.int .u32 0)
    exact ⟨rfl, HB.out.trans ((HB02.out.mono HB.out.size).trans (hk.below (by have := HB.out.size; have := HB02.out.size; omega) (fun i hi e => by omega)))⟩
  · rw [hok] at ENC
    simp only [if_true, Bool.true_and] at ENC ⊢
    clear hok
    generalize sectR T = BT at *
    cases heq : BT == l
    · simp only [Bool.false_eq_true, if_false]
      unfold rtv at *
      go_enter Try.func8, Try.ntmps8
      go_wp2_with (first
        | (go_at_call 21; refine HC.out.mono ?_; rintro e w1 ⟨rfl, hb⟩; clear hw0; have HB1 := Lib.hid hb; clear hb)
        | (go_at_call 6; refine (ENC.out _).mono ?_; rintro e w2 ⟨v, rfl, g⟩; obtain ⟨A2, c2, rfl, o2, b2⟩ := gives_len g HSL.out
           have hb12 : Below w1.heap.size w1 w2 := ((Below.refl _ w1).alloc (Nat.le_refl _) _).trans (b2.mono (by simp))
           have hb02 := HB1.out.trans (hb12.mono HB1.out.size)
           have hx2 := HX.out.below hb02 HX.out.lt
           have x0 := hx2.cell 0; have x1 := hx2.cell 1; have x2 := hx2.cell 2; have f0 := hx2.frozen 0; have f1 := hx2.frozen 1; have f2 := hx2.frozen 2
           have HX2 := Lib.hid hx2; have HB02 := Lib.hid hb02; have O2 := Lib.hid o2
           clear g o2 b2 hb12 hb02 hx2)
        | (go_at_call 22; refine (equal_any A2 A _ _ c2 c BT l w2 (Reads.of_own O2.out) ((HR.out.below HB02.out).more HB02.out.size)).mono ?_; rintro e _ ⟨rfl, rfl⟩))
      refine bodyPost_ret (results_root2 rfl rfl rfl (blk_root _ _ _ HX2.out)) rfl ?_
      have hk := keep_root w2 w.heap.size (.int .u64 0) (.int .i64 0) (.int .u32 0)
      exact ⟨rfl, HB.out.trans ((HB02.out.mono HB.out.size).trans (hk.below (by have := HB.out.size; have := HB02.out.size; omega) (fun i hi e => by omega)))⟩
    · simp only [if_true]
      unfold rtv at *
      go_enter Try.func8, Try.ntmps8
      go_wp2_with (first
        | (go_at_call 21; refine HC.out.mono ?_; rintro e w1 ⟨rfl, hb⟩; clear hw0; have HB1 := Lib.hid hb; clear hb)
        | (go_at_call 6; refine (ENC.out _).mono ?_; rintro e w2 ⟨v, rfl, g⟩; obtain ⟨A2, c2, rfl, o2, b2⟩ := gives_len g HSL.out
           have hb12 : Below w1.heap.size w1 w2 := ((Below.refl _ w1).alloc (Nat.le_refl _) _).trans (b2.mono (by simp))
           have hb02 := HB1.out.trans (hb12.mono HB1.out.size)
           have hx2 := HX.out.below hb02 HX.out.lt
           have x0 := hx2.cell 0; have x1 := hx2.cell 1; have x2 := hx2.cell 2; have f0 := hx2.frozen 0; have f1 := hx2.frozen 1; have f2 := hx2.frozen 2
           have hy2 := (Blk.new w1 25 #[.int .u64 T.n, .int .i64 T.len, .int .u32 T.sm]).below b2 (by simp)
           have y0 := hy2.cell 0; have y1 := hy2.cell 1; have y2 := hy2.cell 2
           have HX2 := Lib.hid hx2; have HB02 := Lib.hid hb02; have O2 := Lib.hid o2
           clear g o2 b2 hb12 hb02 hx2 hy2)
        | (go_at_call 22; refine (equal_any A2 A _ _ c2 c BT l w2 (Reads.of_own O2.out) ((HR.out.below HB02.out).more HB02.out.size)).mono ?_; rintro e _ ⟨rfl, rfl⟩))
      refine bodyPost_ret (results_root2 rfl rfl rfl (blk_root _ _ _ HX2.out)) rfl ?_
      have hk := keep_root w2 w.heap.size (.int .u64 T.n) (.int .i64 T.len) (.int .u32 T.sm)
      exact ⟨rfl, HB.out.trans ((HB02.out.mono HB.out.size).trans (hk.below (by have := HB.out.size; have := HB02.out.size; omega) (fun i hi e => by omega)))⟩

theorem rdecode_any (A : Option Addr) (c n : Nat) (l : List UInt8) (w : World) (hl : l.length = n) (hr : Reads w w.heap.size 1 A n (l.map bv)) :
    Calls Try.prog 8 #[.slice A n c] w fun e w' => e = .returned (.tuple #[rtv (decR l), .int .i64 (decErrR l)]) ∧ Below w.heap.size w w' := by
  subst hl
  by_cases h1 : l.length = 128
  · have := rdec_long A c l w hr h1
    rwa [← h1] at this
  · have hg : goodR l = false := by unfold goodR; rw [decide_eq_false h1, Bool.false_and]
    have hd : decR l = noR := by unfold decR; rw [hg]; rfl
    have he : decErrR l = 60 := by unfold decErrR; rw [hg]; rfl
    rw [hd, he]
    exact rdec_short A c l.length w h1

end Go.Proofs.Ytoiopoghcjkgcaa.root

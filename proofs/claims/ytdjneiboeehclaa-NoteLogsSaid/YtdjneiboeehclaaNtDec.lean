/-
  The notes of layer 9: candidate, Decode.
-/
import Derived.Test.YtdjneiboeehclaaNtEnc
namespace Go.Proofs.Ytdjneiboeehclaa.note
open Go.RowKit Go.Proofs.Ytdjneiboeehclaa.crc Go.Proofs.Ytdjneiboeehclaa.root

theorem RdN.int {N w : World} {b : Nat} {l : List UInt8} (h : RdN N w b l) (hn : 8 ≤ l.length) :
    Calls Try.prog 50 #[.pointer (some ⟨b, 0, none⟩)] w fun e w' => e = .returned (.tuple #[.int .i64 (sgn (num (l.take 8))), .int .i64 0]) ∧ RdN N w' b (l.drop 8) := by
  obtain ⟨A, c, h, hb, hB⟩ := h
  refine (rint_any w b c A _ h).mono ?_
  rintro e w' ⟨he, ht⟩
  have e2 : rnumErr 8 l = 0 := by
    unfold rnumErr
    rw [show sized 8 = true by decide]
    simp
    omega
  have e3 : taken 0 8 = 8 := by simp [taken]
  rw [e2, e3] at he ht
  exact ⟨he, RdN.took hb hB ht⟩

set_option maxRecDepth 100000 in
set_option maxHeartbeats 4000000 in
theorem ncand_any (A : Option Addr) (c : Nat) (l : List UInt8) (w : World) (hr : Reads w w.heap.size 1 A l.length (l.map bv)) (h1 : l.length = 17) :
    Calls Try.prog 34 #[.slice A 17 c] w fun e w' => e = .returned (nv (candN l)) ∧ Below w.heap.size w w' := by
  obtain ⟨w0, hw0⟩ : ∃ w0, w.alloc (.cells #[.int .i64 0, .int .i64 0, .int .i64 0, .int .i64 0] 23) = w0 := ⟨_, rfl⟩
  have hx : Blk w0 w.heap.size 23 #[.int .i64 0, .int .i64 0, .int .i64 0, .int .i64 0] := by rw [← hw0]; exact Blk.new w _ _
  have hb0 : Below w.heap.size w w0 := by rw [← hw0]; exact (Below.refl _ _).alloc (Nat.le_refl _) _
  have HRD := Lib.hid (RdN.read w0 A c l ((hr.below hb0).more hb0.size) (by omega))
  rw [h1] at HRD
  obtain ⟨l4, hl4⟩ : ∃ x, l.drop 1 = x := ⟨_, rfl⟩
  obtain ⟨l12, hl12⟩ : ∃ x, l4.drop 4 = x := ⟨_, rfl⟩
  obtain ⟨l16, hl16⟩ : ∃ x, l12.drop 4 = x := ⟨_, rfl⟩
  obtain ⟨l20, hl20⟩ : ∃ x, l16.drop 8 = x := ⟨_, rfl⟩
  obtain ⟨k, hk⟩ : ∃ x, num (l.take 1) = x := ⟨_, rfl⟩
  obtain ⟨f, hf⟩ : ∃ x, num (l4.take 4) = x := ⟨_, rfl⟩
  obtain ⟨m, hm⟩ : ∃ x, num (l12.take 4) = x := ⟨_, rfl⟩
  obtain ⟨s, hs⟩ : ∃ x, sgn (num (l16.take 8)) = x := ⟨_, rfl⟩
  have n4 : l4.length = 16 := by rw [← hl4, List.length_drop]; omega
  have n12 : l12.length = 12 := by rw [← hl12, List.length_drop, n4]
  have n16 : l16.length = 8 := by rw [← hl16, List.length_drop, n12]
  have hcand : candN l = ⟨(k : Int), (f : Int), (m : Int), s⟩ := by
    unfold candN
    rw [hk, hl4, hl12, hl16, hf, hm, hs]
  have hkb : k < 256 := by rw [← hk]; exact num_take_lt _ 1
  have hfb : f < 4294967296 := by rw [← hf]; exact num_take_lt _ 4
  have hmb : m < 4294967296 := by rw [← hm]; exact num_take_lt _ 4
  rw [hcand]
  have R4 : ∀ (N W : World) (b : Nat), RdN N W b l → Calls Try.prog 49 #[.pointer (some ⟨b, 0, none⟩), .int .i64 1] W fun e w' => e = .returned (.tuple #[.int .u64 k, .int .i64 0]) ∧ RdN N w' b l4 := fun N W b h => by
    have := h.num 1 (by omega) (by omega)
    rw [hl4, hk] at this
    exact this.mono fun e w' h => ⟨h.1, h.2.1⟩
  have R12 : ∀ (N W : World) (b : Nat), RdN N W b l4 → Calls Try.prog 49 #[.pointer (some ⟨b, 0, none⟩), .int .i64 4] W fun e w' => e = .returned (.tuple #[.int .u64 f, .int .i64 0]) ∧ RdN N w' b l12 := fun N W b h => by
    have := h.num 4 (by omega) (by omega)
    rw [hl12, hf] at this
    exact this.mono fun e w' h => ⟨h.1, h.2.1⟩
  have R16 : ∀ (N W : World) (b : Nat), RdN N W b l12 → Calls Try.prog 49 #[.pointer (some ⟨b, 0, none⟩), .int .i64 4] W fun e w' => e = .returned (.tuple #[.int .u64 m, .int .i64 0]) ∧ RdN N w' b l16 := fun N W b h => by
    have := h.num 4 (by omega) (by omega)
    rw [hl16, hm] at this
    exact this.mono fun e w' h => ⟨h.1, h.2.1⟩
  have R20 : ∀ (N W : World) (b : Nat), RdN N W b l16 → Calls Try.prog 50 #[.pointer (some ⟨b, 0, none⟩)] W fun e w' => e = .returned (.tuple #[.int .i64 s, .int .i64 0]) ∧ RdN N w' b l20 := fun N W b h => by
    have := RdN.int h (by omega)
    rw [hl20, hs] at this
    exact this
  have R4 := Lib.hid R4
  have R12 := Lib.hid R12
  have R16 := Lib.hid R16
  have R20 := Lib.hid R20
  have k1 : IntKind.i64.wrap (k : Int) = (k : Int) := IntWalk.i64_in _ (by omega)
  have k2 : IntKind.i64.wrap (f : Int) = (f : Int) := IntWalk.i64_in _ (by omega)
  have k3 : IntKind.i64.wrap (m : Int) = (m : Int) := IntWalk.i64_in _ (by omega)
  have HX := Lib.hid hx
  have HB0 := Lib.hid hb0
  unfold nv
  simp only
  clear hr hb0 hx hcand hk hf hm hs n4 n12 n16 hl4 hl12 hl16 hl20 h1
  go_enter Try.func34, Try.ntmps34
  go_wp2_with (first
    | (go_at_call 48; refine HRD.out.mono ?_; rintro e w1 ⟨b, rfl, hg⟩; clear hw0; have G1 := Lib.hid hg; clear hg)
    | (go_at_call 50; refine (R20.out _ _ _ G4.out).mono ?_; rintro e w5 ⟨rfl, hg⟩; have hx5 := HX.out.below hg.frame HX.out.lt; have x0 := hx5.cell 0; have x1 := hx5.cell 1; have x2 := hx5.cell 2; have x3 := hx5.cell 3; have f0 := hx5.frozen 0; have f1 := hx5.frozen 1; have f2 := hx5.frozen 2; have f3 := hx5.frozen 3; have HX5 := Lib.hid hx5; have G5 := Lib.hid hg; clear hg hx5)
    | (go_at_call 49; (have l0 := G3.out; clear l0); refine (R16.out _ _ _ G3.out).mono ?_; rintro e w4 ⟨rfl, hg⟩; have G4 := Lib.hid hg; clear hg)
    | (go_at_call 49; (have l0 := G2.out; clear l0); refine (R12.out _ _ _ G2.out).mono ?_; rintro e w3 ⟨rfl, hg⟩; have G3 := Lib.hid hg; clear hg)
    | (go_at_call 49; refine (R4.out _ _ _ G1.out).mono ?_; rintro e w2 ⟨rfl, hg⟩; have G2 := Lib.hid hg; clear hg))
  refine bodyPost_ret (results_note rfl rfl (blk_note _ _ _ _ HX5.out)) rfl ?_
  have hk := keep_note w5 w.heap.size (.int .i64 k) (.int .i64 f) (.int .i64 m) (.int .i64 s)
  have hb5 := G5.out.frame
  exact ⟨rfl, HB0.out.trans ((hb5.mono HB0.out.size).trans (hk.below (by have := HB0.out.size; have := hb5.size; omega) (fun i hi e => by omega)))⟩

set_option maxHeartbeats 2000000 in
theorem ndec_short (A : Option Addr) (c n : Nat) (w : World) (h1 : n ≠ 17) :
    Calls Try.prog 11 #[.slice A n c] w fun e w' => e = .returned (.tuple #[nv noN, .int .i64 90]) ∧ Below w.heap.size w w' := by
  have hx := Blk.new w 23 #[.int .i64 0, .int .i64 0, .int .i64 0, .int .i64 0]
  have hb0 : Below w.heap.size w (w.alloc (.cells #[.int .i64 0, .int .i64 0, .int .i64 0, .int .i64 0] 23)) := (Below.refl _ _).alloc (Nat.le_refl _) _
  have hd : ((n : Int) != 17) = true := by rw [bne_iff_ne]; omega
  have HX := Lib.hid hx
  have HB0 := Lib.hid hb0
  clear hx hb0 h1
  go_enter Try.func11, Try.ntmps11
  go_wp2
  refine bodyPost_ret (results_note2 rfl rfl rfl HX.out) rfl ?_
  exact ⟨rfl, HB0.out⟩

set_option maxRecDepth 100000 in
set_option maxHeartbeats 4000000 in
theorem ndec_long (A : Option Addr) (c : Nat) (l : List UInt8) (w : World) (hr : Reads w w.heap.size 1 A l.length (l.map bv)) (h1 : l.length = 17) :
    Calls Try.prog 11 #[.slice A 17 c] w fun e w' => e = .returned (.tuple #[nv (decN l), .int .i64 (decErrN l)]) ∧ Below w.heap.size w w' := by
  obtain ⟨w0, hw0⟩ : ∃ w0, w.alloc (.cells #[.int .i64 0, .int .i64 0, .int .i64 0, .int .i64 0] 23) = w0 := ⟨_, rfl⟩
  have hx : Blk w0 w.heap.size 23 #[.int .i64 0, .int .i64 0, .int .i64 0, .int .i64 0] := by rw [← hw0]; exact Blk.new w _ _
  have hb0 : Below w.heap.size w w0 := by rw [← hw0]; exact (Below.refl _ _).alloc (Nat.le_refl _) _
  have hr0 := (hr.below hb0).more hb0.size
  have HC := Lib.hid (ncand_any A c l w0 hr0 h1)
  have hgood : goodN l = okN (candN l) := by unfold goodN; rw [decide_eq_true h1, Bool.true_and]
  unfold decN decErrN
  rw [hgood]
  obtain ⟨⟨tk, ta, tb, tn⟩, hT⟩ : ∃ T, candN l = T := ⟨_, rfl⟩
  rw [hT] at HC ⊢
  have HV := Lib.hid (fun W => nvalid_any ⟨tk, ta, tb, tn⟩ W)
  have HX := Lib.hid hx
  have HB := Lib.hid hb0
  clear hgood hr hr0 hx hb0 hT h1
  have HFIN : Hid (∀ w1 w2 : World, Below w0.heap.size w0 w1 → Below w1.heap.size w1 w2 → Blk w2 w.heap.size 23 #[.int .i64 0, .int .i64 0, .int .i64 0, .int .i64 0] ∧ Below w.heap.size w w2 ∧ w.heap.size < w2.heap.size) := Lib.hid (fun w1 w2 h1 h2 => by
    have hb := h1.trans (h2.mono h1.size)
    have hx := HX.out.below hb HX.out.lt
    exact ⟨hx, HB.out.trans (hb.mono HB.out.size), hx.lt⟩)
  have hbx : Hid (∀ w1 : World, Below w1.heap.size w1 (w1.alloc (.cells #[.int .i64 tk, .int .i64 ta, .int .i64 tb, .int .i64 tn] 23))) := Lib.hid (fun w1 => (Below.refl _ _).alloc (Nat.le_refl _) _)
  generalize okN ⟨tk, ta, tb, tn⟩ = ok at *
  cases ok
  · simp only [Bool.false_eq_true, if_false]
    unfold nv noN at *
    simp only at *
    go_enter Try.func11, Try.ntmps11
    go_wp2_with (first
      | (go_at_call 34; refine HC.out.mono ?_; rintro e w1 ⟨rfl, hb⟩; clear hw0; have HB1 := Lib.hid hb; clear hb)
      | (go_at_call 28; refine (HV.out _).mono ?_; rintro e w2 ⟨rfl, hb⟩
         obtain ⟨hx2, hb2, hl2⟩ := HFIN.out w1 w2 HB1.out ((hbx.out w1).trans (hb.mono (hbx.out w1).size))
         have x0 := hx2.cell 0; have x1 := hx2.cell 1; have x2 := hx2.cell 2; have x3 := hx2.cell 3; have f0 := hx2.frozen 0; have f1 := hx2.frozen 1; have f2 := hx2.frozen 2; have f3 := hx2.frozen 3
         have HX2 := Lib.hid hx2; have HB2 := Lib.hid hb2; have HL2 := Lib.hid hl2
         clear hx2 hb2 hl2 hb))
    refine bodyPost_ret (results_note2 rfl rfl rfl (blk_note _ _ _ _ HX2.out)) rfl ?_
    have hk := keep_note w2 w.heap.size (.int .i64 0) (.int .i64 0) (.int .i64 0) (.int .i64 0)
    exact ⟨rfl, HB2.out.trans (hk.below (by have := HL2.out; omega) (fun i hi e => by omega))⟩
  · simp only [if_true]
    unfold nv at *
    simp only at *
    go_enter Try.func11, Try.ntmps11
    go_wp2_with (first
      | (go_at_call 34; refine HC.out.mono ?_; rintro e w1 ⟨rfl, hb⟩; clear hw0; have HB1 := Lib.hid hb; clear hb)
      | (go_at_call 28; refine (HV.out _).mono ?_; rintro e w2 ⟨rfl, hb⟩
         obtain ⟨hx2, hb2, hl2⟩ := HFIN.out w1 w2 HB1.out ((hbx.out w1).trans (hb.mono (hbx.out w1).size))
         have hy2 := (Blk.new w1 23 #[.int .i64 tk, .int .i64 ta, .int .i64 tb, .int .i64 tn]).below hb (by simp)
         have x0 := hx2.cell 0; have x1 := hx2.cell 1; have x2 := hx2.cell 2; have x3 := hx2.cell 3; have f0 := hx2.frozen 0; have f1 := hx2.frozen 1; have f2 := hx2.frozen 2; have f3 := hx2.frozen 3
         have y0 := hy2.cell 0; have y1 := hy2.cell 1; have y2 := hy2.cell 2; have y3 := hy2.cell 3
         have HX2 := Lib.hid hx2; have HB2 := Lib.hid hb2; have HL2 := Lib.hid hl2
         clear hx2 hb2 hl2 hb hy2))
    refine bodyPost_ret (results_note2 rfl rfl rfl (blk_note _ _ _ _ HX2.out)) rfl ?_
    have hk := keep_note w2 w.heap.size (.int .i64 tk) (.int .i64 ta) (.int .i64 tb) (.int .i64 tn)
    exact ⟨rfl, HB2.out.trans (hk.below (by have := HL2.out; omega) (fun i hi e => by omega))⟩

theorem ndecode_any (A : Option Addr) (c n : Nat) (l : List UInt8) (w : World) (hl : l.length = n) (hr : Reads w w.heap.size 1 A n (l.map bv)) :
    Calls Try.prog 11 #[.slice A n c] w fun e w' => e = .returned (.tuple #[nv (decN l), .int .i64 (decErrN l)]) ∧ Below w.heap.size w w' := by
  subst hl
  by_cases h1 : l.length = 17
  · have := ndec_long A c l w hr h1
    rwa [← h1] at this
  · have hg : goodN l = false := by unfold goodN; rw [decide_eq_false h1, Bool.false_and]
    have hd : decN l = noN := by unfold decN; rw [hg]; rfl
    have he : decErrN l = 90 := by unfold decErrN; rw [hg]; rfl
    rw [hd, he]
    exact ndec_short A c l.length w h1

end Go.Proofs.Ytdjneiboeehclaa.note

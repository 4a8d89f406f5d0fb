/-
  The record of layer 8: the program's own candidate and Decode.
-/
import Derived.Test.YtddhldmeknmgpaaJDec
namespace Go.Proofs.Ytddhldmeknmgpaa.journal
open Go.RowKit Go.Proofs.Ytddhldmeknmgpaa.crc Go.Proofs.Ytddhldmeknmgpaa.root

theorem RdN.raw_far {N w : World} {b : Nat} {l : List UInt8} (h : RdN N w b l) (hl : l.length ≤ 140737488355328) (n : Nat) (hn : l.length < n) (h2 : n ≤ 9223372036854775807) :
    Calls Try.prog 57 #[.pointer (some ⟨b, 0, none⟩), .int .i64 n] w fun e w' => ∃ A' c', e = .returned (.tuple #[.slice A' 0 c', .int .i64 10]) ∧ w'.ownsRow w.heap.size 5 1 (.slice A' 0 c') 0 [] ∧ b < w.heap.size ∧ RdN N w' b l := by
  obtain ⟨A, c, h, hb, hB⟩ := h
  refine (rraw_total w b c A _ h hl n (by omega) (by omega)).mono ?_
  rintro e w' ⟨A', c', he, ht, ho⟩
  have e2 : rrawErr n l = 10 := by
    unfold rrawErr
    rw [if_neg (by omega), if_pos (by omega)]
  have e3 : taken 10 ((n : Int)).toNat = 0 := rfl
  rw [e2, e3] at he ht ho
  exact ⟨A', c', he, ho, h.blk.lt, RdN.took hb hB ht⟩

theorem load_rec (w : World) (g : Nat) (x y z : Value) (hb : Blk w g 69 #[x, y, z]) : (loadVar 69 ⟨g, 0, none⟩).run Try.prog w = .ok (.agg #[x, y, z]) w := by
  have h1 : w.rangeAt g 0 [x, y, z] := fun j v hv => by
    rw [Nat.zero_add, hb.cell]
    simpa using hv
  exact run_loadVar_mid w g 0 69 [x, y, z] _ h1 Try.underlying69 rfl (by kernel_rfl)
theorem results_rec {fn : Func} {t : Tmp} {tmps : Array Value} {w : World} {g : Nat} {x y z : Value} (h : fn.results = #[.cell t 69]) (ht : tmps.getD t undef = .pointer (some ⟨g, 0, none⟩)) (hb : Blk w g 69 #[x, y, z]) : (results fn tmps).run Try.prog w = .ok (.agg #[x, y, z]) w := by
  have h1 := load_rec w g x y z hb
  rw [Array.getD_eq_getD_getElem?] at ht
  simp [results, h, ht, h1, asAddr]
theorem keep_three (W : World) (g : Nat) (x y z : Value) : Keep (fun k => k = g) W (((W.setCell ⟨g, 0, none⟩ x).setCell ⟨g, 1, none⟩ y).setCell ⟨g, 2, none⟩ z) := by
  have h1 : Keep (fun k => k = g) W (W.setCell ⟨g, 0, none⟩ x) := (Keep.refl _ _).setCell _ _ (fun _ => rfl)
  exact (h1.setCell _ _ (fun _ => rfl)).setCell _ _ (fun _ => rfl)
theorem blk_three {W : World} {g : Nat} {t : TypeId} {a b c : Value} (x y z : Value) (h : Blk W g t #[a, b, c]) : Blk (((W.setCell ⟨g, 0, none⟩ x).setCell ⟨g, 1, none⟩ y).setCell ⟨g, 2, none⟩ z) g t #[x, y, z] :=
  ((h.set_ 0 x).set_ 1 y).set_ 2 z

/-- v is a record as a value; its payload is the call's own; what lay there lies. -/
def Rec (w w' : World) (v : Value) (r : JV) : Prop :=
  ∃ A c, v = .agg #[.int .u64 r.ep, .int .u64 r.n, .slice A r.pl.length c] ∧ w'.ownsRow w.heap.size 5 1 (.slice A r.pl.length c) r.pl.length (r.pl.map bv) ∧ Below w.heap.size w w'

set_option maxRecDepth 100000 in
set_option maxHeartbeats 4000000 in
theorem jcand_any (A : Option Addr) (c : Nat) (l : List UInt8) (w : World) (hr : Reads w w.heap.size 1 A l.length (l.map bv)) (h1 : l.length = 128) :
    Calls Try.prog 33 #[.slice A 128 c] w fun e w' => ∃ v, e = .returned v ∧ Rec w w' v (candJ l) := by
  obtain ⟨w0, hw0⟩ : ∃ w0, w.alloc (.cells #[.int .u64 0, .int .u64 0, .slice none 0 0] 69) = w0 := ⟨_, rfl⟩
  have hx : Blk w0 w.heap.size 69 #[.int .u64 0, .int .u64 0, .slice none 0 0] := by rw [← hw0]; exact Blk.new w _ _
  have hb0 : Below w.heap.size w w0 := by rw [← hw0]; exact (Below.refl _ _).alloc (Nat.le_refl _) _
  have HRD := Lib.hid (RdN.read w0 A c l ((hr.below hb0).more hb0.size) (by omega))
  rw [h1] at HRD
  obtain ⟨l3, hl3⟩ : ∃ x, l.drop 3 = x := ⟨_, rfl⟩
  obtain ⟨l4, hl4⟩ : ∃ x, l3.drop 1 = x := ⟨_, rfl⟩
  obtain ⟨l12, hl12⟩ : ∃ x, l4.drop 8 = x := ⟨_, rfl⟩
  obtain ⟨l20, hl20⟩ : ∃ x, l12.drop 8 = x := ⟨_, rfl⟩
  obtain ⟨k, hk⟩ : ∃ x, num (l3.take 1) = x := ⟨_, rfl⟩
  obtain ⟨ep, hep⟩ : ∃ x, num (l4.take 8) = x := ⟨_, rfl⟩
  obtain ⟨no, hno⟩ : ∃ x, num (l12.take 8) = x := ⟨_, rfl⟩
  have n3 : l3.length = 125 := by rw [← hl3, List.length_drop]; omega
  have n4 : l4.length = 124 := by rw [← hl4, List.length_drop]; omega
  have n12 : l12.length = 116 := by rw [← hl12, List.length_drop, n4]
  have n20 : l20.length = 108 := by rw [← hl20, List.length_drop, n12]
  have hkk : lenJ l = k := by unfold lenJ; rw [hl3, hk]
  have hkb : k < 256 := by rw [← hkk]; exact lenJ_lt l
  obtain ⟨P, hP⟩ : ∃ P : List UInt8, (if k ≤ 108 then l20.take k else []) = P := ⟨_, rfl⟩
  obtain ⟨pn, hpn⟩ : ∃ pn, P.length = pn := ⟨_, rfl⟩
  obtain ⟨pe, hpe⟩ : ∃ pe : Int, (if k ≤ 108 then 0 else 10) = pe := ⟨_, rfl⟩
  have hcand : candJ l = ⟨ep, no, P⟩ := by
    unfold candJ
    rw [hkk, hl3, hl4, hl12, hl20, hep, hno, hP]
  rw [hcand]
  have R3 : ∀ (N W : World) (b : Nat), RdN N W b l → Calls Try.prog 57 #[.pointer (some ⟨b, 0, none⟩), .int .i64 3] W fun e w' => (∃ v, e = .returned v) ∧ RdN N w' b l3 := fun N W b h => by
    refine (h.raw (by omega) 3 (by omega)).mono ?_
    rintro e w' ⟨A', c', rfl, _, _, h'⟩
    rw [hl3] at h'
    exact ⟨⟨_, rfl⟩, h'⟩
  have R4 : ∀ (N W : World) (b : Nat), RdN N W b l3 → Calls Try.prog 58 #[.pointer (some ⟨b, 0, none⟩), .int .i64 1] W fun e w' => e = .returned (.tuple #[.int .u64 k, .int .i64 0]) ∧ RdN N w' b l4 := fun N W b h => by
    have := h.num 1 (by omega) (by omega)
    rw [hl4, hk] at this
    exact this.mono fun e w' h => ⟨h.1, h.2.1⟩
  have R12 : ∀ (N W : World) (b : Nat), RdN N W b l4 → Calls Try.prog 58 #[.pointer (some ⟨b, 0, none⟩), .int .i64 8] W fun e w' => e = .returned (.tuple #[.int .u64 ep, .int .i64 0]) ∧ RdN N w' b l12 := fun N W b h => by
    have := h.num 8 (by omega) (by omega)
    rw [hl12, hep] at this
    exact this.mono fun e w' h => ⟨h.1, h.2.1⟩
  have R20 : ∀ (N W : World) (b : Nat), RdN N W b l12 → Calls Try.prog 58 #[.pointer (some ⟨b, 0, none⟩), .int .i64 8] W fun e w' => e = .returned (.tuple #[.int .u64 no, .int .i64 0]) ∧ RdN N w' b l20 := fun N W b h => by
    have := h.num 8 (by omega) (by omega)
    rw [hl20, hno] at this
    exact this.mono fun e w' h => ⟨h.1, h.2.1⟩
  have RP : ∀ (N W : World) (b : Nat), RdN N W b l20 → Calls Try.prog 57 #[.pointer (some ⟨b, 0, none⟩), .int .i64 k] W fun e w' => ∃ A' c', e = .returned (.tuple #[.slice A' pn c', .int .i64 pe]) ∧ w'.ownsRow W.heap.size 5 1 (.slice A' pn c') pn (P.map bv) ∧ (∃ m, RdN N w' b m) := fun N W b h => by
    by_cases h108 : k ≤ 108
    · rw [if_pos h108] at hP hpe
      have e1 : pn = k := by rw [← hpn, ← hP, List.length_take]; omega
      subst e1 hP hpe
      refine (h.raw (by omega) pn (by omega)).mono ?_
      rintro e w' ⟨A', c', rfl, ho, _, h'⟩
      exact ⟨A', c', rfl, ho, _, h'⟩
    · rw [if_neg h108] at hP hpe
      subst hP hpe
      simp only [List.length_nil] at hpn
      subst hpn
      refine (RdN.raw_far h (by omega) k (by omega) (by omega)).mono ?_
      rintro e w' ⟨A', c', rfl, ho, _, h'⟩
      exact ⟨A', c', rfl, ho, _, h'⟩
  have R3 := Lib.hid R3
  have R4 := Lib.hid R4
  have R12 := Lib.hid R12
  have R20 := Lib.hid R20
  have RP := Lib.hid RP
  have k1 : IntKind.i64.wrap (k : Int) = (k : Int) := IntWalk.i64_in _ (by omega)
  have HX := Lib.hid hx
  have HB0 := Lib.hid hb0
  have HPN := Lib.hid hpn
  clear hr hb0 hx hcand hep hno hk hkk n3 n4 n12 n20 hl3 hl4 hl12 hl20 h1 hP hpn hpe
  go_enter Try.func33, Try.ntmps33
  go_wp2_with (first
    | (go_at_call 56; refine HRD.out.mono ?_; rintro e w1 ⟨b, rfl, hg⟩; clear hw0; have G1 := Lib.hid hg; clear hg)
    | (go_at_call 57; (have l0 := G5.out; clear l0); refine (RP.out _ _ _ G5.out).mono ?_; rintro e w6 ⟨A6, c6, rfl, o6, m6, hg⟩; have hx6 := HX.out.below hg.frame HX.out.lt; have x0 := hx6.cell 0; have x1 := hx6.cell 1; have x2 := hx6.cell 2; have f0 := hx6.frozen 0; have f1 := hx6.frozen 1; have f2 := hx6.frozen 2; have HX6 := Lib.hid hx6; have O6 := Lib.hid o6; have G6 := Lib.hid hg; clear hg hx6 o6)
    | (go_at_call 57; refine (R3.out _ _ _ G1.out).mono ?_; rintro e w2 ⟨⟨v3, rfl⟩, hg⟩; have G2 := Lib.hid hg; clear hg)
    | (go_at_call 58; (have l0 := G4.out; clear l0); refine (R20.out _ _ _ G4.out).mono ?_; rintro e w5 ⟨rfl, hg⟩; have G5 := Lib.hid hg; clear hg)
    | (go_at_call 58; (have l0 := G3.out; clear l0); refine (R12.out _ _ _ G3.out).mono ?_; rintro e w4 ⟨rfl, hg⟩; have G4 := Lib.hid hg; clear hg)
    | (go_at_call 58; refine (R4.out _ _ _ G2.out).mono ?_; rintro e w3 ⟨rfl, hg⟩; have G3 := Lib.hid hg; clear hg))
  refine bodyPost_ret (results_rec rfl rfl (blk_three _ _ _ HX6.out)) rfl ?_
  have hk := keep_three w6 w.heap.size (.int .u64 ep) (.int .u64 no) (.slice A6 pn c6)
  have hb5 := G5.out.frame
  have hb6 := G6.out.frame
  have hs0 := HB0.out.size
  have hx1 := HX.out.lt
  refine ⟨_, rfl, A6, c6, by rw [HPN.out], ?_, HB0.out.trans ((hb6.mono hs0).trans (hk.below (by have := hb6.size; omega) (fun i hi e => by omega)))⟩
  rw [HPN.out]
  refine own_mono (hk.own O6.out (fun g e e2 => ?_)) (by have := hb5.size; omega)
  have := (own_is O6.out g e).1
  have := hb5.size
  omega

set_option maxHeartbeats 2000000 in
theorem jdec_short (A : Option Addr) (c n : Nat) (w : World) (h1 : n ≠ 128) :
    Calls Try.prog 11 #[.slice A n c] w fun e w' => e = .returned (.tuple #[.int .u64 0, .int .u64 0, .slice none 0 0, .int .i64 80]) ∧ w = w' := by
  have hd : ((n : Int) != 128) = true := by rw [bne_iff_ne]; omega
  clear h1
  go_enter Try.func11, Try.ntmps11
  go_wp2
  (try simp only [Exit.inBlock, Exit.then])
  refine bodyPost_ret (results_four rfl rfl rfl rfl rfl) rfl ?_
  exact ⟨rfl, rfl⟩

set_option maxRecDepth 100000 in
set_option maxHeartbeats 4000000 in
theorem jdec_long (A : Option Addr) (c : Nat) (l : List UInt8) (w : World) (hr : Reads w w.heap.size 1 A l.length (l.map bv)) (h1 : l.length = 128) :
    Calls Try.prog 11 #[.slice A 128 c] w fun e w' => ∃ v, e = .returned (.tuple #[.int .u64 (decJ l).ep, .int .u64 (decJ l).n, v, .int .i64 (decErrJ l)]) ∧ Gives w w' v (decJ l).pl := by
  have HC := Lib.hid (jcand_any A c l w hr h1)
  have hgood : goodJ l = (okJ (candJ l) && (sectJ (candJ l) == l)) := by unfold goodJ; rw [decide_eq_true h1, Bool.true_and]
  have hcf := candJ_fine l
  unfold decJ decErrJ
  rw [hgood]
  rw [h1] at hr
  obtain ⟨T, hT⟩ : ∃ T, candJ l = T := ⟨_, rfl⟩
  rw [hT] at HC hcf ⊢
  have ENC := Lib.hid (fun A c W h => jencode_any T A c T.pl.length W hcf rfl h)
  unfold errJ outJ at ENC
  have HR := Lib.hid hr
  obtain ⟨pn, hpn⟩ : ∃ n, T.pl.length = n := ⟨_, rfl⟩
  have HSL : Hid (okJ T = true → (sectJ T).length = 128) := Lib.hid (fun h => sectJ_length (okJ_iff.1 h).2)
  unfold Rec at HC
  rw [hpn] at HC ENC
  have HPN := Lib.hid hpn
  clear hgood hr hT hcf h1 hpn
  cases hok : okJ T
  · rw [hok] at ENC
    simp only [Bool.false_eq_true, if_false, Bool.false_and] at ENC ⊢
    clear hok
    go_enter Try.func11, Try.ntmps11
    go_wp2_with (first
      | (go_at_call 33; refine HC.out.mono ?_; rintro e w1 ⟨v, rfl, A1, c1, rfl, o1, hb⟩; have O1 := Lib.hid o1; have HB1 := Lib.hid hb
         have XB := Lib.hid (Blk.new w1 69 #[.int .u64 T.ep, .int .u64 T.n, .slice A1 pn c1]); clear hb o1)
      | (go_at_call 9; refine (ENC.out A1 c1 _ (Reads.of_own (own_stay (own_mono O1.out (Nat.le_refl _)) ((Below.refl _ _).alloc (Nat.le_refl _) _)))).mono ?_; rintro e w2 ⟨v, rfl, g⟩; obtain ⟨A2, c2, rfl, o2, b2⟩ := gives_len g rfl
         have HB2 := Lib.hid b2
         clear g o2 b2))
    (try simp only [Exit.inBlock, Exit.then])
    refine bodyPost_ret (results_four rfl rfl rfl rfl rfl) rfl ?_
    refine ⟨_, rfl, none, 0, rfl, World.ownsRow_nil _ _ _ _, ?_⟩
    have hs := HB1.out.size
    exact HB1.out.trans (((Below.refl _ w1).alloc (Nat.le_refl _) _).trans (HB2.out.mono (by simp)) |>.mono hs)
  · have HSL1 := Lib.hid (HSL.out hok)
    rw [hok] at ENC
    simp only [if_true, Bool.true_and] at ENC ⊢
    clear hok HSL
    generalize sectJ T = BT at *
    cases heq : BT == l
    · simp only [Bool.false_eq_true, if_false]
      go_enter Try.func11, Try.ntmps11
      go_wp2_with (first
        | (go_at_call 33; refine HC.out.mono ?_; rintro e w1 ⟨v, rfl, A1, c1, rfl, o1, hb⟩; have O1 := Lib.hid o1; have HB1 := Lib.hid hb; clear hb o1)
        | (go_at_call 9; refine (ENC.out A1 c1 _ (Reads.of_own (own_stay (own_mono O1.out (Nat.le_refl _)) ((Below.refl _ _).alloc (Nat.le_refl _) _)))).mono ?_; rintro e w2 ⟨v, rfl, g⟩; obtain ⟨A2, c2, rfl, o2, b2⟩ := gives_len g HSL1.out
           have b12 := ((Below.refl _ w1).alloc (Nat.le_refl _) (.cells #[.int .u64 T.ep, .int .u64 T.n, .slice A1 pn c1] 69)).trans (b2.mono (by simp))
           have HB2 := Lib.hid b12; have HB02 := Lib.hid (HB1.out.trans (b12.mono HB1.out.size)); have O2 := Lib.hid o2
           clear g o2 b2 b12)
        | (go_at_call 34; refine (equal_any A2 A _ _ c2 c BT l w2 (Reads.of_own O2.out) ((HR.out.below HB02.out).more HB02.out.size)).mono ?_; rintro e _ ⟨rfl, rfl⟩))
      (try simp only [Exit.inBlock, Exit.then])
      refine bodyPost_ret (results_four rfl rfl rfl rfl rfl) rfl ?_
      exact ⟨_, rfl, none, 0, rfl, World.ownsRow_nil _ _ _ _, HB02.out⟩
    · simp only [if_true]
      go_enter Try.func11, Try.ntmps11
      go_wp2_with (first
        | (go_at_call 33; refine HC.out.mono ?_; rintro e w1 ⟨v, rfl, A1, c1, rfl, o1, hb⟩; have O1 := Lib.hid o1; have HB1 := Lib.hid hb; clear hb o1)
        | (go_at_call 9; refine (ENC.out A1 c1 _ (Reads.of_own (own_stay (own_mono O1.out (Nat.le_refl _)) ((Below.refl _ _).alloc (Nat.le_refl _) _)))).mono ?_; rintro e w2 ⟨v, rfl, g⟩; obtain ⟨A2, c2, rfl, o2, b2⟩ := gives_len g HSL1.out
           have hy2 := (Blk.new w1 69 #[.int .u64 T.ep, .int .u64 T.n, .slice A1 pn c1]).below b2 (by simp)
           have y0 := hy2.cell 0; have y1 := hy2.cell 1; have y2 := hy2.cell 2
           have b12 := ((Below.refl _ w1).alloc (Nat.le_refl _) (.cells #[.int .u64 T.ep, .int .u64 T.n, .slice A1 pn c1] 69)).trans (b2.mono (by simp))
           have HB2 := Lib.hid b12; have HB02 := Lib.hid (HB1.out.trans (b12.mono HB1.out.size)); have O2 := Lib.hid o2
           clear g o2 b2 b12 hy2)
        | (go_at_call 34; refine (equal_any A2 A _ _ c2 c BT l w2 (Reads.of_own O2.out) ((HR.out.below HB02.out).more HB02.out.size)).mono ?_; rintro e _ ⟨rfl, rfl⟩))
      go_quiet (fail)
      go_wp2
      (try simp only [Exit.inBlock, Exit.then])
      refine bodyPost_ret (results_four rfl rfl rfl rfl rfl) rfl ?_
      refine ⟨_, rfl, A1, c1, by rw [HPN.out]; rfl, ?_, HB02.out.trans (below_drewN (Below.refl _ _) nq)⟩
      rw [HPN.out]
      exact own_mono (own_stay (own_mono O1.out (Nat.le_refl _)) ((HB2.out.trans (below_drewN (Below.refl _ _) nq)))) (Nat.le_refl _)

theorem jdecode_any (A : Option Addr) (c n : Nat) (l : List UInt8) (w : World) (hl : l.length = n) (hr : Reads w w.heap.size 1 A n (l.map bv)) :
    Calls Try.prog 11 #[.slice A n c] w fun e w' => ∃ v, e = .returned (.tuple #[.int .u64 (decJ l).ep, .int .u64 (decJ l).n, v, .int .i64 (decErrJ l)]) ∧ Gives w w' v (decJ l).pl := by
  subst hl
  by_cases h1 : l.length = 128
  · have := jdec_long A c l w hr h1
    rwa [← h1] at this
  · have hg : goodJ l = false := by unfold goodJ; rw [decide_eq_false h1, Bool.false_and]
    have hd : decJ l = noJ := by unfold decJ; rw [hg]; rfl
    have he : decErrJ l = 80 := by unfold decErrJ; rw [hg]; rfl
    rw [hd, he]
    refine (jdec_short A c l.length w h1).mono ?_
    rintro e w' ⟨rfl, rfl⟩
    exact ⟨_, rfl, Gives.nil w⟩


theorem lenJ_good {l : List UInt8} (h : goodJ l = true) : lenJ l ≤ 64 := by
  have hg := goodJ_of h
  have h2 := (okJ_iff.1 hg.2.1).2
  have h3 := candJ_pl hg.1
  by_cases hk : lenJ l ≤ 108
  · rw [if_pos hk] at h3; omega
  · exfalso
    rw [if_neg hk] at h3
    have hp : (candJ l).pl = [] := List.eq_nil_of_length_eq_zero h3
    have e : lenJ (sectJ (candJ l)) = 0 := by
      have es : sectJ (candJ l) = [81, 74, 1] ++ (be 1 0 ++ (be 8 (candJ l).ep ++ be 8 (candJ l).n ++ List.replicate 88 0 ++ four (sum (bitsB (headJ (candJ l)))) ++ be 8 (candJ l).ep ++ be 8 (candJ l).n)) := by
        show ((headJ (candJ l) ++ four _) ++ be 8 _) ++ be 8 _ = _
        conv => lhs; arg 1; arg 1; arg 1; unfold headJ
        rw [hp]
        simp only [List.append_assoc, List.length_nil, List.append_nil]
      unfold lenJ
      rw [es]
      rfl
    rw [hg.2.2] at e
    omega
end Go.Proofs.Ytddhldmeknmgpaa.journal

/-
  The walk of the statement NoteBack: a note is read from its bytes as it was; what is read of any bytes has these.
-/
import Derived.Test.YtdjneiboeehclaaNtAlive
namespace Go.Proofs.Ytdjneiboeehclaa.noteBack
open Go.RowKit Go.Proofs.Ytdjneiboeehclaa.crc Go.Proofs.Ytdjneiboeehclaa.root Go.Proofs.Ytdjneiboeehclaa.note

section
variable (x : NV) (A : Option Addr) (n c : Nat) (l : List UInt8) (w : World)

theorem walk_big (h : 100 < n) :
    Calls Try.prog 6 #[nv x, .slice A n c] w fun e w' => e = .returned (.bool true) ∧ Below w.heap.size w w' := by
  have hd : decide ((100 : Int) < (n : Int)) = true := decide_eq_true (by omega)
  have HA := Lib.hid (nalive_any (w.alloc (.cells #[.int .i64 x.k, .int .i64 x.a, .int .i64 x.b, .int .i64 x.n] 23)))
  have HB : Hid (Below w.heap.size w (w.alloc (.cells #[.int .i64 x.k, .int .i64 x.a, .int .i64 x.b, .int .i64 x.n] 23))) := Lib.hid ((Below.refl _ _).alloc (Nat.le_refl _) _)
  unfold nv
  go_enter Try.func6, Try.ntmps6
  go_wp2_with (go_at_call 27; refine HA.out.mono ?_; rintro e w1 ⟨rfl, b1⟩; have K1 := Lib.hid (HB.out.trans (b1.mono HB.out.size)); clear b1)
  go_ret
  exact ⟨rfl, K1.out⟩

theorem nv_cells (T : NV) (W : World) : Blk (W.alloc (.cells #[.int .i64 T.k, .int .i64 T.a, .int .i64 T.b, .int .i64 T.n] 23)) W.heap.size 23 #[.int .i64 T.k, .int .i64 T.a, .int .i64 T.b, .int .i64 T.n] := Blk.new _ _ _

set_option maxRecDepth 100000 in
set_option maxHeartbeats 2000000 in
theorem walk_small (hf : x.Fine) (hl : l.length = n) (hr : Reads w w.heap.size 1 A n (l.map bv)) (h : n ≤ 100) :
    Calls Try.prog 6 #[nv x, .slice A n c] w fun e w' => e = .returned (.bool true) ∧ Below w.heap.size w w' := by
  have hd : decide ((100 : Int) < (n : Int)) = false := decide_eq_false (by omega)
  obtain ⟨O, hO⟩ : ∃ y, outN x = y := ⟨_, rfl⟩
  obtain ⟨k, hk⟩ : ∃ y, O.length = y := ⟨_, rfl⟩
  obtain ⟨er, her⟩ : ∃ y, errN x = y := ⟨_, rfl⟩
  have EN := Lib.hid (fun W => nencode_any x W hf)
  rw [her, hO] at EN
  have D1 := Lib.hid (fun A c W h => ndecode_any A c k O W hk h)
  obtain ⟨T, hT⟩ : ∃ T, decN O = T := ⟨_, rfl⟩
  obtain ⟨E1, hE1⟩ : ∃ E, decErrN O = E := ⟨_, rfl⟩
  rw [hT, hE1] at D1
  -- what the first half comes to
  have hc1 : er = 90 ∨ (er = 0 ∧ E1 = 0 ∧ T = x) := by
    cases hok : okN x
    · left
      rw [← her]
      unfold errN
      rw [hok]
      rfl
    · right
      have ho : O = encN x := by rw [← hO]; unfold outN; rw [hok]; rfl
      have hd2 := dec_enc hok hf
      rw [← ho, hT, hE1] at hd2
      exact ⟨by rw [← her]; unfold errN; rw [hok]; rfl, hd2.2, hd2.1⟩
  have D2 := Lib.hid (fun A c W h => ndecode_any A c n l W hl h)
  obtain ⟨Z, hZ⟩ : ∃ T, decN l = T := ⟨_, rfl⟩
  obtain ⟨E2, hE2⟩ : ∃ E, decErrN l = E := ⟨_, rfl⟩
  rw [hZ, hE2] at D2
  have hZf : Z.Fine := by rw [← hZ]; exact decN_fine l
  obtain ⟨P, hP⟩ : ∃ y, outN Z = y := ⟨_, rfl⟩
  obtain ⟨m, hm⟩ : ∃ y, P.length = y := ⟨_, rfl⟩
  obtain ⟨e4, he4⟩ : ∃ y, errN Z = y := ⟨_, rfl⟩
  have EN2 := Lib.hid (fun W => nencode_any Z W hZf)
  rw [he4, hP] at EN2
  have hc2 : (E2 = 90 ∧ Z = noN) ∨ (E2 = 0 ∧ e4 = 0 ∧ P = l) := by
    rcases decErr_cases l with ⟨h1, h2⟩ | ⟨h1, h2⟩
    · right
      have h3 := enc_dec h1
      rw [hZ] at h2 h3
      exact ⟨by rw [← hE2]; exact h1, by rw [← he4]; unfold errN; rw [h2]; rfl, by rw [← hP]; unfold outN; rw [h2]; exact h3.2⟩
    · left
      exact ⟨by rw [← hE2]; exact h1, by rw [← hZ]; exact h2⟩
  have HK := Lib.hid hk
  have HM := Lib.hid hm
  have RL := Lib.hid (fun W (h : Below w.heap.size w W) => (hr.below h).more h.size)
  have HL := Lib.hid hl
  have ll : (l == l) = true := by simp
  obtain ⟨w0, hw0⟩ : ∃ w0, w.alloc (.cells #[.int .i64 x.k, .int .i64 x.a, .int .i64 x.b, .int .i64 x.n] 23) = w0 := ⟨_, rfl⟩
  have hx : Blk w0 w.heap.size 23 #[.int .i64 x.k, .int .i64 x.a, .int .i64 x.b, .int .i64 x.n] := by rw [← hw0]; exact Blk.new w _ _
  have hb0 : Below w.heap.size w w0 := by rw [← hw0]; exact (Below.refl _ _).alloc (Nat.le_refl _) _
  have HA := Lib.hid (nalive_any w0)
  have XC : Hid (∀ W, Below w0.heap.size w0 W → W.cell? ⟨w.heap.size, 0, none⟩ = some (.int .i64 x.k) ∧ W.cell? ⟨w.heap.size, 1, none⟩ = some (.int .i64 x.a) ∧ W.cell? ⟨w.heap.size, 2, none⟩ = some (.int .i64 x.b) ∧ W.cell? ⟨w.heap.size, 3, none⟩ = some (.int .i64 x.n)) := Lib.hid (fun W h => by
    have hb := hx.below h hx.lt
    exact ⟨hb.cell 0, hb.cell 1, hb.cell 2, hb.cell 3⟩)
  have HB0 := Lib.hid hb0
  clear hr hO hk her hT hE1 hZ hE2 hP hm he4 hl hx hb0 hf hZf
  obtain ⟨xk, xa, xb, xn⟩ := x
  obtain ⟨zk, za, zb, zn⟩ := Z
  obtain ⟨tk, ta, tb, tn⟩ := T
  unfold nv at *
  simp only at EN D1 D2 EN2 XC ⊢
  have go : ∀ (E2' e4' : Int) (P' : List UInt8), True := fun _ _ _ => trivial
  clear go
  rcases hc1 with rfl | ⟨rfl, rfl, hTx⟩
  · rcases hc2 with ⟨rfl, hZ0⟩ | ⟨rfl, rfl, rfl⟩
    · unfold noN at hZ0
      injection hZ0 with z1 z2 z3 z4
      subst z1 z2 z3 z4
      go_enter Try.func6, Try.ntmps6
      go_wp2_with (first
        | (go_at_call 27; refine HA.out.mono ?_; rintro e w1 ⟨rfl, b1⟩; clear hw0; have K1 := Lib.hid b1; obtain ⟨x0, x1, x2, x3⟩ := XC.out w1 b1; clear b1)
        | (go_at_call 9; (have l0 := K3.out; clear l0); refine (EN2.out _).mono ?_; rintro e w5 ⟨v, rfl, g⟩; obtain ⟨A5, c5, rfl, o5, b5⟩ := gives_len g HM.out
           have b45 : Below w4.heap.size w4 w5 := ((Below.refl _ w4).alloc (Nat.le_refl _) _).trans (b5.mono (by simp))
           have hz5 := Z4.out.below b5 Z4.out.lt
           have z0 := hz5.cell 0; have z1 := hz5.cell 1; have z2 := hz5.cell 2; have z3 := hz5.cell 3
           have K5 := Lib.hid (K4.out.trans (b45.mono K4.out.size))
           have cv1 := conv_reads c5 (Reads.of_own o5)
           have cv2 := conv_reads c (RL.out w5 (HB0.out.trans (K5.out.mono HB0.out.size)))
           clear g o5 b5 b45 hz5)
        | (go_at_call 9; refine (EN.out _).mono ?_; rintro e w2 ⟨v, rfl, g⟩; obtain ⟨A2, c2, rfl, o2, b2⟩ := gives_len g HK.out; have K2 := Lib.hid (K1.out.trans (b2.mono K1.out.size)); obtain ⟨x0, x1, x2, x3⟩ := XC.out w2 K2.out; have O2 := Lib.hid o2; clear g o2 b2)
        | (go_at_call 11; (have l0 := K3.out; clear l0); refine (D2.out A c _ (RL.out _ (HB0.out.trans ((K3.out.alloc K3.out.size _).mono HB0.out.size)))).mono ?_; rintro e w4 ⟨rfl, b4⟩
           have b34 : Below w3.heap.size w3 w4 := ((Below.refl _ w3).alloc (Nat.le_refl _) _).trans (b4.mono (by simp))
           have Z4 := Lib.hid (Blk.new w4 23 #[.int .i64 0, .int .i64 0, .int .i64 0, .int .i64 0])
           have z0 := Z4.out.cell 0; have z1 := Z4.out.cell 1; have z2 := Z4.out.cell 2; have z3 := Z4.out.cell 3
           have K4 := Lib.hid (K3.out.trans (b34.mono K3.out.size))
           clear b4 b34)
        | (go_at_call 11; refine (D1.out A2 c2 w2 (Reads.of_own O2.out)).mono ?_; rintro e w3 ⟨rfl, b3⟩
           have K3 := Lib.hid (K2.out.trans (b3.mono K2.out.size))
           have hy := Blk.new w3 23 #[.int .i64 tk, .int .i64 ta, .int .i64 tb, .int .i64 tn]
           have y0 := hy.cell 0; have y1 := hy.cell 1; have y2 := hy.cell 2; have y3 := hy.cell 3
           obtain ⟨x0, x1, x2, x3⟩ := XC.out _ (K3.out.alloc K3.out.size (.cells #[.int .i64 tk, .int .i64 ta, .int .i64 tb, .int .i64 tn] 23))
           clear b3 hy))
      go_ret
      exact ⟨rfl, HB0.out.trans (K5.out.mono HB0.out.size)⟩
    · clear HL
      go_enter Try.func6, Try.ntmps6
      go_wp2_with (first
        | (go_at_call 27; refine HA.out.mono ?_; rintro e w1 ⟨rfl, b1⟩; clear hw0; have K1 := Lib.hid b1; obtain ⟨x0, x1, x2, x3⟩ := XC.out w1 b1; clear b1)
        | (go_at_call 9; (have l0 := K3.out; clear l0); refine (EN2.out _).mono ?_; rintro e w5 ⟨v, rfl, g⟩; obtain ⟨A5, c5, rfl, o5, b5⟩ := gives_len g HM.out
           have b45 : Below w4.heap.size w4 w5 := ((Below.refl _ w4).alloc (Nat.le_refl _) _).trans (b5.mono (by simp))
           have hz5 := Z4.out.below b5 Z4.out.lt
           have z0 := hz5.cell 0; have z1 := hz5.cell 1; have z2 := hz5.cell 2; have z3 := hz5.cell 3
           have K5 := Lib.hid (K4.out.trans (b45.mono K4.out.size))
           have cv1 := conv_reads c5 (Reads.of_own o5)
           have cv2 := conv_reads c (RL.out w5 (HB0.out.trans (K5.out.mono HB0.out.size)))
           clear g o5 b5 b45 hz5)
        | (go_at_call 9; refine (EN.out _).mono ?_; rintro e w2 ⟨v, rfl, g⟩; obtain ⟨A2, c2, rfl, o2, b2⟩ := gives_len g HK.out; have K2 := Lib.hid (K1.out.trans (b2.mono K1.out.size)); obtain ⟨x0, x1, x2, x3⟩ := XC.out w2 K2.out; have O2 := Lib.hid o2; clear g o2 b2)
        | (go_at_call 11; (have l0 := K3.out; clear l0); refine (D2.out A c _ (RL.out _ (HB0.out.trans ((K3.out.alloc K3.out.size _).mono HB0.out.size)))).mono ?_; rintro e w4 ⟨rfl, b4⟩
           have b34 : Below w3.heap.size w3 w4 := ((Below.refl _ w3).alloc (Nat.le_refl _) _).trans (b4.mono (by simp))
           have Z4 := Lib.hid (Blk.new w4 23 #[.int .i64 zk, .int .i64 za, .int .i64 zb, .int .i64 zn])
           have z0 := Z4.out.cell 0; have z1 := Z4.out.cell 1; have z2 := Z4.out.cell 2; have z3 := Z4.out.cell 3
           have K4 := Lib.hid (K3.out.trans (b34.mono K3.out.size))
           clear b4 b34)
        | (go_at_call 11; refine (D1.out A2 c2 w2 (Reads.of_own O2.out)).mono ?_; rintro e w3 ⟨rfl, b3⟩
           have K3 := Lib.hid (K2.out.trans (b3.mono K2.out.size))
           have hy := Blk.new w3 23 #[.int .i64 tk, .int .i64 ta, .int .i64 tb, .int .i64 tn]
           have y0 := hy.cell 0; have y1 := hy.cell 1; have y2 := hy.cell 2; have y3 := hy.cell 3
           obtain ⟨x0, x1, x2, x3⟩ := XC.out _ (K3.out.alloc K3.out.size (.cells #[.int .i64 tk, .int .i64 ta, .int .i64 tb, .int .i64 tn] 23))
           clear b3 hy))
      go_ret
      exact ⟨rfl, HB0.out.trans (K5.out.mono HB0.out.size)⟩
  · injection hTx with t1 t2 t3 t4
    subst t1 t2 t3 t4
    rcases hc2 with ⟨rfl, hZ0⟩ | ⟨rfl, rfl, rfl⟩
    · unfold noN at hZ0
      injection hZ0 with z1 z2 z3 z4
      subst z1 z2 z3 z4
      go_enter Try.func6, Try.ntmps6
      go_wp2_with (first
        | (go_at_call 27; refine HA.out.mono ?_; rintro e w1 ⟨rfl, b1⟩; clear hw0; have K1 := Lib.hid b1; obtain ⟨x0, x1, x2, x3⟩ := XC.out w1 b1; clear b1)
        | (go_at_call 9; (have l0 := K3.out; clear l0); refine (EN2.out _).mono ?_; rintro e w5 ⟨v, rfl, g⟩; obtain ⟨A5, c5, rfl, o5, b5⟩ := gives_len g HM.out
           have b45 : Below w4.heap.size w4 w5 := ((Below.refl _ w4).alloc (Nat.le_refl _) _).trans (b5.mono (by simp))
           have hz5 := Z4.out.below b5 Z4.out.lt
           have z0 := hz5.cell 0; have z1 := hz5.cell 1; have z2 := hz5.cell 2; have z3 := hz5.cell 3
           have K5 := Lib.hid (K4.out.trans (b45.mono K4.out.size))
           have cv1 := conv_reads c5 (Reads.of_own o5)
           have cv2 := conv_reads c (RL.out w5 (HB0.out.trans (K5.out.mono HB0.out.size)))
           clear g o5 b5 b45 hz5)
        | (go_at_call 9; refine (EN.out _).mono ?_; rintro e w2 ⟨v, rfl, g⟩; obtain ⟨A2, c2, rfl, o2, b2⟩ := gives_len g HK.out; have K2 := Lib.hid (K1.out.trans (b2.mono K1.out.size)); obtain ⟨x0, x1, x2, x3⟩ := XC.out w2 K2.out; have O2 := Lib.hid o2; clear g o2 b2)
        | (go_at_call 11; (have l0 := K3.out; clear l0); refine (D2.out A c _ (RL.out _ (HB0.out.trans ((K3.out.alloc K3.out.size _).mono HB0.out.size)))).mono ?_; rintro e w4 ⟨rfl, b4⟩
           have b34 : Below w3.heap.size w3 w4 := ((Below.refl _ w3).alloc (Nat.le_refl _) _).trans (b4.mono (by simp))
           have Z4 := Lib.hid (Blk.new w4 23 #[.int .i64 0, .int .i64 0, .int .i64 0, .int .i64 0])
           have z0 := Z4.out.cell 0; have z1 := Z4.out.cell 1; have z2 := Z4.out.cell 2; have z3 := Z4.out.cell 3
           have K4 := Lib.hid (K3.out.trans (b34.mono K3.out.size))
           clear b4 b34)
        | (go_at_call 11; refine (D1.out A2 c2 w2 (Reads.of_own O2.out)).mono ?_; rintro e w3 ⟨rfl, b3⟩
           have K3 := Lib.hid (K2.out.trans (b3.mono K2.out.size))
           have hy := Blk.new w3 23 #[.int .i64 tk, .int .i64 ta, .int .i64 tb, .int .i64 tn]
           have y0 := hy.cell 0; have y1 := hy.cell 1; have y2 := hy.cell 2; have y3 := hy.cell 3
           obtain ⟨x0, x1, x2, x3⟩ := XC.out _ (K3.out.alloc K3.out.size (.cells #[.int .i64 tk, .int .i64 ta, .int .i64 tb, .int .i64 tn] 23))
           clear b3 hy))
      go_ret
      exact ⟨rfl, HB0.out.trans (K5.out.mono HB0.out.size)⟩
    · clear HL
      go_enter Try.func6, Try.ntmps6
      go_wp2_with (first
        | (go_at_call 27; refine HA.out.mono ?_; rintro e w1 ⟨rfl, b1⟩; clear hw0; have K1 := Lib.hid b1; obtain ⟨x0, x1, x2, x3⟩ := XC.out w1 b1; clear b1)
        | (go_at_call 9; (have l0 := K3.out; clear l0); refine (EN2.out _).mono ?_; rintro e w5 ⟨v, rfl, g⟩; obtain ⟨A5, c5, rfl, o5, b5⟩ := gives_len g HM.out
           have b45 : Below w4.heap.size w4 w5 := ((Below.refl _ w4).alloc (Nat.le_refl _) _).trans (b5.mono (by simp))
           have hz5 := Z4.out.below b5 Z4.out.lt
           have z0 := hz5.cell 0; have z1 := hz5.cell 1; have z2 := hz5.cell 2; have z3 := hz5.cell 3
           have K5 := Lib.hid (K4.out.trans (b45.mono K4.out.size))
           have cv1 := conv_reads c5 (Reads.of_own o5)
           have cv2 := conv_reads c (RL.out w5 (HB0.out.trans (K5.out.mono HB0.out.size)))
           clear g o5 b5 b45 hz5)
        | (go_at_call 9; refine (EN.out _).mono ?_; rintro e w2 ⟨v, rfl, g⟩; obtain ⟨A2, c2, rfl, o2, b2⟩ := gives_len g HK.out; have K2 := Lib.hid (K1.out.trans (b2.mono K1.out.size)); obtain ⟨x0, x1, x2, x3⟩ := XC.out w2 K2.out; have O2 := Lib.hid o2; clear g o2 b2)
        | (go_at_call 11; (have l0 := K3.out; clear l0); refine (D2.out A c _ (RL.out _ (HB0.out.trans ((K3.out.alloc K3.out.size _).mono HB0.out.size)))).mono ?_; rintro e w4 ⟨rfl, b4⟩
           have b34 : Below w3.heap.size w3 w4 := ((Below.refl _ w3).alloc (Nat.le_refl _) _).trans (b4.mono (by simp))
           have Z4 := Lib.hid (Blk.new w4 23 #[.int .i64 zk, .int .i64 za, .int .i64 zb, .int .i64 zn])
           have z0 := Z4.out.cell 0; have z1 := Z4.out.cell 1; have z2 := Z4.out.cell 2; have z3 := Z4.out.cell 3
           have K4 := Lib.hid (K3.out.trans (b34.mono K3.out.size))
           clear b4 b34)
        | (go_at_call 11; refine (D1.out A2 c2 w2 (Reads.of_own O2.out)).mono ?_; rintro e w3 ⟨rfl, b3⟩
           have K3 := Lib.hid (K2.out.trans (b3.mono K2.out.size))
           have hy := Blk.new w3 23 #[.int .i64 tk, .int .i64 ta, .int .i64 tb, .int .i64 tn]
           have y0 := hy.cell 0; have y1 := hy.cell 1; have y2 := hy.cell 2; have y3 := hy.cell 3
           obtain ⟨x0, x1, x2, x3⟩ := XC.out _ (K3.out.alloc K3.out.size (.cells #[.int .i64 tk, .int .i64 ta, .int .i64 tb, .int .i64 tn] 23))
           clear b3 hy))
      go_ret
      exact ⟨rfl, HB0.out.trans (K5.out.mono HB0.out.size)⟩
/-- As the end calls it. -/
theorem call {W : World} (x : NV) (hf : x.Fine) (A : Option Addr) (c : Nat) (l : List UInt8) (a : Arg W A c l) (w : World) (hw : W = w := by rfl) :
    Calls Try.prog 6 #[nv x, .slice A l.length c] w fun e w' => e = .returned (.bool true) ∧ Below w.heap.size w w' := by
  subst hw
  by_cases h : 100 < l.length
  · exact walk_big x A _ c W h
  · exact walk_small x A _ c l W hf rfl a.reads (by omega)
end
end Go.Proofs.Ytdjneiboeehclaa.noteBack

/-
  The walk of the statement TileBack: a tile is read from its bytes as it was; what is read of any bytes has just these; and is sound.
-/
import Derived.Test.YtpededkfgjmhcaaTLaw
namespace Go.Proofs.Ytpededkfgjmhcaa.tileBack
open Go.RowKit Go.Proofs.Ytpededkfgjmhcaa.crc Go.Proofs.Ytpededkfgjmhcaa.crcSeals Go.Proofs.Ytpededkfgjmhcaa.crcJoins Go.Proofs.Ytpededkfgjmhcaa.tile

section
variable (t : TV) (s : Int) (A B : Option Addr) (n c d : Nat) (l : List UInt8) (w : World)

theorem box_cells {w : World} (x y z u : Value) : ∀ W, Below (w.alloc (.cells #[x, y, z, u] 24)).heap.size (w.alloc (.cells #[x, y, z, u] 24)) W →
    W.cell? ⟨w.heap.size, 0, none⟩ = some x ∧ W.cell? ⟨w.heap.size, 1, none⟩ = some y ∧ W.cell? ⟨w.heap.size, 2, none⟩ = some z ∧ W.cell? ⟨w.heap.size, 3, none⟩ = some u := fun W h => by
  have hb := (Blk.new w 24 #[x, y, z, u]).below h (by simp)
  exact ⟨hb.cell 0, hb.cell 1, hb.cell 2, hb.cell 3⟩

set_option maxRecDepth 100000 in
set_option maxHeartbeats 4000000 in
theorem walk_big (m : Nat) (h : 1500 < n ∨ 9000 < m) (hn : n ≤ 9223372036854775807) (hm : m ≤ 9223372036854775807) :
    Calls Try.prog 6 #[tv t A n c, .int .i64 s, .slice B m d] w fun e w' => e = .returned (.bool true) ∧ Below w.heap.size w w' := by
  have hb0 : Below w.heap.size w (w.alloc (.cells #[.int .i64 t.file, .int .i64 t.no, .int .i64 t.kind, .slice A n c] 24)) := (Below.refl _ _).alloc (Nat.le_refl _) _
  have HX := Lib.hid (box_cells (w := w) (.int .i64 t.file) (.int .i64 t.no) (.int .i64 t.kind) (.slice A n c))
  have HB := Lib.hid hb0
  clear hb0
  unfold tv
  by_cases h1 : 1500 < n
  · have hd : decide ((1500 : Int) < (n : Int)) = true := decide_eq_true (by omega)
    go_enter Try.func6, Try.ntmps6
    go_wp2_with (go_at_call 19; refine (talive_any _).mono ?_; rintro e w1 ⟨rfl, b1⟩; obtain ⟨x0, x1, x2, x3⟩ := HX.out w1 b1; have B1 := Lib.hid (HB.out.trans (b1.mono HB.out.size)); clear b1)
    go_ret
    exact ⟨rfl, B1.out⟩
  · have hd : decide ((1500 : Int) < (n : Int)) = false := decide_eq_false (by omega)
    have hd2 : decide ((9000 : Int) < (m : Int)) = true := decide_eq_true (by omega)
    go_enter Try.func6, Try.ntmps6
    go_wp2_with (go_at_call 19; refine (talive_any _).mono ?_; rintro e w1 ⟨rfl, b1⟩; obtain ⟨x0, x1, x2, x3⟩ := HX.out w1 b1; have B1 := Lib.hid (HB.out.trans (b1.mono HB.out.size)); clear b1)
    go_ret
    exact ⟨rfl, B1.out⟩
set_option maxRecDepth 100000 in
set_option maxHeartbeats 4000000 in
theorem walk_yy (ht : TEl w t A n) (hl : Arg w B d l) (hn : n ≤ 1500) (hl2 : l.length ≤ 9000) (hok : okT t s = true) (hg : goodB l = true) :
    Calls Try.prog 6 #[tv t A n c, .int .i64 s, .slice B l.length d] w fun e w' => e = .returned (.bool true) ∧ Below w.heap.size w w' := by
  obtain ⟨w0, hw0⟩ : ∃ w0, w.alloc (.cells #[.int .i64 t.file, .int .i64 t.no, .int .i64 t.kind, .slice A n c] 24) = w0 := ⟨_, rfl⟩
  have hb0 : Below w.heap.size w w0 := by rw [← hw0]; exact (Below.refl _ _).alloc (Nat.le_refl _) _
  have hx := box_cells (w := w) (.int .i64 t.file) (.int .i64 t.no) (.int .i64 t.kind) (.slice A n c)
  rw [hw0] at hx
  have HX := Lib.hid hx
  have RT := Lib.hid (fun W (h : Below w0.heap.size w0 W) => (ht.below (hb0.trans (h.mono hb0.size))))
  have RL := Lib.hid (fun W (h : Below w0.heap.size w0 W) => ((hl.reads.below (hb0.trans (h.mono hb0.size))).more (Nat.le_trans hb0.size h.size)))
  have HW0 := Lib.hid hw0
  have HB0 := Lib.hid hb0
  obtain ⟨hs, _, _, _, h4, _, _⟩ := okT_of hok
  obtain ⟨L1, hL1⟩ : ∃ L1, bytesT t s.toNat = L1 := ⟨_, rfl⟩
  obtain ⟨n2, hn2⟩ : ∃ n2, L1.length = n2 := ⟨_, rfl⟩
  have hq : s * 128 = (n2 : Int) := by rw [← hn2, ← hL1, bytesT_length h4]; omega
  have hn2b : n2 ≤ 9000 := by omega
  obtain ⟨g1, g2, _⟩ := good_bytes hok ht.fine
  have g3 := sound_bytes hok
  rw [hL1] at g1 g2 g3
  have HE1 := Lib.hid (enc_ok (m := n) hok hL1 hn2)
  have HD1 := Lib.hid (dec_ok g1 g2 hn2 ht.len (by omega))
  have HS1 := Lib.hid (same_is (sameT_refl t))
  have HN1 := Lib.hid (snd_is g3 hn2 (by omega))
  have HQ := Lib.hid hq
  clear g1 g2 g3 hL1 hn2 hq h4 hs
  obtain ⟨m, hm⟩ : ∃ m, l.length = m := ⟨_, rfl⟩
  have hm9 : m ≤ 9000 := by omega
  obtain ⟨q1, q2, q3, q4⟩ := good_sound hg
  obtain ⟨r1, r2, r3⟩ := secs_some q4
  obtain ⟨u, hu⟩ : ∃ u, candT l = u := ⟨_, rfl⟩
  obtain ⟨k, hk⟩ : ∃ k, u.el.length = k := ⟨_, rfl⟩
  have es : ((m : Int) / 128) = (secs l : Int) := by omega
  rw [hu] at q2 q3
  rw [← es] at q2
  have q3' : bytesT u ((m : Int) / 128).toNat = l := by rw [es, Int.toNat_natCast]; exact q3
  have HD2 := Lib.hid (dec_ok hg hu hm hk (by omega))
  have HE2 := Lib.hid (enc_ok (m := k) q2 q3' hm)
  have HN2 := Lib.hid (snd_is q1 hm (by omega))
  clear q1 q2 q3 q3' q4 r1 r2 r3 es hu hk
  have hd1 : decide ((1500 : Int) < (n : Int)) = false := decide_eq_false (by omega)
  have hd2 : decide ((9000 : Int) < (m : Int)) = false := decide_eq_false (by omega)
  rw [hm] at RL ⊢
  clear ht hl hok hg hb0 hx hw0 hm
  unfold tv at *
  have cvl := fun W (h : Below w0.heap.size w0 W) => conv_reads d (RL.out W h)
  have CVL := Lib.hid cvl
  clear cvl
  go_enter Try.func6, Try.ntmps6
  go_wp2_with (first
    | (go_at_call 17; (have l0 := K7.out; clear l0); (with_reducible refine (HN2.out B d w7 (RL.out w7 K7.out)).mono ?_); rintro e w8 ⟨rfl, b8⟩; have K8 := Lib.hid (K7.out.trans (b8.mono K7.out.size)); clear b8)
    | (go_at_call 9; (have l0 := K6.out; clear l0); (with_reducible refine (HE2.out A6 c6 (w6.alloc (.cells #[.int .i64 u.file, .int .i64 u.no, .int .i64 u.kind, .slice A6 k c6] 24)) (T6.out.below ((Below.refl _ _).alloc (Nat.le_refl _) _))).mono ?_); rintro e w7 ⟨A7, c7, rfl, o7, b7⟩; have K7 := Lib.hid ((K6.out.alloc K6.out.size (.cells #[.int .i64 u.file, .int .i64 u.no, .int .i64 u.kind, .slice A6 k c6] 24)).trans (b7.mono (Nat.le_trans K6.out.size (by simp)))); have cv7 := conv_reads c7 (Reads.of_own o7); have cvl := CVL.out w7 K7.out; clear o7 b7)
    | (go_at_call 15; (have l0 := K5.out; clear l0); (with_reducible refine (HD2.out B d w5 (RL.out w5 K5.out)).mono ?_); rintro e w6 ⟨A6, c6, rfl, o6, t6, b6⟩; have K6 := Lib.hid (K5.out.trans (b6.mono K5.out.size)); have T6 := Lib.hid t6; clear o6 t6 b6)
    | (go_at_call 17; (have l0 := K4.out; clear l0); (with_reducible refine (HN1.out A2 c2 w4 (((Reads.of_own O2.out).below M4.out).more M4.out.size)).mono ?_); rintro e w5 ⟨rfl, b5⟩; have K5 := Lib.hid (K4.out.trans (b5.mono K4.out.size)); clear b5)
    | (go_at_call 14; (have l0 := K3.out; clear l0); (with_reducible refine (HS1.out A3 A n n c3 c (w3.alloc (.cells #[.int .i64 t.file, .int .i64 t.no, .int .i64 t.kind, .slice A3 n c3] 24)) (T3.out.below ((Below.refl _ _).alloc (Nat.le_refl _) _)) (RT.out _ (K3.out.alloc K3.out.size (.cells #[.int .i64 t.file, .int .i64 t.no, .int .i64 t.kind, .slice A3 n c3] 24)))).mono ?_); rintro e w4 ⟨rfl, b4⟩; have K4 := Lib.hid ((K3.out.alloc K3.out.size (.cells #[.int .i64 t.file, .int .i64 t.no, .int .i64 t.kind, .slice A3 n c3] 24)).trans (b4.mono (Nat.le_trans K3.out.size (by simp)))); have M4 := Lib.hid ((M3.out.alloc M3.out.size (.cells #[.int .i64 t.file, .int .i64 t.no, .int .i64 t.kind, .slice A3 n c3] 24)).trans (b4.mono (Nat.le_trans M3.out.size (by simp)))); clear b4)
    | (go_at_call 15; (have l0 := K2.out; clear l0); (with_reducible refine (HD1.out A2 c2 w2 (Reads.of_own O2.out)).mono ?_); rintro e w3 ⟨A3, c3, rfl, o3, t3, b3⟩; have K3 := Lib.hid (K2.out.trans (b3.mono K2.out.size)); have M3 := Lib.hid b3; have T3 := Lib.hid t3; obtain ⟨z0, z1, z2, z3⟩ := HX.out (w3.alloc (.cells #[.int .i64 t.file, .int .i64 t.no, .int .i64 t.kind, .slice A3 n c3] 24)) (K3.out.alloc K3.out.size (.cells #[.int .i64 t.file, .int .i64 t.no, .int .i64 t.kind, .slice A3 n c3] 24)); have hqq := HQ.out; clear o3 t3 b3)
    | (go_at_call 9; (with_reducible refine (HE1.out A c w1 (RT.out w1 K1.out)).mono ?_); rintro e w2 ⟨A2, c2, rfl, o2, b2⟩; have K2 := Lib.hid (K1.out.trans (b2.mono K1.out.size)); have O2 := Lib.hid o2; clear o2 b2)
    | (go_at_call 19; refine (talive_any _).mono ?_; rintro e w1 ⟨rfl, b1⟩; rw [HW0.out] at b1; obtain ⟨x0, x1, x2, x3⟩ := HX.out w1 b1; have K1 := Lib.hid b1; clear b1))
  go_ret
  exact ⟨rfl, HB0.out.trans (K8.out.mono HB0.out.size)⟩
set_option maxRecDepth 100000 in
set_option maxHeartbeats 4000000 in
theorem walk_yn (ht : TEl w t A n) (hl : Arg w B d l) (hn : n ≤ 1500) (hl2 : l.length ≤ 9000) (hok : okT t s = true) (hg : goodB l = false) :
    Calls Try.prog 6 #[tv t A n c, .int .i64 s, .slice B l.length d] w fun e w' => e = .returned (.bool true) ∧ Below w.heap.size w w' := by
  obtain ⟨w0, hw0⟩ : ∃ w0, w.alloc (.cells #[.int .i64 t.file, .int .i64 t.no, .int .i64 t.kind, .slice A n c] 24) = w0 := ⟨_, rfl⟩
  have hb0 : Below w.heap.size w w0 := by rw [← hw0]; exact (Below.refl _ _).alloc (Nat.le_refl _) _
  have hx := box_cells (w := w) (.int .i64 t.file) (.int .i64 t.no) (.int .i64 t.kind) (.slice A n c)
  rw [hw0] at hx
  have HX := Lib.hid hx
  have RT := Lib.hid (fun W (h : Below w0.heap.size w0 W) => (ht.below (hb0.trans (h.mono hb0.size))))
  have RL := Lib.hid (fun W (h : Below w0.heap.size w0 W) => ((hl.reads.below (hb0.trans (h.mono hb0.size))).more (Nat.le_trans hb0.size h.size)))
  have HW0 := Lib.hid hw0
  have HB0 := Lib.hid hb0
  obtain ⟨hs, _, _, _, h4, _, _⟩ := okT_of hok
  obtain ⟨L1, hL1⟩ : ∃ L1, bytesT t s.toNat = L1 := ⟨_, rfl⟩
  obtain ⟨n2, hn2⟩ : ∃ n2, L1.length = n2 := ⟨_, rfl⟩
  have hq : s * 128 = (n2 : Int) := by rw [← hn2, ← hL1, bytesT_length h4]; omega
  have hn2b : n2 ≤ 9000 := by omega
  obtain ⟨g1, g2, _⟩ := good_bytes hok ht.fine
  have g3 := sound_bytes hok
  rw [hL1] at g1 g2 g3
  have HE1 := Lib.hid (enc_ok (m := n) hok hL1 hn2)
  have HD1 := Lib.hid (dec_ok g1 g2 hn2 ht.len (by omega))
  have HS1 := Lib.hid (same_is (sameT_refl t))
  have HN1 := Lib.hid (snd_is g3 hn2 (by omega))
  have HQ := Lib.hid hq
  clear g1 g2 g3 hL1 hn2 hq h4 hs
  obtain ⟨m, hm⟩ : ∃ m, l.length = m := ⟨_, rfl⟩
  have hm9 : m ≤ 9000 := by omega
  have HD2 := Lib.hid (dec_no hg hm (by omega))
  have HS2 : Hid (∀ (A6 : Option Addr) (c6 : Nat) (W : World), TEl W noT A6 0 → Calls Try.prog 14 #[.agg #[.int .i64 0, .int .i64 0, .int .i64 0, .slice A6 0 c6], .agg #[.int .i64 0, .int .i64 0, .int .i64 0, .slice none 0 0]] W fun e w' => e = .returned (.bool true) ∧ Below W.heap.size W w') := Lib.hid (fun A6 c6 W h => same_is (sameT_refl noT) A6 none 0 0 c6 0 W h ⟨rfl, Reads.none_, by omega, noT_fine⟩)
  have hd1 : decide ((1500 : Int) < (n : Int)) = false := decide_eq_false (by omega)
  have hd2 : decide ((9000 : Int) < (m : Int)) = false := decide_eq_false (by omega)
  rw [hm] at RL ⊢
  clear ht hl hok hg hb0 hx hw0 hm
  unfold tv at *
  unfold noT at HD2
  simp only at HD2
  go_enter Try.func6, Try.ntmps6
  go_wp2_with (first
    | (go_at_call 14; (have l0 := K6.out; clear l0); (with_reducible refine (HS2.out A6 c6 (w6.alloc (.cells #[.int .i64 0, .int .i64 0, .int .i64 0, .slice A6 0 c6] 24)) (T6.out.below ((Below.refl _ _).alloc (Nat.le_refl _) _))).mono ?_); rintro e w7 ⟨rfl, b7⟩; have K8 := Lib.hid ((K6.out.alloc K6.out.size (.cells #[.int .i64 0, .int .i64 0, .int .i64 0, .slice A6 0 c6] 24)).trans (b7.mono (Nat.le_trans K6.out.size (by simp)))); clear b7)
    | (go_at_call 15; (have l0 := K5.out; clear l0); (with_reducible refine (HD2.out B d w5 (RL.out w5 K5.out)).mono ?_); rintro e w6 ⟨A6, c6, rfl, o6, t6, b6⟩; have K6 := Lib.hid (K5.out.trans (b6.mono K5.out.size)); have T6 := Lib.hid t6; clear o6 t6 b6)
    | (go_at_call 17; (have l0 := K4.out; clear l0); (with_reducible refine (HN1.out A2 c2 w4 (((Reads.of_own O2.out).below M4.out).more M4.out.size)).mono ?_); rintro e w5 ⟨rfl, b5⟩; have K5 := Lib.hid (K4.out.trans (b5.mono K4.out.size)); clear b5)
    | (go_at_call 14; (have l0 := K3.out; clear l0); (with_reducible refine (HS1.out A3 A n n c3 c (w3.alloc (.cells #[.int .i64 t.file, .int .i64 t.no, .int .i64 t.kind, .slice A3 n c3] 24)) (T3.out.below ((Below.refl _ _).alloc (Nat.le_refl _) _)) (RT.out _ (K3.out.alloc K3.out.size (.cells #[.int .i64 t.file, .int .i64 t.no, .int .i64 t.kind, .slice A3 n c3] 24)))).mono ?_); rintro e w4 ⟨rfl, b4⟩; have K4 := Lib.hid ((K3.out.alloc K3.out.size (.cells #[.int .i64 t.file, .int .i64 t.no, .int .i64 t.kind, .slice A3 n c3] 24)).trans (b4.mono (Nat.le_trans K3.out.size (by simp)))); have M4 := Lib.hid ((M3.out.alloc M3.out.size (.cells #[.int .i64 t.file, .int .i64 t.no, .int .i64 t.kind, .slice A3 n c3] 24)).trans (b4.mono (Nat.le_trans M3.out.size (by simp)))); clear b4)
    | (go_at_call 15; (have l0 := K2.out; clear l0); (with_reducible refine (HD1.out A2 c2 w2 (Reads.of_own O2.out)).mono ?_); rintro e w3 ⟨A3, c3, rfl, o3, t3, b3⟩; have K3 := Lib.hid (K2.out.trans (b3.mono K2.out.size)); have M3 := Lib.hid b3; have T3 := Lib.hid t3; obtain ⟨z0, z1, z2, z3⟩ := HX.out (w3.alloc (.cells #[.int .i64 t.file, .int .i64 t.no, .int .i64 t.kind, .slice A3 n c3] 24)) (K3.out.alloc K3.out.size (.cells #[.int .i64 t.file, .int .i64 t.no, .int .i64 t.kind, .slice A3 n c3] 24)); have hqq := HQ.out; clear o3 t3 b3)
    | (go_at_call 9; (with_reducible refine (HE1.out A c w1 (RT.out w1 K1.out)).mono ?_); rintro e w2 ⟨A2, c2, rfl, o2, b2⟩; have K2 := Lib.hid (K1.out.trans (b2.mono K1.out.size)); have O2 := Lib.hid o2; clear o2 b2)
    | (go_at_call 19; refine (talive_any _).mono ?_; rintro e w1 ⟨rfl, b1⟩; rw [HW0.out] at b1; obtain ⟨x0, x1, x2, x3⟩ := HX.out w1 b1; have K1 := Lib.hid b1; clear b1))
  go_ret
  exact ⟨rfl, HB0.out.trans (K8.out.mono HB0.out.size)⟩
set_option maxRecDepth 100000 in
set_option maxHeartbeats 4000000 in
theorem walk_ny (ht : TEl w t A n) (hl : Arg w B d l) (hn : n ≤ 1500) (hl2 : l.length ≤ 9000) (hok : okT t s = false) (hg : goodB l = true) :
    Calls Try.prog 6 #[tv t A n c, .int .i64 s, .slice B l.length d] w fun e w' => e = .returned (.bool true) ∧ Below w.heap.size w w' := by
  obtain ⟨w0, hw0⟩ : ∃ w0, w.alloc (.cells #[.int .i64 t.file, .int .i64 t.no, .int .i64 t.kind, .slice A n c] 24) = w0 := ⟨_, rfl⟩
  have hb0 : Below w.heap.size w w0 := by rw [← hw0]; exact (Below.refl _ _).alloc (Nat.le_refl _) _
  have hx := box_cells (w := w) (.int .i64 t.file) (.int .i64 t.no) (.int .i64 t.kind) (.slice A n c)
  rw [hw0] at hx
  have HX := Lib.hid hx
  have RT := Lib.hid (fun W (h : Below w0.heap.size w0 W) => (ht.below (hb0.trans (h.mono hb0.size))))
  have RL := Lib.hid (fun W (h : Below w0.heap.size w0 W) => ((hl.reads.below (hb0.trans (h.mono hb0.size))).more (Nat.le_trans hb0.size h.size)))
  have HW0 := Lib.hid hw0
  have HB0 := Lib.hid hb0
  have HE1 := Lib.hid (enc_no (m := n) hok)
  obtain ⟨m, hm⟩ : ∃ m, l.length = m := ⟨_, rfl⟩
  have hm9 : m ≤ 9000 := by omega
  obtain ⟨q1, q2, q3, q4⟩ := good_sound hg
  obtain ⟨r1, r2, r3⟩ := secs_some q4
  obtain ⟨u, hu⟩ : ∃ u, candT l = u := ⟨_, rfl⟩
  obtain ⟨k, hk⟩ : ∃ k, u.el.length = k := ⟨_, rfl⟩
  have es : ((m : Int) / 128) = (secs l : Int) := by omega
  rw [hu] at q2 q3
  rw [← es] at q2
  have q3' : bytesT u ((m : Int) / 128).toNat = l := by rw [es, Int.toNat_natCast]; exact q3
  have HD2 := Lib.hid (dec_ok hg hu hm hk (by omega))
  have HE2 := Lib.hid (enc_ok (m := k) q2 q3' hm)
  have HN2 := Lib.hid (snd_is q1 hm (by omega))
  clear q1 q2 q3 q3' q4 r1 r2 r3 es hu hk
  have hd1 : decide ((1500 : Int) < (n : Int)) = false := decide_eq_false (by omega)
  have hd2 : decide ((9000 : Int) < (m : Int)) = false := decide_eq_false (by omega)
  rw [hm] at RL ⊢
  clear ht hl hok hg hb0 hx hw0 hm
  unfold tv at *
  have cvl := fun W (h : Below w0.heap.size w0 W) => conv_reads d (RL.out W h)
  have CVL := Lib.hid cvl
  clear cvl
  go_enter Try.func6, Try.ntmps6
  go_wp2_with (first
    | (go_at_call 17; (have l0 := K7.out; clear l0); (with_reducible refine (HN2.out B d w7 (RL.out w7 K7.out)).mono ?_); rintro e w8 ⟨rfl, b8⟩; have K8 := Lib.hid (K7.out.trans (b8.mono K7.out.size)); clear b8)
    | (go_at_call 9; (have l0 := K6.out; clear l0); (with_reducible refine (HE2.out A6 c6 (w6.alloc (.cells #[.int .i64 u.file, .int .i64 u.no, .int .i64 u.kind, .slice A6 k c6] 24)) (T6.out.below ((Below.refl _ _).alloc (Nat.le_refl _) _))).mono ?_); rintro e w7 ⟨A7, c7, rfl, o7, b7⟩; have K7 := Lib.hid ((K6.out.alloc K6.out.size (.cells #[.int .i64 u.file, .int .i64 u.no, .int .i64 u.kind, .slice A6 k c6] 24)).trans (b7.mono (Nat.le_trans K6.out.size (by simp)))); have cv7 := conv_reads c7 (Reads.of_own o7); have cvl := CVL.out w7 K7.out; clear o7 b7)
    | (go_at_call 15; (have l0 := K5.out; clear l0); (with_reducible refine (HD2.out B d w5 (RL.out w5 K5.out)).mono ?_); rintro e w6 ⟨A6, c6, rfl, o6, t6, b6⟩; have K6 := Lib.hid (K5.out.trans (b6.mono K5.out.size)); have T6 := Lib.hid t6; clear o6 t6 b6)
    | (go_at_call 9; (with_reducible refine (HE1.out A c w1 (RT.out w1 K1.out)).mono ?_); rintro e w5 ⟨A2, c2, rfl, o2, b2⟩; have K5 := Lib.hid (K1.out.trans (b2.mono K1.out.size)); clear o2 b2)
    | (go_at_call 19; refine (talive_any _).mono ?_; rintro e w1 ⟨rfl, b1⟩; rw [HW0.out] at b1; obtain ⟨x0, x1, x2, x3⟩ := HX.out w1 b1; have K1 := Lib.hid b1; clear b1))
  go_ret
  exact ⟨rfl, HB0.out.trans (K8.out.mono HB0.out.size)⟩
set_option maxRecDepth 100000 in
set_option maxHeartbeats 4000000 in
theorem walk_nn (ht : TEl w t A n) (hl : Arg w B d l) (hn : n ≤ 1500) (hl2 : l.length ≤ 9000) (hok : okT t s = false) (hg : goodB l = false) :
    Calls Try.prog 6 #[tv t A n c, .int .i64 s, .slice B l.length d] w fun e w' => e = .returned (.bool true) ∧ Below w.heap.size w w' := by
  obtain ⟨w0, hw0⟩ : ∃ w0, w.alloc (.cells #[.int .i64 t.file, .int .i64 t.no, .int .i64 t.kind, .slice A n c] 24) = w0 := ⟨_, rfl⟩
  have hb0 : Below w.heap.size w w0 := by rw [← hw0]; exact (Below.refl _ _).alloc (Nat.le_refl _) _
  have hx := box_cells (w := w) (.int .i64 t.file) (.int .i64 t.no) (.int .i64 t.kind) (.slice A n c)
  rw [hw0] at hx
  have HX := Lib.hid hx
  have RT := Lib.hid (fun W (h : Below w0.heap.size w0 W) => (ht.below (hb0.trans (h.mono hb0.size))))
  have RL := Lib.hid (fun W (h : Below w0.heap.size w0 W) => ((hl.reads.below (hb0.trans (h.mono hb0.size))).more (Nat.le_trans hb0.size h.size)))
  have HW0 := Lib.hid hw0
  have HB0 := Lib.hid hb0
  have HE1 := Lib.hid (enc_no (m := n) hok)
  obtain ⟨m, hm⟩ : ∃ m, l.length = m := ⟨_, rfl⟩
  have hm9 : m ≤ 9000 := by omega
  have HD2 := Lib.hid (dec_no hg hm (by omega))
  have HS2 : Hid (∀ (A6 : Option Addr) (c6 : Nat) (W : World), TEl W noT A6 0 → Calls Try.prog 14 #[.agg #[.int .i64 0, .int .i64 0, .int .i64 0, .slice A6 0 c6], .agg #[.int .i64 0, .int .i64 0, .int .i64 0, .slice none 0 0]] W fun e w' => e = .returned (.bool true) ∧ Below W.heap.size W w') := Lib.hid (fun A6 c6 W h => same_is (sameT_refl noT) A6 none 0 0 c6 0 W h ⟨rfl, Reads.none_, by omega, noT_fine⟩)
  have hd1 : decide ((1500 : Int) < (n : Int)) = false := decide_eq_false (by omega)
  have hd2 : decide ((9000 : Int) < (m : Int)) = false := decide_eq_false (by omega)
  rw [hm] at RL ⊢
  clear ht hl hok hg hb0 hx hw0 hm
  unfold tv at *
  unfold noT at HD2
  simp only at HD2
  go_enter Try.func6, Try.ntmps6
  go_wp2_with (first
    | (go_at_call 14; (have l0 := K6.out; clear l0); (with_reducible refine (HS2.out A6 c6 (w6.alloc (.cells #[.int .i64 0, .int .i64 0, .int .i64 0, .slice A6 0 c6] 24)) (T6.out.below ((Below.refl _ _).alloc (Nat.le_refl _) _))).mono ?_); rintro e w7 ⟨rfl, b7⟩; have K8 := Lib.hid ((K6.out.alloc K6.out.size (.cells #[.int .i64 0, .int .i64 0, .int .i64 0, .slice A6 0 c6] 24)).trans (b7.mono (Nat.le_trans K6.out.size (by simp)))); clear b7)
    | (go_at_call 15; (have l0 := K5.out; clear l0); (with_reducible refine (HD2.out B d w5 (RL.out w5 K5.out)).mono ?_); rintro e w6 ⟨A6, c6, rfl, o6, t6, b6⟩; have K6 := Lib.hid (K5.out.trans (b6.mono K5.out.size)); have T6 := Lib.hid t6; clear o6 t6 b6)
    | (go_at_call 9; (with_reducible refine (HE1.out A c w1 (RT.out w1 K1.out)).mono ?_); rintro e w5 ⟨A2, c2, rfl, o2, b2⟩; have K5 := Lib.hid (K1.out.trans (b2.mono K1.out.size)); clear o2 b2)
    | (go_at_call 19; refine (talive_any _).mono ?_; rintro e w1 ⟨rfl, b1⟩; rw [HW0.out] at b1; obtain ⟨x0, x1, x2, x3⟩ := HX.out w1 b1; have K1 := Lib.hid b1; clear b1))
  go_ret
  exact ⟨rfl, HB0.out.trans (K8.out.mono HB0.out.size)⟩

theorem walk (ht : TEl w t A n) (hl : Arg w B d l) : Calls Try.prog 6 #[tv t A n c, .int .i64 s, .slice B l.length d] w fun e w' => e = .returned (.bool true) ∧ Below w.heap.size w w' := by
  by_cases h : 1500 < n ∨ 9000 < l.length
  · exact walk_big t s A B n c d w l.length h ht.big (by have := hl.cap; have := hl.big; omega)
  · have h1 : n ≤ 1500 := by omega
    have h2 : l.length ≤ 9000 := by omega
    cases hok : okT t s <;> cases hg : goodB l
    · exact walk_nn t s A B n c d l w ht hl h1 h2 hok hg
    · exact walk_ny t s A B n c d l w ht hl h1 h2 hok hg
    · exact walk_yn t s A B n c d l w ht hl h1 h2 hok hg
    · exact walk_yy t s A B n c d l w ht hl h1 h2 hok hg
end
/-- As the end calls it. -/
theorem call {W : World} (t : TV) (A : Option Addr) (c : Nat) (ht : TEl W t A t.el.length) (s : Int) (_ : -9223372036854775808 ≤ s) (_ : s ≤ 9223372036854775807) (B : Option Addr) (d : Nat) (l : List UInt8) (hl : Arg W B d l) (w : World) (hw : W = w := by rfl) :
    Calls Try.prog 6 #[tv t A t.el.length c, .int .i64 s, .slice B l.length d] w fun e w' => e = .returned (.bool true) ∧ Below w.heap.size w w' := by
  subst hw
  exact walk t s A B _ c d l W ht hl
end Go.Proofs.Ytpededkfgjmhcaa.tileBack

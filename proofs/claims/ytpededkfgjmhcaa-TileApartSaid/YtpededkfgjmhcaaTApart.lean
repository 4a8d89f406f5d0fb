/-
  The walk of the statement TileApart: two tiles of as many sectors have the same bytes just if they are the same; one that is of another file is another one.
-/
import Derived.Test.YtpededkfgjmhcaaTLaw
namespace Go.Proofs.Ytpededkfgjmhcaa.tileApart
open Go.RowKit Go.Proofs.Ytpededkfgjmhcaa.crc Go.Proofs.Ytpededkfgjmhcaa.crcSeals Go.Proofs.Ytpededkfgjmhcaa.crcJoins Go.Proofs.Ytpededkfgjmhcaa.tile

theorem cells4 {w : World} {q : Nat} {x y z u : Value} (hb : Blk w q 24 #[x, y, z, u]) : ∀ W, Below w.heap.size w W → W.cell? ⟨q, 0, none⟩ = some x ∧ W.cell? ⟨q, 1, none⟩ = some y ∧ W.cell? ⟨q, 2, none⟩ = some z ∧ W.cell? ⟨q, 3, none⟩ = some u := fun W h => by
  have hb := hb.below h hb.lt
  exact ⟨hb.cell 0, hb.cell 1, hb.cell 2, hb.cell 3⟩
theorem other_ok {t u : TV} {s : Int} (h1 : okT t s = true) (h2 : okT u s = true) : okT ⟨u.file, t.no, t.kind, t.el⟩ s = true := by
  unfold okT headOk at *
  simp only [Bool.and_eq_true] at *
  exact ⟨⟨⟨⟨h1.1.1.1.1, h2.1.1.1.2⟩, h1.1.1.2⟩, h1.1.2⟩, h1.2⟩

section
variable (t u : TV) (s : Int) (A B : Option Addr) (n k c d : Nat) (w : World)

/-- What the walks begin with. -/
structure Beg (w0 : World) : Prop where
  frame : Below w.heap.size w w0
  bt : Blk w0 w.heap.size 24 #[.int .i64 t.file, .int .i64 t.no, .int .i64 t.kind, .slice A n c]
  bu : Blk w0 (w.heap.size + 1) 24 #[.int .i64 u.file, .int .i64 u.no, .int .i64 u.kind, .slice B k d]
theorem beg {w0 : World} (h : (w.alloc (.cells #[.int .i64 t.file, .int .i64 t.no, .int .i64 t.kind, .slice A n c] 24)).alloc (.cells #[.int .i64 u.file, .int .i64 u.no, .int .i64 u.kind, .slice B k d] 24) = w0) : Beg t u A B n k c d w w0 := by
  subst h
  refine ⟨((Below.refl _ _).alloc (Nat.le_refl _) _).alloc (by simp) _, (Blk.new w _ _).alloc _, ?_⟩
  have := Blk.new (w.alloc (.cells #[.int .i64 t.file, .int .i64 t.no, .int .i64 t.kind, .slice A n c] 24)) 24 #[.int .i64 u.file, .int .i64 u.no, .int .i64 u.kind, .slice B k d]
  simpa only [World.size_alloc] using this

set_option maxRecDepth 100000 in
set_option maxHeartbeats 4000000 in
theorem walk_big (h : 1500 < n ∨ 1500 < k) (hn : n ≤ 9223372036854775807) (hm : k ≤ 9223372036854775807) :
    Calls Try.prog 7 #[tv t A n c, tv u B k d, .int .i64 s] w fun e w' => e = .returned (.bool true) ∧ Below w.heap.size w w' := by
  obtain ⟨w0, hw0⟩ : ∃ w0, (w.alloc (.cells #[.int .i64 t.file, .int .i64 t.no, .int .i64 t.kind, .slice A n c] 24)).alloc (.cells #[.int .i64 u.file, .int .i64 u.no, .int .i64 u.kind, .slice B k d] 24) = w0 := ⟨_, rfl⟩
  have HB := Lib.hid (beg t u A B n k c d w hw0)
  have HW0 := Lib.hid hw0
  have hxt := cells4 HB.out.bt
  have hxu := cells4 HB.out.bu
  have HXT := Lib.hid hxt
  have HXU := Lib.hid hxu
  clear hw0 hxt hxu
  unfold tv
  by_cases h1 : 1500 < n
  · have hd : decide ((1500 : Int) < (n : Int)) = true := decide_eq_true (by omega)
    go_enter Try.func7, Try.ntmps7
    go_wp2_with (go_at_call 19; refine (talive_any _).mono ?_; rintro e w1 ⟨rfl, b1⟩; rw [HW0.out] at b1; obtain ⟨x0, x1, x2, x3⟩ := HXT.out w1 b1; obtain ⟨y0, y1, y2, y3⟩ := HXU.out w1 b1; have B1 := Lib.hid (HB.out.frame.trans (b1.mono HB.out.frame.size)); clear b1)
    go_ret
    exact ⟨rfl, B1.out⟩
  · have hd : decide ((1500 : Int) < (n : Int)) = false := decide_eq_false (by omega)
    have hd2 : decide ((1500 : Int) < (k : Int)) = true := decide_eq_true (by omega)
    go_enter Try.func7, Try.ntmps7
    go_wp2_with (go_at_call 19; refine (talive_any _).mono ?_; rintro e w1 ⟨rfl, b1⟩; rw [HW0.out] at b1; obtain ⟨x0, x1, x2, x3⟩ := HXT.out w1 b1; obtain ⟨y0, y1, y2, y3⟩ := HXU.out w1 b1; have B1 := Lib.hid (HB.out.frame.trans (b1.mono HB.out.frame.size)); clear b1)
    go_ret
    exact ⟨rfl, B1.out⟩

theorem enc_er {t : TV} {s er : Int} {m : Nat} (he : errT t s = er) (A : Option Addr) (c : Nat) (W : World) (h : TEl W t A m) :
    Calls Try.prog 9 #[tv t A m c, .int .i64 s] W fun e w' => ∃ A' n' c', e = .returned (.tuple #[.slice A' n' c', .int .i64 er]) ∧ Below W.heap.size W w' := by
  subst he
  refine (tencode_any t s A m c W h).mono ?_
  rintro e w' ⟨v, rfl, g⟩
  obtain ⟨A', c', rfl, ho, hb, _⟩ := gives_conv g
  exact ⟨A', _, c', rfl, hb⟩

set_option maxRecDepth 100000 in
set_option maxHeartbeats 4000000 in
theorem walk_bad (ht : TEl w t A n) (hu : TEl w u B k) (hn : n ≤ 1500) (hk : k ≤ 1500) (hok : okT t s = false ∨ okT u s = false) :
    Calls Try.prog 7 #[tv t A n c, tv u B k d, .int .i64 s] w fun e w' => e = .returned (.bool true) ∧ Below w.heap.size w w' := by
  obtain ⟨w0, hw0⟩ : ∃ w0, (w.alloc (.cells #[.int .i64 t.file, .int .i64 t.no, .int .i64 t.kind, .slice A n c] 24)).alloc (.cells #[.int .i64 u.file, .int .i64 u.no, .int .i64 u.kind, .slice B k d] 24) = w0 := ⟨_, rfl⟩
  have HB := Lib.hid (beg t u A B n k c d w hw0)
  have HW0 := Lib.hid hw0
  have HXT := Lib.hid (cells4 HB.out.bt)
  have HXU := Lib.hid (cells4 HB.out.bu)
  have RT := Lib.hid (fun W (h : Below w0.heap.size w0 W) => ht.below (HB.out.frame.trans (h.mono HB.out.frame.size)))
  have RU := Lib.hid (fun W (h : Below w0.heap.size w0 W) => hu.below (HB.out.frame.trans (h.mono HB.out.frame.size)))
  obtain ⟨e1, he1⟩ : ∃ e1, errT t s = e1 := ⟨_, rfl⟩
  obtain ⟨e2, he2⟩ : ∃ e2, errT u s = e2 := ⟨_, rfl⟩
  have HE1 := Lib.hid (enc_er (m := n) he1)
  have HE2 := Lib.hid (enc_er (m := k) he2)
  have hcase : (e1 != 0) = true ∨ ((e1 != 0) = false ∧ (e2 != 0) = true) := by
    rw [← he1, ← he2]
    unfold errT
    cases h1 : okT t s
    · exact .inl rfl
    · rcases hok with h | h
      · rw [h1] at h; cases h
      · rw [h]; exact .inr ⟨rfl, rfl⟩
  have hd1 : decide ((1500 : Int) < (n : Int)) = false := decide_eq_false (by omega)
  have hd2 : decide ((1500 : Int) < (k : Int)) = false := decide_eq_false (by omega)
  clear ht hu hw0 he1 he2 hok
  unfold tv at *
  rcases hcase with hc | ⟨hc, hc2⟩
  all_goals
    go_enter Try.func7, Try.ntmps7
    go_wp2_with (first
      | (go_at_call 9; (have l0 := K2.out; clear l0); (with_reducible refine (HE2.out B d w2 (RU.out w2 K2.out)).mono ?_); rintro e w3 ⟨A3, m3, c3, rfl, b3⟩; have K3 := Lib.hid (K2.out.trans (b3.mono K2.out.size)); clear b3)
      | (go_at_call 9; (with_reducible refine (HE1.out A c w1 (RT.out w1 K1.out)).mono ?_); rintro e w2 ⟨A2, m2, c2, rfl, b2⟩; have K2 := Lib.hid (K1.out.trans (b2.mono K1.out.size)); obtain ⟨y0, y1, y2, y3⟩ := HXU.out w2 (K1.out.trans (b2.mono K1.out.size)); clear b2)
      | (go_at_call 19; refine (talive_any _).mono ?_; rintro e w1 ⟨rfl, b1⟩; rw [HW0.out] at b1; obtain ⟨x0, x1, x2, x3⟩ := HXT.out w1 b1; obtain ⟨y0, y1, y2, y3⟩ := HXU.out w1 b1; have K1 := Lib.hid b1; clear b1))
    go_ret
    exact ⟨rfl, HB.out.frame.trans (K3.out.mono HB.out.frame.size)⟩

set_option maxRecDepth 100000 in
set_option maxHeartbeats 4000000 in
theorem walk_ok (ht : TEl w t A n) (hu : TEl w u B k) (hn : n ≤ 1500) (hk : k ≤ 1500) (ok1 : okT t s = true) (ok2 : okT u s = true) :
    Calls Try.prog 7 #[tv t A n c, tv u B k d, .int .i64 s] w fun e w' => e = .returned (.bool true) ∧ Below w.heap.size w w' := by
  obtain ⟨w0, hw0⟩ : ∃ w0, (w.alloc (.cells #[.int .i64 t.file, .int .i64 t.no, .int .i64 t.kind, .slice A n c] 24)).alloc (.cells #[.int .i64 u.file, .int .i64 u.no, .int .i64 u.kind, .slice B k d] 24) = w0 := ⟨_, rfl⟩
  have HB := Lib.hid (beg t u A B n k c d w hw0)
  have HW0 := Lib.hid hw0
  have HXT := Lib.hid (cells4 HB.out.bt)
  have HXU := Lib.hid (cells4 HB.out.bu)
  have RT := Lib.hid (fun W (h : Below w0.heap.size w0 W) => ht.below (HB.out.frame.trans (h.mono HB.out.frame.size)))
  have RU := Lib.hid (fun W (h : Below w0.heap.size w0 W) => hu.below (HB.out.frame.trans (h.mono HB.out.frame.size)))
  obtain ⟨hs, _, _, _, h4, _, _⟩ := okT_of ok1
  obtain ⟨_, _, _, _, h5, _, _⟩ := okT_of ok2
  have ok3 := other_ok ok1 ok2
  have f3 : TV.Fine ⟨u.file, t.no, t.kind, t.el⟩ := ⟨hu.fine.file, ht.fine.no, ht.fine.kind, ht.fine.el⟩
  have hb1 : (bytesT t s.toNat == bytesT u s.toNat) = sameT t u := by
    rw [Bool.eq_iff_iff, beq_iff_eq, sameT_iff]
    exact ⟨bytes_inj ok1 ok2 ht.fine hu.fine, fun e => by rw [e]⟩
  have hb2 : (bytesT t s.toNat == bytesT ⟨u.file, t.no, t.kind, t.el⟩ s.toNat) = (t.file == u.file) := by
    rw [Bool.eq_iff_iff, beq_iff_eq, beq_iff_eq]
    constructor
    · intro e
      have := bytes_inj ok1 ok3 ht.fine f3 e
      have h9 : t.file = (⟨u.file, t.no, t.kind, t.el⟩ : TV).file := congrArg TV.file this
      exact h9
    · intro e
      rw [← e]
  have RO := Lib.hid (fun W (h : Below w0.heap.size w0 W) => (⟨ht.len, (RT.out W h).reads, ht.big, f3⟩ : TEl W ⟨u.file, t.no, t.kind, t.el⟩ A n))
  obtain ⟨m, hm⟩ : ∃ m, 128 * s.toNat = m := ⟨_, rfl⟩
  obtain ⟨L1, hL1⟩ : ∃ L, bytesT t s.toNat = L := ⟨_, rfl⟩
  obtain ⟨L2, hL2⟩ : ∃ L, bytesT u s.toNat = L := ⟨_, rfl⟩
  obtain ⟨L3, hL3⟩ : ∃ L, bytesT ⟨u.file, t.no, t.kind, t.el⟩ s.toNat = L := ⟨_, rfl⟩
  have HE1 := Lib.hid (enc_ok (m := n) (n := m) ok1 hL1 (by rw [← hL1, bytesT_length h4, hm]))
  have HE2 := Lib.hid (enc_ok (m := k) (n := m) ok2 hL2 (by rw [← hL2, bytesT_length h5, hm]))
  have HE3 := Lib.hid (enc_ok (m := n) (n := m) ok3 hL3 (by rw [← hL3, bytesT_length (t := ⟨u.file, t.no, t.kind, t.el⟩) h4, hm]))
  rw [hL1, hL2] at hb1
  rw [hL1, hL3] at hb2
  obtain ⟨b1, hbb1⟩ : ∃ b1, sameT t u = b1 := ⟨_, rfl⟩
  obtain ⟨b2, hbb2⟩ : ∃ b2, (t.file == u.file) = b2 := ⟨_, rfl⟩
  rw [hbb1] at hb1
  rw [hbb2] at hb2
  have HSAME := Lib.hid (same_is hbb1)
  have HB1 := Lib.hid hb1
  have HB2 := Lib.hid hb2
  have HB3 := Lib.hid hbb2
  have HBB1 : Hid ((b1 == b1) = true) := Lib.hid (by simp)
  have HBB2 : Hid ((b2 == b2) = true) := Lib.hid (by simp)
  have HTL := Lib.hid tl
  have hd1 : decide ((1500 : Int) < (n : Int)) = false := decide_eq_false (by omega)
  have hd2 : decide ((1500 : Int) < (k : Int)) = false := decide_eq_false (by omega)
  clear ht hu hw0 ok1 ok2 ok3 f3 hb1 hb2 hbb1 hbb2 hL1 hL2 hL3 hm h4 h5 hs
  unfold tv at *
  simp only at HE3
  go_enter Try.func7, Try.ntmps7
  go_wp2_with (first
    | (go_at_call 9; (have l0 := K3.out; clear l0); (with_reducible refine (HE3.out A c _ (RO.out _ (K3.out.alloc K3.out.size _))).mono ?_); rintro e w4 ⟨A4, c4, rfl, o4, b4⟩; have N4 := Lib.hid ((Below.refl w3.heap.size w3).alloc (Nat.le_refl _) (.cells #[.int .i64 u.file, .int .i64 t.no, .int .i64 t.kind, .slice A n c] 24) |>.trans (b4.mono (by simp))); have O4 := Lib.hid o4; clear o4 b4)
    | (go_at_call 9; (have l0 := K2.out; clear l0); (with_reducible refine (HE2.out B d w2 (RU.out w2 K2.out)).mono ?_); rintro e w3 ⟨A3, c3, rfl, o3, b3⟩; have K3 := Lib.hid (K2.out.trans (b3.mono K2.out.size)); have N3 := Lib.hid b3; have O3 := Lib.hid o3; obtain ⟨x0, x1, x2, x3⟩ := HXT.out w3 (K2.out.trans (b3.mono K2.out.size)); obtain ⟨y0, y1, y2, y3⟩ := HXU.out (w3.alloc (.cells #[.int .i64 t.file, .int .i64 t.no, .int .i64 t.kind, .slice A n c] 24)) (K3.out.alloc K3.out.size _); clear o3 b3)
    | (go_at_call 9; (with_reducible refine (HE1.out A c w1 (RT.out w1 K1.out)).mono ?_); rintro e w2 ⟨A2, c2, rfl, o2, b2⟩; have K2 := Lib.hid (K1.out.trans (b2.mono K1.out.size)); have O2 := Lib.hid o2; obtain ⟨y0, y1, y2, y3⟩ := HXU.out w2 (K1.out.trans (b2.mono K1.out.size)); clear o2 b2)
    | (go_at_call 19; refine (talive_any _).mono ?_; rintro e w1 ⟨rfl, b1⟩; rw [HW0.out] at b1; obtain ⟨x0, x1, x2, x3⟩ := HXT.out w1 b1; obtain ⟨y0, y1, y2, y3⟩ := HXU.out w1 b1; have K1 := Lib.hid b1; clear b1))
  have K4 := Lib.hid (K3.out.trans (N4.out.mono K3.out.size))
  have M4 := Lib.hid (N3.out.trans (N4.out.mono N3.out.size))
  have CA := Lib.hid (fun W (h : Below w4.heap.size w4 W) => conv_reads c2 ((Reads.of_own O2.out).below (M4.out.trans (h.mono M4.out.size))))
  have CB := Lib.hid (fun W (h : Below w4.heap.size w4 W) => conv_reads c3 ((Reads.of_own O3.out).below (N4.out.trans (h.mono N4.out.size))))
  have CC := Lib.hid (fun W (h : Below w4.heap.size w4 W) => conv_reads c4 ((Reads.of_own O4.out).below h))
  have HXT4 := Lib.hid (fun W (h : Below w4.heap.size w4 W) => HXT.out W (K4.out.trans (h.mono K4.out.size)))
  have HXU4 := Lib.hid (fun W (h : Below w4.heap.size w4 W) => HXU.out W (K4.out.trans (h.mono K4.out.size)))
  have HSM := Lib.hid (fun W (h : Below w4.heap.size w4 W) => HSAME.out A B n k c d W (RT.out W (K4.out.trans (h.mono K4.out.size))) (RU.out W (K4.out.trans (h.mono K4.out.size))))
  refine wp_region_steps_on (fun w' => Below w4.heap.size w4 w') (fun i v _ => v = ([.bool true, .bool true, .slice A2 m c2, .string ⟨L1.toArray⟩, .slice A3 m c3, .string ⟨L2.toArray⟩, .bool b1, .agg #[.int .i64 t.file, .int .i64 t.no, .int .i64 t.kind, .slice A n c], .agg #[.int .i64 u.file, .int .i64 u.no, .int .i64 u.kind, .slice B k d], .bool b1, .bool true, .bool true, .bool true, .int .i64 0, .bool true, .bool true, .bool true, .slice A2 m c2, .string ⟨L1.toArray⟩, .slice A4 m c4, .string ⟨L3.toArray⟩, .bool b2, .pointer (some ⟨w.heap.size, 0, none⟩), .int .i64 t.file, .pointer (some ⟨w.heap.size + 1, 0, none⟩), .int .i64 u.file, .bool b2, .bool true, .bool true, .bool true] : List Value).getD i undef) (by kernel_rfl) 89 rfl (by kernel_rfl) ((Below.refl _ _).drew) ?_ ?_
  · intro i hi
    have hi2 : i < 30 := hi
    clear hi
    rcases i with _ | i
    · refine step_value (.bool true) rfl ?_
      intro a8 w8 hS ho hn
      have o7 : a8.tmps[7]? = some _ := (ho 7 (by kernel_rfl)).trans rfl
      clear ho hn
      refine ⟨wanted_free rfl, ?_, rfl⟩
      go_simp
    rcases i with _ | i
    · refine step_value (.bool true) rfl ?_
      intro a8 w8 hS ho hn
      obtain ⟨_, n60, rfl⟩ := hn 0 60 (by kernel_rfl) rfl
      clear ho hn
      refine ⟨wanted_free rfl, ?_, rfl⟩
      go_simp
    rcases i with _ | i
    · refine step_value (.slice A2 m c2) rfl ?_
      intro a8 w8 hS ho hn
      have o8 : a8.tmps[8]? = some _ := (ho 8 (by kernel_rfl)).trans rfl
      obtain ⟨_, n61, rfl⟩ := hn 1 61 (by kernel_rfl) rfl
      clear ho hn
      refine ⟨wanted_of 1 61 rfl rfl n61, ?_, rfl⟩
      go_simp
    rcases i with _ | i
    · refine step_value (.string ⟨L1.toArray⟩) rfl ?_
      intro a8 w8 hS ho hn
      obtain ⟨_, n62, rfl⟩ := hn 2 62 (by kernel_rfl) rfl
      obtain ⟨_, n61, rfl⟩ := hn 1 61 (by kernel_rfl) rfl
      clear ho hn
      refine ⟨wanted_of 1 61 rfl rfl n61, ?_, rfl⟩
      have cv := CA.out w8 hS
      go_simp
    rcases i with _ | i
    · refine step_value (.slice A3 m c3) rfl ?_
      intro a8 w8 hS ho hn
      have o10 : a8.tmps[10]? = some _ := (ho 10 (by kernel_rfl)).trans rfl
      obtain ⟨_, n61, rfl⟩ := hn 1 61 (by kernel_rfl) rfl
      clear ho hn
      refine ⟨wanted_of 1 61 rfl rfl n61, ?_, rfl⟩
      go_simp
    rcases i with _ | i
    · refine step_value (.string ⟨L2.toArray⟩) rfl ?_
      intro a8 w8 hS ho hn
      obtain ⟨_, n64, rfl⟩ := hn 4 64 (by kernel_rfl) rfl
      obtain ⟨_, n61, rfl⟩ := hn 1 61 (by kernel_rfl) rfl
      clear ho hn
      refine ⟨wanted_of 1 61 rfl rfl n61, ?_, rfl⟩
      have cv := CB.out w8 hS
      go_simp
    rcases i with _ | i
    · refine step_value (.bool b1) rfl ?_
      intro a8 w8 hS ho hn
      obtain ⟨_, n63, rfl⟩ := hn 3 63 (by kernel_rfl) rfl
      obtain ⟨_, n65, rfl⟩ := hn 5 65 (by kernel_rfl) rfl
      obtain ⟨_, n61, rfl⟩ := hn 1 61 (by kernel_rfl) rfl
      clear ho hn
      refine ⟨wanted_of 1 61 rfl rfl n61, ?_, rfl⟩
      have hq := HTL.out
      have hb := HB1.out
      go_simp
    rcases i with _ | i
    · refine step_value (.agg #[.int .i64 t.file, .int .i64 t.no, .int .i64 t.kind, .slice A n c]) rfl ?_
      intro a8 w8 hS ho hn
      have o3 : a8.tmps[3]? = some _ := (ho 3 (by kernel_rfl)).trans rfl
      obtain ⟨_, n61, rfl⟩ := hn 1 61 (by kernel_rfl) rfl
      clear ho hn
      refine ⟨wanted_of 1 61 rfl rfl n61, ?_, rfl⟩
      obtain ⟨q0, q1, q2, q3⟩ := HXT4.out w8 hS
      go_simp
    rcases i with _ | i
    · refine step_value (.agg #[.int .i64 u.file, .int .i64 u.no, .int .i64 u.kind, .slice B k d]) rfl ?_
      intro a8 w8 hS ho hn
      have o4 : a8.tmps[4]? = some _ := (ho 4 (by kernel_rfl)).trans rfl
      obtain ⟨_, n61, rfl⟩ := hn 1 61 (by kernel_rfl) rfl
      clear ho hn
      refine ⟨wanted_of 1 61 rfl rfl n61, ?_, rfl⟩
      obtain ⟨q0, q1, q2, q3⟩ := HXU4.out w8 hS
      go_simp
    rcases i with _ | i
    · refine step_call 14 #[.agg #[.int .i64 t.file, .int .i64 t.no, .int .i64 t.kind, .slice A n c], .agg #[.int .i64 u.file, .int .i64 u.no, .int .i64 u.kind, .slice B k d]] rfl ?_
      intro a8 w8 hS ho hn
      obtain ⟨_, n67, rfl⟩ := hn 7 67 (by kernel_rfl) rfl
      obtain ⟨_, n68, rfl⟩ := hn 8 68 (by kernel_rfl) rfl
      obtain ⟨_, n61, rfl⟩ := hn 1 61 (by kernel_rfl) rfl
      clear ho hn
      refine ⟨wanted_of 1 61 rfl rfl n61, by go_simp, ?_⟩
      refine (HSM.out w8 hS).mono ?_
      rintro e w9 ⟨rfl, hw⟩
      exact ⟨_, rfl, hS.trans (hw.mono hS.size), rfl, fun j u _ h => h⟩
    rcases i with _ | i
    · refine step_value (.bool true) rfl ?_
      intro a8 w8 hS ho hn
      obtain ⟨_, n66, rfl⟩ := hn 6 66 (by kernel_rfl) rfl
      obtain ⟨_, n69, rfl⟩ := hn 9 69 (by kernel_rfl) rfl
      obtain ⟨_, n61, rfl⟩ := hn 1 61 (by kernel_rfl) rfl
      clear ho hn
      refine ⟨wanted_of 1 61 rfl rfl n61, ?_, rfl⟩
      have hq := HBB1.out
      go_simp
    rcases i with _ | i
    · refine step_value (.bool true) rfl ?_
      intro a8 w8 hS ho hn
      obtain ⟨_, n61, rfl⟩ := hn 1 61 (by kernel_rfl) rfl
      obtain ⟨_, n70, rfl⟩ := hn 10 70 (by kernel_rfl) rfl
      clear ho hn
      refine ⟨wanted_free rfl, ?_, rfl⟩
      go_simp
    rcases i with _ | i
    · refine step_value (.bool true) rfl ?_
      intro a8 w8 hS ho hn
      obtain ⟨_, n71, rfl⟩ := hn 11 71 (by kernel_rfl) rfl
      clear ho hn
      refine ⟨wanted_free rfl, ?_, rfl⟩
      go_simp
    rcases i with _ | i
    · refine step_value (.int .i64 0) rfl ?_
      intro a8 w8 hS ho hn
      have o14 : a8.tmps[14]? = some _ := (ho 14 (by kernel_rfl)).trans rfl
      obtain ⟨_, n72, rfl⟩ := hn 12 72 (by kernel_rfl) rfl
      clear ho hn
      refine ⟨wanted_of 12 72 rfl rfl n72, ?_, rfl⟩
      go_simp
    rcases i with _ | i
    · refine step_value (.bool true) rfl ?_
      intro a8 w8 hS ho hn
      obtain ⟨_, n73, rfl⟩ := hn 13 73 (by kernel_rfl) rfl
      obtain ⟨_, n72, rfl⟩ := hn 12 72 (by kernel_rfl) rfl
      clear ho hn
      refine ⟨wanted_of 12 72 rfl rfl n72, ?_, rfl⟩
      go_simp
    rcases i with _ | i
    · refine step_value (.bool true) rfl ?_
      intro a8 w8 hS ho hn
      obtain ⟨_, n72, rfl⟩ := hn 12 72 (by kernel_rfl) rfl
      obtain ⟨_, n74, rfl⟩ := hn 14 74 (by kernel_rfl) rfl
      clear ho hn
      refine ⟨wanted_free rfl, ?_, rfl⟩
      go_simp
    rcases i with _ | i
    · refine step_value (.bool true) rfl ?_
      intro a8 w8 hS ho hn
      obtain ⟨_, n75, rfl⟩ := hn 15 75 (by kernel_rfl) rfl
      clear ho hn
      refine ⟨wanted_free rfl, ?_, rfl⟩
      go_simp
    rcases i with _ | i
    · refine step_value (.slice A2 m c2) rfl ?_
      intro a8 w8 hS ho hn
      have o8 : a8.tmps[8]? = some _ := (ho 8 (by kernel_rfl)).trans rfl
      obtain ⟨_, n76, rfl⟩ := hn 16 76 (by kernel_rfl) rfl
      clear ho hn
      refine ⟨wanted_of 16 76 rfl rfl n76, ?_, rfl⟩
      go_simp
    rcases i with _ | i
    · refine step_value (.string ⟨L1.toArray⟩) rfl ?_
      intro a8 w8 hS ho hn
      obtain ⟨_, n77, rfl⟩ := hn 17 77 (by kernel_rfl) rfl
      obtain ⟨_, n76, rfl⟩ := hn 16 76 (by kernel_rfl) rfl
      clear ho hn
      refine ⟨wanted_of 16 76 rfl rfl n76, ?_, rfl⟩
      have cv := CA.out w8 hS
      go_simp
    rcases i with _ | i
    · refine step_value (.slice A4 m c4) rfl ?_
      intro a8 w8 hS ho hn
      have o13 : a8.tmps[13]? = some _ := (ho 13 (by kernel_rfl)).trans rfl
      obtain ⟨_, n76, rfl⟩ := hn 16 76 (by kernel_rfl) rfl
      clear ho hn
      refine ⟨wanted_of 16 76 rfl rfl n76, ?_, rfl⟩
      go_simp
    rcases i with _ | i
    · refine step_value (.string ⟨L3.toArray⟩) rfl ?_
      intro a8 w8 hS ho hn
      obtain ⟨_, n79, rfl⟩ := hn 19 79 (by kernel_rfl) rfl
      obtain ⟨_, n76, rfl⟩ := hn 16 76 (by kernel_rfl) rfl
      clear ho hn
      refine ⟨wanted_of 16 76 rfl rfl n76, ?_, rfl⟩
      have cv := CC.out w8 hS
      go_simp
    rcases i with _ | i
    · refine step_value (.bool b2) rfl ?_
      intro a8 w8 hS ho hn
      obtain ⟨_, n78, rfl⟩ := hn 18 78 (by kernel_rfl) rfl
      obtain ⟨_, n80, rfl⟩ := hn 20 80 (by kernel_rfl) rfl
      obtain ⟨_, n76, rfl⟩ := hn 16 76 (by kernel_rfl) rfl
      clear ho hn
      refine ⟨wanted_of 16 76 rfl rfl n76, ?_, rfl⟩
      have hq := HTL.out
      have hb := HB2.out
      go_simp
    rcases i with _ | i
    · refine step_value (.pointer (some ⟨w.heap.size, 0, none⟩)) rfl ?_
      intro a8 w8 hS ho hn
      have o3 : a8.tmps[3]? = some _ := (ho 3 (by kernel_rfl)).trans rfl
      obtain ⟨_, n76, rfl⟩ := hn 16 76 (by kernel_rfl) rfl
      clear ho hn
      refine ⟨wanted_of 16 76 rfl rfl n76, ?_, rfl⟩
      go_simp
    rcases i with _ | i
    · refine step_value (.int .i64 t.file) rfl ?_
      intro a8 w8 hS ho hn
      obtain ⟨_, n82, rfl⟩ := hn 22 82 (by kernel_rfl) rfl
      obtain ⟨_, n76, rfl⟩ := hn 16 76 (by kernel_rfl) rfl
      clear ho hn
      refine ⟨wanted_of 16 76 rfl rfl n76, ?_, rfl⟩
      obtain ⟨q0, q1, q2, q3⟩ := HXT4.out w8 hS
      go_simp
    rcases i with _ | i
    · refine step_value (.pointer (some ⟨w.heap.size + 1, 0, none⟩)) rfl ?_
      intro a8 w8 hS ho hn
      have o4 : a8.tmps[4]? = some _ := (ho 4 (by kernel_rfl)).trans rfl
      obtain ⟨_, n76, rfl⟩ := hn 16 76 (by kernel_rfl) rfl
      clear ho hn
      refine ⟨wanted_of 16 76 rfl rfl n76, ?_, rfl⟩
      go_simp
    rcases i with _ | i
    · refine step_value (.int .i64 u.file) rfl ?_
      intro a8 w8 hS ho hn
      obtain ⟨_, n84, rfl⟩ := hn 24 84 (by kernel_rfl) rfl
      obtain ⟨_, n76, rfl⟩ := hn 16 76 (by kernel_rfl) rfl
      clear ho hn
      refine ⟨wanted_of 16 76 rfl rfl n76, ?_, rfl⟩
      obtain ⟨q0, q1, q2, q3⟩ := HXU4.out w8 hS
      go_simp
    rcases i with _ | i
    · refine step_value (.bool b2) rfl ?_
      intro a8 w8 hS ho hn
      obtain ⟨_, n83, rfl⟩ := hn 23 83 (by kernel_rfl) rfl
      obtain ⟨_, n85, rfl⟩ := hn 25 85 (by kernel_rfl) rfl
      obtain ⟨_, n76, rfl⟩ := hn 16 76 (by kernel_rfl) rfl
      clear ho hn
      refine ⟨wanted_of 16 76 rfl rfl n76, ?_, rfl⟩
      have hb := HB3.out
      go_simp
    rcases i with _ | i
    · refine step_value (.bool true) rfl ?_
      intro a8 w8 hS ho hn
      obtain ⟨_, n81, rfl⟩ := hn 21 81 (by kernel_rfl) rfl
      obtain ⟨_, n86, rfl⟩ := hn 26 86 (by kernel_rfl) rfl
      obtain ⟨_, n76, rfl⟩ := hn 16 76 (by kernel_rfl) rfl
      clear ho hn
      refine ⟨wanted_of 16 76 rfl rfl n76, ?_, rfl⟩
      have hq := HBB2.out
      go_simp
    rcases i with _ | i
    · refine step_value (.bool true) rfl ?_
      intro a8 w8 hS ho hn
      obtain ⟨_, n76, rfl⟩ := hn 16 76 (by kernel_rfl) rfl
      obtain ⟨_, n87, rfl⟩ := hn 27 87 (by kernel_rfl) rfl
      clear ho hn
      refine ⟨wanted_free rfl, ?_, rfl⟩
      go_simp
    rcases i with _ | i
    · refine step_value (.bool true) rfl ?_
      intro a8 w8 hS ho hn
      obtain ⟨_, n88, rfl⟩ := hn 28 88 (by kernel_rfl) rfl
      clear ho hn
      refine ⟨wanted_free rfl, ?_, rfl⟩
      go_simp
    omega
  · intro f w9 hS hR
    have h6 : f 6 = _ := hR 29 6 rfl
    simp only [putAll, List.foldl_cons, List.foldl_nil, Act.put, List.setIfInBounds_toArray, List.set_cons_succ, List.set_cons_zero, h6, List.getD_cons_zero, List.getD_cons_succ]
    clear hR h6
    go_wp2
    go_ret
    exact ⟨rfl, HB.out.frame.trans ((K4.out.trans (hS.mono K4.out.size)).mono HB.out.frame.size)⟩

theorem walk (ht : TEl w t A n) (hu : TEl w u B k) : Calls Try.prog 7 #[tv t A n c, tv u B k d, .int .i64 s] w fun e w' => e = .returned (.bool true) ∧ Below w.heap.size w w' := by
  by_cases h : 1500 < n ∨ 1500 < k
  · exact walk_big t u s A B n k c d w h ht.big hu.big
  · by_cases hok : okT t s = false ∨ okT u s = false
    · exact walk_bad t u s A B n k c d w ht hu (by omega) (by omega) hok
    · exact walk_ok t u s A B n k c d w ht hu (by omega) (by omega) (by cases h1 : okT t s <;> first | rfl | exact absurd (.inl h1) hok) (by cases h1 : okT u s <;> first | rfl | exact absurd (.inr h1) hok)
end
/-- As the end calls it. -/
theorem call {W : World} (t : TV) (A : Option Addr) (c : Nat) (ht : TEl W t A t.el.length) (u : TV) (B : Option Addr) (d : Nat) (hu : TEl W u B u.el.length) (s : Int) (_ : -9223372036854775808 ≤ s) (_ : s ≤ 9223372036854775807) (w : World) (hw : W = w := by rfl) :
    Calls Try.prog 7 #[tv t A t.el.length c, tv u B u.el.length d, .int .i64 s] w fun e w' => e = .returned (.bool true) ∧ Below w.heap.size w w' := by
  subst hw
  exact walk t u s A B _ _ c d W ht hu
end Go.Proofs.Ytpededkfgjmhcaa.tileApart

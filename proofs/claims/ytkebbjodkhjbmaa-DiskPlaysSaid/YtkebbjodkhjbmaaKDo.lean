/-
  The statement DiskPlays: one call made of both disks.
-/
import Derived.Test.YtkebbjodkhjbmaaKDoE
import Derived.Deep.CutBlock
import Derived.Deep.DeepCutAuto
namespace Go.Proofs.Ytkebbjodkhjbmaa
open Go.RowKit

set_option maxRecDepth 100000 in
set_option maxHeartbeats 8000000 in
theorem do_any {N : Nat} {w0 w : World} {d : DAt} {r : RAt} {s : RSt} (h : WB N w0 w d r s s ⟨fun _ => False⟩) (kd a : Int) (l : List UInt8) (c : DCrash) (ha : i64ok a) (hc : c.Fine) (BA : Option Addr) (Bc : Nat) (KA : Option Addr) (Kc n m : Nat) (hn : l.length = n) (hm : c.keep.length = m) (few : n ≤ 500) (less : m ≤ 100)
    (bs : Sl w N BA Bc (l.map bv)) (ks : Sl w N KA Kc (c.keep.map iv)) (hmany : s.many < 9223372036854775807) (hkeep : s.keep.length ≤ 100) :
    Calls Try.prog 7 #[.pointer (some ⟨d.b, 0, none⟩), .pointer (some ⟨r.b, 0, none⟩), .agg #[.int .i64 kd, .int .i64 a, .slice BA n Bc, .int .i64 c.write, .slice KA m Kc, .int .i64 c.torn, .int .i64 c.at_]] w fun e w' =>
    ∃ d' : DAt, e = .returned (.tuple #[.pointer (some ⟨d'.b, 0, none⟩), .bool true]) ∧ WB N w0 w' d' r (doSt s kd a l c) (doSt s kd a l c) ⟨fun _ => False⟩ := by
  obtain ⟨s9, hs9⟩ : ∃ s9, doSt s kd a l c = s9 := ⟨_, rfl⟩
  rw [hs9]
  have HS9 := Lib.hid hs9
  have HMO := Lib.hid h.pl.more
  clear hs9
  obtain ⟨i0, hi, hz0, hz1, hz2⟩ := info_parts infoU8
  obtain ⟨j0, hj, hy0, hy1, hy2⟩ := info_parts infoInt
  obtain ⟨wb, hwb⟩ : ∃ wb, w.alloc (.cells #[.int .i64 kd, .int .i64 a, .slice BA n Bc, .int .i64 c.write, .slice KA m Kc, .int .i64 c.torn, .int .i64 c.at_] 38) = wb := ⟨_, rfl⟩
  have hbx : Blk wb w.heap.size 38 #[.int .i64 kd, .int .i64 a, .slice BA n Bc, .int .i64 c.write, .slice KA m Kc, .int .i64 c.torn, .int .i64 c.at_] := by rw [← hwb]; exact Blk.new w _ _
  have hb0 : Below w.heap.size w wb := by rw [← hwb]; exact (Below.refl _ _).alloc (Nat.le_refl _) _
  have x0 := hbx.cell 0
  have x1 := hbx.cell 1
  have x2 := hbx.cell 2
  have x3 := hbx.cell 3
  have x4 := hbx.cell 4
  have x5 := hbx.cell 5
  have x6 := hbx.cell 6
  have HTW := Lib.hid (twin_any BA Bc n l wb ((bs.reads.below (hb0.mono h.le)).more (Nat.le_trans h.le hb0.size) |> fun x => by rw [List.length_map, hn] at x; exact x) (by omega))
  have H := Lib.hid h
  have HBX := Lib.hid hbx
  have HB0 := Lib.hid hb0
  have HWB := Lib.hid hwb
  have HN := Lib.hid hn
  have HM := Lib.hid hm
  have BS := Lib.hid bs
  have KS := Lib.hid ks
  clear h hbx hb0 hwb hn hm
  go_enter Try.func7, Try.ntmps7
  go_upto_region 1 with (fail)
  rw [HWB.out]
  go_upto_region 2 with (first
    | (go_at_call 11; (with_reducible refine HTW.out.mono ?_); rintro e w1 ⟨A1, c1, rfl, o1, hb1⟩; have O1 := Lib.hid o1; have HB1 := Lib.hid hb1; clear o1 hb1)
    | (at_builtin; refine wpList_append_any _ rfl _ _ 33 rfl wb.heap.size 5 i0 (.int .u8 0) 1 1 Try.underlying33 hi hz0 hz1 hz2 rfl (by decide) _ n _ rfl (O1.out.alloc _) (w1.heap.size + 1) (some ⟨w1.heap.size, 0, none⟩) 1 1 [.int .u8 7] rfl ((reads_blk3 (Blk.new w1 5 #[.int .u8 7])).more (by simp)) (by simp [Value.oneCell']) (by unfold maxLen; omega) (by omega) (by have := HB1.out.size; simp; omega) ?_
       intro v2 w2 o2 g2 _))
  have hO2 : Hid (w2.ownsRow wb.heap.size 5 1 v2 (n + 1) ((l ++ [7]).map bv)) := Lib.hid (by rw [List.map_append]; exact o2)
  obtain ⟨go, cO, rfl⟩ : ∃ g c, v2 = .slice (some ⟨g, 0, none⟩) (n + 1) c := by
    rcases o2.2 with ⟨_, h0⟩ | ⟨g, cap, cur, e, _⟩
    · omega
    · exact ⟨g, cap, e⟩
  have hb2 : Below wb.heap.size wb w2 := (HB1.out.alloc HB1.out.size _).grown g2 (by have := HB1.out.size; simp; omega) (fun q e => (O1.out.lt q e).1)
  have hbx2 := HBX.out.below hb2 HBX.out.lt
  clear x0 x1 x2 x3 x4 x5 x6
  have x2 := hbx2.cell 2
  have y4 := (hbx2.alloc (.cells #[] 3)).cell 4
  have hcO : n + 1 ≤ cO := by
    rcases o2.2 with ⟨e, _⟩ | ⟨g, cap, cur, e, _, _, hc, _⟩
    · cases e
    · injection e with _ _ e3
      omega
  have HB2 := Lib.hid hb2
  have HBX2 := Lib.hid hbx2
  have HKR : Hid (∀ W, Below w.heap.size w W → Reads W W.heap.size 1 KA m (c.keep.map iv)) := Lib.hid (fun W hb => by
    have hr1 := KS.out.reads
    rw [List.length_map, HM.out] at hr1
    exact (hr1.below (hb.mono H.out.le)).more (Nat.le_trans H.out.le hb.size))
  clear o2 g2 hb2 hbx2
  go_upto_region 4 with (first
    | (at_builtin; refine wpList_append_any _ rfl _ _ 34 rfl w2.heap.size 3 j0 (.int .i64 0) 1 8 Try.underlying34 hj hy0 hy1 hy2 rfl (by decide) _ 0 [] rfl (World.ownsRow_made w2 #[] 0 (Nat.le_refl _) (Nat.zero_le _) rfl) (w2.heap.size + 1) KA m Kc (c.keep.map iv) rfl ((HKR.out _ ((HB0.out.trans (HB2.out.mono HB0.out.size)).alloc (by have := HB0.out.size; have := HB2.out.size; omega) _)).more (by simp)) (iv_one _) (by unfold maxLen; omega) (by omega) (by simp) ?_
       intro v4 w4 o4 g4 t4))
  rw [Nat.zero_add, List.nil_append] at o4
  have t5 : v4.ownBlock = some w2.heap.size ∨ v4.ownBlock = some (w2.alloc (.cells #[] 3)).heap.size := t4
  have g5 : (w2.alloc (.cells #[] 3)).grownBy w4 (some w2.heap.size) := g4
  have hb4 : Below w2.heap.size w2 w4 := ((Below.refl _ w2).alloc (Nat.le_refl _) _).grown g5 (by simp) (fun q e => by injection e with e; omega)
  obtain ⟨gk, cK, rfl⟩ : ∃ g c, v4 = .slice (some ⟨g, 0, none⟩) m c := by
    rcases o4.2 with ⟨rfl, _⟩ | ⟨g, cap, cur, e, _⟩
    · rcases t5 with e | e <;> cases e
    · exact ⟨g, cap, e⟩
  have hbx4 := HBX2.out.below hb4 HBX2.out.lt
  have x3 := hbx4.cell 3
  have x4 := hbx4.cell 4
  have x5 := hbx4.cell 5
  have x6 := hbx4.cell 6
  have HB4 := Lib.hid hb4
  have HBX4 := Lib.hid hbx4
  have O4 := Lib.hid o4
  clear x2 y4 o4 t4 g4 t5 g5 hb4 hbx4
  obtain ⟨w5, hw5⟩ : ∃ w5, w4.alloc (.cells #[.int .i64 c.write, .slice (some ⟨gk, 0, none⟩) m cK, .int .i64 c.torn, .int .i64 c.at_] 36) = w5 := ⟨_, rfl⟩
  have hb5 : Below w4.heap.size w4 w5 := by rw [← hw5]; exact (Below.refl _ _).alloc (Nat.le_refl _) _
  have hc5 : Blk w5 w4.heap.size 36 #[.int .i64 c.write, .slice (some ⟨gk, 0, none⟩) m cK, .int .i64 c.torn, .int .i64 c.at_] := by rw [← hw5]; exact Blk.new _ _ _
  have z0 := (HBX4.out.below hb5 HBX4.out.lt).cell 0
  rw [← hw5] at z0
  have HW5 := Lib.hid hw5
  have HC5 := Lib.hid hc5
  have HB5 := Lib.hid hb5
  clear hw5 hc5 hb5
  go_upto_block 0 with (fail)
  rw [HW5.out]
  have hl24 : Below w2.heap.size w2 w5 := HB4.out.trans (HB5.out.mono HB4.out.size)
  have hlb5 : Below wb.heap.size wb w5 := HB2.out.trans (hl24.mono HB2.out.size)
  have hl5 : Below w.heap.size w w5 := HB0.out.trans (hlb5.mono HB0.out.size)
  have T1 : Hid (DB N w0 w5 d r s s ⟨w.heap.size, w4.heap.size, go, gk, cO, cK, n, m, kd, a, l, c, BA, Bc, KA, Kc⟩) := Lib.hid (by
    have hgo := hO2.out.lt go rfl
    have hgk := O4.out.lt gk rfl
    have s2 := HB2.out.size
    have s4 := HB4.out.size
    have s5 := HB5.out.size
    have s0 := HB0.out.size
    have hl := H.out.le
    have b5 := HBX4.out.lt
    have h5c := HC5.out.lt
    refine ⟨H.out.aim hl5 (fun k hk => .inr ?_) (fun k hk => ?_), HN.out, HM.out, few, less, ha, hc, HBX4.out.below HB5.out HBX4.out.lt, HC5.out, ?_, ?_, bs.below (hl5.mono hl), KS.out.below (hl5.mono hl)⟩
    · have hk : k = w.heap.size ∨ k = w4.heap.size ∨ k = go ∨ k = gk := hk
      omega
    · have hk : k = w.heap.size ∨ k = w4.heap.size ∨ k = go ∨ k = gk := hk
      omega
    · exact own_mono3 ((Keep.of_below (S := fun _ => False) hl24).own hO2.out (fun _ _ h => h)) (by omega)
    · exact own_mono3 ((Keep.of_below (S := fun _ => False) HB5.out).own O4.out (fun _ _ h => h)) (by omega))
  clear x3 x4 x5 x6 z0 HW5 HC5 HB5 hl24 hlb5 hl5 HB4 HBX4 O4 HB2 HBX2 HKR HTW HBX HB0 HWB O1 HB1 hO2 H BS KS HN HM
  obtain ⟨q, hq⟩ : ∃ q, w.heap.size = q := ⟨_, rfl⟩
  obtain ⟨q2, hq2⟩ : ∃ q, w4.heap.size = q := ⟨_, rfl⟩
  rw [hq, hq2] at T1
  rw [hq, hq2]
  clear hq hq2 i0 hi hz0 hz1 hz2 j0 hj hy0 hy1 hy2
  go_cut [0, 12] (fun p f wx => ∃ d', p = .pointer (some ⟨d'.b, 0, none⟩) ∧ f = .bool true ∧ DB N w0 wx d' r s9 s9 ⟨q, q2, go, gk, cO, cK, n, m, kd, a, l, c, BA, Bc, KA, Kc⟩)
  case first =>
    by_cases k0 : kd = 0
    · subst k0
      have hs : writeK s a l = s9 := HS9.out
      obtain ⟨er, he⟩ : ∃ x, writeErr s a l = x := ⟨_, rfl⟩
      have HP : Hid (∀ W t, DB N w0 W d r s t ⟨q, q2, go, gk, cO, cK, n, m, 0, a, l, c, BA, Bc, KA, Kc⟩ → Calls Try.prog 12 #[.pointer (some ⟨d.b, 0, none⟩), .int .i64 a, .slice (some ⟨go, 0, none⟩) n cO] W fun e w' => e = .returned (.int .i64 er) ∧ DB N w0 w' d r s9 t ⟨q, q2, go, gk, cO, cK, n, m, 0, a, l, c, BA, Bc, KA, Kc⟩) := Lib.hid (fun W t L => L.write hmany he hs)
      have HG : Hid (∀ W t, DB N w0 W d r t s ⟨q, q2, go, gk, cO, cK, n, m, 0, a, l, c, BA, Bc, KA, Kc⟩ → Calls Try.prog 13 #[.pointer (some ⟨r.b, 0, none⟩), .int .i64 a, .slice BA n Bc] W fun e w' => e = .returned (.int .i64 er) ∧ DB N w0 w' d r t s9 ⟨q, q2, go, gk, cO, cK, n, m, 0, a, l, c, BA, Bc, KA, Kc⟩) := Lib.hid (fun W t L => L.rwrite hmany HMO.out he hs)
      clear hs he
      go_wp2_with (fail)
      refine wp_region_done_on (fun dn W => DB N w0 W d r (if dn 4 = true then s9 else s) (if dn 10 = true then s9 else s) ⟨q, q2, go, gk, cO, cK, n, m, 0, a, l, c, BA, Bc, KA, Kc⟩) (fun _ i v _ => v = ([.pointer (some ⟨d.b, 0, none⟩), .pointer (some ⟨q, 1, none⟩), .int .i64 a, .slice (some ⟨go, 0, none⟩) n cO, .int .i64 er, .pointer (some ⟨r.b, 0, none⟩), .pointer (some ⟨q, 1, none⟩), .int .i64 a, .pointer (some ⟨q, 2, none⟩), .slice BA n Bc, .int .i64 er, .bool true, .bool true] : List Value).getD i undef) (by kernel_rfl) 236 rfl (by kernel_rfl) (T1.out.next (Below.refl _ _).drew) ?_ ?_
      · intro i hi
        have hi2 : i < 13 := hi
        clear hi
        rcases i with _ | i
        · refine done_value (fun _ _ h => h) (fun _ _ _ _ h => h) (.pointer (some ⟨d.b, 0, none⟩)) rfl ?_
          intro dn a8 w8 hS ho hn
          have o0 : a8.tmps[0]? = some _ := (ho 0 (by kernel_rfl)).trans rfl
          clear ho hn
          refine ⟨wanted_free rfl, ?_, rfl⟩
          go_simp
        rcases i with _ | i
        · refine done_value (fun _ _ h => h) (fun _ _ _ _ h => h) (.pointer (some ⟨q, 1, none⟩)) rfl ?_
          intro dn a8 w8 hS ho hn
          have o5 : a8.tmps[5]? = some _ := (ho 5 (by kernel_rfl)).trans rfl
          clear ho hn
          refine ⟨wanted_free rfl, ?_, rfl⟩
          go_simp
        rcases i with _ | i
        · refine done_value (fun _ _ h => h) (fun _ _ _ _ h => h) (.int .i64 a) rfl ?_
          intro dn a8 w8 hS ho hn
          obtain ⟨_, n45, rfl⟩ := hn 1 45 (by kernel_rfl) rfl
          clear ho hn
          refine ⟨wanted_free rfl, ?_, rfl⟩
          have c1 : w8.cell? ⟨q, 1, none⟩ = some (.int .i64 a) := hS.en.bx.cell 1
          clear hS
          go_simp
        rcases i with _ | i
        · refine done_value (fun _ _ h => h) (fun _ _ _ _ h => h) (.slice (some ⟨go, 0, none⟩) n cO) rfl ?_
          intro dn a8 w8 hS ho hn
          have o9 : a8.tmps[9]? = some _ := (ho 9 (by kernel_rfl)).trans rfl
          clear ho hn
          refine ⟨wanted_free rfl, ?_, rfl⟩
          go_simp
        rcases i with _ | i
        · refine done_call 12 #[.pointer (some ⟨d.b, 0, none⟩), .int .i64 a, .slice (some ⟨go, 0, none⟩) n cO] rfl ?_
          intro dn a8 w8 hS hd hx ho hn
          obtain ⟨_, n44, rfl⟩ := hn 0 44 (by kernel_rfl) rfl
          obtain ⟨_, n46, rfl⟩ := hn 2 46 (by kernel_rfl) rfl
          obtain ⟨_, n47, rfl⟩ := hn 3 47 (by kernel_rfl) rfl
          clear ho hn
          refine ⟨wanted_free rfl, by go_simp, ?_⟩
          have h4 : dn 4 = false := hd
          rw [h4] at hS
          refine (HP.out w8 _ hS).mono ?_
          rintro e w9 ⟨rfl, hl⟩
          exact ⟨_, rfl, hl, rfl, fun j u _ _ h => h⟩
        rcases i with _ | i
        · refine done_value (fun _ _ h => h) (fun _ _ _ _ h => h) (.pointer (some ⟨r.b, 0, none⟩)) rfl ?_
          intro dn a8 w8 hS ho hn
          have o1 : a8.tmps[1]? = some _ := (ho 1 (by kernel_rfl)).trans rfl
          clear ho hn
          refine ⟨wanted_free rfl, ?_, rfl⟩
          go_simp
        rcases i with _ | i
        · refine done_value (fun _ _ h => h) (fun _ _ _ _ h => h) (.pointer (some ⟨q, 1, none⟩)) rfl ?_
          intro dn a8 w8 hS ho hn
          have o5 : a8.tmps[5]? = some _ := (ho 5 (by kernel_rfl)).trans rfl
          clear ho hn
          refine ⟨wanted_free rfl, ?_, rfl⟩
          go_simp
        rcases i with _ | i
        · refine done_value (fun _ _ h => h) (fun _ _ _ _ h => h) (.int .i64 a) rfl ?_
          intro dn a8 w8 hS ho hn
          obtain ⟨_, n50, rfl⟩ := hn 6 50 (by kernel_rfl) rfl
          clear ho hn
          refine ⟨wanted_free rfl, ?_, rfl⟩
          have c1 : w8.cell? ⟨q, 1, none⟩ = some (.int .i64 a) := hS.en.bx.cell 1
          clear hS
          go_simp
        rcases i with _ | i
        · refine done_value (fun _ _ h => h) (fun _ _ _ _ h => h) (.pointer (some ⟨q, 2, none⟩)) rfl ?_
          intro dn a8 w8 hS ho hn
          have o5 : a8.tmps[5]? = some _ := (ho 5 (by kernel_rfl)).trans rfl
          clear ho hn
          refine ⟨wanted_free rfl, ?_, rfl⟩
          go_simp
        rcases i with _ | i
        · refine done_value (fun _ _ h => h) (fun _ _ _ _ h => h) (.slice BA n Bc) rfl ?_
          intro dn a8 w8 hS ho hn
          obtain ⟨_, n52, rfl⟩ := hn 8 52 (by kernel_rfl) rfl
          clear ho hn
          refine ⟨wanted_free rfl, ?_, rfl⟩
          have c1 : w8.cell? ⟨q, 2, none⟩ = some (.slice BA n Bc) := hS.en.bx.cell 2
          clear hS
          go_simp
        rcases i with _ | i
        · refine done_call 13 #[.pointer (some ⟨r.b, 0, none⟩), .int .i64 a, .slice BA n Bc] rfl ?_
          intro dn a8 w8 hS hd hx ho hn
          obtain ⟨_, n49, rfl⟩ := hn 5 49 (by kernel_rfl) rfl
          obtain ⟨_, n51, rfl⟩ := hn 7 51 (by kernel_rfl) rfl
          obtain ⟨_, n53, rfl⟩ := hn 9 53 (by kernel_rfl) rfl
          clear ho hn
          refine ⟨wanted_free rfl, by go_simp, ?_⟩
          have h4 : dn 10 = false := hd
          rw [h4] at hS
          refine (HG.out w8 _ hS).mono ?_
          rintro e w9 ⟨rfl, hl⟩
          exact ⟨_, rfl, hl, rfl, fun j u _ _ h => h⟩
        rcases i with _ | i
        · refine done_value (fun _ _ h => h) (fun _ _ _ _ h => h) (.bool true) rfl ?_
          intro dn a8 w8 hS ho hn
          obtain ⟨_, n48, rfl⟩ := hn 4 48 (by kernel_rfl) rfl
          obtain ⟨_, n54, rfl⟩ := hn 10 54 (by kernel_rfl) rfl
          clear ho hn
          refine ⟨wanted_free rfl, ?_, rfl⟩
          go_simp
        rcases i with _ | i
        · refine done_value (fun _ _ h => h) (fun _ _ _ _ h => h) (.bool true) rfl ?_
          intro dn a8 w8 hS ho hn
          obtain ⟨_, n55, rfl⟩ := hn 11 55 (by kernel_rfl) rfl
          clear ho hn
          refine ⟨wanted_free rfl, ?_, rfl⟩
          go_simp
        omega
      · intro dn5 fv w9 hS hR hall
        have h8 : fv 12 = _ := hR 12 12 rfl
        have hS2 : DB N w0 w9 d r s9 s9 ⟨q, q2, go, gk, cO, cK, n, m, 0, a, l, c, BA, Bc, KA, Kc⟩ := by
          have h : DB N w0 w9 d r (if dn5 4 = true then s9 else s) (if dn5 10 = true then s9 else s) ⟨q, q2, go, gk, cO, cK, n, m, 0, a, l, c, BA, Bc, KA, Kc⟩ := hS
          rwa [hall 4 (by decide), hall 10 (by decide), if_pos rfl] at h
        have T9 := Lib.hid hS2
        simp only [putAll, List.foldl_cons, List.foldl_nil, Act.put, List.setIfInBounds_toArray, List.set_cons_succ, List.set_cons_zero, h8, List.getD_cons_zero, List.getD_cons_succ]
        clear hR h8 hS hall hS2
        go_wp2_with (fail)
        go_meet
        exact ⟨d, rfl, rfl, T9.out⟩
    · skip
      by_cases k1 : kd = 1
      · subst k1
        have hs : flushK s = s9 := HS9.out
        obtain ⟨er, he⟩ : ∃ x, (if s.down then (31 : Int) else 0) = x := ⟨_, rfl⟩
        have HP : Hid (∀ W t, DB N w0 W d r s t ⟨q, q2, go, gk, cO, cK, n, m, 1, a, l, c, BA, Bc, KA, Kc⟩ → Calls Try.prog 14 #[.pointer (some ⟨d.b, 0, none⟩)] W fun e w' => e = .returned (.int .i64 er) ∧ DB N w0 w' d r s9 t ⟨q, q2, go, gk, cO, cK, n, m, 1, a, l, c, BA, Bc, KA, Kc⟩) := Lib.hid (fun W t L => L.flush he hs)
        have HG : Hid (∀ W t, DB N w0 W d r t s ⟨q, q2, go, gk, cO, cK, n, m, 1, a, l, c, BA, Bc, KA, Kc⟩ → Calls Try.prog 15 #[.pointer (some ⟨r.b, 0, none⟩)] W fun e w' => e = .returned (.int .i64 er) ∧ DB N w0 w' d r t s9 ⟨q, q2, go, gk, cO, cK, n, m, 1, a, l, c, BA, Bc, KA, Kc⟩) := Lib.hid (fun W t L => L.rflush he hs)
        clear hs he
        go_wp2_with (first
          | (go_at_call 15; (have l0 := T2.out; clear l0); (with_reducible refine (HG.out _ _ T2.out).mono ?_); rintro e w3 ⟨rfl, hl⟩; have T3 := Lib.hid hl; clear hl)
          | (go_at_call 14; (with_reducible refine (HP.out _ _ T1.out).mono ?_); rintro e w2 ⟨rfl, hl⟩; have T2 := Lib.hid hl; clear hl))
        go_meet
        exact ⟨d, rfl, rfl, T3.out⟩
      · skip
        by_cases k2 : kd = 2
        · subst k2
          have hs : s = s9 := HS9.out
          subst hs
          obtain ⟨er, he⟩ : ∃ x, readErr3 s a = x := ⟨_, rfl⟩
          obtain ⟨x, hx⟩ : ∃ x, readOut3 s a = x := ⟨_, rfl⟩
          have HP := Lib.hid (T1.out.read he hx)
          have HG : Hid (∀ W, DB N w0 W d r s s ⟨q, q2, go, gk, cO, cK, n, m, 2, a, l, c, BA, Bc, KA, Kc⟩ → Calls Try.prog 10 #[.pointer (some ⟨r.b, 0, none⟩), .int .i64 a] W fun e w' => ∃ A c, e = .returned (.tuple #[.slice A x.length c, .int .i64 er]) ∧ Reads w' w'.heap.size 1 A x.length (x.map bv) ∧ Below W.heap.size W w') := Lib.hid (fun W L => L.rread he hx)
          have y1 : w5.cell? ⟨q, 1, none⟩ = some (.int .i64 a) := T1.out.en.bx.cell 1
          clear he hx HS9
          go_upto_region 14 with (go_at_call 9; (with_reducible refine HP.out.mono ?_); rintro e w2 ⟨A2, c2, rfl, hr, hb, hx8, hg⟩; have T2 := Lib.hid (T1.out.next hb); have HR2 := Lib.hid hr; have HG2 := Lib.hid hg; clear hr hb hg)
          have z1 : w2.cell? ⟨q, 1, none⟩ = some (.int .i64 a) := T2.out.en.bx.cell 1
          go_upto_region 15 with (go_at_call 10; (with_reducible refine (HG.out _ T2.out).mono ?_); rintro e w3 ⟨A3, c3, rfl, hr, hb⟩; have T3 := Lib.hid (T2.out.next hb); have HB3 := Lib.hid hb; have HR3 := Lib.hid hr; clear hr hb)
          have CA := conv_reads (W := w3) (A := A2) c2 ((HR2.out.below HB3.out).more HB3.out.size)
          have CB := conv_reads (W := w3) (A := A3) c3 HR3.out
          go_wp2_with (fail)
          have HG3 : Hid (x.length = 0 ∨ ∃ g, A2 = some ⟨g, 0, none⟩ ∧ Blk w3 g 64 (x.map bv).toArray ∧ N ≤ g ∧ ¬ d.foot g ∧ ¬ r.foot g ∧ ¬ (DoE.Z ⟨q, q2, go, gk, cO, cK, n, m, 2, a, l, c, BA, Bc, KA, Kc⟩).out g) := Lib.hid (HG2.out.imp id (fun ⟨g, h1, h2, h3⟩ => ⟨g, h1, h2.below HB3.out h2.lt, h3⟩))
          go_loopw [91] (fun i wr => ∃ (j : Nat) (y : List UInt8), j ≤ x.length ∧ i = .int .i64 ((j : Nat) : Int) ∧ y.length = x.length ∧ DB N w0 wr d r s s ⟨q, q2, go, gk, cO, cK, n, m, 2, a, l, c, BA, Bc, KA, Kc⟩ ∧ (x.length = 0 ∨ ∃ g, A2 = some ⟨g, 0, none⟩ ∧ Blk wr g 64 (y.map bv).toArray ∧ N ≤ g ∧ ¬ d.foot g ∧ ¬ r.foot g ∧ ¬ (DoE.Z ⟨q, q2, go, gk, cO, cK, n, m, 2, a, l, c, BA, Bc, KA, Kc⟩).out g)) (fun i _ => x.length - (intOf i).toNat)
          case atStart => exact ⟨0, x, Nat.zero_le _, rfl, rfl, T3.out, HG3.out⟩
          case round =>
            obtain ⟨j, y, hj, rfl, hy, hT, hg⟩ := hrel
            by_cases hlt : j < x.length
            · obtain h0 | ⟨g, rfl, hb, g1, g2, g3, g4⟩ := hg
              · omega
              obtain ⟨z, z2, cz, fz, hz, hb2⟩ := sec_next hb (j := j) (by omega)
              have hk : Keep (fun k => k = g) wr (wr.setCell ⟨g, j, none⟩ (.int .u8 (z2 : Int))) := (Keep.refl _ _).setCell _ _ (fun _ => rfl)
              have hT2 := hT.apart hk g1 g2 g3 g4 (fun e => absurd (hb.typ.ne e) (by decide)) (fun e => absurd (hb.typ.ne e) (by decide))
              have HT2 := Lib.hid hT2
              obtain ⟨y2, hy2⟩ : ∃ y2, y.set j (y[j]'(by omega) + 1) = y2 := ⟨_, rfl⟩
              rw [hy2] at hb2
              have HY2 : Hid (y2.length = x.length) := Lib.hid (by rw [← hy2, List.length_set]; exact hy)
              have HB2 := Lib.hid hb2
              have HGS : Hid (N ≤ g ∧ ¬ d.foot g ∧ ¬ r.foot g ∧ ¬ (DoE.Z ⟨q, q2, go, gk, cO, cK, n, m, 2, a, l, c, BA, Bc, KA, Kc⟩).out g) := Lib.hid ⟨g1, g2, g3, g4⟩
              clear hb hb2 hy2 hT hT2 hk hy g1 g2 g3 g4 CA CB z1
              go_wp2_with (fail)
              exact ⟨⟨j + 1, y2, by omega, by go_num, HY2.out, HT2.out, .inr ⟨g, rfl, HB2.out, HGS.out⟩⟩, by simp [intOf]; omega⟩
            · have HT := Lib.hid hT
              have hj1 : j = x.length := by omega
              clear hT hg hj hlt hy
              subst hj1
              go_wp2_with (fail)
              go_meet
              exact ⟨d, rfl, rfl, HT.out⟩
        · skip
          by_cases k3 : kd = 3
          · subst k3
            have hs : downK s c = s9 := HS9.out
            obtain ⟨er, he⟩ : ∃ x, (if s.down then (31 : Int) else 0) = x := ⟨_, rfl⟩
            have HP : Hid (∀ W t, DB N w0 W d r s t ⟨q, q2, go, gk, cO, cK, n, m, 3, a, l, c, BA, Bc, KA, Kc⟩ → Calls Try.prog 16 #[.pointer (some ⟨d.b, 0, none⟩), .agg #[.int .i64 c.write, .slice (some ⟨gk, 0, none⟩) m cK, .int .i64 c.torn, .int .i64 c.at_]] W fun e w' => e = .returned (.int .i64 er) ∧ DB N w0 w' d r s9 t ⟨q, q2, go, gk, cO, cK, n, m, 3, a, l, c, BA, Bc, KA, Kc⟩) := Lib.hid (fun W t L => L.down he hs)
            have HG : Hid (∀ W t, DB N w0 W d r t s ⟨q, q2, go, gk, cO, cK, n, m, 3, a, l, c, BA, Bc, KA, Kc⟩ → Calls Try.prog 17 #[.pointer (some ⟨r.b, 0, none⟩), .agg #[.int .i64 c.write, .slice KA m Kc, .int .i64 c.torn, .int .i64 c.at_]] W fun e w' => e = .returned (.int .i64 er) ∧ DB N w0 w' d r t s9 ⟨q, q2, go, gk, cO, cK, n, m, 3, a, l, c, BA, Bc, KA, Kc⟩) := Lib.hid (fun W t L => L.rdown he hs)
            clear hs he
            go_wp2_with (fail)
            refine wp_region_done_on (fun dn W => DB N w0 W d r (if dn 2 = true then s9 else s) (if dn 6 = true then s9 else s) ⟨q, q2, go, gk, cO, cK, n, m, 3, a, l, c, BA, Bc, KA, Kc⟩) (fun _ i v _ => v = ([.pointer (some ⟨d.b, 0, none⟩), .agg #[.int .i64 c.write, .slice (some ⟨gk, 0, none⟩) m cK, .int .i64 c.torn, .int .i64 c.at_], .int .i64 er, .pointer (some ⟨r.b, 0, none⟩), .pointer (some ⟨q, 3, none⟩), .agg #[.int .i64 c.write, .slice KA m Kc, .int .i64 c.torn, .int .i64 c.at_], .int .i64 er, .bool true, .bool true] : List Value).getD i undef) (by kernel_rfl) 236 rfl (by kernel_rfl) (T1.out.next (Below.refl _ _).drew) ?_ ?_
            · intro i hi
              have hi2 : i < 9 := hi
              clear hi
              rcases i with _ | i
              · refine done_value (fun _ _ h => h) (fun _ _ _ _ h => h) (.pointer (some ⟨d.b, 0, none⟩)) rfl ?_
                intro dn a8 w8 hS ho hn
                have o0 : a8.tmps[0]? = some _ := (ho 0 (by kernel_rfl)).trans rfl
                clear ho hn
                refine ⟨wanted_free rfl, ?_, rfl⟩
                go_simp
              rcases i with _ | i
              · refine done_value (fun _ _ h => h) (fun _ _ _ _ h => h) (.agg #[.int .i64 c.write, .slice (some ⟨gk, 0, none⟩) m cK, .int .i64 c.torn, .int .i64 c.at_]) rfl ?_
                intro dn a8 w8 hS ho hn
                have o11 : a8.tmps[11]? = some _ := (ho 11 (by kernel_rfl)).trans rfl
                clear ho hn
                refine ⟨wanted_free rfl, ?_, rfl⟩
                have d0 : w8.cell? ⟨q2, 0, none⟩ = some (.int .i64 c.write) := hS.en.cx.cell 0
                have d1 : w8.cell? ⟨q2, 1, none⟩ = some (.slice (some ⟨gk, 0, none⟩) m cK) := hS.en.cx.cell 1
                have d2 : w8.cell? ⟨q2, 2, none⟩ = some (.int .i64 c.torn) := hS.en.cx.cell 2
                have d3 : w8.cell? ⟨q2, 3, none⟩ = some (.int .i64 c.at_) := hS.en.cx.cell 3
                clear hS
                go_simp
              rcases i with _ | i
              · refine done_call 16 #[.pointer (some ⟨d.b, 0, none⟩), .agg #[.int .i64 c.write, .slice (some ⟨gk, 0, none⟩) m cK, .int .i64 c.torn, .int .i64 c.at_]] rfl ?_
                intro dn a8 w8 hS hd hx ho hn
                obtain ⟨_, n105, rfl⟩ := hn 0 105 (by kernel_rfl) rfl
                obtain ⟨_, n106, rfl⟩ := hn 1 106 (by kernel_rfl) rfl
                clear ho hn
                refine ⟨wanted_free rfl, by go_simp, ?_⟩
                have h4 : dn 2 = false := hd
                rw [h4] at hS
                refine (HP.out w8 _ hS).mono ?_
                rintro e w9 ⟨rfl, hl⟩
                exact ⟨_, rfl, hl, rfl, fun j u _ _ h => h⟩
              rcases i with _ | i
              · refine done_value (fun _ _ h => h) (fun _ _ _ _ h => h) (.pointer (some ⟨r.b, 0, none⟩)) rfl ?_
                intro dn a8 w8 hS ho hn
                have o1 : a8.tmps[1]? = some _ := (ho 1 (by kernel_rfl)).trans rfl
                clear ho hn
                refine ⟨wanted_free rfl, ?_, rfl⟩
                go_simp
              rcases i with _ | i
              · refine done_value (fun _ _ h => h) (fun _ _ _ _ h => h) (.pointer (some ⟨q, 3, none⟩)) rfl ?_
                intro dn a8 w8 hS ho hn
                have o5 : a8.tmps[5]? = some _ := (ho 5 (by kernel_rfl)).trans rfl
                clear ho hn
                refine ⟨wanted_free rfl, ?_, rfl⟩
                go_simp
              rcases i with _ | i
              · refine done_value (fun _ _ h => h) (fun _ _ _ _ h => h) (.agg #[.int .i64 c.write, .slice KA m Kc, .int .i64 c.torn, .int .i64 c.at_]) rfl ?_
                intro dn a8 w8 hS ho hn
                obtain ⟨_, n109, rfl⟩ := hn 4 109 (by kernel_rfl) rfl
                clear ho hn
                refine ⟨wanted_free rfl, ?_, rfl⟩
                have d3 : w8.cell? ⟨q, 3, none⟩ = some (.int .i64 c.write) := hS.en.bx.cell 3
                have d4 : w8.cell? ⟨q, 4, none⟩ = some (.slice KA m Kc) := hS.en.bx.cell 4
                have d5 : w8.cell? ⟨q, 5, none⟩ = some (.int .i64 c.torn) := hS.en.bx.cell 5
                have d6 : w8.cell? ⟨q, 6, none⟩ = some (.int .i64 c.at_) := hS.en.bx.cell 6
                clear hS
                go_simp
              rcases i with _ | i
              · refine done_call 17 #[.pointer (some ⟨r.b, 0, none⟩), .agg #[.int .i64 c.write, .slice KA m Kc, .int .i64 c.torn, .int .i64 c.at_]] rfl ?_
                intro dn a8 w8 hS hd hx ho hn
                obtain ⟨_, n108, rfl⟩ := hn 3 108 (by kernel_rfl) rfl
                obtain ⟨_, n110, rfl⟩ := hn 5 110 (by kernel_rfl) rfl
                clear ho hn
                refine ⟨wanted_free rfl, by go_simp, ?_⟩
                have h4 : dn 6 = false := hd
                rw [h4] at hS
                refine (HG.out w8 _ hS).mono ?_
                rintro e w9 ⟨rfl, hl⟩
                exact ⟨_, rfl, hl, rfl, fun j u _ _ h => h⟩
              rcases i with _ | i
              · refine done_value (fun _ _ h => h) (fun _ _ _ _ h => h) (.bool true) rfl ?_
                intro dn a8 w8 hS ho hn
                obtain ⟨_, n107, rfl⟩ := hn 2 107 (by kernel_rfl) rfl
                obtain ⟨_, n111, rfl⟩ := hn 6 111 (by kernel_rfl) rfl
                clear ho hn
                refine ⟨wanted_free rfl, ?_, rfl⟩
                go_simp
              rcases i with _ | i
              · refine done_value (fun _ _ h => h) (fun _ _ _ _ h => h) (.bool true) rfl ?_
                intro dn a8 w8 hS ho hn
                obtain ⟨_, n112, rfl⟩ := hn 7 112 (by kernel_rfl) rfl
                clear ho hn
                refine ⟨wanted_free rfl, ?_, rfl⟩
                go_simp
              omega
            · intro dn5 fv w9 hS hR hall
              have h8 : fv 12 = _ := hR 8 12 rfl
              have hS2 : DB N w0 w9 d r s9 s9 ⟨q, q2, go, gk, cO, cK, n, m, 3, a, l, c, BA, Bc, KA, Kc⟩ := by
                have h : DB N w0 w9 d r (if dn5 2 = true then s9 else s) (if dn5 6 = true then s9 else s) ⟨q, q2, go, gk, cO, cK, n, m, 3, a, l, c, BA, Bc, KA, Kc⟩ := hS
                rwa [hall 2 (by decide), hall 6 (by decide), if_pos rfl] at h
              have T9 := Lib.hid hS2
              simp only [putAll, List.foldl_cons, List.foldl_nil, Act.put, List.setIfInBounds_toArray, List.set_cons_succ, List.set_cons_zero, h8, List.getD_cons_zero, List.getD_cons_succ]
              clear hR h8 hS hall hS2
              go_wp2_with (fail)
              go_meet
              exact ⟨d, rfl, rfl, T9.out⟩
          · skip
            by_cases k4 : kd = 4
            · subst k4
              have hs : armSt3 s c = s9 := HS9.out
              obtain ⟨er, he⟩ : ∃ x, armErr3 c = x := ⟨_, rfl⟩
              have HP : Hid (∀ W t, DB N w0 W d r s t ⟨q, q2, go, gk, cO, cK, n, m, 4, a, l, c, BA, Bc, KA, Kc⟩ → Calls Try.prog 18 #[.pointer (some ⟨d.b, 0, none⟩), .agg #[.int .i64 c.write, .slice (some ⟨gk, 0, none⟩) m cK, .int .i64 c.torn, .int .i64 c.at_]] W fun e w' => e = .returned (.int .i64 er) ∧ DB N w0 w' d r s9 t ⟨q, q2, go, gk, cO, cK, n, m, 4, a, l, c, BA, Bc, KA, Kc⟩) := Lib.hid (fun W t L => L.arm he hs)
              have HG : Hid (∀ W t, DB N w0 W d r t s ⟨q, q2, go, gk, cO, cK, n, m, 4, a, l, c, BA, Bc, KA, Kc⟩ → Calls Try.prog 19 #[.pointer (some ⟨r.b, 0, none⟩), .agg #[.int .i64 c.write, .slice KA m Kc, .int .i64 c.torn, .int .i64 c.at_]] W fun e w' => e = .returned (.int .i64 er) ∧ DB N w0 w' d r t s9 ⟨q, q2, go, gk, cO, cK, n, m, 4, a, l, c, BA, Bc, KA, Kc⟩) := Lib.hid (fun W t L => L.rarm he hs)
              clear hs he
              go_wp2_with (fail)
              refine wp_region_done_on (fun dn W => DB N w0 W d r (if dn 2 = true then s9 else s) (if dn 6 = true then s9 else s) ⟨q, q2, go, gk, cO, cK, n, m, 4, a, l, c, BA, Bc, KA, Kc⟩) (fun _ i v _ => v = ([.pointer (some ⟨d.b, 0, none⟩), .agg #[.int .i64 c.write, .slice (some ⟨gk, 0, none⟩) m cK, .int .i64 c.torn, .int .i64 c.at_], .int .i64 er, .pointer (some ⟨r.b, 0, none⟩), .pointer (some ⟨q, 3, none⟩), .agg #[.int .i64 c.write, .slice KA m Kc, .int .i64 c.torn, .int .i64 c.at_], .int .i64 er, .bool true, .bool true] : List Value).getD i undef) (by kernel_rfl) 236 rfl (by kernel_rfl) (T1.out.next (Below.refl _ _).drew) ?_ ?_
              · intro i hi
                have hi2 : i < 9 := hi
                clear hi
                rcases i with _ | i
                · refine done_value (fun _ _ h => h) (fun _ _ _ _ h => h) (.pointer (some ⟨d.b, 0, none⟩)) rfl ?_
                  intro dn a8 w8 hS ho hn
                  have o0 : a8.tmps[0]? = some _ := (ho 0 (by kernel_rfl)).trans rfl
                  clear ho hn
                  refine ⟨wanted_free rfl, ?_, rfl⟩
                  go_simp
                rcases i with _ | i
                · refine done_value (fun _ _ h => h) (fun _ _ _ _ h => h) (.agg #[.int .i64 c.write, .slice (some ⟨gk, 0, none⟩) m cK, .int .i64 c.torn, .int .i64 c.at_]) rfl ?_
                  intro dn a8 w8 hS ho hn
                  have o11 : a8.tmps[11]? = some _ := (ho 11 (by kernel_rfl)).trans rfl
                  clear ho hn
                  refine ⟨wanted_free rfl, ?_, rfl⟩
                  have d0 : w8.cell? ⟨q2, 0, none⟩ = some (.int .i64 c.write) := hS.en.cx.cell 0
                  have d1 : w8.cell? ⟨q2, 1, none⟩ = some (.slice (some ⟨gk, 0, none⟩) m cK) := hS.en.cx.cell 1
                  have d2 : w8.cell? ⟨q2, 2, none⟩ = some (.int .i64 c.torn) := hS.en.cx.cell 2
                  have d3 : w8.cell? ⟨q2, 3, none⟩ = some (.int .i64 c.at_) := hS.en.cx.cell 3
                  clear hS
                  go_simp
                rcases i with _ | i
                · refine done_call 18 #[.pointer (some ⟨d.b, 0, none⟩), .agg #[.int .i64 c.write, .slice (some ⟨gk, 0, none⟩) m cK, .int .i64 c.torn, .int .i64 c.at_]] rfl ?_
                  intro dn a8 w8 hS hd hx ho hn
                  obtain ⟨_, n115, rfl⟩ := hn 0 115 (by kernel_rfl) rfl
                  obtain ⟨_, n116, rfl⟩ := hn 1 116 (by kernel_rfl) rfl
                  clear ho hn
                  refine ⟨wanted_free rfl, by go_simp, ?_⟩
                  have h4 : dn 2 = false := hd
                  rw [h4] at hS
                  refine (HP.out w8 _ hS).mono ?_
                  rintro e w9 ⟨rfl, hl⟩
                  exact ⟨_, rfl, hl, rfl, fun j u _ _ h => h⟩
                rcases i with _ | i
                · refine done_value (fun _ _ h => h) (fun _ _ _ _ h => h) (.pointer (some ⟨r.b, 0, none⟩)) rfl ?_
                  intro dn a8 w8 hS ho hn
                  have o1 : a8.tmps[1]? = some _ := (ho 1 (by kernel_rfl)).trans rfl
                  clear ho hn
                  refine ⟨wanted_free rfl, ?_, rfl⟩
                  go_simp
                rcases i with _ | i
                · refine done_value (fun _ _ h => h) (fun _ _ _ _ h => h) (.pointer (some ⟨q, 3, none⟩)) rfl ?_
                  intro dn a8 w8 hS ho hn
                  have o5 : a8.tmps[5]? = some _ := (ho 5 (by kernel_rfl)).trans rfl
                  clear ho hn
                  refine ⟨wanted_free rfl, ?_, rfl⟩
                  go_simp
                rcases i with _ | i
                · refine done_value (fun _ _ h => h) (fun _ _ _ _ h => h) (.agg #[.int .i64 c.write, .slice KA m Kc, .int .i64 c.torn, .int .i64 c.at_]) rfl ?_
                  intro dn a8 w8 hS ho hn
                  obtain ⟨_, n119, rfl⟩ := hn 4 119 (by kernel_rfl) rfl
                  clear ho hn
                  refine ⟨wanted_free rfl, ?_, rfl⟩
                  have d3 : w8.cell? ⟨q, 3, none⟩ = some (.int .i64 c.write) := hS.en.bx.cell 3
                  have d4 : w8.cell? ⟨q, 4, none⟩ = some (.slice KA m Kc) := hS.en.bx.cell 4
                  have d5 : w8.cell? ⟨q, 5, none⟩ = some (.int .i64 c.torn) := hS.en.bx.cell 5
                  have d6 : w8.cell? ⟨q, 6, none⟩ = some (.int .i64 c.at_) := hS.en.bx.cell 6
                  clear hS
                  go_simp
                rcases i with _ | i
                · refine done_call 19 #[.pointer (some ⟨r.b, 0, none⟩), .agg #[.int .i64 c.write, .slice KA m Kc, .int .i64 c.torn, .int .i64 c.at_]] rfl ?_
                  intro dn a8 w8 hS hd hx ho hn
                  obtain ⟨_, n118, rfl⟩ := hn 3 118 (by kernel_rfl) rfl
                  obtain ⟨_, n120, rfl⟩ := hn 5 120 (by kernel_rfl) rfl
                  clear ho hn
                  refine ⟨wanted_free rfl, by go_simp, ?_⟩
                  have h4 : dn 6 = false := hd
                  rw [h4] at hS
                  refine (HG.out w8 _ hS).mono ?_
                  rintro e w9 ⟨rfl, hl⟩
                  exact ⟨_, rfl, hl, rfl, fun j u _ _ h => h⟩
                rcases i with _ | i
                · refine done_value (fun _ _ h => h) (fun _ _ _ _ h => h) (.bool true) rfl ?_
                  intro dn a8 w8 hS ho hn
                  obtain ⟨_, n117, rfl⟩ := hn 2 117 (by kernel_rfl) rfl
                  obtain ⟨_, n121, rfl⟩ := hn 6 121 (by kernel_rfl) rfl
                  clear ho hn
                  refine ⟨wanted_free rfl, ?_, rfl⟩
                  go_simp
                rcases i with _ | i
                · refine done_value (fun _ _ h => h) (fun _ _ _ _ h => h) (.bool true) rfl ?_
                  intro dn a8 w8 hS ho hn
                  obtain ⟨_, n122, rfl⟩ := hn 7 122 (by kernel_rfl) rfl
                  clear ho hn
                  refine ⟨wanted_free rfl, ?_, rfl⟩
                  go_simp
                omega
              · intro dn5 fv w9 hS hR hall
                have h8 : fv 12 = _ := hR 8 12 rfl
                have hS2 : DB N w0 w9 d r s9 s9 ⟨q, q2, go, gk, cO, cK, n, m, 4, a, l, c, BA, Bc, KA, Kc⟩ := by
                  have h : DB N w0 w9 d r (if dn5 2 = true then s9 else s) (if dn5 6 = true then s9 else s) ⟨q, q2, go, gk, cO, cK, n, m, 4, a, l, c, BA, Bc, KA, Kc⟩ := hS
                  rwa [hall 2 (by decide), hall 6 (by decide), if_pos rfl] at h
                have T9 := Lib.hid hS2
                simp only [putAll, List.foldl_cons, List.foldl_nil, Act.put, List.setIfInBounds_toArray, List.set_cons_succ, List.set_cons_zero, h8, List.getD_cons_zero, List.getD_cons_succ]
                clear hR h8 hS hall hS2
                go_wp2_with (fail)
                go_meet
                exact ⟨d, rfl, rfl, T9.out⟩
            · skip
              by_cases k5 : kd = 5
              · subst k5
                have hs : bootSt s = s9 := HS9.out
                have HP : Hid (∀ W t, DB N w0 W d r s t ⟨q, q2, go, gk, cO, cK, n, m, 5, a, l, c, BA, Bc, KA, Kc⟩ → Calls Try.prog 8 #[.pointer (some ⟨d.b, 0, none⟩)] W fun e w' => e = .returned (.int .i64 0) ∧ DB N w0 w' d r s9 t ⟨q, q2, go, gk, cO, cK, n, m, 5, a, l, c, BA, Bc, KA, Kc⟩) := Lib.hid (fun W t L => L.boot hs)
                go_wp2_with (go_at_call 8; (with_reducible refine (HP.out _ _ T1.out).mono ?_); rintro e w2 ⟨rfl, hl⟩; (obtain ⟨kv, hb⟩ := hl.rblk); have c7 := hb.cell 7; have f7 := hb.frozen 7; have T2 := Lib.hid hl; clear hl hb)
                go_meet
                exact ⟨d, rfl, rfl, by have := T2.out.rboot; rwa [hs] at this⟩
              · skip
                by_cases k6 : kd = 6
                · subst k6
                  have hs : spoilSt3 s a l = s9 := HS9.out
                  obtain ⟨er, he⟩ : ∃ x, spoilErr3 s a l = x := ⟨_, rfl⟩
                  have HP : Hid (∀ W t, DB N w0 W d r s t ⟨q, q2, go, gk, cO, cK, n, m, 6, a, l, c, BA, Bc, KA, Kc⟩ → Calls Try.prog 20 #[.pointer (some ⟨d.b, 0, none⟩), .int .i64 a, .slice (some ⟨go, 0, none⟩) n cO] W fun e w' => e = .returned (.int .i64 er) ∧ DB N w0 w' d r s9 t ⟨q, q2, go, gk, cO, cK, n, m, 6, a, l, c, BA, Bc, KA, Kc⟩) := Lib.hid (fun W t L => L.spoil he hs)
                  have HG : Hid (∀ W t, DB N w0 W d r t s ⟨q, q2, go, gk, cO, cK, n, m, 6, a, l, c, BA, Bc, KA, Kc⟩ → Calls Try.prog 21 #[.pointer (some ⟨r.b, 0, none⟩), .int .i64 a, .slice BA n Bc] W fun e w' => e = .returned (.int .i64 er) ∧ DB N w0 w' d r t s9 ⟨q, q2, go, gk, cO, cK, n, m, 6, a, l, c, BA, Bc, KA, Kc⟩) := Lib.hid (fun W t L => L.rspoil he hs)
                  clear hs he
                  go_wp2_with (fail)
                  refine wp_region_done_on (fun dn W => DB N w0 W d r (if dn 4 = true then s9 else s) (if dn 10 = true then s9 else s) ⟨q, q2, go, gk, cO, cK, n, m, 6, a, l, c, BA, Bc, KA, Kc⟩) (fun _ i v _ => v = ([.pointer (some ⟨d.b, 0, none⟩), .pointer (some ⟨q, 1, none⟩), .int .i64 a, .slice (some ⟨go, 0, none⟩) n cO, .int .i64 er, .pointer (some ⟨r.b, 0, none⟩), .pointer (some ⟨q, 1, none⟩), .int .i64 a, .pointer (some ⟨q, 2, none⟩), .slice BA n Bc, .int .i64 er, .bool true, .bool true] : List Value).getD i undef) (by kernel_rfl) 236 rfl (by kernel_rfl) (T1.out.next (Below.refl _ _).drew) ?_ ?_
                  · intro i hi
                    have hi2 : i < 13 := hi
                    clear hi
                    rcases i with _ | i
                    · refine done_value (fun _ _ h => h) (fun _ _ _ _ h => h) (.pointer (some ⟨d.b, 0, none⟩)) rfl ?_
                      intro dn a8 w8 hS ho hn
                      have o0 : a8.tmps[0]? = some _ := (ho 0 (by kernel_rfl)).trans rfl
                      clear ho hn
                      refine ⟨wanted_free rfl, ?_, rfl⟩
                      go_simp
                    rcases i with _ | i
                    · refine done_value (fun _ _ h => h) (fun _ _ _ _ h => h) (.pointer (some ⟨q, 1, none⟩)) rfl ?_
                      intro dn a8 w8 hS ho hn
                      have o5 : a8.tmps[5]? = some _ := (ho 5 (by kernel_rfl)).trans rfl
                      clear ho hn
                      refine ⟨wanted_free rfl, ?_, rfl⟩
                      go_simp
                    rcases i with _ | i
                    · refine done_value (fun _ _ h => h) (fun _ _ _ _ h => h) (.int .i64 a) rfl ?_
                      intro dn a8 w8 hS ho hn
                      obtain ⟨_, n134, rfl⟩ := hn 1 134 (by kernel_rfl) rfl
                      clear ho hn
                      refine ⟨wanted_free rfl, ?_, rfl⟩
                      have c1 : w8.cell? ⟨q, 1, none⟩ = some (.int .i64 a) := hS.en.bx.cell 1
                      clear hS
                      go_simp
                    rcases i with _ | i
                    · refine done_value (fun _ _ h => h) (fun _ _ _ _ h => h) (.slice (some ⟨go, 0, none⟩) n cO) rfl ?_
                      intro dn a8 w8 hS ho hn
                      have o9 : a8.tmps[9]? = some _ := (ho 9 (by kernel_rfl)).trans rfl
                      clear ho hn
                      refine ⟨wanted_free rfl, ?_, rfl⟩
                      go_simp
                    rcases i with _ | i
                    · refine done_call 20 #[.pointer (some ⟨d.b, 0, none⟩), .int .i64 a, .slice (some ⟨go, 0, none⟩) n cO] rfl ?_
                      intro dn a8 w8 hS hd hx ho hn
                      obtain ⟨_, n133, rfl⟩ := hn 0 133 (by kernel_rfl) rfl
                      obtain ⟨_, n135, rfl⟩ := hn 2 135 (by kernel_rfl) rfl
                      obtain ⟨_, n136, rfl⟩ := hn 3 136 (by kernel_rfl) rfl
                      clear ho hn
                      refine ⟨wanted_free rfl, by go_simp, ?_⟩
                      have h4 : dn 4 = false := hd
                      rw [h4] at hS
                      refine (HP.out w8 _ hS).mono ?_
                      rintro e w9 ⟨rfl, hl⟩
                      exact ⟨_, rfl, hl, rfl, fun j u _ _ h => h⟩
                    rcases i with _ | i
                    · refine done_value (fun _ _ h => h) (fun _ _ _ _ h => h) (.pointer (some ⟨r.b, 0, none⟩)) rfl ?_
                      intro dn a8 w8 hS ho hn
                      have o1 : a8.tmps[1]? = some _ := (ho 1 (by kernel_rfl)).trans rfl
                      clear ho hn
                      refine ⟨wanted_free rfl, ?_, rfl⟩
                      go_simp
                    rcases i with _ | i
                    · refine done_value (fun _ _ h => h) (fun _ _ _ _ h => h) (.pointer (some ⟨q, 1, none⟩)) rfl ?_
                      intro dn a8 w8 hS ho hn
                      have o5 : a8.tmps[5]? = some _ := (ho 5 (by kernel_rfl)).trans rfl
                      clear ho hn
                      refine ⟨wanted_free rfl, ?_, rfl⟩
                      go_simp
                    rcases i with _ | i
                    · refine done_value (fun _ _ h => h) (fun _ _ _ _ h => h) (.int .i64 a) rfl ?_
                      intro dn a8 w8 hS ho hn
                      obtain ⟨_, n139, rfl⟩ := hn 6 139 (by kernel_rfl) rfl
                      clear ho hn
                      refine ⟨wanted_free rfl, ?_, rfl⟩
                      have c1 : w8.cell? ⟨q, 1, none⟩ = some (.int .i64 a) := hS.en.bx.cell 1
                      clear hS
                      go_simp
                    rcases i with _ | i
                    · refine done_value (fun _ _ h => h) (fun _ _ _ _ h => h) (.pointer (some ⟨q, 2, none⟩)) rfl ?_
                      intro dn a8 w8 hS ho hn
                      have o5 : a8.tmps[5]? = some _ := (ho 5 (by kernel_rfl)).trans rfl
                      clear ho hn
                      refine ⟨wanted_free rfl, ?_, rfl⟩
                      go_simp
                    rcases i with _ | i
                    · refine done_value (fun _ _ h => h) (fun _ _ _ _ h => h) (.slice BA n Bc) rfl ?_
                      intro dn a8 w8 hS ho hn
                      obtain ⟨_, n141, rfl⟩ := hn 8 141 (by kernel_rfl) rfl
                      clear ho hn
                      refine ⟨wanted_free rfl, ?_, rfl⟩
                      have c1 : w8.cell? ⟨q, 2, none⟩ = some (.slice BA n Bc) := hS.en.bx.cell 2
                      clear hS
                      go_simp
                    rcases i with _ | i
                    · refine done_call 21 #[.pointer (some ⟨r.b, 0, none⟩), .int .i64 a, .slice BA n Bc] rfl ?_
                      intro dn a8 w8 hS hd hx ho hn
                      obtain ⟨_, n138, rfl⟩ := hn 5 138 (by kernel_rfl) rfl
                      obtain ⟨_, n140, rfl⟩ := hn 7 140 (by kernel_rfl) rfl
                      obtain ⟨_, n142, rfl⟩ := hn 9 142 (by kernel_rfl) rfl
                      clear ho hn
                      refine ⟨wanted_free rfl, by go_simp, ?_⟩
                      have h4 : dn 10 = false := hd
                      rw [h4] at hS
                      refine (HG.out w8 _ hS).mono ?_
                      rintro e w9 ⟨rfl, hl⟩
                      exact ⟨_, rfl, hl, rfl, fun j u _ _ h => h⟩
                    rcases i with _ | i
                    · refine done_value (fun _ _ h => h) (fun _ _ _ _ h => h) (.bool true) rfl ?_
                      intro dn a8 w8 hS ho hn
                      obtain ⟨_, n137, rfl⟩ := hn 4 137 (by kernel_rfl) rfl
                      obtain ⟨_, n143, rfl⟩ := hn 10 143 (by kernel_rfl) rfl
                      clear ho hn
                      refine ⟨wanted_free rfl, ?_, rfl⟩
                      go_simp
                    rcases i with _ | i
                    · refine done_value (fun _ _ h => h) (fun _ _ _ _ h => h) (.bool true) rfl ?_
                      intro dn a8 w8 hS ho hn
                      obtain ⟨_, n144, rfl⟩ := hn 11 144 (by kernel_rfl) rfl
                      clear ho hn
                      refine ⟨wanted_free rfl, ?_, rfl⟩
                      go_simp
                    omega
                  · intro dn5 fv w9 hS hR hall
                    have h8 : fv 12 = _ := hR 12 12 rfl
                    have hS2 : DB N w0 w9 d r s9 s9 ⟨q, q2, go, gk, cO, cK, n, m, 6, a, l, c, BA, Bc, KA, Kc⟩ := by
                      have h : DB N w0 w9 d r (if dn5 4 = true then s9 else s) (if dn5 10 = true then s9 else s) ⟨q, q2, go, gk, cO, cK, n, m, 6, a, l, c, BA, Bc, KA, Kc⟩ := hS
                      rwa [hall 4 (by decide), hall 10 (by decide), if_pos rfl] at h
                    have T9 := Lib.hid hS2
                    simp only [putAll, List.foldl_cons, List.foldl_nil, Act.put, List.setIfInBounds_toArray, List.set_cons_succ, List.set_cons_zero, h8, List.getD_cons_zero, List.getD_cons_succ]
                    clear hR h8 hS hall hS2
                    go_wp2_with (fail)
                    go_meet
                    exact ⟨d, rfl, rfl, T9.out⟩
                · skip
                  by_cases k7 : kd = 7
                  · subst k7
                    have hs : s = s9 := HS9.out
                    subst hs
                    obtain ⟨CZ, hCZ⟩ := root.zeros_made (m := 128) (by omega) 128 rfl
                    have hmk := fun w => (hCZ w).1
                    have HCZ := Lib.hid (fun w => (hCZ w).2)
                    clear hCZ HS9
                    go_wp2_with (first
                      | (go_at_call 16; (have l0 := C6.out; clear l0); (with_reducible refine C6.out.down.mono ?_); rintro e w7 ⟨⟨x7, rfl⟩, hc⟩; have C7 := Lib.hid hc; clear hc)
                      | (go_at_call 14; (have l0 := C5.out; clear l0); (with_reducible refine C5.out.flush.mono ?_); rintro e w6 ⟨⟨x6, rfl⟩, hc⟩; have C6 := Lib.hid hc; clear hc)
                      | (go_at_call 20; (have l0 := C4.out; clear l0); (with_reducible refine ((C4.out.next ((Below.refl _ w4).alloc (Nat.le_refl _) (.cells CZ 5))).spoil 0 _ 128 128 (List.replicate 128 0) (by simp) (Reads.of_own (HCZ.out w4))).mono ?_); rintro e w5 ⟨⟨x5, rfl⟩, hc⟩; have C5 := Lib.hid hc; clear hc)
                      | (go_at_call 12; (have l0 := C3.out; clear l0); (with_reducible refine ((C3.out.next ((Below.refl _ w3).alloc (Nat.le_refl _) (.cells CZ 5))).write 0 _ 128 128 (List.replicate 128 0) (by simp) (Reads.of_own (HCZ.out w3))).mono ?_); rintro e w4 ⟨⟨x4, rfl⟩, hc⟩; have C4 := Lib.hid hc; clear hc)
                      | (go_at_call 8; (have l0 := C2.out; clear l0); (with_reducible refine C2.out.boot.mono ?_); rintro e w3 ⟨rfl, hc⟩; have C3 := Lib.hid hc; clear hc)
                      | (go_at_call 22; (with_reducible refine (T1.out.copyX (by omega) hmany).mono ?_); rintro e w2 ⟨d2, rfl, hc⟩; have C2 := Lib.hid hc; clear hc))
                    go_meet
                    exact ⟨d2, rfl, rfl, C7.out.new⟩
                  · skip
                    have hs : s = s9 := by
                      have := HS9.out
                      unfold doSt at this
                      rwa [if_neg k0, if_neg k1, if_neg k3, if_neg k4, if_neg k5, if_neg k6] at this
                    subst hs
                    go_wp2_with (fail)
                    go_meet
                    exact ⟨d, rfl, rfl, T1.out⟩
  case rest =>
    obtain ⟨d2, rfl, rfl, hT⟩ := hcut
    have T2 := Lib.hid hT
    clear hT T1
    have e2 : wc.cell? ⟨q, 2, none⟩ = some (.slice BA n Bc) := T2.out.en.bx.cell 2
    have e4 : wc.cell? ⟨q, 4, none⟩ = some (.slice KA m Kc) := T2.out.en.bx.cell 4
    have CO := conv_reads (W := wc) (n := n + 1) (A := some ⟨go, 0, none⟩) cO (Reads.of_own T2.out.en.own)
    have CA := conv_reads (W := wc) (n := n) (A := BA) Bc T2.out.argR
    have HI : Hid (Calls Try.prog 23 #[.slice (some ⟨gk, 0, none⟩) m cK, .slice KA m Kc] wc fun e w' => e = .returned (.bool true) ∧ Below wc.heap.size wc w') := Lib.hid (by
      have hm := T2.out.en.hm
      have hks := T2.out.keepS.reads
      rw [List.length_map, show (DoE.c ⟨q, q2, go, gk, cO, cK, n, m, kd, a, l, c, BA, Bc, KA, Kc⟩).keep.length = m from hm] at hks
      have hr1 := T2.out.en.ks.reads
      rw [List.length_map, show (DoE.c ⟨q, q2, go, gk, cO, cK, n, m, kd, a, l, c, BA, Bc, KA, Kc⟩).keep.length = m from hm] at hr1
      have hr1 : Reads wc wc.heap.size 1 KA m (c.keep.map iv) := hr1.more T2.out.wb.le
      have := ints_any (some ⟨gk, 0, none⟩) KA cK Kc m m c.keep c.keep wc hm hm hks hr1 (by omega) (by omega)
      rwa [decide_eq_true rfl] at this)
    have hle : (({ data := l.toArray } : ByteArray) ++ { data := #[7] }).toList = l ++ [7] := by
      rw [ByteArray.toList_eq, ByteArray.data_append]
      simp
    have hlx : l.length ≤ 500 := by have := T2.out.en.hn; have h : l.length = n := this; omega
    go_upto_region 39 with (go_at_call 23; (with_reducible refine HI.out.mono ?_); rintro e w3 ⟨rfl, hb⟩; have T3 := Lib.hid (T2.out.next hb); clear hb)
    have L3 := Lib.hid T3.out.lw
    clear T2 T3 e2 e4 CO CA HI hle hlx
    go_wp2_with (fail)
    go_loopw [182] (fun i wr => ∃ j : Nat, j ≤ n + 1 ∧ i = .int .i64 ((j : Nat) : Int) ∧ LW N w0 wr d2 r s9 s9 ⟨q, q2, go, gk, cO, cK, n, m, kd, a, l, c, BA, Bc, KA, Kc⟩) (fun i _ => n + 1 - (intOf i).toNat)
    case atStart => exact ⟨0, Nat.zero_le _, rfl, L3.out⟩
    case round =>
      obtain ⟨j, hj, rfl, hL⟩ := hrel
      by_cases hlt : j < n + 1
      · obtain ⟨v, cv, fv⟩ := hL.at1 hlt
        have cv1 : wr.cell? ⟨go, j, none⟩ = some v := cv
        have fv1 : wr.frozen? ⟨go, j, none⟩ = false := fv
        have hs1 : LW N w0 (wr.setCell ⟨go, j, none⟩ (.int .u8 99)) d2 r s9 s9 ⟨q, q2, go, gk, cO, cK, n, m, kd, a, l, c, BA, Bc, KA, Kc⟩ := hL.set1 j (.int .u8 99)
        have HS1 := Lib.hid hs1
        clear cv fv hs1 hL
        go_wp2_with (fail)
        exact ⟨⟨j + 1, by omega, by go_num, HS1.out⟩, by simp [intOf]; omega⟩
      · have L4 := Lib.hid hL
        clear hL
        have hj1 : j = n + 1 := by omega
        clear hj hlt
        subst hj1
        go_wp2_with (fail)
        go_loopw [191] (fun i wr => ∃ j : Nat, j ≤ m ∧ i = .int .i64 ((j : Nat) : Int) ∧ LW N w0 wr d2 r s9 s9 ⟨q, q2, go, gk, cO, cK, n, m, kd, a, l, c, BA, Bc, KA, Kc⟩) (fun i _ => m - (intOf i).toNat)
        case atStart => exact ⟨0, Nat.zero_le _, rfl, L4.out⟩
        case round =>
          obtain ⟨j, hj, rfl, hL⟩ := hrel
          by_cases hlt : j < m
          · obtain ⟨v, cv, fv⟩ := hL.at2 hlt
            have cv1 : wr.cell? ⟨gk, j, none⟩ = some v := cv
            have fv1 : wr.frozen? ⟨gk, j, none⟩ = false := fv
            have hs1 : LW N w0 (wr.setCell ⟨gk, j, none⟩ (.int .i64 99)) d2 r s9 s9 ⟨q, q2, go, gk, cO, cK, n, m, kd, a, l, c, BA, Bc, KA, Kc⟩ := hL.set2 j (.int .i64 99)
            have HS1 := Lib.hid hs1
            clear cv fv hs1 hL
            go_wp2_with (fail)
            exact ⟨⟨j + 1, by omega, by go_num, HS1.out⟩, by simp [intOf]; omega⟩
          · have W4 := Lib.hid hL.done
            clear hL
            obtain rfl : m = j := by omega
            clear hj hlt L3 L4
            obtain ⟨up, hup⟩ : ∃ b, (!s9.down) = b := ⟨_, rfl⟩
            obtain ⟨mn, hmn⟩ : ∃ b, s9.many = b := ⟨_, rfl⟩
            obtain ⟨nn, hnn⟩ : ∃ b, s9.stays.length = b := ⟨_, rfl⟩
            obtain ⟨x, hx⟩ : ∃ b, waits3 s9 = b := ⟨_, rfl⟩
            have HXL : Hid (x.length ≤ 4096) := Lib.hid (by rw [← hx]; exact Nat.le_trans (waitsTo_length s9 _) W4.out.rl.ok.few)
            have HDN : Hid (s9.down = !up) := Lib.hid (by rw [← hup]; simp)
            have HUP := Lib.hid hup
            have HMN := Lib.hid hmn
            have HNN := Lib.hid hnn
            have HWX := Lib.hid hx
            clear hup hmn hnn hx
            go_wp2_with (fail)
            refine wp_region_steps_on (fun w' => WB N w0 w' d2 r s9 s9 ⟨fun _ => False⟩) (endR ([.pointer (some ⟨d2.b, 0, none⟩), .bool true, .bool true, .pointer (some ⟨d2.b, 0, none⟩), .bool up, .pointer (some ⟨r.b, 0, none⟩), .pointer (some ⟨r.b, 0, none⟩), .pointer (some ⟨r.b, 7, none⟩), .bool (!up), .bool up, .bool true, .bool true, .bool true, .pointer (some ⟨d2.b, 0, none⟩), .int .i64 mn, .pointer (some ⟨r.b, 0, none⟩), .pointer (some ⟨r.b, 0, none⟩), .pointer (some ⟨r.b, 6, none⟩), .int .i64 mn, .bool true, .bool true, .bool true, .pointer (some ⟨d2.b, 0, none⟩), undef, .pointer (some ⟨r.b, 0, none⟩), undef, .bool true, .bool true, .bool true, .pointer (some ⟨d2.b, 0, none⟩), .int .i64 (nn : Int), .pointer (some ⟨r.b, 0, none⟩), .pointer (some ⟨r.b, 0, none⟩), .pointer (some ⟨r.b, 0, none⟩), .slice (some ⟨r.gS, 0, none⟩) nn r.cS, .int .i64 (nn : Int), .bool true, .bool true, .pointer (some ⟨d2.b, 0, none⟩), .bool true] : List Value) x) (by kernel_rfl) 236 rfl (by kernel_rfl) W4.out.drew ?_ ?_
            · intro i hi
              have hi2 : i < 40 := hi
              clear hi
              rcases i with _ | i
              · refine step_value (.pointer (some ⟨d2.b, 0, none⟩)) rfl ?_
                intro a8 w8 hS ho hn
                have o0 : a8.tmps[0]? = some _ := (ho 0 (by kernel_rfl)).trans rfl
                clear ho hn
                refine ⟨wanted_free rfl, ?_, rfl⟩
                go_simp
              rcases i with _ | i
              · refine step_value (.bool true) rfl ?_
                intro a8 w8 hS ho hn
                have o12 : a8.tmps[12]? = some _ := (ho 12 (by kernel_rfl)).trans rfl
                clear ho hn
                refine ⟨wanted_free rfl, ?_, rfl⟩
                go_simp
              rcases i with _ | i
              · refine step_value (.bool true) rfl ?_
                intro a8 w8 hS ho hn
                obtain ⟨_, n199, rfl⟩ := hn 1 199 (by kernel_rfl) rfl
                clear ho hn
                refine ⟨wanted_free rfl, ?_, rfl⟩
                go_simp
              rcases i with _ | i
              · refine step_value (.pointer (some ⟨d2.b, 0, none⟩)) rfl ?_
                intro a8 w8 hS ho hn
                have o0 : a8.tmps[0]? = some _ := (ho 0 (by kernel_rfl)).trans rfl
                obtain ⟨_, n200, rfl⟩ := hn 2 200 (by kernel_rfl) rfl
                clear ho hn
                refine ⟨wanted_of 2 200 rfl rfl n200, ?_, rfl⟩
                go_simp
              rcases i with _ | i
              · refine step_call 24 #[.pointer (some ⟨d2.b, 0, none⟩)] rfl ?_
                intro a8 w8 hS ho hn
                obtain ⟨_, n201, rfl⟩ := hn 3 201 (by kernel_rfl) rfl
                obtain ⟨_, n200, rfl⟩ := hn 2 200 (by kernel_rfl) rfl
                clear ho hn
                refine ⟨wanted_of 2 200 rfl rfl n200, by go_simp, ?_⟩
                refine (hS.up HUP.out).mono ?_
                rintro e w9 ⟨rfl, rfl⟩
                exact ⟨_, rfl, hS, rfl, fun j u _ h => h⟩
              rcases i with _ | i
              · refine step_value (.pointer (some ⟨r.b, 0, none⟩)) rfl ?_
                intro a8 w8 hS ho hn
                have o1 : a8.tmps[1]? = some _ := (ho 1 (by kernel_rfl)).trans rfl
                obtain ⟨_, n200, rfl⟩ := hn 2 200 (by kernel_rfl) rfl
                clear ho hn
                refine ⟨wanted_of 2 200 rfl rfl n200, ?_, rfl⟩
                go_simp
              rcases i with _ | i
              · refine step_value (.pointer (some ⟨r.b, 0, none⟩)) rfl ?_
                intro a8 w8 hS ho hn
                obtain ⟨_, n203, rfl⟩ := hn 5 203 (by kernel_rfl) rfl
                obtain ⟨_, n200, rfl⟩ := hn 2 200 (by kernel_rfl) rfl
                clear ho hn
                refine ⟨wanted_of 2 200 rfl rfl n200, ?_, rfl⟩
                go_simp
              rcases i with _ | i
              · refine step_value (.pointer (some ⟨r.b, 7, none⟩)) rfl ?_
                intro a8 w8 hS ho hn
                obtain ⟨_, n204, rfl⟩ := hn 6 204 (by kernel_rfl) rfl
                obtain ⟨_, n200, rfl⟩ := hn 2 200 (by kernel_rfl) rfl
                clear ho hn
                refine ⟨wanted_of 2 200 rfl rfl n200, ?_, rfl⟩
                go_simp
              rcases i with _ | i
              · refine step_value (.bool (!up)) rfl ?_
                intro a8 w8 hS ho hn
                obtain ⟨_, n205, rfl⟩ := hn 7 205 (by kernel_rfl) rfl
                obtain ⟨_, n200, rfl⟩ := hn 2 200 (by kernel_rfl) rfl
                clear ho hn
                refine ⟨wanted_of 2 200 rfl rfl n200, ?_, rfl⟩
                obtain ⟨kv, hb⟩ := hS.rblk
                have c7 : w8.cell? ⟨r.b, 7, none⟩ = some (.bool s9.down) := hb.cell 7
                rw [HDN.out] at c7
                clear hb hS
                go_simp
              rcases i with _ | i
              · refine step_value (.bool up) rfl ?_
                intro a8 w8 hS ho hn
                obtain ⟨_, n206, rfl⟩ := hn 8 206 (by kernel_rfl) rfl
                obtain ⟨_, n200, rfl⟩ := hn 2 200 (by kernel_rfl) rfl
                clear ho hn
                refine ⟨wanted_of 2 200 rfl rfl n200, ?_, rfl⟩
                go_simp
              rcases i with _ | i
              · refine step_value (.bool true) rfl ?_
                intro a8 w8 hS ho hn
                obtain ⟨_, n202, rfl⟩ := hn 4 202 (by kernel_rfl) rfl
                obtain ⟨_, n207, rfl⟩ := hn 9 207 (by kernel_rfl) rfl
                obtain ⟨_, n200, rfl⟩ := hn 2 200 (by kernel_rfl) rfl
                clear ho hn
                refine ⟨wanted_of 2 200 rfl rfl n200, ?_, rfl⟩
                go_simp
              rcases i with _ | i
              · refine step_value (.bool true) rfl ?_
                intro a8 w8 hS ho hn
                obtain ⟨_, n200, rfl⟩ := hn 2 200 (by kernel_rfl) rfl
                obtain ⟨_, n208, rfl⟩ := hn 10 208 (by kernel_rfl) rfl
                clear ho hn
                refine ⟨wanted_free rfl, ?_, rfl⟩
                go_simp
              rcases i with _ | i
              · refine step_value (.bool true) rfl ?_
                intro a8 w8 hS ho hn
                obtain ⟨_, n209, rfl⟩ := hn 11 209 (by kernel_rfl) rfl
                clear ho hn
                refine ⟨wanted_free rfl, ?_, rfl⟩
                go_simp
              rcases i with _ | i
              · refine step_value (.pointer (some ⟨d2.b, 0, none⟩)) rfl ?_
                intro a8 w8 hS ho hn
                have o0 : a8.tmps[0]? = some _ := (ho 0 (by kernel_rfl)).trans rfl
                obtain ⟨_, n210, rfl⟩ := hn 12 210 (by kernel_rfl) rfl
                clear ho hn
                refine ⟨wanted_of 12 210 rfl rfl n210, ?_, rfl⟩
                go_simp
              rcases i with _ | i
              · refine step_call 25 #[.pointer (some ⟨d2.b, 0, none⟩)] rfl ?_
                intro a8 w8 hS ho hn
                obtain ⟨_, n211, rfl⟩ := hn 13 211 (by kernel_rfl) rfl
                obtain ⟨_, n210, rfl⟩ := hn 12 210 (by kernel_rfl) rfl
                clear ho hn
                refine ⟨wanted_of 12 210 rfl rfl n210, by go_simp, ?_⟩
                refine (hS.writes HMN.out).mono ?_
                rintro e w9 ⟨rfl, rfl⟩
                exact ⟨_, rfl, hS, rfl, fun j u _ h => h⟩
              rcases i with _ | i
              · refine step_value (.pointer (some ⟨r.b, 0, none⟩)) rfl ?_
                intro a8 w8 hS ho hn
                have o1 : a8.tmps[1]? = some _ := (ho 1 (by kernel_rfl)).trans rfl
                obtain ⟨_, n210, rfl⟩ := hn 12 210 (by kernel_rfl) rfl
                clear ho hn
                refine ⟨wanted_of 12 210 rfl rfl n210, ?_, rfl⟩
                go_simp
              rcases i with _ | i
              · refine step_value (.pointer (some ⟨r.b, 0, none⟩)) rfl ?_
                intro a8 w8 hS ho hn
                obtain ⟨_, n213, rfl⟩ := hn 15 213 (by kernel_rfl) rfl
                obtain ⟨_, n210, rfl⟩ := hn 12 210 (by kernel_rfl) rfl
                clear ho hn
                refine ⟨wanted_of 12 210 rfl rfl n210, ?_, rfl⟩
                go_simp
              rcases i with _ | i
              · refine step_value (.pointer (some ⟨r.b, 6, none⟩)) rfl ?_
                intro a8 w8 hS ho hn
                obtain ⟨_, n214, rfl⟩ := hn 16 214 (by kernel_rfl) rfl
                obtain ⟨_, n210, rfl⟩ := hn 12 210 (by kernel_rfl) rfl
                clear ho hn
                refine ⟨wanted_of 12 210 rfl rfl n210, ?_, rfl⟩
                go_simp
              rcases i with _ | i
              · refine step_value (.int .i64 mn) rfl ?_
                intro a8 w8 hS ho hn
                obtain ⟨_, n215, rfl⟩ := hn 17 215 (by kernel_rfl) rfl
                obtain ⟨_, n210, rfl⟩ := hn 12 210 (by kernel_rfl) rfl
                clear ho hn
                refine ⟨wanted_of 12 210 rfl rfl n210, ?_, rfl⟩
                obtain ⟨kv, hb⟩ := hS.rblk
                have c7 : w8.cell? ⟨r.b, 6, none⟩ = some (.int .i64 s9.many) := hb.cell 6
                rw [HMN.out] at c7
                clear hb hS
                go_simp
              rcases i with _ | i
              · refine step_value (.bool true) rfl ?_
                intro a8 w8 hS ho hn
                obtain ⟨_, n212, rfl⟩ := hn 14 212 (by kernel_rfl) rfl
                obtain ⟨_, n216, rfl⟩ := hn 18 216 (by kernel_rfl) rfl
                obtain ⟨_, n210, rfl⟩ := hn 12 210 (by kernel_rfl) rfl
                clear ho hn
                refine ⟨wanted_of 12 210 rfl rfl n210, ?_, rfl⟩
                go_simp
              rcases i with _ | i
              · refine step_value (.bool true) rfl ?_
                intro a8 w8 hS ho hn
                obtain ⟨_, n210, rfl⟩ := hn 12 210 (by kernel_rfl) rfl
                obtain ⟨_, n217, rfl⟩ := hn 19 217 (by kernel_rfl) rfl
                clear ho hn
                refine ⟨wanted_free rfl, ?_, rfl⟩
                go_simp
              rcases i with _ | i
              · refine step_value (.bool true) rfl ?_
                intro a8 w8 hS ho hn
                obtain ⟨_, n218, rfl⟩ := hn 20 218 (by kernel_rfl) rfl
                clear ho hn
                refine ⟨wanted_free rfl, ?_, rfl⟩
                go_simp
              rcases i with _ | i
              · refine step_value (.pointer (some ⟨d2.b, 0, none⟩)) rfl ?_
                intro a8 w8 hS ho hn
                have o0 : a8.tmps[0]? = some _ := (ho 0 (by kernel_rfl)).trans rfl
                obtain ⟨_, n219, rfl⟩ := hn 21 219 (by kernel_rfl) rfl
                clear ho hn
                refine ⟨wanted_of 21 219 rfl rfl n219, ?_, rfl⟩
                go_simp
              rcases i with _ | i
              · refine step_call 26 #[.pointer (some ⟨d2.b, 0, none⟩)] rfl ?_
                intro a8 w8 hS ho hn
                obtain ⟨_, n220, rfl⟩ := hn 22 220 (by kernel_rfl) rfl
                obtain ⟨_, n219, rfl⟩ := hn 21 219 (by kernel_rfl) rfl
                clear ho hn
                refine ⟨wanted_of 21 219 rfl rfl n219, by go_simp, ?_⟩
                refine (hS.waits HWX.out rfl).mono ?_
                rintro e w9 ⟨A5, c5, rfl, hr, hb⟩
                exact ⟨_, rfl, hS.next hb, ⟨A5, c5, rfl, hr⟩, fun j u _ hR => endR_keep hb hR⟩
              rcases i with _ | i
              · refine step_value (.pointer (some ⟨r.b, 0, none⟩)) rfl ?_
                intro a8 w8 hS ho hn
                have o1 : a8.tmps[1]? = some _ := (ho 1 (by kernel_rfl)).trans rfl
                obtain ⟨_, n219, rfl⟩ := hn 21 219 (by kernel_rfl) rfl
                clear ho hn
                refine ⟨wanted_of 21 219 rfl rfl n219, ?_, rfl⟩
                go_simp
              rcases i with _ | i
              · refine step_call 27 #[.pointer (some ⟨r.b, 0, none⟩)] rfl ?_
                intro a8 w8 hS ho hn
                obtain ⟨_, n222, rfl⟩ := hn 24 222 (by kernel_rfl) rfl
                obtain ⟨_, n219, rfl⟩ := hn 21 219 (by kernel_rfl) rfl
                clear ho hn
                refine ⟨wanted_of 21 219 rfl rfl n219, by go_simp, ?_⟩
                refine (hS.rwaits HWX.out rfl).mono ?_
                rintro e w9 ⟨A5, c5, rfl, hr, hb⟩
                exact ⟨_, rfl, hS.next hb, ⟨A5, c5, rfl, hr⟩, fun j u _ hR => endR_keep hb hR⟩
              rcases i with _ | i
              · refine step_call_ex 23 rfl ?_
                intro a8 w8 hS ho hn
                obtain ⟨_, n221, hR221⟩ := hn 23 221 (by kernel_rfl) rfl
                obtain ⟨_, n223, hR223⟩ := hn 25 223 (by kernel_rfl) rfl
                obtain ⟨_, n219, rfl⟩ := hn 21 219 (by kernel_rfl) rfl
                clear ho hn
                obtain ⟨A5, c5, rfl, hr5⟩ := hR221
                obtain ⟨A6, c6, rfl, hr6⟩ := hR223
                refine ⟨wanted_of 21 219 rfl rfl n219, #[.slice A5 x.length c5, .slice A6 x.length c6], by go_simp, ?_⟩
                have h := ints_any A5 A6 c5 c6 x.length x.length x x w8 rfl rfl hr5 hr6 (by have := HXL.out; omega) (by have := HXL.out; omega)
                rw [decide_eq_true rfl] at h
                refine h.mono ?_
                rintro e w9 ⟨rfl, hb⟩
                exact ⟨_, rfl, hS.next hb, rfl, fun j u _ hR => endR_keep hb hR⟩
              rcases i with _ | i
              · refine step_value (.bool true) rfl ?_
                intro a8 w8 hS ho hn
                obtain ⟨_, n219, rfl⟩ := hn 21 219 (by kernel_rfl) rfl
                obtain ⟨_, n224, rfl⟩ := hn 26 224 (by kernel_rfl) rfl
                clear ho hn
                refine ⟨wanted_free rfl, ?_, rfl⟩
                go_simp
              rcases i with _ | i
              · refine step_value (.bool true) rfl ?_
                intro a8 w8 hS ho hn
                obtain ⟨_, n225, rfl⟩ := hn 27 225 (by kernel_rfl) rfl
                clear ho hn
                refine ⟨wanted_free rfl, ?_, rfl⟩
                go_simp
              rcases i with _ | i
              · refine step_value (.pointer (some ⟨d2.b, 0, none⟩)) rfl ?_
                intro a8 w8 hS ho hn
                have o0 : a8.tmps[0]? = some _ := (ho 0 (by kernel_rfl)).trans rfl
                obtain ⟨_, n226, rfl⟩ := hn 28 226 (by kernel_rfl) rfl
                clear ho hn
                refine ⟨wanted_of 28 226 rfl rfl n226, ?_, rfl⟩
                go_simp
              rcases i with _ | i
              · refine step_call 28 #[.pointer (some ⟨d2.b, 0, none⟩)] rfl ?_
                intro a8 w8 hS ho hn
                obtain ⟨_, n227, rfl⟩ := hn 29 227 (by kernel_rfl) rfl
                obtain ⟨_, n226, rfl⟩ := hn 28 226 (by kernel_rfl) rfl
                clear ho hn
                refine ⟨wanted_of 28 226 rfl rfl n226, by go_simp, ?_⟩
                refine (hS.size HNN.out).mono ?_
                rintro e w9 ⟨rfl, rfl⟩
                exact ⟨_, rfl, hS, rfl, fun j u _ h => h⟩
              rcases i with _ | i
              · refine step_value (.pointer (some ⟨r.b, 0, none⟩)) rfl ?_
                intro a8 w8 hS ho hn
                have o1 : a8.tmps[1]? = some _ := (ho 1 (by kernel_rfl)).trans rfl
                obtain ⟨_, n226, rfl⟩ := hn 28 226 (by kernel_rfl) rfl
                clear ho hn
                refine ⟨wanted_of 28 226 rfl rfl n226, ?_, rfl⟩
                go_simp
              rcases i with _ | i
              · refine step_value (.pointer (some ⟨r.b, 0, none⟩)) rfl ?_
                intro a8 w8 hS ho hn
                obtain ⟨_, n229, rfl⟩ := hn 31 229 (by kernel_rfl) rfl
                obtain ⟨_, n226, rfl⟩ := hn 28 226 (by kernel_rfl) rfl
                clear ho hn
                refine ⟨wanted_of 28 226 rfl rfl n226, ?_, rfl⟩
                go_simp
              rcases i with _ | i
              · refine step_value (.pointer (some ⟨r.b, 0, none⟩)) rfl ?_
                intro a8 w8 hS ho hn
                obtain ⟨_, n230, rfl⟩ := hn 32 230 (by kernel_rfl) rfl
                obtain ⟨_, n226, rfl⟩ := hn 28 226 (by kernel_rfl) rfl
                clear ho hn
                refine ⟨wanted_of 28 226 rfl rfl n226, ?_, rfl⟩
                go_simp
              rcases i with _ | i
              · refine step_value (.slice (some ⟨r.gS, 0, none⟩) nn r.cS) rfl ?_
                intro a8 w8 hS ho hn
                obtain ⟨_, n231, rfl⟩ := hn 33 231 (by kernel_rfl) rfl
                obtain ⟨_, n226, rfl⟩ := hn 28 226 (by kernel_rfl) rfl
                clear ho hn
                refine ⟨wanted_of 28 226 rfl rfl n226, ?_, rfl⟩
                obtain ⟨kv, hb⟩ := hS.rblk
                have c7 : w8.cell? ⟨r.b, 0, none⟩ = some (.slice (some ⟨r.gS, 0, none⟩) s9.stays.length r.cS) := hb.cell 0
                rw [HNN.out] at c7
                clear hb hS
                go_simp
              rcases i with _ | i
              · refine step_value (.int .i64 (nn : Int)) rfl ?_
                intro a8 w8 hS ho hn
                obtain ⟨_, n232, rfl⟩ := hn 34 232 (by kernel_rfl) rfl
                obtain ⟨_, n226, rfl⟩ := hn 28 226 (by kernel_rfl) rfl
                clear ho hn
                refine ⟨wanted_of 28 226 rfl rfl n226, ?_, rfl⟩
                go_simp
              rcases i with _ | i
              · refine step_value (.bool true) rfl ?_
                intro a8 w8 hS ho hn
                obtain ⟨_, n228, rfl⟩ := hn 30 228 (by kernel_rfl) rfl
                obtain ⟨_, n233, rfl⟩ := hn 35 233 (by kernel_rfl) rfl
                obtain ⟨_, n226, rfl⟩ := hn 28 226 (by kernel_rfl) rfl
                clear ho hn
                refine ⟨wanted_of 28 226 rfl rfl n226, ?_, rfl⟩
                go_simp
              rcases i with _ | i
              · refine step_value (.bool true) rfl ?_
                intro a8 w8 hS ho hn
                obtain ⟨_, n226, rfl⟩ := hn 28 226 (by kernel_rfl) rfl
                obtain ⟨_, n234, rfl⟩ := hn 36 234 (by kernel_rfl) rfl
                clear ho hn
                refine ⟨wanted_free rfl, ?_, rfl⟩
                go_simp
              rcases i with _ | i
              · refine step_value (.pointer (some ⟨d2.b, 0, none⟩)) rfl ?_
                intro a8 w8 hS ho hn
                obtain ⟨_, n198, rfl⟩ := hn 0 198 (by kernel_rfl) rfl
                clear ho hn
                refine ⟨wanted_free rfl, ?_, rfl⟩
                go_simp
              rcases i with _ | i
              · refine step_value (.bool true) rfl ?_
                intro a8 w8 hS ho hn
                obtain ⟨_, n235, rfl⟩ := hn 37 235 (by kernel_rfl) rfl
                clear ho hn
                refine ⟨wanted_free rfl, ?_, rfl⟩
                go_simp
              omega
            · intro fv w9 hS hR
              have h6 : fv 6 = _ := hR 38 6 rfl
              have h7 : fv 7 = _ := hR 39 7 rfl
              simp only [putAll, List.foldl_cons, List.foldl_nil, Act.put, List.setIfInBounds_toArray, List.set_cons_succ, List.set_cons_zero, h6, h7]
              have W9 := Lib.hid hS
              clear hR h6 h7 hS
              go_wp2_with (fail)
              go_ret2
              exact ⟨d2, rfl, W9.out⟩
end Go.Proofs.Ytkebbjodkhjbmaa

/-
  The statement RootPlays: one operation of both disks.
-/
import Derived.Test.YtkebbjodkhjbmaaGreatRtPlayD
namespace Go.Proofs.YtkebbjodkhjbmaaGreat.root
open Go.RowKit Go.Proofs.YtkebbjodkhjbmaaGreat.crc

set_option maxRecDepth 100000 in
set_option maxHeartbeats 8000000 in
theorem do6_any {N : Nat} {w0 w : World} {d : DAt} {r : RAt} {s : RSt} (h : WB N w0 w d r s s Z0) (kd : Int) (rn : Nat) (rl : Int) (rs : Nat) (a : Int) (l : List UInt8) (c : DCrash) (hf : (⟨rn, rl, rs⟩ : RV).Fine) (ha : i64ok a) (hc : c.Fine) (BA : Option Addr) (Bc : Nat) (KA : Option Addr) (Kc n m : Nat) (hn : l.length = n) (hm : c.keep.length = m) (less : m ≤ 20)
    (bs : Sl w N BA Bc (l.map bv)) (ks : Sl w N KA Kc (c.keep.map iv)) (hmany : s.many < 9223372036854775807) :
    Calls Tryz.prog 13 #[.pointer (some ⟨d.b, 0, none⟩), .pointer (some ⟨r.b, 0, none⟩), .agg #[.int .i64 kd, .int .u64 (rn : Int), .int .i64 rl, .int .u32 (rs : Int), .int .i64 a, .slice BA n Bc, .int .i64 c.write, .slice KA m Kc, .int .i64 c.torn, .int .i64 c.at_]] w fun e w' =>
    e = .returned (.bool true) ∧ WB N w0 w' d r (do6 s kd ⟨rn, rl, rs⟩ a l c) (do6 s kd ⟨rn, rl, rs⟩ a l c) Z0 := by
  obtain ⟨s9, hs9⟩ : ∃ s9, do6 s kd ⟨rn, rl, rs⟩ a l c = s9 := ⟨_, rfl⟩
  rw [hs9]
  have HS9 := Lib.hid hs9
  have HMO := Lib.hid h.pl.more
  clear hs9
  obtain ⟨w1, hw1⟩ : ∃ w1, w.alloc (.cells #[.int .i64 kd, .int .u64 (rn : Int), .int .i64 rl, .int .u32 (rs : Int), .int .i64 a, .slice BA n Bc, .int .i64 c.write, .slice KA m Kc, .int .i64 c.torn, .int .i64 c.at_] 41) = w1 := ⟨_, rfl⟩
  have hbx : Blk w1 w.heap.size 41 #[.int .i64 kd, .int .u64 (rn : Int), .int .i64 rl, .int .u32 (rs : Int), .int .i64 a, .slice BA n Bc, .int .i64 c.write, .slice KA m Kc, .int .i64 c.torn, .int .i64 c.at_] := by rw [← hw1]; exact Blk.new _ _ _
  have hb1 : Below w.heap.size w w1 := by rw [← hw1]; exact (Below.refl _ _).alloc (Nat.le_refl _) _
  obtain ⟨q, hq⟩ : ∃ q, w.heap.size = q := ⟨_, rfl⟩
  have T1 : Hid (D6 N w0 w1 d r s s ⟨q, kd, ⟨rn, rl, rs⟩, a, l, n, c, m, BA, Bc, KA, Kc⟩) := Lib.hid ⟨h.next hb1, by rw [← hq]; exact hbx, fun e => by have e1 : q < w.heap.size := (h.pl.foot _ e).1; omega, fun e => by have e1 : q < w.heap.size := (h.rl.foot _ e).2.2; omega, hn, hm, less, ha, hc, hf, bs.below (hb1.mono h.le), ks.below (hb1.mono h.le)⟩
  have HW1 := Lib.hid hw1
  have HQ := Lib.hid hq
  have x0 := T1.out.bx.cell 0
  clear h hbx hb1 hn hm hf ha hc bs ks hw1 less hq
  go_enter Tryz.func13, Tryz.ntmps13
  go_upto_region 1 with (fail)
  rw [HW1.out, HQ.out]
  clear HW1 HQ
  by_cases k0 : kd = 0
  · subst k0
    have hs : saveS s ⟨rn, rl, rs⟩ = s9 := HS9.out
    obtain ⟨er, he⟩ : ∃ x, saveE s ⟨rn, rl, rs⟩ = x := ⟨_, rfl⟩
    have HP : Hid (∀ W t, D6 N w0 W d r s t ⟨q, 0, ⟨rn, rl, rs⟩, a, l, n, c, m, BA, Bc, KA, Kc⟩ → Calls Tryz.prog 72 #[.pointer (some ⟨d.b, 0, none⟩), .agg #[.int .u64 (rn : Int), .int .i64 rl, .int .u32 (rs : Int)]] W fun e w' => e = .returned (.int .i64 er) ∧ D6 N w0 w' d r s9 t ⟨q, 0, ⟨rn, rl, rs⟩, a, l, n, c, m, BA, Bc, KA, Kc⟩) := Lib.hid (fun W t L => L.save hmany he hs)
    have HG : Hid (∀ W t, D6 N w0 W d r t s ⟨q, 0, ⟨rn, rl, rs⟩, a, l, n, c, m, BA, Bc, KA, Kc⟩ → Calls Tryz.prog 73 #[.pointer (some ⟨r.b, 0, none⟩), .agg #[.int .u64 (rn : Int), .int .i64 rl, .int .u32 (rs : Int)]] W fun e w' => e = .returned (.int .i64 er) ∧ D6 N w0 w' d r t s9 ⟨q, 0, ⟨rn, rl, rs⟩, a, l, n, c, m, BA, Bc, KA, Kc⟩) := Lib.hid (fun W t L => L.rsave hmany HMO.out he hs)
    clear hs he
    go_wp2_with (fail)
    refine wp_region_done_on (fun dn W => D6 N w0 W d r (if dn 3 = true then s9 else s) (if dn 7 = true then s9 else s) ⟨q, 0, ⟨rn, rl, rs⟩, a, l, n, c, m, BA, Bc, KA, Kc⟩) (fun _ i v _ => v = ([.pointer (some ⟨d.b, 0, none⟩), .pointer (some ⟨q, 1, none⟩), .agg #[.int .u64 (rn : Int), .int .i64 rl, .int .u32 (rs : Int)], .int .i64 er, .pointer (some ⟨r.b, 0, none⟩), .pointer (some ⟨q, 1, none⟩), .agg #[.int .u64 (rn : Int), .int .i64 rl, .int .u32 (rs : Int)], .int .i64 er, .bool true, .bool true] : List Value).getD i undef) (by kernel_rfl) 94 rfl (by kernel_rfl) (T1.out.next (Below.refl _ _).drew) ?_ ?_
    · intro i hi
      have hi2 : i < 10 := hi
      clear hi
      rcases i with _ | i
      · refine done_value (fun _ _ h => h) (fun _ _ _ _ h => h) (.pointer (some ⟨d.b, 0, none⟩)) rfl ?_
        intro dn a8 w8 hS ho hn
        have o0 : a8.tmps[0]? = some _ := (ho 0 (by kernel_rfl)).trans rfl
        clear ho hn
        refine ⟨wanted_free rfl, ?_, rfl⟩
        go_simp
      rcases i with _ | i
      · refine done_value (fun _ _ h => h) (fun _ _ _ _ h => h) (.pointer (some ⟨q, 1, none⟩)) rfl ?_
        intro dn a8 w8 hS ho hn
        have o5 : a8.tmps[5]? = some _ := (ho 5 (by kernel_rfl)).trans rfl
        clear ho hn
        refine ⟨wanted_free rfl, ?_, rfl⟩
        go_simp
      rcases i with _ | i
      · refine done_value (fun _ _ h => h) (fun _ _ _ _ h => h) (.agg #[.int .u64 (rn : Int), .int .i64 rl, .int .u32 (rs : Int)]) rfl ?_
        intro dn a8 w8 hS ho hn
        obtain ⟨_, n12, rfl⟩ := hn 1 12 (by kernel_rfl) rfl
        clear ho hn
        refine ⟨wanted_free rfl, ?_, rfl⟩
        have c1 : w8.cell? ⟨q, 1, none⟩ = some (.int .u64 (rn : Int)) := hS.bx.cell 1
        have c2 : w8.cell? ⟨q, 2, none⟩ = some (.int .i64 rl) := hS.bx.cell 2
        have c3 : w8.cell? ⟨q, 3, none⟩ = some (.int .u32 (rs : Int)) := hS.bx.cell 3
        clear hS
        go_simp
      rcases i with _ | i
      · refine done_call 72 #[.pointer (some ⟨d.b, 0, none⟩), .agg #[.int .u64 (rn : Int), .int .i64 rl, .int .u32 (rs : Int)]] rfl ?_
        intro dn a8 w8 hS hd hx ho hn
        obtain ⟨_, n11, rfl⟩ := hn 0 11 (by kernel_rfl) rfl
        obtain ⟨_, n13, rfl⟩ := hn 2 13 (by kernel_rfl) rfl
        clear ho hn
        refine ⟨wanted_free rfl, by go_simp, ?_⟩
        have h4 : dn 3 = false := hd
        rw [h4] at hS
        refine (HP.out w8 _ hS).mono ?_
        rintro e w9 ⟨rfl, hl⟩
        exact ⟨_, rfl, hl, rfl, fun j u _ _ h => h⟩
      rcases i with _ | i
      · refine done_value (fun _ _ h => h) (fun _ _ _ _ h => h) (.pointer (some ⟨r.b, 0, none⟩)) rfl ?_
        intro dn a8 w8 hS ho hn
        have o1 : a8.tmps[1]? = some _ := (ho 1 (by kernel_rfl)).trans rfl
        clear ho hn
        refine ⟨wanted_free rfl, ?_, rfl⟩
        go_simp
      rcases i with _ | i
      · refine done_value (fun _ _ h => h) (fun _ _ _ _ h => h) (.pointer (some ⟨q, 1, none⟩)) rfl ?_
        intro dn a8 w8 hS ho hn
        have o5 : a8.tmps[5]? = some _ := (ho 5 (by kernel_rfl)).trans rfl
        clear ho hn
        refine ⟨wanted_free rfl, ?_, rfl⟩
        go_simp
      rcases i with _ | i
      · refine done_value (fun _ _ h => h) (fun _ _ _ _ h => h) (.agg #[.int .u64 (rn : Int), .int .i64 rl, .int .u32 (rs : Int)]) rfl ?_
        intro dn a8 w8 hS ho hn
        obtain ⟨_, n16, rfl⟩ := hn 5 16 (by kernel_rfl) rfl
        clear ho hn
        refine ⟨wanted_free rfl, ?_, rfl⟩
        have c1 : w8.cell? ⟨q, 1, none⟩ = some (.int .u64 (rn : Int)) := hS.bx.cell 1
        have c2 : w8.cell? ⟨q, 2, none⟩ = some (.int .i64 rl) := hS.bx.cell 2
        have c3 : w8.cell? ⟨q, 3, none⟩ = some (.int .u32 (rs : Int)) := hS.bx.cell 3
        clear hS
        go_simp
      rcases i with _ | i
      · refine done_call 73 #[.pointer (some ⟨r.b, 0, none⟩), .agg #[.int .u64 (rn : Int), .int .i64 rl, .int .u32 (rs : Int)]] rfl ?_
        intro dn a8 w8 hS hd hx ho hn
        obtain ⟨_, n15, rfl⟩ := hn 4 15 (by kernel_rfl) rfl
        obtain ⟨_, n17, rfl⟩ := hn 6 17 (by kernel_rfl) rfl
        clear ho hn
        refine ⟨wanted_free rfl, by go_simp, ?_⟩
        have h4 : dn 7 = false := hd
        rw [h4] at hS
        refine (HG.out w8 _ hS).mono ?_
        rintro e w9 ⟨rfl, hl⟩
        exact ⟨_, rfl, hl, rfl, fun j u _ _ h => h⟩
      rcases i with _ | i
      · refine done_value (fun _ _ h => h) (fun _ _ _ _ h => h) (.bool true) rfl ?_
        intro dn a8 w8 hS ho hn
        obtain ⟨_, n14, rfl⟩ := hn 3 14 (by kernel_rfl) rfl
        obtain ⟨_, n18, rfl⟩ := hn 7 18 (by kernel_rfl) rfl
        clear ho hn
        refine ⟨wanted_free rfl, ?_, rfl⟩
        go_simp
      rcases i with _ | i
      · refine done_value (fun _ _ h => h) (fun _ _ _ _ h => h) (.bool true) rfl ?_
        intro dn a8 w8 hS ho hn
        obtain ⟨_, n19, rfl⟩ := hn 8 19 (by kernel_rfl) rfl
        clear ho hn
        refine ⟨wanted_free rfl, ?_, rfl⟩
        go_simp
      omega
    · intro dn5 fv w9 hS hR hall
      have h8 : fv 6 = _ := hR 9 6 rfl
      have hS2 : D6 N w0 w9 d r s9 s9 ⟨q, 0, ⟨rn, rl, rs⟩, a, l, n, c, m, BA, Bc, KA, Kc⟩ := by
        have h : D6 N w0 w9 d r (if dn5 3 = true then s9 else s) (if dn5 7 = true then s9 else s) ⟨q, 0, ⟨rn, rl, rs⟩, a, l, n, c, m, BA, Bc, KA, Kc⟩ := hS
        rwa [hall 3 (by decide), hall 7 (by decide), if_pos rfl] at h
      have T9 := Lib.hid hS2
      simp only [putAll, List.foldl_cons, List.foldl_nil, Act.put, List.setIfInBounds_toArray, List.set_cons_succ, List.set_cons_zero, h8, List.getD_cons_zero, List.getD_cons_succ]
      clear hR h8 hS hall hS2
      go_wp2_with (fail)
      go_ret
      exact ⟨rfl, T9.out.wb⟩
  · skip
    by_cases k1 : kd = 1
    · subst k1
      have hs : s = s9 := HS9.out
      subst hs
      go_wp2_with (go_at_call 15; (with_reducible refine (loads_any T1.out.wb).mono ?_); rintro e w2 ⟨rfl, h2, b2⟩; have T2 := Lib.hid h2; clear h2 b2)
      go_ret
      exact ⟨rfl, T2.out⟩
    · skip
      by_cases k2 : kd = 2
      · subst k2
        have hs : downK s c = s9 := HS9.out
        obtain ⟨er, he⟩ : ∃ x, (if s.down then (31 : Int) else 0) = x := ⟨_, rfl⟩
        have HP : Hid (∀ W t, D6 N w0 W d r s t ⟨q, 2, ⟨rn, rl, rs⟩, a, l, n, c, m, BA, Bc, KA, Kc⟩ → Calls Tryz.prog 74 #[.pointer (some ⟨d.b, 0, none⟩), .agg #[.int .i64 c.write, .slice KA m Kc, .int .i64 c.torn, .int .i64 c.at_]] W fun e w' => e = .returned (.int .i64 er) ∧ D6 N w0 w' d r s9 t ⟨q, 2, ⟨rn, rl, rs⟩, a, l, n, c, m, BA, Bc, KA, Kc⟩) := Lib.hid (fun W t L => L.down he hs)
        have HG : Hid (∀ W t, D6 N w0 W d r t s ⟨q, 2, ⟨rn, rl, rs⟩, a, l, n, c, m, BA, Bc, KA, Kc⟩ → Calls Tryz.prog 75 #[.pointer (some ⟨r.b, 0, none⟩), .agg #[.int .i64 c.write, .slice KA m Kc, .int .i64 c.torn, .int .i64 c.at_]] W fun e w' => e = .returned (.int .i64 er) ∧ D6 N w0 w' d r t s9 ⟨q, 2, ⟨rn, rl, rs⟩, a, l, n, c, m, BA, Bc, KA, Kc⟩) := Lib.hid (fun W t L => L.rdown he hs)
        clear hs he
        go_wp2_with (fail)
        refine wp_region_done_on (fun dn W => D6 N w0 W d r (if dn 3 = true then s9 else s) (if dn 7 = true then s9 else s) ⟨q, 2, ⟨rn, rl, rs⟩, a, l, n, c, m, BA, Bc, KA, Kc⟩) (fun _ i v _ => v = ([.pointer (some ⟨d.b, 0, none⟩), .pointer (some ⟨q, 6, none⟩), .agg #[.int .i64 c.write, .slice KA m Kc, .int .i64 c.torn, .int .i64 c.at_], .int .i64 er, .pointer (some ⟨r.b, 0, none⟩), .pointer (some ⟨q, 6, none⟩), .agg #[.int .i64 c.write, .slice KA m Kc, .int .i64 c.torn, .int .i64 c.at_], .int .i64 er, .bool true, .bool true] : List Value).getD i undef) (by kernel_rfl) 94 rfl (by kernel_rfl) (T1.out.next (Below.refl _ _).drew) ?_ ?_
        · intro i hi
          have hi2 : i < 10 := hi
          clear hi
          rcases i with _ | i
          · refine done_value (fun _ _ h => h) (fun _ _ _ _ h => h) (.pointer (some ⟨d.b, 0, none⟩)) rfl ?_
            intro dn a8 w8 hS ho hn
            have o0 : a8.tmps[0]? = some _ := (ho 0 (by kernel_rfl)).trans rfl
            clear ho hn
            refine ⟨wanted_free rfl, ?_, rfl⟩
            go_simp
          rcases i with _ | i
          · refine done_value (fun _ _ h => h) (fun _ _ _ _ h => h) (.pointer (some ⟨q, 6, none⟩)) rfl ?_
            intro dn a8 w8 hS ho hn
            have o5 : a8.tmps[5]? = some _ := (ho 5 (by kernel_rfl)).trans rfl
            clear ho hn
            refine ⟨wanted_free rfl, ?_, rfl⟩
            go_simp
          rcases i with _ | i
          · refine done_value (fun _ _ h => h) (fun _ _ _ _ h => h) (.agg #[.int .i64 c.write, .slice KA m Kc, .int .i64 c.torn, .int .i64 c.at_]) rfl ?_
            intro dn a8 w8 hS ho hn
            obtain ⟨_, n28, rfl⟩ := hn 1 28 (by kernel_rfl) rfl
            clear ho hn
            refine ⟨wanted_free rfl, ?_, rfl⟩
            have c1 : w8.cell? ⟨q, 6, none⟩ = some (.int .i64 c.write) := hS.bx.cell 6
            have c2 : w8.cell? ⟨q, 7, none⟩ = some (.slice KA m Kc) := hS.bx.cell 7
            have c3 : w8.cell? ⟨q, 8, none⟩ = some (.int .i64 c.torn) := hS.bx.cell 8
            have c4 : w8.cell? ⟨q, 9, none⟩ = some (.int .i64 c.at_) := hS.bx.cell 9
            clear hS
            go_simp
          rcases i with _ | i
          · refine done_call 74 #[.pointer (some ⟨d.b, 0, none⟩), .agg #[.int .i64 c.write, .slice KA m Kc, .int .i64 c.torn, .int .i64 c.at_]] rfl ?_
            intro dn a8 w8 hS hd hx ho hn
            obtain ⟨_, n27, rfl⟩ := hn 0 27 (by kernel_rfl) rfl
            obtain ⟨_, n29, rfl⟩ := hn 2 29 (by kernel_rfl) rfl
            clear ho hn
            refine ⟨wanted_free rfl, by go_simp, ?_⟩
            have h4 : dn 3 = false := hd
            rw [h4] at hS
            refine (HP.out w8 _ hS).mono ?_
            rintro e w9 ⟨rfl, hl⟩
            exact ⟨_, rfl, hl, rfl, fun j u _ _ h => h⟩
          rcases i with _ | i
          · refine done_value (fun _ _ h => h) (fun _ _ _ _ h => h) (.pointer (some ⟨r.b, 0, none⟩)) rfl ?_
            intro dn a8 w8 hS ho hn
            have o1 : a8.tmps[1]? = some _ := (ho 1 (by kernel_rfl)).trans rfl
            clear ho hn
            refine ⟨wanted_free rfl, ?_, rfl⟩
            go_simp
          rcases i with _ | i
          · refine done_value (fun _ _ h => h) (fun _ _ _ _ h => h) (.pointer (some ⟨q, 6, none⟩)) rfl ?_
            intro dn a8 w8 hS ho hn
            have o5 : a8.tmps[5]? = some _ := (ho 5 (by kernel_rfl)).trans rfl
            clear ho hn
            refine ⟨wanted_free rfl, ?_, rfl⟩
            go_simp
          rcases i with _ | i
          · refine done_value (fun _ _ h => h) (fun _ _ _ _ h => h) (.agg #[.int .i64 c.write, .slice KA m Kc, .int .i64 c.torn, .int .i64 c.at_]) rfl ?_
            intro dn a8 w8 hS ho hn
            obtain ⟨_, n32, rfl⟩ := hn 5 32 (by kernel_rfl) rfl
            clear ho hn
            refine ⟨wanted_free rfl, ?_, rfl⟩
            have c1 : w8.cell? ⟨q, 6, none⟩ = some (.int .i64 c.write) := hS.bx.cell 6
            have c2 : w8.cell? ⟨q, 7, none⟩ = some (.slice KA m Kc) := hS.bx.cell 7
            have c3 : w8.cell? ⟨q, 8, none⟩ = some (.int .i64 c.torn) := hS.bx.cell 8
            have c4 : w8.cell? ⟨q, 9, none⟩ = some (.int .i64 c.at_) := hS.bx.cell 9
            clear hS
            go_simp
          rcases i with _ | i
          · refine done_call 75 #[.pointer (some ⟨r.b, 0, none⟩), .agg #[.int .i64 c.write, .slice KA m Kc, .int .i64 c.torn, .int .i64 c.at_]] rfl ?_
            intro dn a8 w8 hS hd hx ho hn
            obtain ⟨_, n31, rfl⟩ := hn 4 31 (by kernel_rfl) rfl
            obtain ⟨_, n33, rfl⟩ := hn 6 33 (by kernel_rfl) rfl
            clear ho hn
            refine ⟨wanted_free rfl, by go_simp, ?_⟩
            have h4 : dn 7 = false := hd
            rw [h4] at hS
            refine (HG.out w8 _ hS).mono ?_
            rintro e w9 ⟨rfl, hl⟩
            exact ⟨_, rfl, hl, rfl, fun j u _ _ h => h⟩
          rcases i with _ | i
          · refine done_value (fun _ _ h => h) (fun _ _ _ _ h => h) (.bool true) rfl ?_
            intro dn a8 w8 hS ho hn
            obtain ⟨_, n30, rfl⟩ := hn 3 30 (by kernel_rfl) rfl
            obtain ⟨_, n34, rfl⟩ := hn 7 34 (by kernel_rfl) rfl
            clear ho hn
            refine ⟨wanted_free rfl, ?_, rfl⟩
            go_simp
          rcases i with _ | i
          · refine done_value (fun _ _ h => h) (fun _ _ _ _ h => h) (.bool true) rfl ?_
            intro dn a8 w8 hS ho hn
            obtain ⟨_, n35, rfl⟩ := hn 8 35 (by kernel_rfl) rfl
            clear ho hn
            refine ⟨wanted_free rfl, ?_, rfl⟩
            go_simp
          omega
        · intro dn5 fv w9 hS hR hall
          have h8 : fv 6 = _ := hR 9 6 rfl
          have hS2 : D6 N w0 w9 d r s9 s9 ⟨q, 2, ⟨rn, rl, rs⟩, a, l, n, c, m, BA, Bc, KA, Kc⟩ := by
            have h : D6 N w0 w9 d r (if dn5 3 = true then s9 else s) (if dn5 7 = true then s9 else s) ⟨q, 2, ⟨rn, rl, rs⟩, a, l, n, c, m, BA, Bc, KA, Kc⟩ := hS
            rwa [hall 3 (by decide), hall 7 (by decide), if_pos rfl] at h
          have T9 := Lib.hid hS2
          simp only [putAll, List.foldl_cons, List.foldl_nil, Act.put, List.setIfInBounds_toArray, List.set_cons_succ, List.set_cons_zero, h8, List.getD_cons_zero, List.getD_cons_succ]
          clear hR h8 hS hall hS2
          go_wp2_with (fail)
          go_ret
          exact ⟨rfl, T9.out.wb⟩
      · skip
        by_cases k3 : kd = 3
        · subst k3
          have hs : armSt3 s c = s9 := HS9.out
          obtain ⟨er, he⟩ : ∃ x, armErr3 c = x := ⟨_, rfl⟩
          have HP : Hid (∀ W t, D6 N w0 W d r s t ⟨q, 3, ⟨rn, rl, rs⟩, a, l, n, c, m, BA, Bc, KA, Kc⟩ → Calls Tryz.prog 67 #[.pointer (some ⟨d.b, 0, none⟩), .agg #[.int .i64 c.write, .slice KA m Kc, .int .i64 c.torn, .int .i64 c.at_]] W fun e w' => e = .returned (.int .i64 er) ∧ D6 N w0 w' d r s9 t ⟨q, 3, ⟨rn, rl, rs⟩, a, l, n, c, m, BA, Bc, KA, Kc⟩) := Lib.hid (fun W t L => L.arm he hs)
          have HG : Hid (∀ W t, D6 N w0 W d r t s ⟨q, 3, ⟨rn, rl, rs⟩, a, l, n, c, m, BA, Bc, KA, Kc⟩ → Calls Tryz.prog 76 #[.pointer (some ⟨r.b, 0, none⟩), .agg #[.int .i64 c.write, .slice KA m Kc, .int .i64 c.torn, .int .i64 c.at_]] W fun e w' => e = .returned (.int .i64 er) ∧ D6 N w0 w' d r t s9 ⟨q, 3, ⟨rn, rl, rs⟩, a, l, n, c, m, BA, Bc, KA, Kc⟩) := Lib.hid (fun W t L => L.rarm he hs)
          clear hs he
          go_wp2_with (fail)
          refine wp_region_done_on (fun dn W => D6 N w0 W d r (if dn 3 = true then s9 else s) (if dn 7 = true then s9 else s) ⟨q, 3, ⟨rn, rl, rs⟩, a, l, n, c, m, BA, Bc, KA, Kc⟩) (fun _ i v _ => v = ([.pointer (some ⟨d.b, 0, none⟩), .pointer (some ⟨q, 6, none⟩), .agg #[.int .i64 c.write, .slice KA m Kc, .int .i64 c.torn, .int .i64 c.at_], .int .i64 er, .pointer (some ⟨r.b, 0, none⟩), .pointer (some ⟨q, 6, none⟩), .agg #[.int .i64 c.write, .slice KA m Kc, .int .i64 c.torn, .int .i64 c.at_], .int .i64 er, .bool true, .bool true] : List Value).getD i undef) (by kernel_rfl) 94 rfl (by kernel_rfl) (T1.out.next (Below.refl _ _).drew) ?_ ?_
          · intro i hi
            have hi2 : i < 10 := hi
            clear hi
            rcases i with _ | i
            · refine done_value (fun _ _ h => h) (fun _ _ _ _ h => h) (.pointer (some ⟨d.b, 0, none⟩)) rfl ?_
              intro dn a8 w8 hS ho hn
              have o0 : a8.tmps[0]? = some _ := (ho 0 (by kernel_rfl)).trans rfl
              clear ho hn
              refine ⟨wanted_free rfl, ?_, rfl⟩
              go_simp
            rcases i with _ | i
            · refine done_value (fun _ _ h => h) (fun _ _ _ _ h => h) (.pointer (some ⟨q, 6, none⟩)) rfl ?_
              intro dn a8 w8 hS ho hn
              have o5 : a8.tmps[5]? = some _ := (ho 5 (by kernel_rfl)).trans rfl
              clear ho hn
              refine ⟨wanted_free rfl, ?_, rfl⟩
              go_simp
            rcases i with _ | i
            · refine done_value (fun _ _ h => h) (fun _ _ _ _ h => h) (.agg #[.int .i64 c.write, .slice KA m Kc, .int .i64 c.torn, .int .i64 c.at_]) rfl ?_
              intro dn a8 w8 hS ho hn
              obtain ⟨_, n39, rfl⟩ := hn 1 39 (by kernel_rfl) rfl
              clear ho hn
              refine ⟨wanted_free rfl, ?_, rfl⟩
              have c1 : w8.cell? ⟨q, 6, none⟩ = some (.int .i64 c.write) := hS.bx.cell 6
              have c2 : w8.cell? ⟨q, 7, none⟩ = some (.slice KA m Kc) := hS.bx.cell 7
              have c3 : w8.cell? ⟨q, 8, none⟩ = some (.int .i64 c.torn) := hS.bx.cell 8
              have c4 : w8.cell? ⟨q, 9, none⟩ = some (.int .i64 c.at_) := hS.bx.cell 9
              clear hS
              go_simp
            rcases i with _ | i
            · refine done_call 67 #[.pointer (some ⟨d.b, 0, none⟩), .agg #[.int .i64 c.write, .slice KA m Kc, .int .i64 c.torn, .int .i64 c.at_]] rfl ?_
              intro dn a8 w8 hS hd hx ho hn
              obtain ⟨_, n38, rfl⟩ := hn 0 38 (by kernel_rfl) rfl
              obtain ⟨_, n40, rfl⟩ := hn 2 40 (by kernel_rfl) rfl
              clear ho hn
              refine ⟨wanted_free rfl, by go_simp, ?_⟩
              have h4 : dn 3 = false := hd
              rw [h4] at hS
              refine (HP.out w8 _ hS).mono ?_
              rintro e w9 ⟨rfl, hl⟩
              exact ⟨_, rfl, hl, rfl, fun j u _ _ h => h⟩
            rcases i with _ | i
            · refine done_value (fun _ _ h => h) (fun _ _ _ _ h => h) (.pointer (some ⟨r.b, 0, none⟩)) rfl ?_
              intro dn a8 w8 hS ho hn
              have o1 : a8.tmps[1]? = some _ := (ho 1 (by kernel_rfl)).trans rfl
              clear ho hn
              refine ⟨wanted_free rfl, ?_, rfl⟩
              go_simp
            rcases i with _ | i
            · refine done_value (fun _ _ h => h) (fun _ _ _ _ h => h) (.pointer (some ⟨q, 6, none⟩)) rfl ?_
              intro dn a8 w8 hS ho hn
              have o5 : a8.tmps[5]? = some _ := (ho 5 (by kernel_rfl)).trans rfl
              clear ho hn
              refine ⟨wanted_free rfl, ?_, rfl⟩
              go_simp
            rcases i with _ | i
            · refine done_value (fun _ _ h => h) (fun _ _ _ _ h => h) (.agg #[.int .i64 c.write, .slice KA m Kc, .int .i64 c.torn, .int .i64 c.at_]) rfl ?_
              intro dn a8 w8 hS ho hn
              obtain ⟨_, n43, rfl⟩ := hn 5 43 (by kernel_rfl) rfl
              clear ho hn
              refine ⟨wanted_free rfl, ?_, rfl⟩
              have c1 : w8.cell? ⟨q, 6, none⟩ = some (.int .i64 c.write) := hS.bx.cell 6
              have c2 : w8.cell? ⟨q, 7, none⟩ = some (.slice KA m Kc) := hS.bx.cell 7
              have c3 : w8.cell? ⟨q, 8, none⟩ = some (.int .i64 c.torn) := hS.bx.cell 8
              have c4 : w8.cell? ⟨q, 9, none⟩ = some (.int .i64 c.at_) := hS.bx.cell 9
              clear hS
              go_simp
            rcases i with _ | i
            · refine done_call 76 #[.pointer (some ⟨r.b, 0, none⟩), .agg #[.int .i64 c.write, .slice KA m Kc, .int .i64 c.torn, .int .i64 c.at_]] rfl ?_
              intro dn a8 w8 hS hd hx ho hn
              obtain ⟨_, n42, rfl⟩ := hn 4 42 (by kernel_rfl) rfl
              obtain ⟨_, n44, rfl⟩ := hn 6 44 (by kernel_rfl) rfl
              clear ho hn
              refine ⟨wanted_free rfl, by go_simp, ?_⟩
              have h4 : dn 7 = false := hd
              rw [h4] at hS
              refine (HG.out w8 _ hS).mono ?_
              rintro e w9 ⟨rfl, hl⟩
              exact ⟨_, rfl, hl, rfl, fun j u _ _ h => h⟩
            rcases i with _ | i
            · refine done_value (fun _ _ h => h) (fun _ _ _ _ h => h) (.bool true) rfl ?_
              intro dn a8 w8 hS ho hn
              obtain ⟨_, n41, rfl⟩ := hn 3 41 (by kernel_rfl) rfl
              obtain ⟨_, n45, rfl⟩ := hn 7 45 (by kernel_rfl) rfl
              clear ho hn
              refine ⟨wanted_free rfl, ?_, rfl⟩
              go_simp
            rcases i with _ | i
            · refine done_value (fun _ _ h => h) (fun _ _ _ _ h => h) (.bool true) rfl ?_
              intro dn a8 w8 hS ho hn
              obtain ⟨_, n46, rfl⟩ := hn 8 46 (by kernel_rfl) rfl
              clear ho hn
              refine ⟨wanted_free rfl, ?_, rfl⟩
              go_simp
            omega
          · intro dn5 fv w9 hS hR hall
            have h8 : fv 6 = _ := hR 9 6 rfl
            have hS2 : D6 N w0 w9 d r s9 s9 ⟨q, 3, ⟨rn, rl, rs⟩, a, l, n, c, m, BA, Bc, KA, Kc⟩ := by
              have h : D6 N w0 w9 d r (if dn5 3 = true then s9 else s) (if dn5 7 = true then s9 else s) ⟨q, 3, ⟨rn, rl, rs⟩, a, l, n, c, m, BA, Bc, KA, Kc⟩ := hS
              rwa [hall 3 (by decide), hall 7 (by decide), if_pos rfl] at h
            have T9 := Lib.hid hS2
            simp only [putAll, List.foldl_cons, List.foldl_nil, Act.put, List.setIfInBounds_toArray, List.set_cons_succ, List.set_cons_zero, h8, List.getD_cons_zero, List.getD_cons_succ]
            clear hR h8 hS hall hS2
            go_wp2_with (fail)
            go_ret
            exact ⟨rfl, T9.out.wb⟩
        · skip
          by_cases k4 : kd = 4
          · subst k4
            have hs : bootSt s = s9 := HS9.out
            obtain ⟨kv, hb⟩ := T1.out.rblk
            have c7 := hb.cell 7
            have f7 := hb.frozen 7
            have T2 := Lib.hid T1.out.rboot
            rw [hs] at T2
            obtain ⟨w6, hw6⟩ : ∃ w6, w1.setCell ⟨r.b, 7, none⟩ (.bool false) = w6 := ⟨_, rfl⟩
            rw [hw6] at T2
            have HW6 := Lib.hid hw6
            have HB := Lib.hid (T2.out.boot hs)
            clear hb hw6
            go_upto_region 12 with (fail)
            rw [HW6.out]
            clear c7 f7 HW6
            go_wp2_with (go_at_call 14; (with_reducible refine HB.out.mono ?_); rintro e w7 ⟨rfl, hl⟩; have T9 := Lib.hid hl; clear hl)
            go_ret
            exact ⟨rfl, T9.out.wb⟩
          · skip
            by_cases k5 : kd = 5
            · subst k5
              have hs : spoilSt3 s a (secB l) = s9 := HS9.out
              obtain ⟨er, he⟩ : ∃ x, spoilErr3 s a (secB l) = x := ⟨_, rfl⟩
              have HP : Hid (∀ W t g, D6 N w0 W d r s t ⟨q, 5, ⟨rn, rl, rs⟩, a, l, n, c, m, BA, Bc, KA, Kc⟩ → Reads W W.heap.size 1 (some ⟨g, 0, none⟩) 128 ((secB l).map bv) → Calls Tryz.prog 77 #[.pointer (some ⟨d.b, 0, none⟩), .int .i64 a, .slice (some ⟨g, 0, none⟩) 128 128] W fun e w' => e = .returned (.int .i64 er) ∧ D6 N w0 w' d r s9 t ⟨q, 5, ⟨rn, rl, rs⟩, a, l, n, c, m, BA, Bc, KA, Kc⟩ ∧ Keep d.foot W w') := Lib.hid (fun W t g L hr => L.spoil g hr he hs)
              have HG : Hid (∀ W t g, D6 N w0 W d r t s ⟨q, 5, ⟨rn, rl, rs⟩, a, l, n, c, m, BA, Bc, KA, Kc⟩ → Reads W W.heap.size 1 (some ⟨g, 0, none⟩) 128 ((secB l).map bv) → Calls Tryz.prog 79 #[.pointer (some ⟨r.b, 0, none⟩), .int .i64 a, .slice (some ⟨g, 0, none⟩) 128 128] W fun e w' => e = .returned (.int .i64 er) ∧ D6 N w0 w' d r t s9 ⟨q, 5, ⟨rn, rl, rs⟩, a, l, n, c, m, BA, Bc, KA, Kc⟩ ∧ Keep r.foot W w') := Lib.hid (fun W t g L hr => L.rspoil g hr he hs)
              clear hs he
              go_wp2_with (fail)
              refine wp_region_done_on (fun dn W => D6 N w0 W d r (if dn 6 = true then s9 else s) (if dn 13 = true then s9 else s) ⟨q, 5, ⟨rn, rl, rs⟩, a, l, n, c, m, BA, Bc, KA, Kc⟩) (fun _ => secR d r (secB l) ([.pointer (some ⟨d.b, 0, none⟩), .pointer (some ⟨q, 4, none⟩), .int .i64 a, .pointer (some ⟨q, 5, none⟩), .slice BA n Bc, undef, .int .i64 er, .pointer (some ⟨r.b, 0, none⟩), .pointer (some ⟨q, 4, none⟩), .int .i64 a, .pointer (some ⟨q, 5, none⟩), .slice BA n Bc, undef, .int .i64 er, .bool true, .bool true] : List Value)) (by kernel_rfl) 94 rfl (by kernel_rfl) (T1.out.next (Below.refl _ _).drew) ?_ ?_
              · intro i hi
                have hi2 : i < 16 := hi
                clear hi
                rcases i with _ | i
                · refine done_value (fun _ _ h => h) (fun _ _ _ _ h => h) (.pointer (some ⟨d.b, 0, none⟩)) rfl ?_
                  intro dn a8 w8 hS ho hn
                  have o0 : a8.tmps[0]? = some _ := (ho 0 (by kernel_rfl)).trans rfl
                  clear ho hn
                  refine ⟨wanted_free rfl, ?_, rfl⟩
                  go_simp
                rcases i with _ | i
                · refine done_value (fun _ _ h => h) (fun _ _ _ _ h => h) (.pointer (some ⟨q, 4, none⟩)) rfl ?_
                  intro dn a8 w8 hS ho hn
                  have o5 : a8.tmps[5]? = some _ := (ho 5 (by kernel_rfl)).trans rfl
                  clear ho hn
                  refine ⟨wanted_free rfl, ?_, rfl⟩
                  go_simp
                rcases i with _ | i
                · refine done_value (fun _ _ h => h) (fun _ _ _ _ h => h) (.int .i64 a) rfl ?_
                  intro dn a8 w8 hS ho hn
                  obtain ⟨_, n58, rfl⟩ := hn 1 58 (by kernel_rfl) rfl
                  clear ho hn
                  refine ⟨wanted_free rfl, ?_, rfl⟩
                  have c1 : w8.cell? ⟨q, 4, none⟩ = some (.int .i64 a) := hS.bx.cell 4
                  clear hS
                  go_simp
                rcases i with _ | i
                · refine done_value (fun _ _ h => h) (fun _ _ _ _ h => h) (.pointer (some ⟨q, 5, none⟩)) rfl ?_
                  intro dn a8 w8 hS ho hn
                  have o5 : a8.tmps[5]? = some _ := (ho 5 (by kernel_rfl)).trans rfl
                  clear ho hn
                  refine ⟨wanted_free rfl, ?_, rfl⟩
                  go_simp
                rcases i with _ | i
                · refine done_value (fun _ _ h => h) (fun _ _ _ _ h => h) (.slice BA n Bc) rfl ?_
                  intro dn a8 w8 hS ho hn
                  obtain ⟨_, n60, rfl⟩ := hn 3 60 (by kernel_rfl) rfl
                  clear ho hn
                  refine ⟨wanted_free rfl, ?_, rfl⟩
                  have c1 : w8.cell? ⟨q, 5, none⟩ = some (.slice BA n Bc) := hS.bx.cell 5
                  clear hS
                  go_simp
                rcases i with _ | i
                · refine done_call 78 #[.slice BA n Bc] rfl ?_
                  intro dn a8 w8 hS hd hx ho hn
                  obtain ⟨_, n61, rfl⟩ := hn 4 61 (by kernel_rfl) rfl
                  clear ho hn
                  refine ⟨wanted_free rfl, by go_simp, ?_⟩
                  refine hS.sector.mono ?_
                  rintro e w9 ⟨v, rfl, hv, hl, hb⟩
                  exact ⟨_, rfl, hl, hv, fun j u _ _ h => secR_keep (S := fun _ => False) (Keep.of_below hb) (fun _ h => h.elim) h⟩
                rcases i with _ | i
                · refine done_call_ex 77 rfl ?_
                  intro dn a8 w8 hS hd hx ho hn
                  obtain ⟨_, n57, rfl⟩ := hn 0 57 (by kernel_rfl) rfl
                  obtain ⟨_, n59, rfl⟩ := hn 2 59 (by kernel_rfl) rfl
                  obtain ⟨_, n62, hR62⟩ := hn 5 62 (by kernel_rfl) rfl
                  clear ho hn
                  obtain ⟨g, rfl, g1, g2, hr⟩ := hR62
                  have h4 : dn 6 = false := hd
                  rw [h4] at hS
                  refine ⟨wanted_free rfl, #[.pointer (some ⟨d.b, 0, none⟩), .int .i64 a, .slice (some ⟨g, 0, none⟩) 128 128], by go_simp, ?_⟩
                  refine (HP.out w8 _ g hS hr).mono ?_
                  rintro e w9 ⟨rfl, hl, hk⟩
                  exact ⟨_, rfl, hl, rfl, fun j u _ _ h => secR_keep hk (fun k e => .inl e) h⟩
                rcases i with _ | i
                · refine done_value (fun _ _ h => h) (fun _ _ _ _ h => h) (.pointer (some ⟨r.b, 0, none⟩)) rfl ?_
                  intro dn a8 w8 hS ho hn
                  have o1 : a8.tmps[1]? = some _ := (ho 1 (by kernel_rfl)).trans rfl
                  clear ho hn
                  refine ⟨wanted_free rfl, ?_, rfl⟩
                  go_simp
                rcases i with _ | i
                · refine done_value (fun _ _ h => h) (fun _ _ _ _ h => h) (.pointer (some ⟨q, 4, none⟩)) rfl ?_
                  intro dn a8 w8 hS ho hn
                  have o5 : a8.tmps[5]? = some _ := (ho 5 (by kernel_rfl)).trans rfl
                  clear ho hn
                  refine ⟨wanted_free rfl, ?_, rfl⟩
                  go_simp
                rcases i with _ | i
                · refine done_value (fun _ _ h => h) (fun _ _ _ _ h => h) (.int .i64 a) rfl ?_
                  intro dn a8 w8 hS ho hn
                  obtain ⟨_, n65, rfl⟩ := hn 8 65 (by kernel_rfl) rfl
                  clear ho hn
                  refine ⟨wanted_free rfl, ?_, rfl⟩
                  have c1 : w8.cell? ⟨q, 4, none⟩ = some (.int .i64 a) := hS.bx.cell 4
                  clear hS
                  go_simp
                rcases i with _ | i
                · refine done_value (fun _ _ h => h) (fun _ _ _ _ h => h) (.pointer (some ⟨q, 5, none⟩)) rfl ?_
                  intro dn a8 w8 hS ho hn
                  have o5 : a8.tmps[5]? = some _ := (ho 5 (by kernel_rfl)).trans rfl
                  clear ho hn
                  refine ⟨wanted_free rfl, ?_, rfl⟩
                  go_simp
                rcases i with _ | i
                · refine done_value (fun _ _ h => h) (fun _ _ _ _ h => h) (.slice BA n Bc) rfl ?_
                  intro dn a8 w8 hS ho hn
                  obtain ⟨_, n67, rfl⟩ := hn 10 67 (by kernel_rfl) rfl
                  clear ho hn
                  refine ⟨wanted_free rfl, ?_, rfl⟩
                  have c1 : w8.cell? ⟨q, 5, none⟩ = some (.slice BA n Bc) := hS.bx.cell 5
                  clear hS
                  go_simp
                rcases i with _ | i
                · refine done_call 78 #[.slice BA n Bc] rfl ?_
                  intro dn a8 w8 hS hd hx ho hn
                  obtain ⟨_, n68, rfl⟩ := hn 11 68 (by kernel_rfl) rfl
                  clear ho hn
                  refine ⟨wanted_free rfl, by go_simp, ?_⟩
                  refine hS.sector.mono ?_
                  rintro e w9 ⟨v, rfl, hv, hl, hb⟩
                  exact ⟨_, rfl, hl, hv, fun j u _ _ h => secR_keep (S := fun _ => False) (Keep.of_below hb) (fun _ h => h.elim) h⟩
                rcases i with _ | i
                · refine done_call_ex 79 rfl ?_
                  intro dn a8 w8 hS hd hx ho hn
                  obtain ⟨_, n64, rfl⟩ := hn 7 64 (by kernel_rfl) rfl
                  obtain ⟨_, n66, rfl⟩ := hn 9 66 (by kernel_rfl) rfl
                  obtain ⟨_, n69, hR69⟩ := hn 12 69 (by kernel_rfl) rfl
                  clear ho hn
                  obtain ⟨g, rfl, g1, g2, hr⟩ := hR69
                  have h4 : dn 13 = false := hd
                  rw [h4] at hS
                  refine ⟨wanted_free rfl, #[.pointer (some ⟨r.b, 0, none⟩), .int .i64 a, .slice (some ⟨g, 0, none⟩) 128 128], by go_simp, ?_⟩
                  refine (HG.out w8 _ g hS hr).mono ?_
                  rintro e w9 ⟨rfl, hl, hk⟩
                  exact ⟨_, rfl, hl, rfl, fun j u _ _ h => secR_keep hk (fun k e => .inr e) h⟩
                rcases i with _ | i
                · refine done_value (fun _ _ h => h) (fun _ _ _ _ h => h) (.bool true) rfl ?_
                  intro dn a8 w8 hS ho hn
                  obtain ⟨_, n63, rfl⟩ := hn 6 63 (by kernel_rfl) rfl
                  obtain ⟨_, n70, rfl⟩ := hn 13 70 (by kernel_rfl) rfl
                  clear ho hn
                  refine ⟨wanted_free rfl, ?_, rfl⟩
                  go_simp
                rcases i with _ | i
                · refine done_value (fun _ _ h => h) (fun _ _ _ _ h => h) (.bool true) rfl ?_
                  intro dn a8 w8 hS ho hn
                  obtain ⟨_, n71, rfl⟩ := hn 14 71 (by kernel_rfl) rfl
                  clear ho hn
                  refine ⟨wanted_free rfl, ?_, rfl⟩
                  go_simp
                omega
              · intro dn5 fv w9 hS hR hall
                have h8 : fv 6 = _ := hR 15 6 rfl
                have hS2 : D6 N w0 w9 d r s9 s9 ⟨q, 5, ⟨rn, rl, rs⟩, a, l, n, c, m, BA, Bc, KA, Kc⟩ := by
                  have h : D6 N w0 w9 d r (if dn5 6 = true then s9 else s) (if dn5 13 = true then s9 else s) ⟨q, 5, ⟨rn, rl, rs⟩, a, l, n, c, m, BA, Bc, KA, Kc⟩ := hS
                  rwa [hall 6 (by decide), hall 13 (by decide), if_pos rfl] at h
                have T9 := Lib.hid hS2
                simp only [putAll, List.foldl_cons, List.foldl_nil, Act.put, List.setIfInBounds_toArray, List.set_cons_succ, List.set_cons_zero, h8, List.getD_cons_zero, List.getD_cons_succ]
                clear hR h8 hS hall hS2
                go_wp2_with (fail)
                go_ret
                exact ⟨rfl, T9.out.wb⟩
            · skip
              by_cases k6 : kd = 6
              · subst k6
                have hs : writeK s a (secB l) = s9 := HS9.out
                obtain ⟨er, he⟩ : ∃ x, writeErr s a (secB l) = x := ⟨_, rfl⟩
                have HP : Hid (∀ W t g, D6 N w0 W d r s t ⟨q, 6, ⟨rn, rl, rs⟩, a, l, n, c, m, BA, Bc, KA, Kc⟩ → Reads W W.heap.size 1 (some ⟨g, 0, none⟩) 128 ((secB l).map bv) → Calls Tryz.prog 80 #[.pointer (some ⟨d.b, 0, none⟩), .int .i64 a, .slice (some ⟨g, 0, none⟩) 128 128] W fun e w' => e = .returned (.int .i64 er) ∧ D6 N w0 w' d r s9 t ⟨q, 6, ⟨rn, rl, rs⟩, a, l, n, c, m, BA, Bc, KA, Kc⟩ ∧ Keep d.foot W w') := Lib.hid (fun W t g L hr => L.write hmany g hr he hs)
                have HG : Hid (∀ W t g, D6 N w0 W d r t s ⟨q, 6, ⟨rn, rl, rs⟩, a, l, n, c, m, BA, Bc, KA, Kc⟩ → Reads W W.heap.size 1 (some ⟨g, 0, none⟩) 128 ((secB l).map bv) → Calls Tryz.prog 81 #[.pointer (some ⟨r.b, 0, none⟩), .int .i64 a, .slice (some ⟨g, 0, none⟩) 128 128] W fun e w' => e = .returned (.int .i64 er) ∧ D6 N w0 w' d r t s9 ⟨q, 6, ⟨rn, rl, rs⟩, a, l, n, c, m, BA, Bc, KA, Kc⟩ ∧ Keep r.foot W w') := Lib.hid (fun W t g L hr => L.rwrite hmany HMO.out g hr he hs)
                clear hs he
                go_wp2_with (fail)
                refine wp_region_done_on (fun dn W => D6 N w0 W d r (if dn 6 = true then s9 else s) (if dn 13 = true then s9 else s) ⟨q, 6, ⟨rn, rl, rs⟩, a, l, n, c, m, BA, Bc, KA, Kc⟩) (fun _ => secR d r (secB l) ([.pointer (some ⟨d.b, 0, none⟩), .pointer (some ⟨q, 4, none⟩), .int .i64 a, .pointer (some ⟨q, 5, none⟩), .slice BA n Bc, undef, .int .i64 er, .pointer (some ⟨r.b, 0, none⟩), .pointer (some ⟨q, 4, none⟩), .int .i64 a, .pointer (some ⟨q, 5, none⟩), .slice BA n Bc, undef, .int .i64 er, .bool true, .bool true] : List Value)) (by kernel_rfl) 94 rfl (by kernel_rfl) (T1.out.next (Below.refl _ _).drew) ?_ ?_
                · intro i hi
                  have hi2 : i < 16 := hi
                  clear hi
                  rcases i with _ | i
                  · refine done_value (fun _ _ h => h) (fun _ _ _ _ h => h) (.pointer (some ⟨d.b, 0, none⟩)) rfl ?_
                    intro dn a8 w8 hS ho hn
                    have o0 : a8.tmps[0]? = some _ := (ho 0 (by kernel_rfl)).trans rfl
                    clear ho hn
                    refine ⟨wanted_free rfl, ?_, rfl⟩
                    go_simp
                  rcases i with _ | i
                  · refine done_value (fun _ _ h => h) (fun _ _ _ _ h => h) (.pointer (some ⟨q, 4, none⟩)) rfl ?_
                    intro dn a8 w8 hS ho hn
                    have o5 : a8.tmps[5]? = some _ := (ho 5 (by kernel_rfl)).trans rfl
                    clear ho hn
                    refine ⟨wanted_free rfl, ?_, rfl⟩
                    go_simp
                  rcases i with _ | i
                  · refine done_value (fun _ _ h => h) (fun _ _ _ _ h => h) (.int .i64 a) rfl ?_
                    intro dn a8 w8 hS ho hn
                    obtain ⟨_, n75, rfl⟩ := hn 1 75 (by kernel_rfl) rfl
                    clear ho hn
                    refine ⟨wanted_free rfl, ?_, rfl⟩
                    have c1 : w8.cell? ⟨q, 4, none⟩ = some (.int .i64 a) := hS.bx.cell 4
                    clear hS
                    go_simp
                  rcases i with _ | i
                  · refine done_value (fun _ _ h => h) (fun _ _ _ _ h => h) (.pointer (some ⟨q, 5, none⟩)) rfl ?_
                    intro dn a8 w8 hS ho hn
                    have o5 : a8.tmps[5]? = some _ := (ho 5 (by kernel_rfl)).trans rfl
                    clear ho hn
                    refine ⟨wanted_free rfl, ?_, rfl⟩
                    go_simp
                  rcases i with _ | i
                  · refine done_value (fun _ _ h => h) (fun _ _ _ _ h => h) (.slice BA n Bc) rfl ?_
                    intro dn a8 w8 hS ho hn
                    obtain ⟨_, n77, rfl⟩ := hn 3 77 (by kernel_rfl) rfl
                    clear ho hn
                    refine ⟨wanted_free rfl, ?_, rfl⟩
                    have c1 : w8.cell? ⟨q, 5, none⟩ = some (.slice BA n Bc) := hS.bx.cell 5
                    clear hS
                    go_simp
                  rcases i with _ | i
                  · refine done_call 78 #[.slice BA n Bc] rfl ?_
                    intro dn a8 w8 hS hd hx ho hn
                    obtain ⟨_, n78, rfl⟩ := hn 4 78 (by kernel_rfl) rfl
                    clear ho hn
                    refine ⟨wanted_free rfl, by go_simp, ?_⟩
                    refine hS.sector.mono ?_
                    rintro e w9 ⟨v, rfl, hv, hl, hb⟩
                    exact ⟨_, rfl, hl, hv, fun j u _ _ h => secR_keep (S := fun _ => False) (Keep.of_below hb) (fun _ h => h.elim) h⟩
                  rcases i with _ | i
                  · refine done_call_ex 80 rfl ?_
                    intro dn a8 w8 hS hd hx ho hn
                    obtain ⟨_, n74, rfl⟩ := hn 0 74 (by kernel_rfl) rfl
                    obtain ⟨_, n76, rfl⟩ := hn 2 76 (by kernel_rfl) rfl
                    obtain ⟨_, n79, hR79⟩ := hn 5 79 (by kernel_rfl) rfl
                    clear ho hn
                    obtain ⟨g, rfl, g1, g2, hr⟩ := hR79
                    have h4 : dn 6 = false := hd
                    rw [h4] at hS
                    refine ⟨wanted_free rfl, #[.pointer (some ⟨d.b, 0, none⟩), .int .i64 a, .slice (some ⟨g, 0, none⟩) 128 128], by go_simp, ?_⟩
                    refine (HP.out w8 _ g hS hr).mono ?_
                    rintro e w9 ⟨rfl, hl, hk⟩
                    exact ⟨_, rfl, hl, rfl, fun j u _ _ h => secR_keep hk (fun k e => .inl e) h⟩
                  rcases i with _ | i
                  · refine done_value (fun _ _ h => h) (fun _ _ _ _ h => h) (.pointer (some ⟨r.b, 0, none⟩)) rfl ?_
                    intro dn a8 w8 hS ho hn
                    have o1 : a8.tmps[1]? = some _ := (ho 1 (by kernel_rfl)).trans rfl
                    clear ho hn
                    refine ⟨wanted_free rfl, ?_, rfl⟩
                    go_simp
                  rcases i with _ | i
                  · refine done_value (fun _ _ h => h) (fun _ _ _ _ h => h) (.pointer (some ⟨q, 4, none⟩)) rfl ?_
                    intro dn a8 w8 hS ho hn
                    have o5 : a8.tmps[5]? = some _ := (ho 5 (by kernel_rfl)).trans rfl
                    clear ho hn
                    refine ⟨wanted_free rfl, ?_, rfl⟩
                    go_simp
                  rcases i with _ | i
                  · refine done_value (fun _ _ h => h) (fun _ _ _ _ h => h) (.int .i64 a) rfl ?_
                    intro dn a8 w8 hS ho hn
                    obtain ⟨_, n82, rfl⟩ := hn 8 82 (by kernel_rfl) rfl
                    clear ho hn
                    refine ⟨wanted_free rfl, ?_, rfl⟩
                    have c1 : w8.cell? ⟨q, 4, none⟩ = some (.int .i64 a) := hS.bx.cell 4
                    clear hS
                    go_simp
                  rcases i with _ | i
                  · refine done_value (fun _ _ h => h) (fun _ _ _ _ h => h) (.pointer (some ⟨q, 5, none⟩)) rfl ?_
                    intro dn a8 w8 hS ho hn
                    have o5 : a8.tmps[5]? = some _ := (ho 5 (by kernel_rfl)).trans rfl
                    clear ho hn
                    refine ⟨wanted_free rfl, ?_, rfl⟩
                    go_simp
                  rcases i with _ | i
                  · refine done_value (fun _ _ h => h) (fun _ _ _ _ h => h) (.slice BA n Bc) rfl ?_
                    intro dn a8 w8 hS ho hn
                    obtain ⟨_, n84, rfl⟩ := hn 10 84 (by kernel_rfl) rfl
                    clear ho hn
                    refine ⟨wanted_free rfl, ?_, rfl⟩
                    have c1 : w8.cell? ⟨q, 5, none⟩ = some (.slice BA n Bc) := hS.bx.cell 5
                    clear hS
                    go_simp
                  rcases i with _ | i
                  · refine done_call 78 #[.slice BA n Bc] rfl ?_
                    intro dn a8 w8 hS hd hx ho hn
                    obtain ⟨_, n85, rfl⟩ := hn 11 85 (by kernel_rfl) rfl
                    clear ho hn
                    refine ⟨wanted_free rfl, by go_simp, ?_⟩
                    refine hS.sector.mono ?_
                    rintro e w9 ⟨v, rfl, hv, hl, hb⟩
                    exact ⟨_, rfl, hl, hv, fun j u _ _ h => secR_keep (S := fun _ => False) (Keep.of_below hb) (fun _ h => h.elim) h⟩
                  rcases i with _ | i
                  · refine done_call_ex 81 rfl ?_
                    intro dn a8 w8 hS hd hx ho hn
                    obtain ⟨_, n81, rfl⟩ := hn 7 81 (by kernel_rfl) rfl
                    obtain ⟨_, n83, rfl⟩ := hn 9 83 (by kernel_rfl) rfl
                    obtain ⟨_, n86, hR86⟩ := hn 12 86 (by kernel_rfl) rfl
                    clear ho hn
                    obtain ⟨g, rfl, g1, g2, hr⟩ := hR86
                    have h4 : dn 13 = false := hd
                    rw [h4] at hS
                    refine ⟨wanted_free rfl, #[.pointer (some ⟨r.b, 0, none⟩), .int .i64 a, .slice (some ⟨g, 0, none⟩) 128 128], by go_simp, ?_⟩
                    refine (HG.out w8 _ g hS hr).mono ?_
                    rintro e w9 ⟨rfl, hl, hk⟩
                    exact ⟨_, rfl, hl, rfl, fun j u _ _ h => secR_keep hk (fun k e => .inr e) h⟩
                  rcases i with _ | i
                  · refine done_value (fun _ _ h => h) (fun _ _ _ _ h => h) (.bool true) rfl ?_
                    intro dn a8 w8 hS ho hn
                    obtain ⟨_, n80, rfl⟩ := hn 6 80 (by kernel_rfl) rfl
                    obtain ⟨_, n87, rfl⟩ := hn 13 87 (by kernel_rfl) rfl
                    clear ho hn
                    refine ⟨wanted_free rfl, ?_, rfl⟩
                    go_simp
                  rcases i with _ | i
                  · refine done_value (fun _ _ h => h) (fun _ _ _ _ h => h) (.bool true) rfl ?_
                    intro dn a8 w8 hS ho hn
                    obtain ⟨_, n88, rfl⟩ := hn 14 88 (by kernel_rfl) rfl
                    clear ho hn
                    refine ⟨wanted_free rfl, ?_, rfl⟩
                    go_simp
                  omega
                · intro dn5 fv w9 hS hR hall
                  have h8 : fv 6 = _ := hR 15 6 rfl
                  have hS2 : D6 N w0 w9 d r s9 s9 ⟨q, 6, ⟨rn, rl, rs⟩, a, l, n, c, m, BA, Bc, KA, Kc⟩ := by
                    have h : D6 N w0 w9 d r (if dn5 6 = true then s9 else s) (if dn5 13 = true then s9 else s) ⟨q, 6, ⟨rn, rl, rs⟩, a, l, n, c, m, BA, Bc, KA, Kc⟩ := hS
                    rwa [hall 6 (by decide), hall 13 (by decide), if_pos rfl] at h
                  have T9 := Lib.hid hS2
                  simp only [putAll, List.foldl_cons, List.foldl_nil, Act.put, List.setIfInBounds_toArray, List.set_cons_succ, List.set_cons_zero, h8, List.getD_cons_zero, List.getD_cons_succ]
                  clear hR h8 hS hall hS2
                  go_wp2_with (fail)
                  go_ret
                  exact ⟨rfl, T9.out.wb⟩
              · skip
                have hs : flushK s = s9 := by
                  have := HS9.out
                  unfold do6 at this
                  rwa [if_neg k0, if_neg k1, if_neg k2, if_neg k3, if_neg k4, if_neg k5, if_neg k6] at this
                obtain ⟨er, he⟩ : ∃ x, (if s.down then (31 : Int) else 0) = x := ⟨_, rfl⟩
                have HP : Hid (∀ W t, D6 N w0 W d r s t ⟨q, kd, ⟨rn, rl, rs⟩, a, l, n, c, m, BA, Bc, KA, Kc⟩ → Calls Tryz.prog 82 #[.pointer (some ⟨d.b, 0, none⟩)] W fun e w' => e = .returned (.int .i64 er) ∧ D6 N w0 w' d r s9 t ⟨q, kd, ⟨rn, rl, rs⟩, a, l, n, c, m, BA, Bc, KA, Kc⟩) := Lib.hid (fun W t L => L.flush he hs)
                have HG : Hid (∀ W t, D6 N w0 W d r t s ⟨q, kd, ⟨rn, rl, rs⟩, a, l, n, c, m, BA, Bc, KA, Kc⟩ → Calls Tryz.prog 83 #[.pointer (some ⟨r.b, 0, none⟩)] W fun e w' => e = .returned (.int .i64 er) ∧ D6 N w0 w' d r t s9 ⟨q, kd, ⟨rn, rl, rs⟩, a, l, n, c, m, BA, Bc, KA, Kc⟩) := Lib.hid (fun W t L => L.rflush he hs)
                clear hs he
                go_wp2_with (first
                  | (go_at_call 83; (have l0 := T2.out; clear l0); (with_reducible refine (HG.out _ _ T2.out).mono ?_); rintro e w3 ⟨rfl, hl⟩; have T3 := Lib.hid hl; clear hl)
                  | (go_at_call 82; (with_reducible refine (HP.out _ _ T1.out).mono ?_); rintro e w2 ⟨rfl, hl⟩; have T2 := Lib.hid hl; clear hl))
                go_ret
                exact ⟨rfl, T3.out.wb⟩
end Go.Proofs.YtkebbjodkhjbmaaGreat.root

/-
  The walk of the statement DiskPlays: whatever is written, flushed, read, crashed, armed, spoilt and booted, a disk answers, and has at last, what the document says.
-/
import Derived.Test.YtkebbjodkhjbmaaKDo
namespace Go.Proofs.Ytkebbjodkhjbmaa
open Go.RowKit

theorem run_eql_ptr_some {P : Program} (w : World) {tp te : TypeId} (a : Addr) (hp : P.underlying tp = some (.pointer te)) :
    (binOp .eql tp (.pointer (some a)) (.pointer none)).run P w = .ok (.bool false) w := by
  have h : ∀ d : Nat, (Op.equalIn (d + 1) tp (.pointer (some a)) (.pointer none)).run P w = .ok false w := fun d => by
    simp [Op.equalIn, run_underlying hp]
  simp only [binOp]
  simp [Op.equal, Op.maxDepth, h 9999]
theorem run_eql_ptr_both {P : Program} (w : World) {tp te : TypeId} (hp : P.underlying tp = some (.pointer te)) :
    (binOp .eql tp (.pointer none) (.pointer none)).run P w = .ok (.bool true) w := by
  have h : ∀ d : Nat, (Op.equalIn (d + 1) tp (.pointer none) (.pointer none)).run P w = .ok true w := fun d => by
    simp [Op.equalIn, run_underlying hp]
  simp only [binOp]
  simp [Op.equal, Op.maxDepth, h 9999]

theorem r3new_bad (n : Int) (w : World) (h : n < 1 ∨ 4096 < n) : Calls Try.prog 6 #[.int .i64 n] w fun e w' => e = .returned (.tuple #[.pointer none, .int .i64 30]) ∧ w = w' := by
  by_cases h1 : n < 1
  · have hd : decide (n < 1) = true := decide_eq_true h1
    go_enter Try.func6, Try.ntmps6
    go_wp2
    go_ret2
    exact ⟨rfl, rfl⟩
  · have hd : decide (n < 1) = false := decide_eq_false h1
    have h2 : 4096 < n := by omega
    go_enter Try.func6, Try.ntmps6
    go_wp2
    go_ret2
    exact ⟨rfl, rfl⟩

set_option maxRecDepth 100000 in
set_option maxHeartbeats 4000000 in
theorem plays_big (sec : Int) (A : Option Addr) (n c : Nat) (l : List DOp) (W : World) (H : DOps W W.heap.size A n l) (hn : n ≤ 9223372036854775807) (hg : dgreat l = true) :
    Calls Try.prog 3 #[.int .i64 sec, .slice A n c] W fun e w' => e = .returned (.bool true) ∧ Below W.heap.size W w' := by
  have HG := Lib.hid (dgreat_any A c n l W H hn)
  rw [hg] at HG
  clear H hg
  go_enter Try.func3, Try.ntmps3
  go_wp2_with (go_at_call 4; (with_reducible refine HG.out.mono ?_); rintro e w1 ⟨rfl, rfl⟩)
  go_ret
  exact ⟨rfl, Below.refl _ _⟩

set_option maxRecDepth 100000 in
set_option maxHeartbeats 4000000 in
theorem plays_mid (sec : Int) (A : Option Addr) (n c : Nat) (l : List DOp) (W : World) (H : DOps W W.heap.size A n l) (hn : n ≤ 9223372036854775807) (hg : dgreat l = false) (h1 : 100 < sec) (h2 : sec ≤ 4096) :
    Calls Try.prog 3 #[.int .i64 sec, .slice A n c] W fun e w' => e = .returned (.bool true) ∧ Below W.heap.size W w' := by
  have HG := Lib.hid (dgreat_any A c n l W H hn)
  rw [hg] at HG
  clear H hg
  go_enter Try.func3, Try.ntmps3
  go_wp2_with (go_at_call 4; (with_reducible refine HG.out.mono ?_); rintro e w1 ⟨rfl, rfl⟩)
  go_ret
  exact ⟨rfl, Below.refl _ _⟩

set_option maxRecDepth 100000 in
set_option maxHeartbeats 4000000 in
theorem plays_bad (sec : Int) (A : Option Addr) (n c : Nat) (l : List DOp) (W : World) (H : DOps W W.heap.size A n l) (hn : n ≤ 9223372036854775807) (hg : dgreat l = false) (h : sec < 1 ∨ 4096 < sec) :
    Calls Try.prog 3 #[.int .i64 sec, .slice A n c] W fun e w' => e = .returned (.bool true) ∧ Below W.heap.size W w' := by
  have HG := Lib.hid (dgreat_any A c n l W H hn)
  rw [hg] at HG
  have HP := Lib.hid (dnew_bad sec W h)
  have HR := Lib.hid (r3new_bad sec W h)
  have q := fun w => run_eql_ptr_both (P := Try.prog) w (tp := 24) (te := 51) (by kernel_rfl)
  clear H hg
  rcases h with h | h
  · have h9 : ¬ 100 < sec := by omega
    go_enter Try.func3, Try.ntmps3
    go_wp2_with (first
      | (go_at_call 4; (with_reducible refine HG.out.mono ?_); rintro e w1 ⟨rfl, rfl⟩)
      | (go_at_call 5; (with_reducible refine HP.out.mono ?_); rintro e w1 ⟨rfl, rfl⟩)
      | (go_at_call 6; (with_reducible refine HR.out.mono ?_); rintro e w1 ⟨rfl, rfl⟩))
    go_ret
    exact ⟨rfl, Below.refl _ _⟩
  · have h9 : 100 < sec := by omega
    go_enter Try.func3, Try.ntmps3
    go_wp2_with (first
      | (go_at_call 4; (with_reducible refine HG.out.mono ?_); rintro e w1 ⟨rfl, rfl⟩)
      | (go_at_call 5; (with_reducible refine HP.out.mono ?_); rintro e w1 ⟨rfl, rfl⟩)
      | (go_at_call 6; (with_reducible refine HR.out.mono ?_); rintro e w1 ⟨rfl, rfl⟩))
    go_ret
    exact ⟨rfl, Below.refl _ _⟩

theorem great_no {l : List DOp} (h : dgreat l = false) : l.length ≤ 200 ∧ ∀ o ∈ l, o.b.length ≤ 500 ∧ o.c.keep.length ≤ 100 := by
  unfold dgreat at h
  rw [Bool.or_eq_false_iff, decide_eq_false_iff_not, List.any_eq_false] at h
  refine ⟨by omega, fun o ho => ?_⟩
  have := h.2 o ho
  unfold DOp.great at this
  rw [Bool.not_eq_true, Bool.or_eq_false_iff, decide_eq_false_iff_not, decide_eq_false_iff_not] at this
  omega

set_option maxRecDepth 100000 in
set_option maxHeartbeats 8000000 in
theorem plays_fine (sec : Nat) (A : Option Addr) (n c : Nat) (l : List DOp) (W : World) (H : DOps W W.heap.size A n l) (hn : n ≤ 9223372036854775807) (hg : dgreat l = false) (h1 : 1 ≤ sec) (h2 : sec ≤ 100) :
    Calls Try.prog 3 #[.int .i64 (sec : Int), .slice A n c] W fun e w' => e = .returned (.bool true) ∧ Below W.heap.size W w' := by
  have HG := Lib.hid (dgreat_any A c n l W H hn)
  rw [hg] at HG
  have HS := Lib.hid (great_no hg)
  have HH := Lib.hid H
  have h9 : ¬ 100 < (sec : Int) := by omega
  obtain ⟨N, hN⟩ : ∃ N, W.heap.size = N := ⟨_, rfl⟩
  have HP := Lib.hid (dnew_any sec W h1 (by omega))
  have HR := Lib.hid (fun w => @rnew_any ⟨fun _ => False⟩ (fun _ h => h) sec w h1 (by omega))
  have q := fun w a => run_eql_ptr_some (P := Try.prog) w (tp := 24) (te := 51) a (by kernel_rfl)
  have HN := Lib.hid hN
  have h200 : n ≤ 200 := by rw [← H.1]; exact (great_no hg).1
  clear H hg hN h1
  go_enter Try.func3, Try.ntmps3
  go_wp2_with (first
    | (go_at_call 4; (with_reducible refine HG.out.mono ?_); rintro e w1 ⟨rfl, rfl⟩)
    | (go_at_call 5; (with_reducible refine HP.out.mono ?_); rintro e w1 ⟨d, rfl, hd, hf, hb⟩; have D1 := Lib.hid hd; have F1 := Lib.hid hf; have B1 := Lib.hid hb; clear hd hf hb)
    | (go_at_call 6; (have l0 := B1.out; clear l0); (with_reducible refine (HR.out w1).mono ?_); rintro e w2 ⟨b, gS, gC, cS, cC, vs, ws, rfl, hd, hb, hf⟩; have D2 := Lib.hid hd; have F2 := Lib.hid hf; have B2 := Lib.hid hb; clear hd hf hb))
  have T2 : Hid (WB N W w2 d ⟨b, gS, gC, cS, cC⟩ (newSt sec) (newSt sec) ⟨fun _ => False⟩) := Lib.hid (by
    have b1 := B1.out
    have b2 := B2.out
    have s1 := b1.size
    have s2 := b2.size
    have hN := HN.out
    rw [hN] at b1 s1
    refine ⟨b1.trans (b2.mono s1), by omega, fun k hk => by have := F1.out k hk; omega, fun k hk => by have := F2.out k hk; omega, fun k hk hr => by have := D1.out.lt k hk; have := F2.out k hr; omega, ⟨_, D1.out.below b2, Far.nothing _⟩, ⟨_, _, _, D2.out⟩, fun _ h => h.elim⟩)
  have L2 : Hid (Light (newSt sec) 0) := Lib.hid ⟨by show (0 : Int) ≤ 0; omega, by show (0 : Nat) ≤ 100; omega⟩
  obtain ⟨s0, hs0⟩ : ∃ s0, newSt sec = s0 := ⟨_, rfl⟩
  rw [hs0] at T2 L2
  clear hs0 D1 F1 B1 D2 F2 B2 HP HR HG
  go_loopw [5, 51] (fun p i wr => ∃ (j : Nat) (d' : DAt) (s : RSt), j ≤ n ∧ i = .int .i64 ((j : Nat) : Int) ∧ p = .pointer (some ⟨d'.b, 0, none⟩) ∧ WB N W wr d' ⟨b, gS, gC, cS, cC⟩ s s ⟨fun _ => False⟩ ∧ Light s j) (fun _ i _ => n - (intOf i).toNat)
  case atStart => exact ⟨0, d, s0, Nat.zero_le _, rfl, rfl, T2.out, L2.out⟩
  case round =>
    obtain ⟨j, d', s, hj, rfl, rfl, hT, hL⟩ := hrel
    clear T2 L2
    by_cases hlt : j < n
    · obtain ⟨ad, BA, Bc, KA, Kc, rfl, hadb, dc⟩ := (HH.out.below (by rw [HN.out]; exact hT.below)).at_ hlt
      have hmem : l[j]'(by have := HH.out.1; omega) ∈ l := List.getElem_mem _
      have hfine := HH.out.2.1 _ hmem
      obtain ⟨h500, h100⟩ := HS.out.2 _ hmem
      generalize l[j]'(by have := HH.out.1; omega) = o at dc hfine h500 h100
      obtain ⟨kd, a, ob, oc⟩ := o
      have hl0 := hL.many
      have HD := Lib.hid (do_any hT kd a ob oc hfine.a hfine.c BA Bc KA Kc ob.length oc.keep.length rfl rfl h500 h100 (by rw [← HN.out]; exact dc.bs) (by rw [← HN.out]; exact dc.ks) (by omega) hL.keep)
      have HL := Lib.hid (doSt_light hL kd a ob oc h100)
      have x0 := dc.kind
      have x1 := dc.at_
      have x2 := dc.b
      have x3 := dc.write
      have x4 := dc.keep
      have x5 := dc.torn
      have x6 := dc.cat
      simp only at x0 x1 x2 x3 x4 x5 x6
      clear dc hfine hT hL hmem h500 h100 hl0
      go_wp2_with (go_at_call 7; (with_reducible refine HD.out.mono ?_); rintro e w4 ⟨d4, rfl, h4⟩; have T4 := Lib.hid h4; clear h4)
      exact ⟨⟨j + 1, d4, _, by omega, by go_num, rfl, T4.out, HL.out⟩, by simp [intOf]; omega⟩
    · have T3 := Lib.hid hT
      have hnj : j = n := by omega
      clear hT hL hj hlt
      subst hnj
      obtain ⟨t, ht⟩ : ∃ t, bootSt s = t := ⟨_, rfl⟩
      obtain ⟨m, hm⟩ : ∃ m, t.stays.length = m := ⟨_, rfl⟩
      have HM := Lib.hid hm
      have HB : Hid (∀ w, WB N W w d' ⟨b, gS, gC, cS, cC⟩ s s ⟨fun _ => False⟩ → Calls Try.prog 8 #[.pointer (some ⟨d'.b, 0, none⟩)] w fun e w' => e = .returned (.int .i64 0) ∧ WB N W w' d' ⟨b, gS, gC, cS, cC⟩ t s ⟨fun _ => False⟩ ∧ Keep d'.foot w w') := Lib.hid (fun w h => h.boot ht)
      have hm4 : m ≤ 4096 := by rw [← hm, ← ht]; exact T3.out.rl.ok.few
      have HT := Lib.hid ht
      clear ht hm
      go_upto_region 18 with (go_at_call 8; (with_reducible refine (HB.out _ T3.out).mono ?_); rintro e w4 ⟨rfl, h4, -⟩; have T4 := Lib.hid h4; clear h4)
      obtain ⟨kv4, hb4⟩ := T4.out.rblk
      have c7 := hb4.cell 7
      have f7 := hb4.frozen 7
      obtain ⟨w5, hw5⟩ : ∃ w5, w4.setCell ⟨b, 7, none⟩ (.bool false) = w5 := ⟨_, rfl⟩
      have T5 : Hid (WB N W w5 d' ⟨b, gS, gC, cS, cC⟩ t t ⟨fun _ => False⟩) := Lib.hid (by
        have h := T4.out.rboot.1
        rw [HT.out] at h
        rw [← hw5]
        exact h)
      have HW5 := Lib.hid hw5
      clear hb4 hw5
      go_upto_region 19 with (fail)
      rw [HW5.out]
      obtain ⟨kv5, hb5⟩ := T5.out.rblk
      have c0 : w5.cell? ⟨b, 0, none⟩ = some (.slice (some ⟨gS, 0, none⟩) m cS) := by have := hb5.cell 0; rw [HM.out] at this; exact this
      clear hb5 HW5 c7 f7
      go_wp2_with (fail)
      go_loopw [78] (fun i wr => ∃ j : Nat, j ≤ m ∧ i = .int .i64 ((j : Nat) : Int) ∧ WB N W wr d' ⟨b, gS, gC, cS, cC⟩ t t ⟨fun _ => False⟩) (fun i _ => m - (intOf i).toNat)
      case atStart => exact ⟨0, Nat.zero_le _, rfl, T5.out⟩
      case round =>
        obtain ⟨j, hj, rfl, hT⟩ := hrel
        by_cases hlt : j < m
        · obtain ⟨er, he⟩ : ∃ x, readErr3 t (j : Int) = x := ⟨_, rfl⟩
          obtain ⟨x, hx⟩ : ∃ x, readOut3 t (j : Int) = x := ⟨_, rfl⟩
          have HP := Lib.hid (hT.read (j : Int) he hx)
          have HG : Hid (∀ w, WB N W w d' ⟨b, gS, gC, cS, cC⟩ t t ⟨fun _ => False⟩ → Calls Try.prog 10 #[.pointer (some ⟨b, 0, none⟩), .int .i64 (j : Int)] w fun e w' => ∃ v, e = .returned (.tuple #[v, .int .i64 er]) ∧ Gives w w' v x) := Lib.hid (fun w h => h.rread (j : Int) ⟨by omega, by omega⟩ he hx)
          clear he hx hT
          go_upto_region 23 with (go_at_call 9; (with_reducible refine HP.out.mono ?_); rintro e w6 ⟨v6, rfl, hro, h6⟩; (obtain ⟨A6, c6, rfl, hr6⟩ := hro.reads); have T6 := Lib.hid h6; have HR6 := Lib.hid hr6; clear hro h6 hr6)
          go_upto_region 24 with (go_at_call 10; (with_reducible refine (HG.out _ T6.out).mono ?_); rintro e w7 ⟨v7, rfl, A7, c7, rfl, ho7, hb7⟩; have T7 := Lib.hid (T6.out.next hb7); have HB7 := Lib.hid hb7; have HO7 := Lib.hid ho7; clear ho7 hb7)
          have CA := conv_reads (W := w7) (A := A6) c6 ((HR6.out.below HB7.out).more HB7.out.size)
          have CB := conv_reads (W := w7) (A := A7) c7 (Reads.of_own HO7.out)
          go_wp2_with (fail)
          exact ⟨⟨j + 1, by omega, by go_num, T7.out⟩, by simp [intOf]; omega⟩
        · have HF := Lib.hid hT
          obtain rfl : m = j := by omega
          clear hT hj hlt
          go_wp2_with (fail)
          go_ret
          exact ⟨rfl, by rw [HN.out]; exact HF.out.below⟩

theorem dplays_walk (sec : Int) (A : Option Addr) (n c : Nat) (l : List DOp) (W : World) (H : DOps W W.heap.size A n l) (hn : n ≤ 9223372036854775807) :
    Calls Try.prog 3 #[.int .i64 sec, .slice A n c] W fun e w' => e = .returned (.bool true) ∧ Below W.heap.size W w' := by
  cases hg : dgreat l
  · by_cases h : sec < 1 ∨ 4096 < sec
    · exact plays_bad sec A n c l W H hn hg h
    · by_cases h1 : 100 < sec
      · exact plays_mid sec A n c l W H hn hg h1 (by omega)
      · obtain ⟨s0, rfl⟩ := Int.eq_ofNat_of_zero_le (a := sec) (by omega)
        exact plays_fine s0 A n c l W H hn hg (by omega) (by omega)
  · exact plays_big sec A n c l W H hn hg
end Go.Proofs.Ytkebbjodkhjbmaa

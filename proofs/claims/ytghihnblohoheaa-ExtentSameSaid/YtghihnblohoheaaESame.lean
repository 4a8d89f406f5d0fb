/-
  The statement ExtentSame: the walk.
-/
import Derived.Test.YtghihnblohoheaaESame1
namespace Go.Proofs.Ytghihnblohoheaa
open Go.RowKit

set_option maxRecDepth 100000 in
set_option maxHeartbeats 1000000 in
theorem same_big (A A2 : Option Addr) (n c n2 c2 : Nat) (W : World) (h : 150 < n ∨ 50 < n2) :
    Calls Try.prog 7 #[.slice A n c, .slice A2 n2 c2] W fun e w' => e = .returned (.bool true) ∧ Below W.heap.size W w' := by
  by_cases hbig : 150 < n
  · clear h
    go_enter Try.func7, Try.ntmps7
    go_wp2_with (go_at_call 23; refine (alive4_any _).mono ?_; rintro e w1 ⟨rfl, hb⟩; have HB := Lib.hid hb; clear hb)
    go_ret
    exact ⟨rfl, HB.out⟩
  · have hbig2 : 50 < n2 := by omega
    clear h
    go_enter Try.func7, Try.ntmps7
    go_wp2_with (go_at_call 23; refine (alive4_any _).mono ?_; rintro e w1 ⟨rfl, hb⟩; have HB := Lib.hid hb; clear hb)
    go_ret
    exact ⟨rfl, HB.out⟩

set_option maxRecDepth 100000 in
set_option maxHeartbeats 8000000 in
theorem same_walk (A A2 : Option Addr) (n c n2 c2 : Nat) (l l2 : List EOp) (W : World) (H : EOps W W.heap.size A n l) (H2 : EOps W W.heap.size A2 n2 l2) (hbig : ¬ 150 < n) (hbig2 : ¬ 50 < n2) :
    Calls Try.prog 7 #[.slice A n c, .slice A2 n2 c2] W fun e w' => e = .returned (.bool true) ∧ Below W.heap.size W w' := by
  have HH2 := Lib.hid H2
  have HMD : Hid (∀ w', Below W.heap.size W w' → Calls Try.prog 24 #[.slice A n c] w' fun e w'' => ∃ (d : SpAt) (s : ESt), e = .returned (.pointer (some ⟨d.b, 0, none⟩)) ∧ ELives w'.heap.size w' w'' d s ∧ Is300 s ∧ Below w'.heap.size w' w'' ∧ (n = 0 → s = newE 5 305)) := Lib.hid (fun w' hb => made4_any A n c l W.heap.size w' (H.below hb) hb.size (by omega))
  have HMN : Hid (∀ w', Calls Try.prog 24 #[.slice none 0 0] w' fun e w'' => ∃ (d : SpAt), e = .returned (.pointer (some ⟨d.b, 0, none⟩)) ∧ ELives w'.heap.size w' w'' d (newE 5 305) ∧ Below w'.heap.size w' w'') := Lib.hid (fun w' => by
    refine (made4_any none 0 0 [] w'.heap.size w' (EOps.nil _ _) (Nat.le_refl _) (by omega)).mono ?_
    rintro e w'' ⟨d, s, rfl, h1, _, h2, h3⟩
    rw [h3 rfl] at h1
    exact ⟨d, rfl, h1, h2⟩)
  clear H H2
  go_enter Try.func7, Try.ntmps7
  go_wp2_with (first
    | (go_at_call 23; refine (alive4_any _).mono ?_; rintro e w1 ⟨rfl, hb⟩; have HB := Lib.hid hb; clear hb)
    | (go_at_call 24; have l0 := L2.out; clear l0; refine (HMN.out _).mono ?_; rintro e w3 ⟨d2, rfl, l3, hb⟩; have HD : Hid (EDis d d2) := Lib.hid (fun k h1 h2 => by have := L2.out.all_lt k h1; have := l3.foot k h2; omega); have T3 : Hid (E2 w1.heap.size w1 w3 d d2 s (newE 5 305)) := Lib.hid ⟨L2.out.next hb, L2.out.below.trans (l3.below.mono L2.out.lt), fun k hk => Nat.le_trans L2.out.lt (l3.foot k hk), l3.ek⟩; clear l3 hb L2)
    | (go_at_call 24; refine (HMD.out _ HB.out).mono ?_; rintro e w2 ⟨d, s, rfl, l2, hI, hb, -⟩; have L2 := Lib.hid l2; have HI := Lib.hid hI; clear l2 hb hI; obtain ⟨rs, hrs⟩ : ∃ rs, runsAt s.L true 0 = rs := ⟨_, rfl⟩; obtain ⟨m, hm⟩ : ∃ m, rs.length = m := ⟨_, rfl⟩; have hm4 : m ≤ 4096 := by { rw [← hm, ← hrs]; have h1 := takenX_few L2.out.ek.ok; unfold takenX at h1; rw [List.length_map] at h1; exact h1 }; have HM := Lib.hid hm; have HRS := Lib.hid hrs; clear hm hrs)
    | (go_at_call 14; refine (ltaken T3.out.a (takenX_eq HI.out) (m := m) (by rw [HRS.out]; unfold extsP; rw [List.length_map]; exact HM.out)).mono ?_; rintro e w4 ⟨A4, c4, rfl, ho, -, hb⟩; rw [HRS.out] at ho; have HA4 : Hid (∀ ad, A4 = some ad → ad.block ≠ d2.g) := Lib.hid (fun ad e h => by { rcases ho.2 with ⟨e1, _⟩ | ⟨g, cap, cur, e1, hg, _⟩ <;> injection e1 with e1 <;> rw [e1] at e; cases e; injection e with e; subst e; have h : g = d2.g := h; have := T3.out.b.all_lt d2.g (.inr rfl); omega }); have T4 : Hid (RS w1.heap.size w1 w4 w4 d d2 s (newE 5 305) A4 m (extsC (extsP rs))) := Lib.hid ⟨T3.out.next hb, Reads.of_own ho, Nat.le_refl _⟩; clear ho hb T3))
  have HMN1 := Lib.hid trivial
  clear HMD HMN
  have HFR : Hid (Frees (newE 5 305).L rs) := Lib.hid (by rw [← HRS.out]; exact runs_frees HI.out)
  have HHR : Hid (hold (newE 5 305) rs = s) := Lib.hid (by rw [← HRS.out]; exact hold_runs HI.out)
  go_loopw [10] (fun i wr => ∃ (k : Nat) (s2 : ESt), k ≤ m ∧ i = .int .i64 ((k : Int) - 1) ∧ hold (newE 5 305) (rs.drop k) = s2 ∧ RS w1.heap.size w1 w4 wr d d2 s s2 A4 m (extsC (extsP rs))) (fun i _ => (intOf i + 1).toNat)
  case atStart => exact ⟨m, newE 5 305, Nat.le_refl _, by go_num, by rw [← HM.out, List.drop_length, hold_nil], T4.out⟩
  case round =>
    obtain ⟨k, s2, hk, hik, hs2, hT⟩ := hrel
    clear T4
    rcases k with _ | t
    · have hki : ((0 : Nat) : Int) - 1 = -1 := rfl
      rw [hki] at hik
      clear hki
      subst hik
      have hs9 : s = s2 := by rw [← hs2, List.drop_zero, HHR.out]
      subst hs9
      have T5 := Lib.hid hT
      clear hs2 hT
      go_wp2
      go_loopw [8, 59] (fun e i wr => ∃ (j : Nat) (u : Int), j ≤ m ∧ i = .int .i64 ((j : Nat) : Int) ∧ e = .int .i64 u ∧ (0 ≤ u ∧ u ≤ 305) ∧ (∀ r, rs[j]? = some r → u < 5 + (r.1 : Int)) ∧ RS w1.heap.size w1 w4 wr d d2 s s A4 m (extsC (extsP rs))) (fun _ i _ => m - (intOf i).toNat)
      case atStart => exact ⟨0, 0, Nat.zero_le _, rfl, rfl, by omega, (fun r _ => by omega), T5.out⟩
      case round =>
        obtain ⟨j, u, hj, rfl, rfl, hu305, hu, hT⟩ := hrel
        clear T5
        by_cases hlt : j < m
        · obtain ⟨ad, r, rfl, hr, cA, cA1⟩ := reads_run hT.r HM.out hlt
          obtain ⟨_, hrun⟩ := runs_are (L := s.L) (a := true) 0 r (by rw [HRS.out]; exact List.mem_of_getElem? hr)
          have hpos := hrun.pos
          have hle := hrun.all.le hpos
          have hl300 := HI.out.l
          have hu1 := hu r hr
          have HNX : Hid (∀ r', rs[j + 1]? = some r' → 5 + (r.1 : Int) + (r.2 : Int) < 5 + (r'.1 : Int)) := Lib.hid (fun r' hr' => by
            have hp := runs_rise (L := s.L) (a := true) 0
            rw [HRS.out] at hp
            obtain ⟨h1, e1⟩ := List.getElem?_eq_some_iff.1 hr
            obtain ⟨h2, e2⟩ := List.getElem?_eq_some_iff.1 hr'
            have := List.pairwise_iff_getElem.1 hp j (j + 1) h1 h2 (by omega)
            rw [e1, e2] at this
            omega)
          have T6 := Lib.hid hT
          have hn1 : ¬ ((r.2 : Nat) : Int) < 1 := by omega
          have hn2 : ¬ (5 : Int) + (r.1 : Int) ≤ u := by omega
          rw [hl300] at hle
          clear hT hu hr hrun hl300
          go_wp2
          go_quiet (fail)
          go_wp2
          exact ⟨⟨j + 1, 5 + (r.1 : Int) + (r.2 : Int), by omega, by go_num, rfl, by omega, HNX.out, T6.out.next (below_drewN (Below.refl _ _) _)⟩, by simp [intOf]; omega⟩
        · obtain rfl : m = j := by omega
          have T6 := Lib.hid hT
          clear hT hu
          go_wp2
          go_loopw [91] (fun i wr => ∃ (k : Nat) (s' : ESt), k ≤ n2 ∧ i = .int .i64 ((k : Nat) : Int) ∧ E2 w1.heap.size w1 wr d d2 s' s') (fun i _ => n2 - (intOf i).toNat)
          case atStart => exact ⟨0, s, Nat.zero_le _, rfl, T6.out.e⟩
          case round =>
            obtain ⟨k, s', hk, rfl, hT⟩ := hrel
            clear T6
            by_cases hlt2 : k < n2
            · have hBw : Below W.heap.size W wr := HB.out.trans (hT.a.below.mono HB.out.size)
              obtain ⟨ad, rfl, hadb, dc, hfine⟩ := (HH2.out.below hBw).at_ hlt2
              generalize l2[k]'(by have := HH2.out.1; omega) = o at dc hfine
              obtain ⟨kd, at_, on⟩ := o
              have x0 := dc.kind
              have x1 := dc.at_
              have x2 := dc.n
              have hf2 := hfine.2
              simp only at x0 x1 x2 hf2
              have T7 := Lib.hid hT
              clear hT dc hfine hBw hadb
              obtain ⟨x, hx⟩ : ∃ x, takeX s' on = x := ⟨_, rfl⟩
              obtain ⟨er, he⟩ : ∃ er, takeE s' on = er := ⟨_, rfl⟩
              obtain ⟨s3, hs3⟩ : ∃ s3, takeS s' on = s3 := ⟨_, rfl⟩
              obtain ⟨y, z⟩ := x
              have HX := Lib.hid hx
              have HE := Lib.hid he
              have HS3 := Lib.hid hs3
              clear hx he hs3
              have HG1 : Hid (∀ w', E2 w1.heap.size w1 w' d d2 s' s' → Calls Try.prog 16 #[.pointer (some ⟨d.b, 0, none⟩), .int .i64 on] w' fun e w'' => e = .returned (.tuple #[.agg #[.int .i64 y, .int .i64 z], .int .i64 er]) ∧ E2 w1.heap.size w1 w'' d d2 s3 s' ∧ Keep (fun k => k = d.g) w' w'') := Lib.hid (fun w' h => by
                refine (ltake on h.a hf2 HX.out HE.out HS3.out).mono ?_
                rintro e w'' ⟨rfl, hl, hk⟩
                exact ⟨rfl, h.callA HD.out hl hk, hk⟩)
              have HG2 : Hid (∀ w', E2 w1.heap.size w1 w' d d2 s3 s' → Calls Try.prog 16 #[.pointer (some ⟨d2.b, 0, none⟩), .int .i64 on] w' fun e w'' => e = .returned (.tuple #[.agg #[.int .i64 y, .int .i64 z], .int .i64 er]) ∧ E2 w1.heap.size w1 w'' d d2 s3 s3 ∧ Keep (fun k => k = d2.g) w' w'') := Lib.hid (fun w' h => by
                refine (ltake on h.b hf2 HX.out HE.out HS3.out).mono ?_
                rintro e w'' ⟨rfl, hl, hk⟩
                exact ⟨rfl, h.callB HD.out hl hk, hk⟩)
              have hal : Below wr.heap.size wr (wr.alloc (.cells #[.int .i64 kd, .int .i64 at_, .int .i64 on] 35)) := (Below.refl _ _).alloc (Nat.le_refl _) _
              have T8 := Lib.hid (T7.out.next hal)
              have hbo : Blk (wr.alloc (.cells #[.int .i64 kd, .int .i64 at_, .int .i64 on] 35)) wr.heap.size 35 #[.int .i64 kd, .int .i64 at_, .int .i64 on] := Blk.new wr _ _
              have HBO := Lib.hid hbo
              have HGL : Hid (d.g < wr.heap.size ∧ d2.g < wr.heap.size) := Lib.hid ⟨T7.out.a.all_lt _ (.inr rfl), T7.out.b.all_lt _ (.inr rfl)⟩
              have b0 := hbo.cell 0
              have b1 := hbo.cell 1
              have b2 := hbo.cell 2
              clear hbo hal T7
              go_wp2_with (first
                | (go_at_call 16; have l0 := T8.out; clear l0; refine (HG1.out _ T8.out).mono ?_; rintro e w7 ⟨rfl, h7, k7⟩; have hb7 := (k7.blk HBO.out (by have := HGL.out.1; intro e; have e : wr.heap.size = d.g := e; omega)).alloc (.cells #[.int .i64 y, .int .i64 z] 33); have B7 := Lib.hid hb7; have q0 := hb7.cell 0; have q1 := hb7.cell 1; have q2 := hb7.cell 2; have T9 := Lib.hid (h7.next ((Below.refl _ _).alloc (Nat.le_refl _) (.cells #[.int .i64 y, .int .i64 z] 33))); have X9 := Lib.hid (Blk.new w7 33 #[.int .i64 y, .int .i64 z]); have S7 : Hid (wr.heap.size ≤ w7.heap.size) := Lib.hid (Nat.le_trans (by simp) k7.size); clear h7 k7 hb7 T8 HBO)
                | (go_at_call 16; have l0 := T9.out; clear l0; refine (HG2.out _ T9.out).mono ?_; rintro e wv ⟨rfl, h8, k8⟩; have S8 : Hid (SB w1.heap.size w1 d d2 wr.heap.size w7.heap.size wv.heap.size #[.int .i64 kd, .int .i64 at_, .int .i64 on] y z s3 s3 (wv.alloc (.cells #[.int .i64 y, .int .i64 z] 33))) := Lib.hid ⟨h8.next ((Below.refl _ _).alloc (Nat.le_refl _) _), (k8.blk B7.out (by have := HGL.out.2; intro e; have e : wr.heap.size = d2.g := e; omega)).alloc _, (k8.blk X9.out (by have := HGL.out.2; have := S7.out; intro e; have e : w7.heap.size = d2.g := e; omega)).alloc _, Blk.new _ _ _⟩; have S9 : Hid (w7.heap.size ≤ wv.heap.size) := Lib.hid (Nat.le_trans (by simp) k8.size); clear h8 k8 T9 B7 X9))
              obtain ⟨er4, he4⟩ : ∃ er4, turnE s3 at_ on false = er4 := ⟨_, rfl⟩
              obtain ⟨s4, hs4⟩ : ∃ s4, turnS s3 at_ on false = s4 := ⟨_, rfl⟩
              obtain ⟨f4, hf4⟩ : ∃ f4, s4.L.count false = f4 := ⟨_, rfl⟩
              have HGE := Lib.hid he4
              have HGS := Lib.hid hs4
              have HF4 := Lib.hid hf4
              have HNG1 : Hid (wr.heap.size ≠ d.g ∧ w7.heap.size ≠ d.g ∧ wv.heap.size ≠ d.g) := Lib.hid (by have := HGL.out; have := S7.out; have := S9.out; omega)
              have HNG2 : Hid (wr.heap.size ≠ d2.g ∧ w7.heap.size ≠ d2.g ∧ wv.heap.size ≠ d2.g) := Lib.hid (by have := HGL.out; have := S7.out; have := S9.out; omega)
              have NEQ8 : Hid (∀ W : World, (binOp .neq 33 (.agg #[.int .i64 y, .int .i64 z]) (.agg #[.int .i64 y, .int .i64 z])).run Try.prog W = .ok (.bool false) W) := Lib.hid (fun W => by have h := neq_ext y z y z W; rwa [decide_eq_true ⟨rfl, rfl⟩, Bool.not_true] at h)
              clear he4 hs4 hf4
              refine wp_region_done_on (fun dn w' => SB w1.heap.size w1 d d2 wr.heap.size w7.heap.size wv.heap.size #[.int .i64 kd, .int .i64 at_, .int .i64 on] y z (if dn 12 = true then s4 else s3) (if dn 16 = true then s4 else s3) w')
                (sameR [.agg #[.int .i64 y, .int .i64 z], .agg #[.int .i64 y, .int .i64 z], .bool false, .bool false, .int .i64 er, .int .i64 er, .bool false, .bool false, .bool false, .pointer (some ⟨d.b, 0, none⟩), .pointer (some ⟨wr.heap.size, 1, none⟩), .agg #[.int .i64 at_, .int .i64 on], .int .i64 er4, .pointer (some ⟨d2.b, 0, none⟩), .pointer (some ⟨wr.heap.size, 1, none⟩), .agg #[.int .i64 at_, .int .i64 on], .int .i64 er4, .bool false, .bool false, .bool false, .pointer (some ⟨d.b, 0, none⟩), .int .i64 (f4 : Int), .pointer (some ⟨d2.b, 0, none⟩), .int .i64 (f4 : Int), .bool false, .bool false]) (by kernel_rfl) 146 rfl (by kernel_rfl) (S8.out.next (Below.refl _ _).drew) ?_ ?_
              · intro i hi
                have hi2 : i < 26 := hi
                clear hi
                rcases i with _ | i
                · refine done_value (fun _ _ h => h) (fun _ _ _ _ h => h.up) (.agg #[.int .i64 y, .int .i64 z]) rfl ?_
                  intro dn a8 w8 hS ho hn
                  have o14 : a8.tmps[14]? = some _ := (ho 14 (by kernel_rfl)).trans rfl
                  clear ho hn
                  refine ⟨wanted_free rfl, ?_, rfl, fun e => absurd e (by decide), fun e => absurd e (by decide)⟩
                  have q8 := hS.x1.cell 0
                  have q9 := hS.x1.cell 1
                  go_simp
                rcases i with _ | i
                · refine done_value (fun _ _ h => h) (fun _ _ _ _ h => h.up) (.agg #[.int .i64 y, .int .i64 z]) rfl ?_
                  intro dn a8 w8 hS ho hn
                  have o16 : a8.tmps[16]? = some _ := (ho 16 (by kernel_rfl)).trans rfl
                  clear ho hn
                  refine ⟨wanted_free rfl, ?_, rfl, fun e => absurd e (by decide), fun e => absurd e (by decide)⟩
                  have q8 := hS.x2.cell 0
                  have q9 := hS.x2.cell 1
                  go_simp
                rcases i with _ | i
                · refine done_value (fun _ _ h => h) (fun _ _ _ _ h => h.up) (.bool false) rfl ?_
                  intro dn a8 w8 hS ho hn
                  obtain ⟨_, n111, rfl, hc0, hb0⟩ := hn 0 111 (by kernel_rfl) rfl
                  obtain ⟨_, n112, rfl, hc1, hb1⟩ := hn 1 112 (by kernel_rfl) rfl
                  clear ho hn
                  refine ⟨wanted_free rfl, ?_, rfl, fun e => absurd e (by decide), fun e => absurd e (by decide)⟩
                  have q8 := NEQ8.out w8
                  go_simp
                rcases i with _ | i
                · refine done_value (fun _ _ h => h) (fun _ _ _ _ h => h.up) (.bool false) rfl ?_
                  intro dn a8 w8 hS ho hn
                  obtain ⟨_, n113, rfl, hc2, hb2⟩ := hn 2 113 (by kernel_rfl) rfl
                  clear ho hn
                  refine ⟨wanted_free rfl, ?_, rfl, fun e => absurd e (by decide), fun e => absurd e (by decide)⟩
                  go_simp
                rcases i with _ | i
                · refine done_value (fun _ _ h => h) (fun _ _ _ _ h => h.up) (.int .i64 er) rfl ?_
                  intro dn a8 w8 hS ho hn
                  have o15 : a8.tmps[15]? = some _ := (ho 15 (by kernel_rfl)).trans rfl
                  obtain ⟨_, n114, rfl, hc3, hb3⟩ := hn 3 114 (by kernel_rfl) rfl
                  clear ho hn
                  refine ⟨wanted_of 3 114 rfl rfl n114, ?_, rfl, fun e => absurd e (by decide), fun e => absurd e (by decide)⟩
                  go_simp
                rcases i with _ | i
                · refine done_value (fun _ _ h => h) (fun _ _ _ _ h => h.up) (.int .i64 er) rfl ?_
                  intro dn a8 w8 hS ho hn
                  have o17 : a8.tmps[17]? = some _ := (ho 17 (by kernel_rfl)).trans rfl
                  obtain ⟨_, n114, rfl, hc3, hb3⟩ := hn 3 114 (by kernel_rfl) rfl
                  clear ho hn
                  refine ⟨wanted_of 3 114 rfl rfl n114, ?_, rfl, fun e => absurd e (by decide), fun e => absurd e (by decide)⟩
                  go_simp
                rcases i with _ | i
                · refine done_value (fun _ _ h => h) (fun _ _ _ _ h => h.up) (.bool false) rfl ?_
                  intro dn a8 w8 hS ho hn
                  obtain ⟨_, n115, rfl, hc4, hb4⟩ := hn 4 115 (by kernel_rfl) rfl
                  obtain ⟨_, n116, rfl, hc5, hb5⟩ := hn 5 116 (by kernel_rfl) rfl
                  obtain ⟨_, n114, rfl, hc3, hb3⟩ := hn 3 114 (by kernel_rfl) rfl
                  clear ho hn
                  refine ⟨wanted_of 3 114 rfl rfl n114, ?_, rfl, fun e => absurd e (by decide), fun e => absurd e (by decide)⟩
                  go_simp
                rcases i with _ | i
                · refine done_value (fun _ _ h => h) (fun _ _ _ _ h => h.up) (.bool false) rfl ?_
                  intro dn a8 w8 hS ho hn
                  obtain ⟨_, n114, rfl, hc3, hb3⟩ := hn 3 114 (by kernel_rfl) rfl
                  obtain ⟨_, n117, rfl, hc6, hb6⟩ := hn 6 117 (by kernel_rfl) rfl
                  clear ho hn
                  refine ⟨wanted_free rfl, ?_, rfl, fun e => absurd e (by decide), fun e => absurd e (by decide)⟩
                  go_simp
                rcases i with _ | i
                · refine done_value (fun _ _ h => h) (fun _ _ _ _ h => h.up) (.bool false) rfl ?_
                  intro dn a8 w8 hS ho hn
                  obtain ⟨_, n118, rfl, hc7, hb7⟩ := hn 7 118 (by kernel_rfl) rfl
                  clear ho hn
                  refine ⟨wanted_free rfl, ?_, rfl, fun e => absurd e (by decide), fun e => absurd e (by decide)⟩
                  go_simp
                rcases i with _ | i
                · refine done_value (fun _ _ h => h) (fun _ _ _ _ h => h.up) (.pointer (some ⟨d.b, 0, none⟩)) rfl ?_
                  intro dn a8 w8 hS ho hn
                  have o6 : a8.tmps[6]? = some _ := (ho 6 (by kernel_rfl)).trans rfl
                  obtain ⟨_, n119, rfl, hc8, hb8⟩ := hn 8 119 (by kernel_rfl) rfl
                  clear ho hn
                  refine ⟨wanted_of 8 119 rfl rfl n119, ?_, rfl, fun e => absurd e (by decide), fun e => absurd e (by decide)⟩
                  go_simp
                rcases i with _ | i
                · refine done_value (fun _ _ h => h) (fun _ _ _ _ h => h.up) (.pointer (some ⟨wr.heap.size, 1, none⟩)) rfl ?_
                  intro dn a8 w8 hS ho hn
                  have o13 : a8.tmps[13]? = some _ := (ho 13 (by kernel_rfl)).trans rfl
                  obtain ⟨_, n119, rfl, hc8, hb8⟩ := hn 8 119 (by kernel_rfl) rfl
                  clear ho hn
                  refine ⟨wanted_of 8 119 rfl rfl n119, ?_, rfl, fun e => absurd e (by decide), fun e => absurd e (by decide)⟩
                  go_simp
                rcases i with _ | i
                · refine done_value (fun _ _ h => h) (fun _ _ _ _ h => h.up) (.agg #[.int .i64 at_, .int .i64 on]) rfl ?_
                  intro dn a8 w8 hS ho hn
                  obtain ⟨_, n121, rfl, hc10, hb10⟩ := hn 10 121 (by kernel_rfl) rfl
                  obtain ⟨_, n119, rfl, hc8, hb8⟩ := hn 8 119 (by kernel_rfl) rfl
                  clear ho hn
                  refine ⟨wanted_of 8 119 rfl rfl n119, ?_, rfl, fun e => absurd e (by decide), fun e => absurd e (by decide)⟩
                  have q8 := hS.op_.cell 1
                  have q9 := hS.op_.cell 2
                  go_simp
                rcases i with _ | i
                · refine done_call 17 #[.pointer (some ⟨d.b, 0, none⟩), .agg #[.int .i64 at_, .int .i64 on]] rfl ?_
                  intro dn a8 w8 hS hd hx ho hn
                  obtain ⟨_, n120, rfl, hc9, hb9⟩ := hn 9 120 (by kernel_rfl) rfl
                  obtain ⟨_, n122, rfl, hc11, hb11⟩ := hn 11 122 (by kernel_rfl) rfl
                  obtain ⟨_, n119, rfl, hc8, hb8⟩ := hn 8 119 (by kernel_rfl) rfl
                  clear ho hn
                  refine ⟨wanted_of 8 119 rfl rfl n119, by go_simp, ?_⟩
                  have hd9 : dn 12 = false := hd
                  have hS1 : SB w1.heap.size w1 d d2 wr.heap.size w7.heap.size wv.heap.size #[.int .i64 kd, .int .i64 at_, .int .i64 on] y z s3 (if dn 16 = true then s4 else s3) w8 := by { have h := hS; simpa only [hd9, Bool.false_eq_true, if_false] using h }
                  refine (lgive at_ on hS1.1.a HGE.out HGS.out).mono ?_
                  rintro e w9 ⟨rfl, h9, k9⟩
                  exact ⟨_, rfl, hS1.callA HD.out HNG1.out h9 k9, ⟨rfl, fun _ => rfl, fun e => absurd e (by decide)⟩, fun j u _ _ h => h.up⟩
                rcases i with _ | i
                · refine done_value (fun _ _ h => h) (fun _ _ _ _ h => h.up) (.pointer (some ⟨d2.b, 0, none⟩)) rfl ?_
                  intro dn a8 w8 hS ho hn
                  have o7 : a8.tmps[7]? = some _ := (ho 7 (by kernel_rfl)).trans rfl
                  obtain ⟨_, n119, rfl, hc8, hb8⟩ := hn 8 119 (by kernel_rfl) rfl
                  clear ho hn
                  refine ⟨wanted_of 8 119 rfl rfl n119, ?_, rfl, fun e => absurd e (by decide), fun e => absurd e (by decide)⟩
                  go_simp
                rcases i with _ | i
                · refine done_value (fun _ _ h => h) (fun _ _ _ _ h => h.up) (.pointer (some ⟨wr.heap.size, 1, none⟩)) rfl ?_
                  intro dn a8 w8 hS ho hn
                  have o13 : a8.tmps[13]? = some _ := (ho 13 (by kernel_rfl)).trans rfl
                  obtain ⟨_, n119, rfl, hc8, hb8⟩ := hn 8 119 (by kernel_rfl) rfl
                  clear ho hn
                  refine ⟨wanted_of 8 119 rfl rfl n119, ?_, rfl, fun e => absurd e (by decide), fun e => absurd e (by decide)⟩
                  go_simp
                rcases i with _ | i
                · refine done_value (fun _ _ h => h) (fun _ _ _ _ h => h.up) (.agg #[.int .i64 at_, .int .i64 on]) rfl ?_
                  intro dn a8 w8 hS ho hn
                  obtain ⟨_, n125, rfl, hc14, hb14⟩ := hn 14 125 (by kernel_rfl) rfl
                  obtain ⟨_, n119, rfl, hc8, hb8⟩ := hn 8 119 (by kernel_rfl) rfl
                  clear ho hn
                  refine ⟨wanted_of 8 119 rfl rfl n119, ?_, rfl, fun e => absurd e (by decide), fun e => absurd e (by decide)⟩
                  have q8 := hS.op_.cell 1
                  have q9 := hS.op_.cell 2
                  go_simp
                rcases i with _ | i
                · refine done_call 17 #[.pointer (some ⟨d2.b, 0, none⟩), .agg #[.int .i64 at_, .int .i64 on]] rfl ?_
                  intro dn a8 w8 hS hd hx ho hn
                  obtain ⟨_, n124, rfl, hc13, hb13⟩ := hn 13 124 (by kernel_rfl) rfl
                  obtain ⟨_, n126, rfl, hc15, hb15⟩ := hn 15 126 (by kernel_rfl) rfl
                  obtain ⟨_, n119, rfl, hc8, hb8⟩ := hn 8 119 (by kernel_rfl) rfl
                  obtain ⟨_, n123, _, hc12, _⟩ := hn 12 123 (by kernel_rfl) rfl
                  clear ho hn
                  refine ⟨wanted_of 8 119 rfl rfl n119, by go_simp, ?_⟩
                  have hd9 : dn 16 = false := hd
                  have hS1 : SB w1.heap.size w1 d d2 wr.heap.size w7.heap.size wv.heap.size #[.int .i64 kd, .int .i64 at_, .int .i64 on] y z (if dn 12 = true then s4 else s3) s3 w8 := by { have h := hS; simpa only [hd9, Bool.false_eq_true, if_false] using h }
                  refine (lgive at_ on hS1.1.b HGE.out HGS.out).mono ?_
                  rintro e w9 ⟨rfl, h9, k9⟩
                  exact ⟨_, rfl, hS1.callB HD.out HNG2.out h9 k9, ⟨rfl, fun e => absurd e (by decide), fun _ => ⟨hc12 rfl, rfl⟩⟩, fun j u _ _ h => h.up⟩
                rcases i with _ | i
                · refine done_value (fun _ _ h => h) (fun _ _ _ _ h => h.up) (.bool false) rfl ?_
                  intro dn a8 w8 hS ho hn
                  obtain ⟨_, n123, rfl, hc12, hb12⟩ := hn 12 123 (by kernel_rfl) rfl
                  obtain ⟨_, n127, rfl, hc16, hb16⟩ := hn 16 127 (by kernel_rfl) rfl
                  obtain ⟨_, n119, rfl, hc8, hb8⟩ := hn 8 119 (by kernel_rfl) rfl
                  clear ho hn
                  refine ⟨wanted_of 8 119 rfl rfl n119, ?_, rfl, fun e => absurd e (by decide), fun e => absurd e (by decide)⟩
                  go_simp
                rcases i with _ | i
                · refine done_value (fun _ _ h => h) (fun _ _ _ _ h => h.up) (.bool false) rfl ?_
                  intro dn a8 w8 hS ho hn
                  obtain ⟨_, n119, rfl, hc8, hb8⟩ := hn 8 119 (by kernel_rfl) rfl
                  obtain ⟨_, n128, rfl, hc17, hb17⟩ := hn 17 128 (by kernel_rfl) rfl
                  clear ho hn
                  refine ⟨wanted_free rfl, ?_, rfl, fun e => absurd e (by decide), fun e => absurd e (by decide)⟩
                  go_simp
                rcases i with _ | i
                · refine done_value (fun _ _ h => h) (fun _ _ _ _ h => h.up) (.bool false) rfl ?_
                  intro dn a8 w8 hS ho hn
                  obtain ⟨_, n129, rfl, hc18, hb18⟩ := hn 18 129 (by kernel_rfl) rfl
                  obtain ⟨_, n127, _, _, hb16⟩ := hn 16 127 (by kernel_rfl) rfl
                  clear ho hn
                  refine ⟨wanted_free rfl, ?_, rfl, fun e => absurd e (by decide), fun _ => hb16 (.inl rfl)⟩
                  go_simp
                rcases i with _ | i
                · refine done_value (fun _ _ h => h) (fun _ _ _ _ h => h.up) (.pointer (some ⟨d.b, 0, none⟩)) rfl ?_
                  intro dn a8 w8 hS ho hn
                  have o6 : a8.tmps[6]? = some _ := (ho 6 (by kernel_rfl)).trans rfl
                  obtain ⟨_, n130, rfl, hc19, hb19⟩ := hn 19 130 (by kernel_rfl) rfl
                  clear ho hn
                  refine ⟨wanted_of 19 130 rfl rfl n130, ?_, rfl, fun e => absurd e (by decide), fun e => absurd e (by decide)⟩
                  go_simp
                rcases i with _ | i
                · refine done_call 11 #[.pointer (some ⟨d.b, 0, none⟩)] rfl ?_
                  intro dn a8 w8 hS hd hx ho hn
                  obtain ⟨_, n131, rfl, hc20, hb20⟩ := hn 20 131 (by kernel_rfl) rfl
                  obtain ⟨_, n130, rfl, hc19, hb19⟩ := hn 19 130 (by kernel_rfl) rfl
                  clear ho hn
                  refine ⟨wanted_of 19 130 rfl rfl n130, by go_simp, ?_⟩
                  obtain ⟨k12, k16⟩ := hb19 (.inr rfl)
                  have hS1 : SB w1.heap.size w1 d d2 wr.heap.size w7.heap.size wv.heap.size #[.int .i64 kd, .int .i64 at_, .int .i64 on] y z s4 s4 w8 := by { have h := hS; simpa only [k12, k16, if_true] using h }
                  refine (lleft hS1.1.a HF4.out).mono ?_
                  rintro e w9 ⟨rfl, -, hb⟩
                  exact ⟨_, rfl, hS.next hb, ⟨rfl, fun e => absurd e (by decide), fun e => absurd e (by decide)⟩, fun j u _ _ h => h.up⟩
                rcases i with _ | i
                · refine done_value (fun _ _ h => h) (fun _ _ _ _ h => h.up) (.pointer (some ⟨d2.b, 0, none⟩)) rfl ?_
                  intro dn a8 w8 hS ho hn
                  have o7 : a8.tmps[7]? = some _ := (ho 7 (by kernel_rfl)).trans rfl
                  obtain ⟨_, n130, rfl, hc19, hb19⟩ := hn 19 130 (by kernel_rfl) rfl
                  clear ho hn
                  refine ⟨wanted_of 19 130 rfl rfl n130, ?_, rfl, fun e => absurd e (by decide), fun e => absurd e (by decide)⟩
                  go_simp
                rcases i with _ | i
                · refine done_call 11 #[.pointer (some ⟨d2.b, 0, none⟩)] rfl ?_
                  intro dn a8 w8 hS hd hx ho hn
                  obtain ⟨_, n133, rfl, hc22, hb22⟩ := hn 22 133 (by kernel_rfl) rfl
                  obtain ⟨_, n130, rfl, hc19, hb19⟩ := hn 19 130 (by kernel_rfl) rfl
                  clear ho hn
                  refine ⟨wanted_of 19 130 rfl rfl n130, by go_simp, ?_⟩
                  obtain ⟨k12, k16⟩ := hb19 (.inr rfl)
                  have hS1 : SB w1.heap.size w1 d d2 wr.heap.size w7.heap.size wv.heap.size #[.int .i64 kd, .int .i64 at_, .int .i64 on] y z s4 s4 w8 := by { have h := hS; simpa only [k12, k16, if_true] using h }
                  refine (lleft hS1.1.b HF4.out).mono ?_
                  rintro e w9 ⟨rfl, -, hb⟩
                  exact ⟨_, rfl, hS.next hb, ⟨rfl, fun e => absurd e (by decide), fun e => absurd e (by decide)⟩, fun j u _ _ h => h.up⟩
                rcases i with _ | i
                · refine done_value (fun _ _ h => h) (fun _ _ _ _ h => h.up) (.bool false) rfl ?_
                  intro dn a8 w8 hS ho hn
                  obtain ⟨_, n132, rfl, hc21, hb21⟩ := hn 21 132 (by kernel_rfl) rfl
                  obtain ⟨_, n134, rfl, hc23, hb23⟩ := hn 23 134 (by kernel_rfl) rfl
                  obtain ⟨_, n130, rfl, hc19, hb19⟩ := hn 19 130 (by kernel_rfl) rfl
                  clear ho hn
                  refine ⟨wanted_of 19 130 rfl rfl n130, ?_, rfl, fun e => absurd e (by decide), fun e => absurd e (by decide)⟩
                  go_simp
                rcases i with _ | i
                · refine done_value (fun _ _ h => h) (fun _ _ _ _ h => h.up) (.bool false) rfl ?_
                  intro dn a8 w8 hS ho hn
                  obtain ⟨_, n130, rfl, hc19, hb19⟩ := hn 19 130 (by kernel_rfl) rfl
                  obtain ⟨_, n135, rfl, hc24, hb24⟩ := hn 24 135 (by kernel_rfl) rfl
                  clear ho hn
                  refine ⟨wanted_free rfl, ?_, rfl, fun e => absurd e (by decide), fun e => absurd e (by decide)⟩
                  go_simp
                omega
              · intro done f w9 hS hR hall
                have h136 : f 136 = .bool false := (hR 25 136 rfl).1
                have T12 : Hid (E2 w1.heap.size w1 w9 d d2 s4 s4) := Lib.hid (by have h := hS.1; rwa [if_pos (hall 12 (by decide)), if_pos (hall 16 (by decide))] at h)
                clear hS hR hall
                simp only [putAll, List.foldl_cons, List.foldl_nil, Act.put, List.setIfInBounds_toArray, List.set_cons_succ, List.set_cons_zero, h136]
                go_wp2
                exact ⟨⟨k + 1, s4, by omega, by go_num, T12.out⟩, by simp [intOf]; omega⟩
            · obtain rfl : n2 = k := by omega
              have T8 := Lib.hid hT
              clear hT
              obtain ⟨mm, hmm⟩ : ∃ mm, (takenX s').length = mm := ⟨_, rfl⟩
              have hmm4 : mm ≤ 4096 := by rw [← hmm]; exact takenX_few T8.out.a.ek.ok
              have HMM := Lib.hid hmm
              clear hmm
              go_wp2_with (first
                | (go_at_call 14; have l0 := T8.out; clear l0; refine (ltaken T8.out.a rfl HMM.out).mono ?_; rintro e w10 ⟨A10, c10, rfl, ho, -, hb⟩; have T10 := Lib.hid (T8.out.next hb); have R10 := Lib.hid (Reads.of_own ho); clear ho hb T8)
                | (go_at_call 14; have l0 := T10.out; clear l0; refine (ltaken T10.out.b rfl HMM.out).mono ?_; rintro e w11 ⟨A11, c11, rfl, ho, -, hb⟩; have T11 := Lib.hid (T10.out.next hb); have R10b := Lib.hid ((R10.out.below hb).more hb.size); have R11 := Lib.hid (Reads.of_own ho); clear ho hb T10 R10)
                | (go_at_call 13; have hs9 := same4_any A10 A11 c10 c11 mm mm (takenX s') (takenX s') w11 HMM.out HMM.out R10b.out R11.out (by omega) (by omega); rw [decide_eq_true rfl] at hs9; refine hs9.mono ?_; clear hs9; rintro e w12 ⟨rfl, hb⟩; have T12 := Lib.hid (T11.out.next hb); clear hb T11 R10b R11))
              go_ret
              exact ⟨rfl, HB.out.trans (T12.out.a.below.mono HB.out.size)⟩
    · have hki : (((t + 1 : Nat)) : Int) - 1 = (t : Int) := by omega
      rw [hki] at hik
      subst hik
      obtain ⟨ad, r, rfl, hr, cA, cA1⟩ := reads_run hT.r HM.out (by omega : t < m)
      have hdr : rs.drop t = r :: rs.drop (t + 1) := by
        obtain ⟨h1, e1⟩ := List.getElem?_eq_some_iff.1 hr
        rw [List.drop_eq_getElem_cons h1, e1]
      have hfd : Frees (newE 5 305).L (r :: rs.drop (t + 1)) := by
        rw [← hdr]
        exact ⟨fun x hx => HFR.out.free x (List.mem_of_mem_drop hx), HFR.out.apart.sublist (List.drop_sublist ..)⟩
      have htc := turn_claim Is300.new hfd
      rw [hs2, ← hdr] at htc
      have HTC := Lib.hid htc
      have T5 := Lib.hid hT
      clear hr hdr hfd htc hT hs2 hki
      go_wp2_with (go_at_call 19; have l0 := T5.out; clear l0; refine (lclaim (5 + (r.1 : Int)) (r.2 : Int) T5.out.e.b HTC.out.1 HTC.out.2).mono ?_; rintro e w5 ⟨rfl, h5, k5⟩; have T6 := Lib.hid (T5.out.callB HD.out HA4.out h5 k5); clear h5 k5 T5)
      exact ⟨⟨t, _, by omega, by go_num, rfl, T6.out⟩, by simp [intOf]⟩
end Go.Proofs.Ytghihnblohoheaa

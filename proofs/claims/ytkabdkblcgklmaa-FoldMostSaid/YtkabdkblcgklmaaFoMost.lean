/-
  The walk of the statement FoldMost.
-/
import Derived.Test.YtkabdkblcgklmaaFoAlive
import Derived.Test.YtkabdkblcgklmaaArOpen
import Derived.BigQuiet
namespace Go.Proofs.Ytkabdkblcgklmaa.foldMost
open Go.RowKit Go.Proofs.Ytkabdkblcgklmaa.arr Go.Proofs.Ytkabdkblcgklmaa.sc Go.Proofs.Ytkabdkblcgklmaa.fo

theorem mem_step {l : List Int} {m : Int} {j : Nat} (h : j < l.length) : m ∈ l.take (j + 1) ↔ m ∈ l.take j ∨ l[j] = m := by
  rw [List.take_succ_eq_append_getElem h, List.mem_append, List.mem_singleton]
  exact ⟨fun h => h.elim .inl (fun h => .inr h.symm), fun h => h.elim .inl (fun h => .inr h.symm)⟩
set_option maxRecDepth 100000 in
set_option maxHeartbeats 16000000 in
theorem walk (A : Option Addr) (c : Nat) (l : List Int) (w : World) (hl : IArg w A c l) :
    Calls Try.prog 13 #[.slice A l.length c] w fun e w' => e = .returned (.bool true) ∧ Below w.heap.size w w' := by
  have HAL := Lib.hid (l16alive w)
  have hbig := hl.cap
  have hbig1 := hl.big
  obtain ⟨n, hn⟩ : ∃ n, l.length = n := ⟨_, rfl⟩
  have hrd := hl.reads
  have hfi := hl.fine
  rw [hn] at hrd hbig
  rw [hn]
  by_cases h0 : n = 0
  · subst h0
    clear hl hrd hfi hn
    go_enter Try.func13, Try.ntmps13
    go_wp2_with (go_at_call 45; refine HAL.out.mono ?_; rintro e w2 ⟨rfl, b2⟩)
    go_ret
    exact ⟨rfl, b2⟩
  have hn0 : (n == 0) = false := by simp [h0]
  have hn0' : ((n : Int) == 0) = false := by simp; omega
  by_cases h3 : 300 < n
  · have hd : decide (300 < (n : Int)) = true := decide_eq_true (by omega)
    clear hl hrd hfi hn h0
    go_enter Try.func13, Try.ntmps13
    go_wp2_with (go_at_call 45; refine HAL.out.mono ?_; rintro e w2 ⟨rfl, b2⟩)
    go_ret
    exact ⟨rfl, b2⟩
  have hd : decide (300 < (n : Int)) = false := decide_eq_false (by omega)
  have hne : l ≠ [] := by
    rintro rfl
    exact h0 hn.symm
  obtain ⟨m1, m2, m3⟩ := most_row hne
  obtain ⟨n1, n2, n3⟩ := least_row hne
  have HR7 : Hid (∀ W, Below w.heap.size w W → Calls Try.prog 30 #[.int .i64 7, .slice A n c] W fun e w' => e = .returned (.tuple #[.int .i64 (rowV 7 l), .int .i64 0]) ∧ Below W.heap.size W w') := Lib.hid (fun W hb => by
    have h := forow_any 7 A n c l W hn ((hrd.below hb).more hb.size) (by omega) hfi
    rw [m1] at h
    exact h)
  have HR6 : Hid (∀ W, Below w.heap.size w W → Calls Try.prog 30 #[.int .i64 6, .slice A n c] W fun e w' => e = .returned (.tuple #[.int .i64 (rowV 6 l), .int .i64 0]) ∧ Below W.heap.size W w') := Lib.hid (fun W hb => by
    have h := forow_any 6 A n c l W hn ((hrd.below hb).more hb.size) (by omega) hfi
    rw [n1] at h
    exact h)
  have HV : Hid (∀ W, Below w.heap.size w W → Calls Try.prog 27 #[.slice A n c] W fun e w' => ∃ p : AP, e = .returned (.agg #[.int .i64 1, .slice p.A0 1 p.c0, .slice p.A1 n p.c1]) ∧ AEl w' (vecF l) p ∧ Cap2 (vecF l) p ∧ Below W.heap.size W w') := Lib.hid (fun W hb => by
    refine (vec_give l (by omega) hfi A n c W hn ((hrd.below hb).more hb.size)).mono ?_
    rintro e w' ⟨p, rfl, h, k, b⟩
    refine ⟨p, ?_, h, k, b⟩
    unfold arC
    rw [show (vecF l).el.length = n from hn]
    rfl)
  obtain ⟨L, hL⟩ : ∃ L, apL (scV 7 l) l.length = L := ⟨_, rfl⟩
  have hLn : L.length = n := by rw [← hL, apL_length, hn]
  have hLf : ∀ z ∈ L, InR z := by rw [← hL]; exact scL_in hfi _
  have HSC : Hid (∀ W (p : AP), AEl W (vecF l) p → Cap2 (vecF l) p → Calls Try.prog 36 #[.int .i64 7, .agg #[.int .i64 1, .slice p.A0 1 p.c0, .slice p.A1 n p.c1]] W fun e w' => ∃ p : AP, e = .returned (.tuple #[.agg #[.int .i64 1, .slice p.A0 1 p.c0, .slice p.A1 n p.c1], .int .i64 0]) ∧ AEl w' (vecF L) p ∧ Below W.heap.size W w') := Lib.hid (fun W p h k => by
    have h1 := foscan_any 7 (vecF l) p W h k.l0 k.l1
    obtain ⟨s1, s2⟩ := scn_vec (f := 7) rfl (l := l) (by omega)
    rw [most_scan] at s1
    rw [s1, s2 s1, hL] at h1
    unfold arC at h1
    rw [show (vecF l).el.length = n from hn] at h1
    refine h1.mono ?_
    rintro e w' ⟨q, rfl, o, b⟩
    refine ⟨q, ?_, o.el (show (1 : Nat) ≤ _ by omega) (by show L.length ≤ _; omega) hLf, b⟩
    unfold arC
    rw [show (vecF L).el.length = n from hLn]
    rfl)
  have HX : Hid (∀ j, j < n → ∃ x s, l[j]? = some x ∧ L[j]? = some s ∧ x ≤ rowV 7 l ∧ rowV 6 l ≤ x ∧ x ≤ s ∧ (0 < j → ∃ s', L[j - 1]? = some s' ∧ s' ≤ s) ∧ (j = n - 1 → s = rowV 7 l)) := Lib.hid (fun j hj => by
    have hjl : j < l.length := by omega
    obtain ⟨k1, k2⟩ := most_step hjl
    refine ⟨l[j], scV 7 l j, List.getElem?_eq_getElem hjl, by rw [← hL]; exact apL_at (by omega), m3 _ (List.getElem_mem hjl), n3 _ (List.getElem_mem hjl), k1, fun h => ⟨scV 7 l (j - 1), by rw [← hL]; exact apL_at (by omega), k2 h⟩, fun h => ?_⟩
    unfold scV
    rw [List.take_of_length_le (by omega)])
  have HRD := Lib.hid (fun W (hb : Below w.heap.size w W) => (hrd.below hb).more hb.size)
  have HM7 : Hid (rowV 7 l ∈ l.take n) := Lib.hid (by rw [List.take_of_length_le (by omega)]; exact m2)
  have HM6 : Hid (rowV 6 l ∈ l.take n) := Lib.hid (by rw [List.take_of_length_le (by omega)]; exact n2)
  have HLN := Lib.hid hLn
  have HN := Lib.hid hn
  have HMS : Hid (∀ (m : Int) (j : Nat) (x : Int), l[j]? = some x → (m ∈ l.take (j + 1) ↔ m ∈ l.take j ∨ x = m)) := Lib.hid (fun m j x h => by
    obtain ⟨h1, h2⟩ := List.getElem?_eq_some_iff.1 h
    rw [mem_step h1, h2])
  have hn1 : 0 < n := by omega
  generalize rowV 7 l = mx at *
  generalize rowV 6 l = mn at *
  obtain ⟨xe, se, _, hse, _, _, _, _, hlast⟩ := HX.out (n - 1) (by omega)
  have hse2 : L[n - 1]? = some mx := by rw [← hlast rfl]; exact hse
  have HSE := Lib.hid hse2
  clear hl hrd hfi hn hne m1 m2 m3 n1 n2 n3 hL hLf hse hse2 hlast h0 h3 hLn
  go_enter Try.func13, Try.ntmps13
  go_upto_region 7 with (first
    | (go_at_call 36; refine (HSC.out _ _ E5.out C5.out).mono ?_; rintro e w6 ⟨r, rfl, e6, b6⟩; have E6 := Lib.hid e6; have B6 := Lib.hid (B5.out.trans (b6.mono B5.out.size)); clear e6 b6)
    | (go_at_call 27; refine (HV.out _ B4.out).mono ?_; rintro e w5 ⟨q, rfl, e5, c5, b5⟩; have E5 := Lib.hid e5; have C5 := Lib.hid c5; have B5 := Lib.hid (B4.out.trans (b5.mono B4.out.size)); clear e5 c5 b5)
    | (go_at_call 30; (have l0 := B3.out; clear l0); (with_reducible refine (HR6.out _ B3.out).mono ?_); rintro e w4 ⟨rfl, b4⟩; have B4 := Lib.hid (B3.out.trans (b4.mono B3.out.size)); clear b4)
    | (go_at_call 30; (with_reducible refine (HR7.out _ B2.out).mono ?_); rintro e w3 ⟨rfl, b3⟩; have B3 := Lib.hid (B2.out.trans (b3.mono B2.out.size)); clear b3)
    | (go_at_call 45; refine HAL.out.mono ?_; rintro e w2 ⟨rfl, b2⟩; have B2 := Lib.hid b2; clear b2))
  obtain ⟨w7, hw7⟩ : ∃ w7, w6.alloc (.cells #[.int .i64 1, .slice r.A0 1 r.c0, .slice r.A1 n r.c1] 25) = w7 := ⟨_, rfl⟩
  obtain ⟨g, hg⟩ : ∃ g, w6.heap.size = g := ⟨_, rfl⟩
  have hal := alloc_below w6 (.cells #[.int .i64 1, .slice r.A0 1 r.c0, .slice r.A1 n r.c1] 25)
  have hbx := Blk.new w6 25 #[.int .i64 1, .slice r.A0 1 r.c0, .slice r.A1 n r.c1]
  rw [hw7] at hal hbx
  rw [hg] at hbx
  have HB7 := Lib.hid (B6.out.trans (hal.mono B6.out.size))
  have HBX : Hid (∀ W, Below w7.heap.size w7 W → W.cell? ⟨g, 0, none⟩ = some (.int .i64 1) ∧ W.cell? ⟨g, 1, none⟩ = some (.slice r.A0 1 r.c0) ∧ W.cell? ⟨g, 2, none⟩ = some (.slice r.A1 n r.c1)) := Lib.hid (fun W hb => by
    have h := hbx.below hb hbx.lt
    exact ⟨h.cell 0, h.cell 1, h.cell 2⟩)
  have HRL : Hid (∀ W, Below w7.heap.size w7 W → ∀ j s, L[j]? = some s → ∃ ad, r.A1 = some ad ∧ W.cell? (ad.add j) = some (.int .i64 s)) := Lib.hid (fun W hb j s hs => by
    have h := ((E6.out.below hal).below hb).r1
    obtain ⟨h1, h2⟩ := List.getElem?_eq_some_iff.1 hs
    obtain ⟨ad, e1, _, e2⟩ := Reads.int_at (l := (vecF L).el) h (k := j) h1 rfl
    refine ⟨ad, e1, ?_⟩
    rw [e2, ← h2]
    rfl)
  have HAL2 : Hid (∀ W, Below w7.heap.size w7 W → ∀ j x, l[j]? = some x → ∃ ad, A = some ad ∧ W.cell? (ad.add j) = some (.int .i64 x)) := Lib.hid (fun W hb j x hs => by
    have h := HRD.out W (HB7.out.trans (hb.mono HB7.out.size))
    obtain ⟨h1, h2⟩ := List.getElem?_eq_some_iff.1 hs
    obtain ⟨ad, e1, _, e2⟩ := h.int_at (k := j) (by have := HN.out; omega) HN.out
    refine ⟨ad, e1, ?_⟩
    rw [e2, ← h2])
  rw [hw7, hg]
  obtain ⟨b0, b1, b2⟩ := HBX.out w7 (Below.refl _ _)
  obtain ⟨adS, hAS, cS⟩ := HRL.out w7 (Below.refl _ _) _ _ HSE.out
  obtain ⟨RA, hRA⟩ : ∃ RA, r.A1 = RA := ⟨_, rfl⟩
  rw [hRA] at HBX HRL b2 hAS
  subst hAS
  obtain ⟨rc, hrc⟩ : ∃ rc, r.c1 = rc := ⟨_, rfl⟩
  rw [hrc] at b2 HBX
  obtain ⟨r0, hr0⟩ : ∃ r0, (Value.slice r.A0 1 r.c0) = r0 := ⟨_, rfl⟩
  rw [hr0] at b1 HBX
  obtain ⟨m, rfl⟩ : ∃ m, n = m + 1 := ⟨n - 1, by omega⟩
  have hi1 : ((m + 1 : Nat) : Int) = (m : Int) + 1 := by omega
  simp only [Nat.add_sub_cancel] at cS
  have hms : (m : Int) ≤ 300 := by
    have := of_decide_eq_false hd
    omega
  clear hal hbx hw7 hg HR7 HR6 HV HSC hRA hrc hr0 HSE HAL
  go_wp2
  go_loopw [74, 10, 11] (fun i a b wr => ∃ j : Nat, j ≤ m + 1 ∧ i = .int .i64 (j : Int) ∧ a = .bool (decide (mx ∈ l.take j)) ∧ b = .bool (decide (mn ∈ l.take j)) ∧ Below w7.heap.size w7 wr) (fun i _ _ _ => m + 1 - (intOf i).toNat)
  case atStart => exact ⟨0, Nat.zero_le _, rfl, by simp, by simp, Below.refl _ _⟩
  case round =>
    obtain ⟨j, hj, rfl, ha, hb, hbw⟩ := hrel
    by_cases hlt : j < m + 1
    · obtain ⟨x, s, hx, hs, x1, x2, x3, x4, _⟩ := HX.out j hlt
      obtain ⟨adA, hA, cA⟩ := HAL2.out wr hbw j x hx
      obtain ⟨adS', hS', cS'⟩ := HRL.out wr hbw j s hs
      injection hS' with hS'
      subst hS'
      obtain ⟨y0, y1, y2⟩ := HBX.out wr hbw
      have ha2 : decide (mx ∈ l.take (j + 1)) = (decide (mx ∈ l.take j) || decide (x = mx)) := by simp only [HMS.out mx j x hx, Bool.decide_or]
      have hb2 : decide (mn ∈ l.take (j + 1)) = (decide (mn ∈ l.take j) || decide (x = mn)) := by simp only [HMS.out mn j x hx, Bool.decide_or]
      have HA2 := Lib.hid ha2
      have HB2 := Lib.hid hb2
      have HBW := Lib.hid hbw
      have hd1 : decide (mx < x) = false := decide_eq_false (by omega)
      have hd2 : decide (x < mn) = false := decide_eq_false (by omega)
      have hd3 : decide (s < x) = false := decide_eq_false (by omega)
      have hdj : (j : Int) < (m : Int) + 1 := by omega
      subst hA
      generalize decide (mx ∈ l.take j) = a0 at *
      generalize decide (mn ∈ l.take j) = b0 at *
      subst ha hb
      clear ha2 hb2 hbw hx hs x1 x2 x3 b1 b2 cS
      have qa : (x == mx) = decide (x = mx) := rfl
      have qb : (x == mn) = decide (x = mn) := rfl
      generalize decide (x = mx) = ea at *
      generalize decide (x = mn) = eb at *
      have HX4 := Lib.hid x4
      have HJ := Lib.hid hj
      clear x4
      cases a0 <;> cases b0
      all_goals
        simp only [Bool.false_or, Bool.true_or] at HA2 HB2
        rcases Nat.eq_zero_or_pos j with rfl | hj0
        · have e0 : adA.add 0 = adA := by simp [Addr.add]
          have e1 : adS.add 0 = adS := by simp [Addr.add]
          rw [e0] at cA
          rw [e1] at cS'
          have hd0 : (0 : Int) < (m : Int) + 1 := by omega
          clear HX4 hdj e0 e1
          go_upto_region 13 with (fail)
          go_quiet (fail)
          go_upto_region 14 with (fail)
          go_quiet (fail)
          go_wp2
          exact ⟨⟨1, by omega, by go_num, by rw [HA2.out], by rw [HB2.out], below_drewN HBW.out _⟩, by simp [intOf]⟩
        · obtain ⟨s', hs', x5⟩ := HX4.out hj0
          obtain ⟨p, hp⟩ : ∃ p, j - 1 = p := ⟨_, rfl⟩
          rw [hp] at hs'
          obtain ⟨adS2, hS2, cS2⟩ := HRL.out wr HBW.out p s' hs'
          injection hS2 with hS2
          subst hS2
          have hd4 : decide (s < s') = false := decide_eq_false (by omega)
          have hd5 : decide (0 < (j : Int)) = true := decide_eq_true (by omega)
          have hd6 : (j : Int) - 1 = (p : Int) := by omega
          have hd7 : (p : Int) < (m : Int) + 1 := by omega
          have hd8 : decide (0 < j) = true := decide_eq_true hj0
          have hpm : (p : Int) ≤ 300 := by omega
          clear HX4 hs' x5 hp
          go_upto_region 13 with (fail)
          go_quiet (fail)
          go_upto_region 14 with (fail)
          go_quiet (fail)
          go_wp2
          exact ⟨⟨j + 1, by omega, by go_num, by rw [HA2.out], by rw [HB2.out], below_drewN HBW.out _⟩, by simp [intOf]; omega⟩
    · obtain rfl : j = m + 1 := by omega
      rw [decide_eq_true HM7.out] at ha
      rw [decide_eq_true HM6.out] at hb
      subst ha hb
      have HBW := Lib.hid hbw
      clear hbw hlt b0 b1 b2 cS
      go_wp2
      go_ret
      exact ⟨rfl, HB7.out.trans (HBW.out.mono HB7.out.size)⟩
end Go.Proofs.Ytkabdkblcgklmaa.foldMost

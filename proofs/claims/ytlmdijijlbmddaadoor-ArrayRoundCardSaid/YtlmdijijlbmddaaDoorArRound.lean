/-
  The walk of the statement ArrayRound.
-/
import Derived.Test.YtlmdijijlbmddaaDoorArRnd
import Derived.Test.YtlmdijijlbmddaaDoorArRefA
import Derived.Test.YtlmdijijlbmddaaDoorArAlive
import Derived.Test.YtlmdijijlbmddaaDoorArOpen
namespace Go.Proofs.YtlmdijijlbmddaaDoor.arrayRound
open Go.RowKit Go.Proofs.YtlmdijijlbmddaaDoor.arr

theorem arown_cap {w : World} {base e n c : Nat} {A : Option Addr} {xs : List Value} (h : w.ownsRow base e 1 (.slice A n c) n xs) : n ≤ c := by
  rcases h.2 with ⟨e1, h0⟩ | ⟨g, cap, cur, e1, _, _, hc, _⟩
  · omega
  · injection e1 with _ _ e3
    omega
theorem arown_stay {w w1 : World} {base e size n B : Nat} {v : Value} {xs : List Value} (h : w.ownsRow base e size v n xs) (hb : Below B w w1) (hB : ∀ g, v.ownBlock = some g → g < B) : w1.ownsRow base e size v n xs := by
  refine ⟨h.1, ?_⟩
  rcases h.2 with hv | ⟨g, cap, cur, rfl, h0, hh, h1, h2, h3, h4⟩
  · exact .inl hv
  · exact .inr ⟨g, cap, cur, rfl, h0, (hb.block g (hB g (by simp [Value.ownBlock]))).trans hh, h1, h2, h3, h4⟩
theorem arown_lt {w : World} {base e size n : Nat} {v : Value} {xs : List Value} (h : w.ownsRow base e size v n xs) : ∀ g, v.ownBlock = some g → base ≤ g ∧ g < w.heap.size := by
  intro g hg
  rcases h.2 with ⟨rfl, _⟩ | ⟨g', cap, cur, rfl, h0, hh, _⟩
  · simp [Value.ownBlock] at hg
  · simp [Value.ownBlock] at hg
    subst hg
    exact ⟨h0, (Array.getElem?_eq_some_iff.1 hh).1⟩

theorem tup_len {l a : List Int} (h : placeB l a = true) : a.length = l.length := by
  unfold placeB at h
  rw [Bool.and_eq_true] at h
  obtain ⟨L, rfl, _⟩ := nat_of (okShape_iff.1 h.1).2.1
  obtain ⟨A, rfl, hA⟩ := tup_nat h.2
  rw [iL_length, iL_length, hA]
theorem lex_at : ∀ {l k : List Int} {j : Nat} (hl : j < l.length) (hk : j < k.length), l.take j = k.take j → ¬ l[j] = k[j] → lexB l k = decide (l[j] < k[j])
  | x :: l, y :: k, 0, _, _, _, hne => by
    show (if x = y then lexB l k else decide (x < y)) = decide (x < y)
    exact if_neg hne
  | x :: l, y :: k, j + 1, hl, hk, he, hne => by
    rw [List.take_succ_cons, List.take_succ_cons] at he
    injection he with h1 h2
    show (if x = y then lexB l k else decide (x < y)) = _
    rw [if_pos h1]
    exact lex_at (l := l) (k := k) (by simpa using hl) (by simpa using hk) h2 hne
  | [], _, _, hl, _, _, _ => by simp at hl
  | _, [], _, _, hk, _, _ => by simp at hk
theorem lex_same : ∀ l : List Int, lexB l l = false
  | [] => rfl
  | x :: l => by
    show (if x = x then lexB l l else decide (x < x)) = false
    rw [if_pos rfl]
    exact lex_same l

/-- What is behind the first question: both arguments in memory, and the tables. -/
structure RW (w : World) (A A2 : Option Addr) (n m : Nat) (l a : List Int) (W : World) : Prop where
  ra : Reads W W.heap.size 1 A n (l.map iv)
  rb : Reads W W.heap.size 1 A2 m (a.map iv)
  bw : Below w.heap.size w W
theorem RW.next {w W W' : World} {A A2 : Option Addr} {n m : Nat} {l a : List Int} (h : RW w A A2 n m l a W) (hb : Below W.heap.size W W') : RW w A A2 n m l a W' :=
  ⟨(h.ra.below hb).more hb.size, (h.rb.below hb).more hb.size, h.bw.trans (hb.mono h.bw.size)⟩


set_option maxRecDepth 100000 in
set_option maxHeartbeats 8000000 in
theorem walk (A A2 : Option Addr) (n c m c2 : Nat) (l a : List Int) (x y : Int) (w : World) (ht : Tab w) (hl : l.length = n) (ha : Reads w w.heap.size 1 A n (l.map iv)) (hc : n ≤ c) (hn : n ≤ 9223372036854775807) (hl2 : a.length = m) (ha2 : Reads w w.heap.size 1 A2 m (a.map iv)) (hm : m ≤ 9223372036854775807) :
    Calls Tryd.prog 3 #[.slice A n c, .int .i64 x, .int .i64 y, .slice A2 m c2] w fun e w' => e = .returned (.bool true) ∧ Below w.heap.size w w' := by
  have H0 : Hid (RW w A A2 n m l a w) := Lib.hid ⟨ha, ha2, Below.refl _ _⟩
  have HT := Lib.hid ht
  have HC := Lib.hid (fun W (h : RW w A A2 n m l a W) => arcount_any A c n l W hl h.ra hn)
  have HL := Lib.hid hl
  have HL2 := Lib.hid hl2
  by_cases h10 : 10 < m
  · have d1 : (10 : Int) < (m : Int) := by omega
    clear ha ha2 hl hl2 ht
    go_enter Tryd.func3, Tryd.ntmps3
    go_wp2_with (first
      | (go_at_call 4; refine (aralive_any w HT.out).mono ?_; rintro e w1 ⟨rfl, b1⟩; have H1 := Lib.hid (H0.out.next b1); clear b1)
      | (go_at_call 5; refine (HC.out w1 H1.out).mono ?_; rintro e _ ⟨rfl, rfl⟩))
    go_ret
    exact ⟨rfl, H1.out.bw⟩
  have d1 : ¬ (10 : Int) < (m : Int) := by omega
  cases hok : okShape l
  · obtain ⟨e1, e2⟩ := cnt_no hok
    rw [e1, e2] at HC
    clear ha ha2 hl hl2 ht hok e1 e2
    go_enter Tryd.func3, Tryd.ntmps3
    go_wp2_with (first
      | (go_at_call 4; refine (aralive_any w HT.out).mono ?_; rintro e w1 ⟨rfl, b1⟩; have H1 := Lib.hid (H0.out.next b1); clear b1)
      | (go_at_call 5; refine (HC.out w1 H1.out).mono ?_; rintro e _ ⟨rfl, rfl⟩))
    go_ret
    exact ⟨rfl, H1.out.bw⟩
  obtain ⟨e1, e2⟩ := cnt_ok hok
  rw [e1, e2] at HC
  have hX : ∀ z : Int, (z < 0 ∧ atB l z = false) ∨ (¬ z < 0 ∧ ¬ z < prodI l ∧ atB l z = false) ∨ (¬ z < 0 ∧ z < prodI l ∧ atB l z = true) := fun z => by
    unfold atB
    rw [hok, Bool.true_and]
    by_cases h0 : z < 0
    · exact .inl ⟨h0, by rw [decide_eq_false (by omega)]; rfl⟩
    · by_cases h1 : z < prodI l
      · exact .inr (.inr ⟨h0, h1, by rw [decide_eq_true (by omega), decide_eq_true h1]; rfl⟩)
      · exact .inr (.inl ⟨h0, h1, by rw [decide_eq_false h1, Bool.and_false]⟩)
  have HXA := Lib.hid (hX x)
  have HYA := Lib.hid (hX y)
  have hn4 : n ≤ 4 := by rw [← hl]; exact (okShape_iff.1 hok).1
  have HP : Hid (∀ W, RW w A A2 n m l a W → Calls Tryd.prog 6 #[.slice A n c, .slice A2 m c2] W fun e w' => e = .returned (.tuple #[.int .i64 (placeV l a), .bool (placeB l a)]) ∧ W = w') := Lib.hid (fun W h => arplace_any A A2 c n c2 m l a W hl h.ra hn hl2 h.rb hm)
  have HAX : Hid (∀ W, RW w A A2 n m l a W → Calls Tryd.prog 7 #[.slice A n c, .int .i64 x] W (AtA l x W)) := Lib.hid (fun W h => arat_any A c n l x W hl h.ra hc hn)
  have HAY : Hid (∀ W, RW w A A2 n m l a W → Calls Tryd.prog 7 #[.slice A n c, .int .i64 y] W (AtA l y W)) := Lib.hid (fun W h => arat_any A c n l y W hl h.ra hc hn)
  have HAK : Hid (∀ W, RW w A A2 n m l a W → placeB l a = true → Calls Tryd.prog 7 #[.slice A n c, .int .i64 (placeV l a)] W fun e w' => ∃ A' c', e = .returned (.tuple #[.slice A' m c', .bool true]) ∧ w'.ownsRow W.heap.size 3 1 (.slice A' m c') m (a.map iv) ∧ Below W.heap.size W w') := Lib.hid (fun W h hp => by
    have := arat_any A c n l (placeV l a) W hl h.ra hc hn
    obtain ⟨h1, h2, _⟩ := place_back hp
    unfold AtA at this
    rw [h1, h2, hl2] at this
    exact this)
  have HSH : Hid (∀ (B : Option Addr) (d : Nat) W, Reads W W.heap.size 1 B m (a.map iv) → RW w A A2 n m l a W → Calls Tryd.prog 8 #[.slice B m d, .slice A2 m c2] W fun e w' => e = .returned (.bool true) ∧ Below W.heap.size W w') := Lib.hid (fun B d W hb h => by
    have := r11shapes_any B A2 d c2 m m a a W hl2 hl2 hb h.rb (by omega) (by omega)
    rw [decide_eq_true rfl] at this
    exact this)
  have hPB : placeB l a = true → 0 ≤ placeV l a ∧ placeV l a < prodI l := fun h => (place_back h).2.2
  have HBX : Hid (∀ W (B : Option Addr) (d : Nat), RW w A A2 n m l a W → atB l x = true → Reads W W.heap.size 1 B n ((atL l x).map iv) → Calls Tryd.prog 6 #[.slice A n c, .slice B n d] W fun e w' => e = .returned (.tuple #[.int .i64 x, .bool true]) ∧ W = w') := Lib.hid (fun W B d h hx hr => by
    obtain ⟨h1, h2⟩ := at_place hx
    have := arplace_any A B c n d n l (atL l x) W hl h.ra hn (by rw [tup_len h1, hl]) hr hn
    rw [h1, h2] at this
    exact this)
  have HLX : Hid (∀ z : Int, atB l z = true → (atL l z).length = n) := Lib.hid (fun z hz => by rw [tup_len (at_place hz).1, hl])
  have HLL : Hid (atB l x = true → atB l y = true → lexB (atL l x) (atL l y) = decide (x < y)) := Lib.hid at_lex
  generalize placeV l a = k at *
  generalize prodI l = p at *
  clear hX ha ha2 hl hl2 ht hok e1 e2 hc
  cases hpl : placeB l a
  case' false =>
    rw [hpl] at HP
    clear hpl HAK HSH hPB
    go_enter Tryd.func3, Tryd.ntmps3
    go_upto_region 10 with (first
      | (go_at_call 4; refine (aralive_any w HT.out).mono ?_; rintro e w1 ⟨rfl, b1⟩; have H1 := Lib.hid (H0.out.next b1); clear b1)
      | (go_at_call 5; refine (HC.out w1 H1.out).mono ?_; rintro e _ ⟨rfl, rfl⟩)
      | (go_at_call 6; refine (HP.out w1 H1.out).mono ?_; rintro e _ ⟨rfl, rfl⟩))
    have H3 := H1
    obtain ⟨w3, hw⟩ : ∃ w3, w3 = w1 := ⟨_, rfl⟩
    subst hw
    clear H1
  case' true =>
    rw [hpl] at HP
    obtain ⟨p0, p1⟩ := hPB hpl
    have p0 : ¬ k < 0 := by omega
    have p1 : ¬ p ≤ k := by omega
    have HPL := Lib.hid hpl
    clear hpl hPB
    go_enter Tryd.func3, Tryd.ntmps3
    go_upto_region 10 with (first
      | (go_at_call 4; refine (aralive_any w HT.out).mono ?_; rintro e w1 ⟨rfl, b1⟩; have H1 := Lib.hid (H0.out.next b1); clear b1)
      | (go_at_call 5; refine (HC.out w1 H1.out).mono ?_; rintro e _ ⟨rfl, rfl⟩)
      | (go_at_call 6; refine (HP.out w1 H1.out).mono ?_; rintro e _ ⟨rfl, rfl⟩)
      | (go_at_call 7; refine (HAK.out w1 H1.out HPL.out).mono ?_; rintro e w2 ⟨A4, c4, rfl, o4, b2⟩; have H2 := Lib.hid (H1.out.next b2); have HR4 := Lib.hid (Reads.of_own o4); clear o4 b2)
      | (go_at_call 8; refine (HSH.out A4 c4 w2 HR4.out H2.out).mono ?_; rintro e w3 ⟨rfl, b3⟩; have H3 := Lib.hid (H2.out.next b3); clear b3))
    clear H1 H2 HR4
  all_goals
    rcases HXA.out with ⟨q1, q3⟩ | ⟨q1, q2, q3⟩ | ⟨q1, q2, q3⟩
    · rcases HYA.out with ⟨r1, r3⟩ | ⟨r1, r2, r3⟩ | ⟨r1, r2, r3⟩ <;> (
          go_wp2_with (first
            | (go_at_call 7; (have l0 := H4.out; clear l0); refine (HAY.out w4 H4.out).mono ?_; rintro e w5 ⟨E, f, rfl, o5, b5⟩; rw [r3]; have H5 := Lib.hid (H4.out.next b5); clear o5 b5)
            | (go_at_call 7; refine (HAX.out w3 H3.out).mono ?_; rintro e w4 ⟨B, d, rfl, o4, b4⟩; rw [q3]; have H4 := Lib.hid (H3.out.next b4); clear o4 b4))
          go_ret
          exact ⟨rfl, H5.out.bw⟩)
    · rcases HYA.out with ⟨r1, r3⟩ | ⟨r1, r2, r3⟩ | ⟨r1, r2, r3⟩ <;> (
          go_wp2_with (first
            | (go_at_call 7; (have l0 := H4.out; clear l0); refine (HAY.out w4 H4.out).mono ?_; rintro e w5 ⟨E, f, rfl, o5, b5⟩; rw [r3]; have H5 := Lib.hid (H4.out.next b5); clear o5 b5)
            | (go_at_call 7; refine (HAX.out w3 H3.out).mono ?_; rintro e w4 ⟨B, d, rfl, o4, b4⟩; rw [q3]; have H4 := Lib.hid (H3.out.next b4); clear o4 b4))
          go_ret
          exact ⟨rfl, H5.out.bw⟩)
    · rcases HYA.out with ⟨r1, r3⟩ | ⟨r1, r2, r3⟩ | ⟨r1, r2, r3⟩
      · go_wp2_with (first
          | (go_at_call 7; (have l0 := H4.out; clear l0); refine (HAY.out w4 H4.out).mono ?_; rintro e w5 ⟨E, f, rfl, o5, b5⟩; rw [r3]; have H5 := Lib.hid (H4.out.next b5); clear o5 b5)
          | (go_at_call 7; refine (HAX.out w3 H3.out).mono ?_; rintro e w4 ⟨B, d, rfl, o4, b4⟩; rw [q3]; have H4 := Lib.hid (H3.out.next b4); clear o4 b4))
        go_ret
        exact ⟨rfl, H5.out.bw⟩
      · go_wp2_with (first
          | (go_at_call 7; (have l0 := H4.out; clear l0); refine (HAY.out w4 H4.out).mono ?_; rintro e w5 ⟨E, f, rfl, o5, b5⟩; rw [r3]; have H5 := Lib.hid (H4.out.next b5); clear o5 b5)
          | (go_at_call 7; refine (HAX.out w3 H3.out).mono ?_; rintro e w4 ⟨B, d, rfl, o4, b4⟩; rw [q3]; have H4 := Lib.hid (H3.out.next b4); clear o4 b4))
        go_ret
        exact ⟨rfl, H5.out.bw⟩
      · have Q3 := Lib.hid q3
        have R3 := Lib.hid r3
        go_wp2_with (first
          | (go_at_call 6; refine (HBX.out w5 B d H5.out Q3.out HX5.out).mono ?_; rintro e _ ⟨rfl, rfl⟩)
          | (go_at_call 7; (have l0 := H4.out; clear l0); refine (HAY.out w4 H4.out).mono ?_; rintro e w5 ⟨E, f, rfl, o5, b5⟩; rw [HLX.out y R3.out] at o5 ⊢; rw [R3.out]
             have H5 := Lib.hid (H4.out.next b5)
             have HX5 := Lib.hid (Reads.of_own (arown_stay HO4.out b5 (fun g hg => (arown_lt HO4.out g hg).2)))
             have HY5 := Lib.hid (Reads.of_own o5)
             clear o5 b5 HO4)
          | (go_at_call 7; refine (HAX.out w3 H3.out).mono ?_; rintro e w4 ⟨B, d, rfl, o4, b4⟩; rw [HLX.out x Q3.out] at o4 ⊢; rw [Q3.out]
             have H4 := Lib.hid (H3.out.next b4)
             have HO4 := Lib.hid o4
             clear o4 b4))
        go_loopw [23, 22] (fun i s wr => ∃ j, j ≤ n ∧ i = .int .i64 ((j : Nat) : Int) ∧ s = .bool false ∧ (atL l x).take j = (atL l y).take j ∧ Below w5.heap.size w5 wr) (fun i _ _ => n - (intOf i).toNat)
        case atStart => exact ⟨0, Nat.zero_le _, rfl, rfl, by simp, Below.refl _ _⟩
        case round =>
          obtain ⟨j, hj, rfl, rfl, heq, hbw⟩ := hrel
          have hlx := HLX.out x Q3.out
          have hly := HLX.out y R3.out
          have hll := HLL.out Q3.out R3.out
          have HBW := Lib.hid (H5.out.bw.trans (hbw.mono H5.out.bw.size))
          have HW5 := Lib.hid hbw
          by_cases hlt : j < n
          · obtain ⟨adA, rfl, _, cA⟩ := (HX5.out.below hbw).int_at hlt hlx
            obtain ⟨adB, rfl, _, cB⟩ := (HY5.out.below hbw).int_at hlt hly
            have hjl : j < (atL l x).length := by omega
            have hjk : j < (atL l y).length := by omega
            have hstep : (atL l x)[j] = (atL l y)[j] → (atL l x).take (j + 1) = (atL l y).take (j + 1) := fun h => by
              rw [List.take_succ_eq_append_getElem hjl, List.take_succ_eq_append_getElem hjk, heq, h]
            have hno : ¬ (atL l x)[j] = (atL l y)[j] → (decide ((atL l x)[j] < (atL l y)[j])) = decide (x < y) := fun h => by
              rw [← lex_at hjl hjk heq h, hll]
            generalize (atL l x)[j] = u at *
            generalize (atL l y)[j] = v at *
            have HST := Lib.hid hstep
            clear hstep heq hbw hll hlx hly
            by_cases huv : u = v
            · have hne : (u != v) = false := by simp [huv]
              have HUV := Lib.hid huv
              clear huv hno
              go_wp2
              go_quiet (fail)
              go_wp2
              exact ⟨⟨j + 1, by omega, by go_num, rfl, HST.out HUV.out, below_drewN HW5.out _⟩, by simp [intOf]; omega⟩
            · have hne : (u != v) = true := by simp [huv]
              have hlt := hno huv
              clear huv hno
              by_cases hxy : x < y
              · have huv : u < v := by
                  rw [decide_eq_true hxy, decide_eq_true_eq] at hlt
                  exact hlt
                clear hlt
                go_wp2
                go_quiet (fail)
                go_wp2
                go_quiet (fail)
                go_wp2
                go_ret
                exact ⟨rfl, below_drewN HBW.out _⟩
              · have huv : ¬ u < v := by
                  rw [decide_eq_false hxy, decide_eq_false_iff_not] at hlt
                  exact hlt
                clear hlt
                go_wp2
                go_quiet (fail)
                go_wp2
                go_quiet (fail)
                go_wp2
                go_ret
                exact ⟨by rw [decide_eq_false (Int.not_lt.2 huv), decide_eq_false (Int.not_lt.2 hxy)]; rfl, below_drewN HBW.out _⟩
          · obtain rfl : j = n := by omega
            rw [List.take_of_length_le (by omega), List.take_of_length_le (by omega)] at heq
            rw [heq, lex_same] at hll
            have hxy : ¬ x < y := by
              have := hll.symm
              rw [decide_eq_false_iff_not] at this
              exact this
            clear hll heq hbw hlx hly
            go_wp2
            go_ret
            exact ⟨rfl, HBW.out⟩

theorem call {W : World} (A : Option Addr) (c : Nat) (l : List Int) (h : IArg W A c l) (x y : Int) (A2 : Option Addr) (c2 : Nat) (a : List Int) (h2 : IArg W A2 c2 a) (ht : Tab W) :
    Calls Tryd.prog 3 #[.slice A l.length c, .int .i64 x, .int .i64 y, .slice A2 a.length c2] W fun e w' => e = .returned (.bool true) ∧ Below W.heap.size W w' :=
  walk A A2 l.length c a.length c2 l a x y W ht rfl h.reads h.cap (by have := h.cap; have := h.big; omega) rfl h2.reads (by have := h2.cap; have := h2.big; omega)
end Go.Proofs.YtlmdijijlbmddaaDoor.arrayRound

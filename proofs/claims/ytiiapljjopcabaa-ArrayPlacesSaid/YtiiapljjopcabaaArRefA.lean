/-
  Layer 11 (array): the given At: the index tuple at a position, from its end.
-/
import Derived.Test.YtiiapljjopcabaaArAt
namespace Go.Proofs.Ytiiapljjopcabaa.arr
open Go.RowKit

set_option maxHeartbeats 2000000 in
theorem r11at_no (A : Option Addr) (c n : Nat) (l : List Int) (x : Int) (w : World) (hl : l.length = n) (ha : Reads w w.heap.size 1 A n (l.map iv)) (hn : n ≤ 9223372036854775807) (hat : atB l x = false) :
    Calls Try.prog 8 #[.slice A n c, .int .i64 x] w (AtA l x w) := by
  have HC := Lib.hid (r11count_any A c n l w hl ha hn)
  have HN : Hid (∀ W, Below w.heap.size w W → AtA l x w (.returned (.tuple #[.slice none 0 0, .bool false])) W) := Lib.hid (fun W hb => AtA.no hat hb)
  clear ha hl
  cases hok : okShape l
  · obtain ⟨e1, e2⟩ := cnt_no hok
    rw [e1, e2] at HC
    clear hok hat e1 e2
    go_enter Try.func8, Try.ntmps8
    go_wp2_with (go_at_call 11; refine HC.out.mono ?_; rintro e w1 ⟨rfl, hb1⟩; have HB1 := Lib.hid hb1; clear hb1)
    go_ret2
    exact HN.out _ HB1.out
  obtain ⟨e1, e2⟩ := cnt_ok hok
  rw [e1, e2] at HC
  have hat2 : ¬ (0 ≤ x ∧ x < prodI l) := by
    intro h
    unfold atB at hat
    rw [hok, decide_eq_true h.1, decide_eq_true h.2] at hat
    cases hat
  generalize prodI l = p at *
  clear hok hat e1 e2
  by_cases h0 : x < 0
  · clear hat2
    go_enter Try.func8, Try.ntmps8
    go_wp2_with (go_at_call 11; refine HC.out.mono ?_; rintro e w1 ⟨rfl, hb1⟩; have HB1 := Lib.hid hb1; clear hb1)
    go_ret2
    exact HN.out _ HB1.out
  · have h2 : p ≤ x := by omega
    clear hat2
    go_enter Try.func8, Try.ntmps8
    go_wp2_with (go_at_call 11; refine HC.out.mono ?_; rintro e w1 ⟨rfl, hb1⟩; have HB1 := Lib.hid hb1; clear hb1)
    go_ret2
    exact HN.out _ HB1.out

theorem arown_one (w : World) (base : Nat) (t : TypeId) (hb : base ≤ w.heap.size) (x : Value) : (w.alloc (.cells #[x] t)).ownsRow base t 1 (.slice (some ⟨w.heap.size, 0, none⟩) 1 1) 1 [x] :=
  ⟨rfl, .inr ⟨w.heap.size, 1, #[x], rfl, hb, heap_alloc_new w _, Nat.le_refl _, by unfold maxLen; omega, rfl, rfl⟩⟩

/-- What stands when k axes are left. -/
structure AtI (L : List Nat) (N : Nat) (w wr : World) (k : Nat) (u : Int) (v : Value) : Prop where
  u : u = ((N / prodN (L.drop k) : Nat) : Int)
  b : Below w.heap.size w wr
  o : ∃ A c, v = .slice A (L.length - k) c ∧ wr.ownsRow w.heap.size 3 1 v (L.length - k) ((iL (dig (L.drop k) (N % prodN (L.drop k)))).map iv)

set_option maxHeartbeats 4000000 in
theorem r11at_yes (A : Option Addr) (c : Nat) (L : List Nat) (N : Nat) (w : World) (ha : Reads w w.heap.size 1 A L.length ((iL L).map iv)) (hat : atB (iL L) (N : Int) = true) :
    Calls Try.prog 8 #[.slice A L.length c, .int .i64 (N : Int)] w (AtA (iL L) (N : Int) w) := by
  have hh := hat
  unfold atB at hh
  rw [Bool.and_eq_true, Bool.and_eq_true, decide_eq_true_eq, decide_eq_true_eq, prod_iL] at hh
  obtain ⟨hok, _, hNp⟩ := hh
  obtain ⟨h4, hall, hp⟩ := okShape_iff.1 hok
  rw [iL_length] at h4
  rw [prod_iL] at hp
  obtain ⟨m, hm⟩ : ∃ m, L.length = m := ⟨_, rfl⟩
  have HC : Hid (Calls Try.prog 11 #[.slice A m c] w fun e w' => e = .returned (.tuple #[.int .i64 (prodN L : Int), .int .i64 0]) ∧ Below w.heap.size w w') := Lib.hid (by
    have := r11count_any A c L.length (iL L) w (iL_length L) ha (by omega)
    rw [(cnt_ok hok).1, (cnt_ok hok).2, prod_iL, hm] at this
    exact this)
  have hN0 : ¬ (N : Int) < 0 := by omega
  have hNq : ¬ prodN L ≤ N := by omega
  have hd0 : decide ((N : Int) < 0) = false := decide_eq_false (by omega)
  have hd1 : decide (prodN L ≤ N) = false := decide_eq_false (by omega)
  have HA := Lib.hid ha
  have HH : Hid (L.length ≤ 4 ∧ (∀ x ∈ L, x ≤ 4096) ∧ N < prodN L ∧ N ≤ 4096) := Lib.hid ⟨h4, fun x hx => by
    have := List.all_eq_true.1 hall (x : Int) (List.mem_map.2 ⟨x, hx, rfl⟩)
    have := (lenOk_iff.1 this).2
    omega, by omega, by omega⟩
  have HAT := Lib.hid hat
  have HM := Lib.hid hm
  obtain ⟨i0, hi, hz0, hz1, hz2⟩ := info_parts arInfoInt
  have hm4 : m ≤ 4 := by omega
  have hw0 : Hid (N / prodN (L.drop m) = N ∧ N % prodN (L.drop m) = 0 ∧ L.drop m = []) := Lib.hid (by
    rw [← hm, List.drop_length]
    exact ⟨Nat.div_one N, Nat.mod_one N, rfl⟩)
  clear ha hat hok hNp h4 hall hp
  rw [hm]
  go_enter Try.func8, Try.ntmps8
  go_wp2_with (go_at_call 11; refine HC.out.mono ?_; rintro e w1 ⟨rfl, hb1⟩; have HB1 := Lib.hid hb1; clear hb1)
  clear HC
  go_loopw [9, 1, 8] (fun i u v wr => ∃ (k : Nat) (z y : Int), k ≤ m ∧ i = .int .i64 z ∧ z = (k : Int) - 1 ∧ u = .int .i64 y ∧ AtI L N w wr k y v) (fun i _ _ _ => ((intOf i) + 1).toNat)
  case atStart => exact ⟨m, (m : Int) - 1, (N : Int), Nat.le_refl _, rfl, rfl, rfl, by rw [hw0.out.1], HB1.out, none, 0, by rw [HM.out, Nat.sub_self], by rw [hw0.out.2.1, hw0.out.2.2, HM.out, Nat.sub_self]; exact World.ownsRow_nil _ _ _ _⟩
  case round =>
    obtain ⟨k, z, y, hk, rfl, hz, rfl, hI⟩ := hrel
    rcases k with _ | j
    · obtain rfl : z = -1 := by omega
      obtain ⟨A', c', rfl, ho⟩ := hI.o
      have hb := hI.b
      rw [Nat.sub_zero, List.drop_zero, Nat.mod_eq_of_lt HH.out.2.2.1] at ho
      rw [Nat.sub_zero, HM.out]
      have HE : Hid (AtA (iL L) (N : Int) w (.returned (.tuple #[.slice A' m c', .bool true])) wr) := Lib.hid (by
        unfold AtA
        rw [HAT.out, atL_iL HAT.out, iL_length, dig_length, HM.out]
        rw [HM.out] at ho
        exact ⟨_, _, rfl, ho, hb⟩)
      clear ho hb hI hk hz
      go_wp2
      go_ret2
      exact HE.out
    · obtain rfl : z = (j : Int) := by omega
      obtain ⟨A', c', rfl, ho⟩ := hI.o
      have hjL : j < L.length := by rw [HM.out]; omega
      have hcons : L.drop j = L[j] :: L.drop (j + 1) := List.drop_eq_getElem_cons hjL
      have hx4 := HH.out.2.1 L[j] (List.getElem_mem hjL)
      obtain ⟨adA, rfl, _, cA⟩ := (HA.out.below hI.b).int_at hjL (iL_length L)
      rw [show (iL L)[j]'(by rw [iL_length]; exact hjL) = (L[j] : Int) by unfold iL; rw [List.getElem_map]] at cA
      have hy := hI.u
      have hp0 := prodN_pos (L := L) j (by have := HH.out.2.2.1; omega)
      generalize L[j] = x at *
      obtain ⟨u, hu⟩ : ∃ u, N / prodN (L.drop (j + 1)) = u := ⟨_, rfl⟩
      rw [hu] at hy
      subst hy
      have hul : u ≤ 4096 := by have := Nat.div_le_self N (prodN (L.drop (j + 1))); have := HH.out.2.2.2; omega
      have hx0 : 0 < x := by
        rw [hcons] at hp0
        rcases Nat.eq_zero_or_pos x with h0 | h0
        · have h : 0 < x * prodN (L.drop (j + 1)) := hp0
          rw [h0, Nat.zero_mul] at h
          omega
        · exact h0
      obtain ⟨d, hd⟩ : ∃ d, u % x = d := ⟨_, rfl⟩
      obtain ⟨u2, hu2⟩ : ∃ u2, u / x = u2 := ⟨_, rfl⟩
      have et : (u : Int).tmod (x : Int) = (d : Int) := by rw [← hd]; exact (Int.ofNat_tmod u x).symm
      have eq : (u : Int).tdiv (x : Int) = (u2 : Int) := by rw [← hu2]; exact (Int.ofNat_tdiv u x).symm
      have hdl : (d : Int) ≤ 4096 := by have := Nat.mod_le u x; omega
      have hul2 : (u2 : Int) ≤ 4096 := by have := Nat.div_le_self u x; omega
      have hul' : (u : Int) ≤ 4096 := by omega
      have hx4' : (x : Int) ≤ 4096 := by omega
      have hx0' : (0 : Int) < (x : Int) := by omega
      have hjm : (j : Int) < (m : Int) := by omega
      have HSTEP : Hid ((N / prodN (L.drop j) = u2) ∧ dig (L.drop j) (N % prodN (L.drop j)) = d :: dig (L.drop (j + 1)) (N % prodN (L.drop (j + 1)))) := Lib.hid (by
        rw [hcons]
        refine ⟨?_, ?_⟩
        · show N / (x * prodN (L.drop (j + 1))) = u2
          rw [Nat.mul_comm, ← Nat.div_div_eq_div_mul, hu, hu2]
        · show dig (x :: L.drop (j + 1)) (N % (x * prodN (L.drop (j + 1)))) = _
          rw [dig_suffix, hu, hd])
      obtain ⟨q, hq⟩ : ∃ q, L.length - (j + 1) = q := ⟨_, rfl⟩
      rw [hq] at ho
      rw [hq]
      obtain ⟨news, hnews⟩ : ∃ news, (iL (dig (L.drop (j + 1)) (N % prodN (L.drop (j + 1))))).map iv = news := ⟨_, rfl⟩
      have hone : ∀ u ∈ news, u.oneCell' = true := by rw [← hnews]; exact iv_one _
      rw [hnews] at ho
      obtain ⟨w2, hw2⟩ : ∃ w2, wr.alloc (.cells #[.int .i64 (d : Int)] 3) = w2 := ⟨_, rfl⟩
      have hb2 : Below wr.heap.size wr w2 := by rw [← hw2]; exact (Below.refl _ _).alloc (Nat.le_refl _) _
      have hsz := hI.b.size
      have ho2 : w2.ownsRow w.heap.size 3 1 (.slice (some ⟨wr.heap.size, 0, none⟩) 1 1) 1 [.int .i64 (d : Int)] := by rw [← hw2]; exact arown_one wr _ _ hsz _
      have hr2 : Reads w2 w2.heap.size 1 A' q news := Reads.of_own ((Keep.of_below (S := fun _ => False) hb2).own ho (fun _ _ h => h))
      have cB := (World.cell?_of_block (hb2.block (adA.add j).block (block_lt_of_cell cA))).trans cA
      have HO2 := Lib.hid ho2
      have HR2 := Lib.hid hr2
      have HONE := Lib.hid hone
      have HB2 := Lib.hid (hI.b.trans (hb2.mono hsz))
      have HNEWS := Lib.hid hnews
      have hq4 : q ≤ 4 := by have := HH.out.1; omega
      have HQ : Hid (L.length - j = 1 + q) := Lib.hid (by omega)
      have HGW : Hid (∀ W, w2.grownBy W (Value.slice (some ⟨wr.heap.size, 0, none⟩) 1 1).ownBlock → W.cell? (adA.add j) = some (.int .i64 (x : Int)) ∧ Below w.heap.size w W) := Lib.hid (fun W hg => by
        have hlt := block_lt_of_cell cA
        refine ⟨(World.cell?_of_block (hg.block (adA.add j).block (by have := hb2.size; omega) (fun e => ?_))).trans cB, (hI.b.trans (hb2.mono hsz)).grown hg (Nat.le_trans hsz hb2.size) (fun g e => ?_)⟩
        · simp [Value.ownBlock] at e
          omega
        · simp [Value.ownBlock] at e
          omega)
      clear ho ho2 hr2 hone hb2 hI hu hd hu2 hnews hcons hp0 hq hsz hz hk
      go_wp2_with (at_builtin; (try rw [hw2]); refine wpList_append_any _ rfl _ _ 22 rfl w.heap.size 3 i0 (.int .i64 0) 1 8 Try.underlying22 hi hz0 hz1 hz2 rfl (by decide) _ 1 [.int .i64 (d : Int)] rfl HO2.out _ A' q c' news rfl HR2.out HONE.out (by unfold maxLen; omega) (by omega) HB2.out.size ?_; intro v3 w3 hown hgrow _; obtain ⟨cC, hb3⟩ := HGW.out w3 hgrow; have HO3 := Lib.hid hown; have HB3 := Lib.hid hb3; clear hown hgrow hb3)
      refine ⟨⟨j, (j : Int) - 1, (u2 : Int), by omega, rfl, rfl, rfl, ?_⟩, ?_⟩
      · refine ⟨by rw [HSTEP.out.1], HB3.out, ?_⟩
        have h3 := HO3.out
        rw [HSTEP.out.2, HQ.out]
        have hl : (iL (d :: dig (L.drop (j + 1)) (N % prodN (L.drop (j + 1))))).map iv = [.int .i64 (d : Int)] ++ news := by rw [← HNEWS.out]; rfl
        rw [hl]
        obtain ⟨A3, c3, rfl⟩ : ∃ A3 c3, v3 = .slice A3 (1 + q) c3 := by
          rcases h3.2 with ⟨_, h0⟩ | ⟨g, cap, cur, e, _⟩
          · omega
          · exact ⟨_, cap, e⟩
        exact ⟨A3, c3, rfl, h3⟩
      · simp [intOf]

theorem r11at_any (A : Option Addr) (c n : Nat) (l : List Int) (x : Int) (w : World) (hl : l.length = n) (ha : Reads w w.heap.size 1 A n (l.map iv)) (hn : n ≤ 9223372036854775807) :
    Calls Try.prog 8 #[.slice A n c, .int .i64 x] w (AtA l x w) := by
  cases hat : atB l x
  · exact r11at_no A c n l x w hl ha hn hat
  · have hh := hat
    unfold atB at hh
    rw [Bool.and_eq_true, Bool.and_eq_true, decide_eq_true_eq] at hh
    obtain ⟨L, rfl, _⟩ := nat_of (okShape_iff.1 hh.1).2.1
    obtain ⟨N, rfl⟩ := Int.eq_ofNat_of_zero_le hh.2.1
    subst hl
    rw [iL_length] at ha ⊢
    exact r11at_yes A c L N w ha hat
theorem atL_len (l : List Int) (x : Int) : (atL l x).length ≤ 4 := by
  unfold atL
  split
  · rename_i h
    unfold atB at h
    rw [Bool.and_eq_true] at h
    rw [iL_length, dig_length, List.length_map]
    exact (okShape_iff.1 h.1).1
  · simp
end Go.Proofs.Ytiiapljjopcabaa.arr

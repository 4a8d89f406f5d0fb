/-
  Layer 11 (array): At: the index tuple at a position.
-/
import Derived.Test.YtlmdijijlbmddaaDoorArIter
import Derived.Test.YtlmdijijlbmddaaDoorWriter
namespace Go.Proofs.YtlmdijijlbmddaaDoor.arr
open Go.RowKit

theorem arbelow_own {B : Nat} {w W W' : World} {row : Option Nat} (h : Below B w W) (hB : B ≤ w.heap.size) (hg : W.grownBy W' row) (hr : ∀ r, row = some r → B ≤ r) : Below B w W' :=
  h.grown hg (Nat.le_trans hB h.size) hr
theorem arblk_turned {W W' : World} {g B : Nat} {t : TypeId} {cs : Array Value} {row : Option Nat} (h : Blk W g t cs) (hg : W.grownBy W' row) (hr : ∀ r, row = some r → B ≤ r ∧ ∃ o : Obj, W.heap[r]? = some o ∧ o.isCells = false) : Blk W' g t cs :=
  h.grown hg (fun e => by
    obtain ⟨_, o, ho, hc⟩ := hr g e.symm
    unfold Blk at h
    rw [h] at ho
    injection ho with ho
    subst ho
    cases hc)

/-- What At answers. -/
def AtA (l : List Int) (x : Int) (w : World) (e : Ending) (w' : World) : Prop :=
  ∃ A c, e = .returned (.tuple #[.slice A (atL l x).length c, .bool (atB l x)]) ∧ w'.ownsRow w.heap.size 3 1 (.slice A (atL l x).length c) (atL l x).length ((atL l x).map iv) ∧ Below w.heap.size w w'
theorem AtA.no {l : List Int} {x : Int} {w w' : World} (h : atB l x = false) (hb : Below w.heap.size w w') : AtA l x w (.returned (.tuple #[.slice none 0 0, .bool false])) w' := by
  unfold AtA
  rw [atL_no h, h]
  exact ⟨none, 0, rfl, World.ownsRow_nil _ _ _ _, hb⟩
theorem AtA.yes {L : List Nat} {n : Nat} {w w' : World} {g : Nat} (h : atB (iL L) (n : Int) = true) (hb : Below w.heap.size w w') (hg : w.heap.size ≤ g) (hL : L.length ≤ 4) (hx : Blk w' g 3 ((iL (dig L n)).map iv).toArray) :
    AtA (iL L) (n : Int) w (.returned (.tuple #[.slice (some ⟨g, 0, none⟩) L.length L.length, .bool true])) w' := by
  have hl : (iL (dig L n)).length = L.length := by rw [iL_length, dig_length]
  unfold AtA
  rw [atL_iL h, h, hl]
  refine ⟨_, _, rfl, ⟨by rw [List.length_map, hl, Nat.mul_one], .inr ⟨g, L.length, _, rfl, hg, hx, Nat.le_refl _, by unfold maxLen; omega, by simp [hl], ?_⟩⟩, hb⟩
  rw [Nat.mul_one]
  exact List.take_of_length_le (by rw [List.length_map, hl]; exact Nat.le_refl _)

set_option maxHeartbeats 2000000 in
theorem arat_no (A : Option Addr) (c n : Nat) (l : List Int) (x : Int) (w : World) (hl : l.length = n) (ha : Reads w w.heap.size 1 A n (l.map iv)) (hn : n ≤ 9223372036854775807) (hat : atB l x = false) :
    Calls Tryd.prog 7 #[.slice A n c, .int .i64 x] w (AtA l x w) := by
  have hb1 : Below w.heap.size w (w.alloc (.cells #[.int .i64 x] 3)) := (Below.refl _ _).alloc (Nat.le_refl _) _
  have HC := Lib.hid (arcount_any A c n l (w.alloc (.cells #[.int .i64 x] 3)) hl ((ha.below hb1).more hb1.size) hn)
  have HB1 := Lib.hid hb1
  have hx1 := Blk.new w 3 #[.int .i64 x]
  have x0 := hx1.cell 0
  have HN : Hid (AtA l x w (.returned (.tuple #[.slice none 0 0, .bool false])) (w.alloc (.cells #[.int .i64 x] 3))) := Lib.hid (AtA.no hat hb1)
  clear hb1 hx1 ha hl
  cases hok : okShape l
  · obtain ⟨e1, e2⟩ := cnt_no hok
    rw [e1, e2] at HC
    clear hok hat e1 e2
    go_enter Tryd.func7, Tryd.ntmps7
    go_wp2
    go_step3
    go_wp2_with (go_at_call 5; refine HC.out.mono ?_; rintro e _ ⟨rfl, rfl⟩)
    rw [Exit.noGoto_ret]
    go_ret2
    exact HN.out
  obtain ⟨e1, e2⟩ := cnt_ok hok
  rw [e1, e2] at HC
  have hat2 : ¬ (0 ≤ x ∧ x < prodI l) := by
    intro h
    unfold atB at hat
    rw [hok, decide_eq_true h.1, decide_eq_true h.2] at hat
    cases hat
  generalize prodI l = p at *
  clear hok hat e1 e2
  by_cases h0 : x < 0
  · clear hat2
    go_enter Tryd.func7, Tryd.ntmps7
    go_wp2
    go_step3
    go_wp2_with (go_at_call 5; refine HC.out.mono ?_; rintro e _ ⟨rfl, rfl⟩)
    rw [Exit.noGoto_ret]
    go_ret2
    exact HN.out
  · have h2 : p ≤ x := by omega
    clear hat2
    go_enter Tryd.func7, Tryd.ntmps7
    go_wp2
    go_step3
    go_wp2_with (go_at_call 5; refine HC.out.mono ?_; rintro e _ ⟨rfl, rfl⟩)
    rw [Exit.noGoto_ret]
    go_ret2
    exact HN.out

section
attribute [local go_sem] Oper.semAt_some
set_option maxRecDepth 100000 in
set_option maxHeartbeats 4000000 in
theorem arat_yes (A : Option Addr) (c : Nat) (L : List Nat) (N : Nat) (w : World) (ha : Reads w w.heap.size 1 A L.length ((iL L).map iv)) (hc : L.length ≤ c) (hat : atB (iL L) (N : Int) = true) :
    Calls Tryd.prog 7 #[.slice A L.length c, .int .i64 (N : Int)] w (AtA (iL L) (N : Int) w) := by
  have hh := hat
  unfold atB at hh
  rw [Bool.and_eq_true, Bool.and_eq_true, decide_eq_true_eq, decide_eq_true_eq, prod_iL] at hh
  obtain ⟨hok, _, hNp⟩ := hh
  obtain ⟨h4, hall, hp⟩ := okShape_iff.1 hok
  rw [iL_length] at h4
  rw [prod_iL] at hp
  obtain ⟨m, hm⟩ : ∃ m, L.length = m := ⟨_, rfl⟩
  obtain ⟨z, hz⟩ : ∃ z, w.heap.size = z := ⟨_, rfl⟩
  have hb1 : Below w.heap.size w (w.alloc (.cells #[.int .i64 (N : Int)] 3)) := (Below.refl _ _).alloc (Nat.le_refl _) _
  have HC : Hid (Calls Tryd.prog 5 #[.slice A m c] (w.alloc (.cells #[.int .i64 (N : Int)] 3)) fun e w' => e = .returned (.tuple #[.int .i64 (prodN L : Int), .int .i64 0]) ∧ w.alloc (.cells #[.int .i64 (N : Int)] 3) = w') := Lib.hid (by
    have := arcount_any A c L.length (iL L) (w.alloc (.cells #[.int .i64 (N : Int)] 3)) (iL_length L) ((ha.below hb1).more hb1.size) (by omega)
    rw [(cnt_ok hok).1, (cnt_ok hok).2, prod_iL, hm] at this
    exact this)
  have hx1 := Blk.new w 3 #[.int .i64 (N : Int)]
  rw [hz] at hx1
  have x0 := hx1.cell 0
  have hN0 : ¬ (N : Int) < 0 := by omega
  have hNq : ¬ (prodN L : Int) ≤ (N : Int) := by omega
  have HA := Lib.hid ha
  have HH : Hid (L.length ≤ 4 ∧ (iL L).all lenOk = true ∧ L.length ≤ c ∧ N < prodN L ∧ N ≤ 4096) := Lib.hid ⟨h4, hall, hc, by omega, by omega⟩
  have HAT := Lib.hid hat
  have HM := Lib.hid hm
  have hfo : Fence.wide.fn 15 := trivial
  have hfc : Fence.wide.fn 5 := trivial
  clear ha hc hat hok hNp h4 hall hp hb1 hx1
  refine (callsIn_wide (n := 7)).1 ?_
  refine callsIn_of_wp_marks Tryd.func7 rfl trivial ?_
  simp only [Tryd.ntmps7, List.size_toArray, List.length_cons, List.length_nil, Nat.reduceAdd, Nat.reduceSub, Array.replicate_succ, Array.replicate_zero, List.push_toArray, List.append_toArray, List.nil_append, List.cons_append]
  rw [hm]
  gi_wp2
  refine wpIn_scope_wide ?_
  gi_wp2_with (gi_at_call 5; refine (callsIn_wide.2 HC.out).mono ?_; rintro e _ ⟨rfl, rfl⟩)
  refine wpIn_label ?_
  gi_wp2_with (gi_at_call 15; refine (callsIn_wide.2 (artuples_any _ _ _ _ _)).mono ?_; rintro e w7 ⟨rfl, hw7⟩)
  have hs7 : w7.heap.size = z + 4 := by rw [← hw7, ← hz]; simp
  have hb7 : Below w.heap.size w w7 := by rw [← hw7]; exact ((((Below.refl _ w).alloc (Nat.le_refl _) _).alloc (by simp) _).alloc (by simp; omega) _).alloc (by simp; omega) _
  have hn7 : Blk w7 z 3 #[.int .i64 (N : Int)] := by rw [← hw7, ← hz]; exact (((Blk.new w _ _).alloc _).alloc _).alloc _
  have ht7 : Blk w7 (z + 1) 22 #[.slice none 0 0] := by
    have h := ((Blk.new (w.alloc (.cells #[.int .i64 (N : Int)] 3)) 22 #[.slice none 0 0]).alloc (.cells #[.slice A m c] 22)).alloc (.cells #[.int .i64 (N : Int)] 3)
    rw [hw7] at h
    simpa only [World.size_alloc, hz] using h
  have hc7 : Blk w7 (z + 1 + 1) 22 #[.slice A m c] := by
    have h := (Blk.new ((w.alloc (.cells #[.int .i64 (N : Int)] 3)).alloc (.cells #[.slice none 0 0] 22)) 22 #[.slice A m c]).alloc (.cells #[.int .i64 (N : Int)] 3)
    rw [hw7] at h
    simpa only [World.size_alloc, hz] using h
  have hd7 : Blk w7 (z + 1 + 1 + 1) 3 #[.int .i64 (N : Int)] := by
    have h := Blk.new (((w.alloc (.cells #[.int .i64 (N : Int)] 3)).alloc (.cells #[.slice none 0 0] 22)).alloc (.cells #[.slice A m c] 22)) 3 #[.int .i64 (N : Int)]
    rw [hw7] at h
    simpa only [World.size_alloc, hz] using h
  have HB7 := Lib.hid hb7
  have HN7 := Lib.hid hn7
  have HT7 := Lib.hid ht7
  have HC7 := Lib.hid hc7
  have HD7 := Lib.hid hd7
  have HZ := Lib.hid hz
  have HS7 := Lib.hid hs7
  obtain ⟨g, hg⟩ : ∃ g, w7.heap.size + 2 = g := ⟨_, rfl⟩
  have HG := Lib.hid hg
  obtain ⟨h4, hall, hcap, hNp, hNm⟩ := HH.out
  have hIt := artuples_moves 6 (by omega) (z + 1 + 1) (z + 1 + 1 + 1) c A L N h4 hall hcap hNp hNm w7
  rw [hg] at hIt
  clear hw7 hb7 hn7 ht7 hc7 hd7 hz hs7 hg h4 hall hcap hNp hNm
  refine wpIn_rangeFunc_movesT rfl (by omega) (gf := 19) (lb := #[.pointer (some ⟨z + 1 + 1, 0, none⟩), .pointer (some ⟨z + 1 + 1 + 1, 0, none⟩)]) rfl trivial (enters_of Tryd.func19 (by kernel_rfl) rfl)
    hIt (fun _ => rfl)
    (fun k W => Below w7.heap.size w7 W ∧ k ≤ L.length + 1 ∧ (∀ j, j < k → rest L N j ≠ 0) ∧ (0 < k → Blk W g 3 (tupC L N (k - 1)).toArray))
    (fun k W => Below w7.heap.size w7 W ∧ k ≤ L.length ∧ (∀ j, j < k → rest L N j ≠ 0) ∧ Blk W g 3 (tupC L N k).toArray)
    (fun _ => False)
    (fun c W => c = .exit 0 ∧ ∃ k, k ≤ L.length ∧ rest L N k = 0 ∧ Below w.heap.size w W ∧ Blk W (z + 1) 22 #[.slice (some ⟨g, 0, none⟩) m m] ∧ Blk W g 3 (tupC L N k).toArray)
    (fun j W W' row hs hg hr => ⟨arbelow_own hs.1 (Nat.le_refl _) hg (fun r e => (hr r e).1), hs.2.1, hs.2.2.1, fun h => arblk_turned (hs.2.2.2 h) hg hr⟩)
    (fun j W W' row hs hg hr => ⟨arbelow_own hs.1 (Nat.le_refl _) hg (fun r e => (hr r e).1), hs.2.1, hs.2.2.1, arblk_turned hs.2.2.2 hg hr⟩)
    (fun _ W W' row hs hg hr => hs)
    (fun c W W' row hs hg hr => by
      obtain ⟨h1, k, h2, h3, h5, h6, h7⟩ := hs
      refine ⟨h1, k, h2, h3, arbelow_own h5 (Nat.le_refl _) hg (fun r e => ?_), arblk_turned h6 hg hr, arblk_turned h7 hg hr⟩
      have := (hr r e).1; have := HB7.out.size; omega)
    (fun j W hs => ⟨hs.2.1, by rw [HM.out]; exact (HC7.out.below hs.1 (by have := HS7.out; omega)).cell 0, (HD7.out.below hs.1 (by have := HS7.out; omega)).cell 0, (HA.out.below (HB7.out.trans (hs.1.mono HB7.out.size))).more (Nat.le_trans HB7.out.size hs.1.size), hs.2.2.2⟩)
    (fun j W W' hs hx l o ho hc => by
      rcases hx with ⟨_, hk, _⟩ | ⟨_, rfl⟩
      · refine (hk.block l (Array.getElem?_eq_some_iff.1 ho).1 (fun e => ?_)).trans ho
        have hb := hs.2.2.2 e.1
        unfold Blk at hb
        rw [← e.2, ho] at hb
        injection hb with hb
        subst hb
        cases hc
      · exact ho)
    (fun j W W' hs hx => by
      obtain ⟨hj, hk, hb⟩ := hx
      exact ⟨hs.1.trans (hk.below hs.1.size (fun i hi e => by have := HG.out; omega)), hj, hs.2.2.1, hb⟩)
    (fun j W W' hs hx => by
      obtain ⟨rfl, rfl⟩ := hx
      exact hs.2.2.1 L.length (Nat.lt_succ_self _) (rest_end L N HH.out.2.2.2.1))
    ⟨Below.refl _ _, Nat.zero_le _, fun j hj => by omega, fun h => by omega⟩
    ?a1 ?assign ?body ?done ?stop
  case assign =>
    intro l' j W K hK
    unfold arAt
    gi_wp2
    exact hK
  case body =>
    rintro l' j W ⟨hB, hj, hts, hbk⟩
    have n0 := (HN7.out.below hB (by have := HS7.out; omega)).cell 0
    have hbx := HT7.out.below hB (by have := HS7.out; omega)
    have t0 := hbx.cell 0
    have t1 := hbx.frozen 0
    have HBX := Lib.hid hbx
    have HTS := Lib.hid hts
    have HBB := Lib.hid hB
    have HJ := Lib.hid hj
    have HBK := Lib.hid hbk
    have hrl := rest_le L N j
    clear hB hj hts hbk hbx
    by_cases hr : rest L N j = 0
    · have HR := Lib.hid hr
      rw [hr, Nat.sub_zero]
      clear hr hrl
      gi_wp2
      have hsz := HBB.out.size
      have hzz := HS7.out
      have hz1 := HZ.out
      have hg1 := HG.out
      have hk : Keep (fun i => i = z + 1) W (W.setCell ⟨z + 1, 0, none⟩ (.slice (some ⟨g, 0, none⟩) m m)) := (Keep.refl _ _).setCell _ _ (fun _ => rfl)
      have hb1 : Below w.heap.size w W := HB7.out.trans (HBB.out.mono HB7.out.size)
      exact ⟨⟨hk.size, fun i o hB hi _ => (hk.block i (Array.getElem?_eq_some_iff.1 hi).1 (by omega)).trans hi⟩, rfl, j, HJ.out, HR.out, hb1.trans (hk.below hb1.size (fun i hi e => by omega)), HBX.out.set_ 0 _, hk.blk HBK.out (by omega)⟩
    · obtain ⟨P, hP⟩ : ∃ P, N - rest L N j = P := ⟨_, rfl⟩
      have hne : ((P : Int) == (N : Int)) = false := by rw [beq_eq_false_iff_ne]; omega
      have HR := Lib.hid hr
      rw [hP]
      clear hr hrl hP
      gi_wp2
      refine ⟨⟨Nat.le_refl _, fun i o hB hi _ => hi⟩, HBB.out, by have := HJ.out; omega, fun i hi => ?_, fun _ => HBK.out⟩
      rcases Nat.lt_or_ge i j with h | h
      · exact HTS.out i h
      · obtain rfl : i = j := by omega
        exact HR.out
  case done =>
    rintro D W hD hF hK
    exact hF.elim
  case stop =>
    rintro D c' W hD ⟨rfl, k, hk, hr, hb1, hx, hbk⟩ hK
    have x1 := hx.cell 0
    have hzz := HZ.out
    have hgz : w.heap.size ≤ g := by have := HG.out; have := HS7.out; omega
    have hgb := grownBy_putObj' W D (.deferred none)
    have HE : Hid (AtA (iL L) (N : Int) w (.returned (.tuple #[.slice (some ⟨g, 0, none⟩) m m, .bool true])) (W.putObj D (.deferred none))) := Lib.hid (by
      have := AtA.yes HAT.out (arbelow_own hb1 (Nat.le_refl _) hgb (fun r e => by injection e with e; have := HB7.out.size; omega)) hgz HH.out.1 (by
      rw [← tupC_done hk hr]
      exact arblk_turned (B := 0) hbk hgb (fun r e => by injection e with e; subst e; exact ⟨Nat.zero_le _, _, hK, rfl⟩))
      rw [HM.out] at this
      exact this)
    clear hx hb1 hbk hr hgb
    gi_wp2
    refine ⟨by simp, .inl ⟨_, _, rfl, run_takeDeferred hK, ?_⟩⟩
    refine ⟨_, results_tmp2 rfl _ _ _, ?_⟩
    exact HE.out
end

/-- At, whatever it is asked. -/
theorem arat_any (A : Option Addr) (c n : Nat) (l : List Int) (x : Int) (w : World) (hl : l.length = n) (ha : Reads w w.heap.size 1 A n (l.map iv)) (hc : n ≤ c) (hn : n ≤ 9223372036854775807) :
    Calls Tryd.prog 7 #[.slice A n c, .int .i64 x] w (AtA l x w) := by
  cases hat : atB l x
  · exact arat_no A c n l x w hl ha hn hat
  · have hh := hat
    unfold atB at hh
    rw [Bool.and_eq_true, Bool.and_eq_true, decide_eq_true_eq] at hh
    obtain ⟨L, rfl, _⟩ := nat_of (okShape_iff.1 hh.1).2.1
    obtain ⟨N, rfl⟩ := Int.eq_ofNat_of_zero_le hh.2.1
    subst hl
    rw [iL_length] at ha hc ⊢
    exact arat_yes A c L N w ha hc hat
end Go.Proofs.YtlmdijijlbmddaaDoor.arr

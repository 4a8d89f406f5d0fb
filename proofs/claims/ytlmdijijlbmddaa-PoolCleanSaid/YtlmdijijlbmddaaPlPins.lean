/-
  The pool of layer 10: Pins.
-/
import Derived.Test.YtlmdijijlbmddaaPlSet
import Derived.Test.YtlmdijijlbmddaaDoneIn
import Derived.Test.YtlmdijijlbmddaaStage
namespace Go.Proofs.Ytlmdijijlbmddaa.pool
open Go.RowKit

def pinsTo (q : QL) (k : Nat) : Nat := ((q.take k).map (·.2.pins)).sum
theorem pinsTo_zero (q : QL) : pinsTo q 0 = 0 := rfl
theorem pinsTo_succ (q : QL) {k : Nat} (hk : k < q.length) : pinsTo q (k + 1) = pinsTo q k + q[k].2.pins := by
  unfold pinsTo
  rw [List.take_add_one, List.map_append, List.sum_append, List.getElem?_eq_getElem hk]
  simp
theorem pinsTo_le (q : QL) (M : Nat) (h : ∀ x ∈ q, x.2.pins ≤ M) : ∀ k, k ≤ q.length → pinsTo q k ≤ k * M
  | 0, _ => by rw [pinsTo_zero]; omega
  | k + 1, hk => by
    rw [pinsTo_succ q hk, Nat.succ_mul]
    have := pinsTo_le q M h k (by omega)
    have := h _ (List.getElem_mem hk)
    omega
theorem pinsTo_all (q : QL) : pinsTo q q.length = ((q.map (·.2)).map (·.pins)).sum := by
  unfold pinsTo
  rw [List.take_length, List.map_map]
  rfl

section
variable {N p m : Nat} {w : World} {s : PS}
attribute [local go_sem] Oper.semAt_some
set_option maxRecDepth 100000 in
set_option maxHeartbeats 4000000 in
theorem pins_any (h : PB N w p m s) (hp : ∀ v ∈ s.fr, v.pins ≤ 1000000) : Calls Try.prog 19 #[pv p] w fun e w' => e = .returned (.int .i64 (s.pins : Int)) ∧ Below w.heap.size w w' := by
  obtain ⟨q, ml, h⟩ := h
  have hfr := h.fr
  have hV := valid_any h.pool.blk5.1
  have hpq : ∀ x ∈ q, x.2.pins ≤ 1000000 := fun x hx => hp x.2 (by rw [hfr]; exact List.mem_map.2 ⟨x, hx, rfl⟩)
  have hsum : s.pins = pinsTo q q.length := by rw [pinsTo_all, PS.pins, hfr]
  rw [hsum]
  have hle := pinsTo_le q 1000000 hpq
  have hfew := h.pool.few.1
  have hnn : (q.length : Int) ≤ 9223372036854775807 := by omega
  obtain ⟨A, c, hhs⟩ := h.pool.hs
  have HH := Lib.hid hhs
  have HV := Lib.hid hV
  have HP := Lib.hid h.pool
  have HLE : Hid (∀ k, k ≤ q.length → pinsTo q k ≤ 64000000) := Lib.hid (fun k hk => by have := hle k hk; omega)
  have HNN := Lib.hid hnn
  have hfo : Fence.wide.fn 55 := trivial
  have hfv : Fence.wide.fn 54 := trivial
  clear h hhs hfr hp hpq hsum hle hfew hV hnn
  refine (callsIn_wide (n := 6)).1 ?_
  refine callsIn_of_wp_marks Try.func19 rfl trivial ?_
  simp only [Try.ntmps19, List.size_toArray, List.length_cons, List.length_nil, Nat.reduceAdd, Nat.reduceSub, Array.replicate_succ, Array.replicate_zero, List.push_toArray, List.append_toArray, List.nil_append, List.cons_append]
  gi_wp2_with (first | (gi_at_call 54; refine (callsIn_wide.2 HV.out).mono ?_; rintro e _ ⟨rfl, rfl⟩) | (gi_at_call 55; refine (callsIn_wide.2 (oldest_any _ _)).mono ?_; rintro e w7 ⟨rfl, hw7⟩))
  obtain ⟨z, hz⟩ : ∃ z, w.heap.size = z := ⟨_, rfl⟩
  have hs7 : w7.heap.size = z + 2 := by rw [← hw7, ← hz]; simp
  have hb7 : Below w.heap.size w w7 := by rw [← hw7]; exact ((Below.refl _ _).alloc (Nat.le_refl _) _).alloc (by simp) _
  have hx7 : Blk w7 z 3 #[.int .i64 0] := by rw [← hw7, ← hz]; exact (Blk.new w _ _).alloc _
  have hp7 : Blk w7 (z + 1) 24 #[.pointer (some ⟨p, 0, none⟩)] := by
    have h := Blk.new (w.alloc (.cells #[.int .i64 0] 3)) 24 #[.pointer (some ⟨p, 0, none⟩)]
    rw [hw7] at h
    simpa only [World.size_alloc, hz] using h
  have HB7 := Lib.hid hb7
  have HX7 := Lib.hid hx7
  have HP7 := Lib.hid hp7
  have HZ := Lib.hid hz
  simp only [hz]
  clear hw7 hb7 hx7 hp7
  refine wpIn_rangeFunc_moves rfl (by omega) (gf := 87) (lb := #[.pointer (some ⟨z + 1, 0, none⟩)]) rfl trivial (enters_of Try.func87 (by kernel_rfl) rfl)
    (oldest_moves 5 (by omega) (z + 1) p q.length c A (bsQ q) HNN.out w7) (Below.refl _ _) (fun _ => rfl)
    (fun k W => Below z w W ∧ k ≤ q.length ∧ Blk W z 3 #[.int .i64 (pinsTo q k : Int)] ∧ Blk W (z + 1) 24 #[.pointer (some ⟨p, 0, none⟩)])
    (fun k W => Below z w W ∧ k < q.length ∧ Blk W z 3 #[.int .i64 (pinsTo q k : Int)] ∧ Blk W (z + 1) 24 #[.pointer (some ⟨p, 0, none⟩)])
    (fun W => Below z w W ∧ Blk W z 3 #[.int .i64 (pinsTo q q.length : Int)])
    (fun c W => False)
    (fun j W W' row hs hg hr => ⟨below_own hs.1 (by omega) hg (fun r e => by have := (hr r e).1; omega), hs.2.1, hs.2.2.1.grown hg (fun e => by have := (hr _ e.symm).1; omega), hs.2.2.2.grown hg (fun e => by have := (hr _ e.symm).1; omega)⟩)
    (fun j W W' row hs hg hr => ⟨below_own hs.1 (by omega) hg (fun r e => by have := (hr r e).1; omega), hs.2.1, hs.2.2.1.grown hg (fun e => by have := (hr _ e.symm).1; omega), hs.2.2.2.grown hg (fun e => by have := (hr _ e.symm).1; omega)⟩)
    (fun _ W W' row hs hg hr => ⟨below_own hs.1 (by omega) hg (fun r e => by have := (hr r e).1; omega), hs.2.grown hg (fun e => by have := (hr _ e.symm).1; omega)⟩)
    (fun c W W' row hs hg hr => hs)
    (fun j W hs => HH.out.pre (by have := hs.1; rw [← hz] at this; exact this) hs.2.1 (hs.2.2.2.cell 0))
    (fun j W W' hs hx l o ho hc => by rcases hx with ⟨_, rfl⟩ | ⟨_, rfl⟩ <;> exact ho)
    (fun j W W' hs hx => by obtain ⟨hx, rfl⟩ := hx; exact ⟨hs.1, hx, hs.2.2⟩)
    (fun j W W' hs hx => by obtain ⟨rfl, rfl⟩ := hx; exact ⟨hs.1, hs.2.2.1⟩)
    ⟨by rw [← hz]; exact HB7.out, Nat.zero_le _, HX7.out, HP7.out⟩
    ?a1 ?assign ?body ?done ?stop
  case assign =>
    intro l' j W K hK
    unfold plAt
    gi_wp2
    exact hK
  case body =>
    rintro l' j W ⟨hB, hj, hX, hP⟩
    have hbW : Below w.heap.size w W := by rw [hz]; exact hB
    have hfr := (HP.out.below hbW).at_ hj
    have hpj := pinsTo_succ q hj
    have hlej := HLE.out (j + 1) (by omega)
    have hba := bs_at q hj
    obtain ⟨fb, hfb⟩ : ∃ fb, q[j].1.b = fb := ⟨_, rfl⟩
    have hfb2 : (bsQ q)[j]?.getD 0 = fb := by rw [← hfb, ← hba]; simp
    rw [hfb2]
    obtain ⟨pj, hpe⟩ : ∃ pj, q[j].2.pins = pj := ⟨_, rfl⟩
    have c4 : W.cell? ⟨fb, 4, none⟩ = some (.int .i64 (pj : Int)) := by rw [← hfb, ← hpe]; exact hfr.blk.cell 4
    rw [hpe] at hpj
    rw [hpj] at hlej
    have x0 := hX.cell 0
    have g0 := hX.frozen 0
    have HB := Lib.hid hB
    have HJ := Lib.hid hj
    have HX := Lib.hid hX
    have HPP := Lib.hid hP
    have HLT := Lib.hid hlej
    have HPJ := Lib.hid hpj
    clear hB hj hX hP hbW hfr hpj hlej hba hfb2 hpe hfb
    gi_wp2
    refine wpIn_region_round (fun ⟨_, _, h⟩ => h) (by kernel_rfl) (SS [6] (fun n W8 => match n with | 0 => W8 = W.drew | _ => W8 = W.drew.setCell ⟨z, 0, none⟩ (.int .i64 ((pinsTo q j : Int) + (pj : Int))))) (RR [6] (fun _ _ => True) (fun _ _ _ => True) [.int .i64 (pinsTo q j : Int), .pointer (some ⟨fb, 0, none⟩), .pointer (some ⟨fb, 0, none⟩), .pointer (some ⟨fb, 4, none⟩), .int .i64 (pj : Int), .int .i64 ((pinsTo q j : Int) + (pj : Int)), undef]) (by kernel_rfl) 18 rfl (by kernel_rfl) (SS.start (rfl)) ?_ ?_
    · intro i hi
      have hi2 : i < 7 := hi
      clear hi
      rcases i with _ | i
      · refine ss_value rfl (by decide) (.int .i64 (pinsTo q j : Int)) rfl 0 (.inr ⟨6, rfl, by kernel_rfl⟩) ?_
        intro a8 w8 ns hns hT ho hn
        have o3 : a8.tmps[3]? = some _ := (ho 3 (by kernel_rfl)).trans rfl
        clear ho hn
        refine ⟨wanted_free rfl, ?_⟩
        obtain rfl : ns = 0 := by omega
        obtain rfl : w8 = W.drew := hT
        go_simp
      rcases i with _ | i
      · refine ss_value rfl (by decide) (.pointer (some ⟨fb, 0, none⟩)) rfl 1 (.inl rfl) ?_
        intro a8 w8 ns hns hT ho hn
        have o4 : a8.tmps[4]? = some _ := (ho 4 (by kernel_rfl)).trans rfl
        clear ho hn
        refine ⟨wanted_free rfl, ?_⟩
        go_simp
      rcases i with _ | i
      · refine ss_value rfl (by decide) (.pointer (some ⟨fb, 0, none⟩)) rfl 0 (.inr ⟨6, rfl, by kernel_rfl⟩) ?_
        intro a8 w8 ns hns hT ho hn
        obtain ⟨v12, n12, hq12⟩ := hn 1 12 (by kernel_rfl) rfl
        obtain rfl := hq12.1 (by decide)
        clear ho hn
        refine ⟨wanted_free rfl, ?_⟩
        obtain rfl : ns = 0 := by omega
        obtain rfl : w8 = W.drew := hT
        go_simp
      rcases i with _ | i
      · refine ss_value rfl (by decide) (.pointer (some ⟨fb, 4, none⟩)) rfl 1 (.inl rfl) ?_
        intro a8 w8 ns hns hT ho hn
        obtain ⟨v13, n13, hq13⟩ := hn 2 13 (by kernel_rfl) rfl
        obtain rfl := hq13.1 (by decide)
        clear ho hn
        refine ⟨wanted_free rfl, ?_⟩
        go_simp
      rcases i with _ | i
      · refine ss_value rfl (by decide) (.int .i64 (pj : Int)) rfl 0 (.inr ⟨6, rfl, by kernel_rfl⟩) ?_
        intro a8 w8 ns hns hT ho hn
        obtain ⟨v14, n14, hq14⟩ := hn 3 14 (by kernel_rfl) rfl
        obtain rfl := hq14.1 (by decide)
        clear ho hn
        refine ⟨wanted_free rfl, ?_⟩
        obtain rfl : ns = 0 := by omega
        obtain rfl : w8 = W.drew := hT
        go_simp
      rcases i with _ | i
      · refine ss_value rfl (by decide) (.int .i64 ((pinsTo q j : Int) + (pj : Int))) rfl 1 (.inl rfl) ?_
        intro a8 w8 ns hns hT ho hn
        obtain ⟨v11, n11, hq11⟩ := hn 0 11 (by kernel_rfl) rfl
        obtain rfl := hq11.1 (by decide)
        obtain ⟨v15, n15, hq15⟩ := hn 4 15 (by kernel_rfl) rfl
        obtain rfl := hq15.1 (by decide)
        clear ho hn
        refine ⟨wanted_free rfl, ?_⟩
        have hlt := HLT.out
        generalize pinsTo q j = u at *
        go_simp
        exact IntWalk.i64_in _ (by omega)
      rcases i with _ | i
      · refine ss_store 0 (by decide) rfl rfl rfl (.inl rfl) ?_
        intro a8 w8 hT ho hn
        have o3 : a8.tmps[3]? = some _ := (ho 3 (by kernel_rfl)).trans rfl
        obtain ⟨v16, n16, hq16⟩ := hn 5 16 (by kernel_rfl) rfl
        obtain rfl := hq16.1 (by decide)
        clear ho hn
        refine ⟨wanted_free rfl, ?_⟩
        obtain rfl : w8 = W.drew := hT
        refine ⟨W.drew.setCell ⟨z, 0, none⟩ (.int .i64 ((pinsTo q j : Int) + (pj : Int))), ?_, rfl, trivial, trivial⟩
        go_simp
      omega
    · intro dn fv w5 hS5 hR5 hall
      have hT5 := hS5.2
      rw [stg_all (l := [6]) (by intro k hk; simp only [List.mem_cons, List.not_mem_nil, or_false] at hk; rcases hk with rfl <;> exact hall _ (by decide))] at hT5
      simp only [putAll, List.foldl_cons, List.foldl_nil, Act.put, List.setIfInBounds_toArray, List.set_cons_succ, List.set_cons_zero]
      clear hR5 hS5 hall
      obtain rfl : w5 = W.drew.setCell ⟨z, 0, none⟩ (.int .i64 ((pinsTo q j : Int) + (pj : Int))) := hT5

      have hk : Keep (fun i => i = z) W (W.drew.setCell ⟨z, 0, none⟩ (.int .i64 ((pinsTo q j : Int) + (pj : Int)))) := (Keep.refl (fun i => i = z) W).drew.setCell _ _ (fun _ => rfl)
      have hzz := HZ.out
      have hss := HB.out.size
      refine ⟨⟨hk.size, fun i o hB hi _ => (hk.block i (Array.getElem?_eq_some_iff.1 hi).1 (by omega)).trans hi⟩, HB.out.trans (hk.below (by omega) (fun i hi e => by omega)), HJ.out, ?_, ?_⟩
      · rw [HPJ.out]
        exact HX.out.set_ 0 _
      · exact hk.blk HPP.out (by omega)
  case done =>
    rintro D W hD ⟨hB, hX⟩ hK
    have x0 := hX.cell 0
    have hzz := HZ.out
    have HE := Lib.hid (below_own hB (by omega) (grownBy_putObj' W D (.deferred none)) (fun r e => by injection e with e; omega))
    clear hX hB
    gi_wp2
    refine ⟨by simp, .inl ⟨_, _, rfl, run_takeDeferred hK, ?_⟩⟩
    exact ⟨_, results_tmp rfl _ _ _, rfl, by rw [hzz]; exact HE.out⟩
  case stop =>
    rintro D c' W hD h hK
    exact h.elim
end
end Go.Proofs.Ytlmdijijlbmddaa.pool

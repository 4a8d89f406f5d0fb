/-
  Layer 5's 'Same': two tiles; and a tile as an argument.
-/
import Derived.Test.YtpededkfgjmhcaaTAlive
import Derived.Test.YtpededkfgjmhcaaOpen
namespace Go.Proofs.Ytpededkfgjmhcaa.tile
open Go.ChangeShapes Go.WideShapes Go.ChangeAt Go.RowKit Go.Deep Go.Proofs.Ytpededkfgjmhcaa.crc

set_option maxHeartbeats 1000000 in
/-- Two lists. -/
theorem r5longs_any (A B : Option Addr) (c d n m : Nat) (l k : List Int) (w : World) (hl : l.length = n) (hk : k.length = m) (ha : Reads w w.heap.size 1 A n (l.map iv)) (hb : Reads w w.heap.size 1 B m (k.map iv)) (hn : n ≤ 9223372036854775807) (hm : m ≤ 9223372036854775807) :
    Calls Try.prog 34 #[.slice A n c, .slice B m d] w fun e w' => e = .returned (.bool (decide (l = k))) ∧ Below w.heap.size w w' := by
  by_cases hnm : n = m
  · subst hnm
    have HA := Lib.hid ha
    have HB := Lib.hid hb
    have HL := Lib.hid hl
    have HK := Lib.hid hk
    clear ha hb hl hk
    go_enter Try.func34, Try.ntmps34
    go_wp2
    go_loopw [5] (fun i wr => ∃ j, j ≤ n ∧ i = .int .i64 ((j : Nat) : Int) ∧ l.take j = k.take j ∧ Below w.heap.size w wr) (fun i _ => n - (intOf i).toNat)
    case atStart => exact ⟨0, Nat.zero_le _, rfl, by simp, Below.refl _ _⟩
    case round =>
      obtain ⟨j, hj, rfl, heq, hbw⟩ := hrel
      by_cases hlt : j < n
      · obtain ⟨adA, rfl, _, cA⟩ := (HA.out.below hbw).int_at hlt HL.out
        obtain ⟨adB, rfl, _, cB⟩ := (HB.out.below hbw).int_at hlt HK.out
        have hjl : j < l.length := by have := HL.out; omega
        have hjk : j < k.length := by have := HK.out; omega
        have hstep : l.take (j + 1) = k.take (j + 1) ↔ l[j] = k[j] := by
          rw [List.take_succ_eq_append_getElem hjl, List.take_succ_eq_append_getElem hjk, heq]
          constructor
          · intro h
            have h := List.append_cancel_left h
            injection h
          · intro h
            rw [h]
        have hno : ¬ l[j] = k[j] → ¬ l = k := fun h e => h (by subst e; rfl)
        generalize l[j] = x at *
        generalize k[j] = y at *
        have HST := Lib.hid hstep
        have HNO := Lib.hid hno
        have HBW := Lib.hid hbw
        clear hstep hno hbw heq
        by_cases hxy : x = y
        · have hne : (x != y) = false := by simp [hxy]
          have HXY := Lib.hid hxy
          clear hxy
          go_wp2
          go_quiet (fail)
          go_wp2
          exact ⟨⟨j + 1, by omega, by go_num, HST.out.2 HXY.out, below_drewN HBW.out _⟩, by simp [intOf]; omega⟩
        · have hne : (x != y) = true := by simp [hxy]
          have HXY := Lib.hid hxy
          clear hxy
          go_wp2
          go_quiet (fail)
          go_wp2
          go_ret
          exact ⟨by rw [decide_eq_false (HNO.out HXY.out)]; rfl, below_drewN HBW.out _⟩
      · obtain rfl : j = n := by omega
        have hlk : l = k := by
          rw [List.take_of_length_le (by have := HL.out; omega), List.take_of_length_le (by have := HK.out; omega)] at heq
          exact heq
        have HLK := Lib.hid hlk
        have HBW := Lib.hid hbw
        clear hlk heq hbw
        go_wp2
        go_ret
        exact ⟨by rw [decide_eq_true HLK.out]; rfl, HBW.out⟩
  · have hne : ((n : Int) != (m : Int)) = true := by rw [bne_iff_ne]; omega
    have hlk : ¬ l = k := fun e => hnm (by rw [← hl, ← hk, e])
    clear ha hb hl hk
    go_enter Try.func34, Try.ntmps34
    go_wp2
    go_ret
    exact ⟨by rw [decide_eq_false hlk]; rfl, Below.refl _ _⟩


def sameT (t u : TV) : Bool := (t.file == u.file) && ((t.no == u.no) && ((t.kind == u.kind) && decide (t.el = u.el)))
theorem sameT_iff (t u : TV) : sameT t u = true ↔ t = u := by
  unfold sameT
  simp only [Bool.and_eq_true, beq_iff_eq, decide_eq_true_eq]
  constructor
  · rintro ⟨h1, h2, h3, h4⟩
    cases t
    cases u
    simp_all
  · rintro rfl
    exact ⟨rfl, rfl, rfl, rfl⟩

set_option maxRecDepth 100000 in
set_option maxHeartbeats 4000000 in
theorem r5same_any (t u : TV) (A B : Option Addr) (n m c d : Nat) (w : World) (ha : TEl w t A n) (hb : TEl w u B m) :
    Calls Try.prog 14 #[tv t A n c, tv u B m d] w fun e w' => e = .returned (.bool (sameT t u)) ∧ Below w.heap.size w w' := by
  obtain ⟨W1, hW1⟩ : ∃ W1, ((w.alloc (.cells #[.int .i64 t.file, .int .i64 t.no, .int .i64 t.kind, .slice A n c] 24)).alloc (.cells #[.int .i64 u.file, .int .i64 u.no, .int .i64 u.kind, .slice B m d] 24)) = W1 := ⟨_, rfl⟩
  have hbw : Below w.heap.size w W1 := by rw [← hW1]; exact ((Below.refl _ _).alloc (Nat.le_refl _) _).alloc (by simp) _
  have HL := Lib.hid (r5longs_any A B c d n m t.el u.el W1 ha.len hb.len ((ha.reads.below hbw).more hbw.size) ((hb.reads.below hbw).more hbw.size) ha.big hb.big)
  have HW := Lib.hid hW1
  have HBW := Lib.hid hbw
  clear ha hb hbw hW1
  obtain ⟨f1, n1, k1, e1⟩ := t
  obtain ⟨f2, n2, k2, e2⟩ := u
  unfold tv sameT
  simp only at HL HW ⊢
  generalize decide (e1 = e2) = b at *
  by_cases h1 : f1 = f2
  case neg =>
    have d1 : (f1 == f2) = false := by simpa using h1
    rw [d1]
    simp only [Bool.false_and]
    go_enter Try.func14, Try.ntmps14
    go_wp2
    go_ret
    exact ⟨rfl, by rw [HW.out]; exact HBW.out⟩
  subst h1
  have d1 : (f1 == f1) = true := by simp
  rw [d1]
  clear d1
  by_cases h2 : n1 = n2
  case neg =>
    have d2 : (n1 == n2) = false := by simpa using h2
    rw [d2]
    simp only [Bool.false_and, Bool.true_and]
    go_enter Try.func14, Try.ntmps14
    go_wp2
    go_ret
    exact ⟨rfl, by rw [HW.out]; exact HBW.out⟩
  subst h2
  have d2 : (n1 == n1) = true := by simp
  rw [d2]
  clear d2
  by_cases h3 : k1 = k2
  case neg =>
    have d3 : (k1 == k2) = false := by simpa using h3
    rw [d3]
    simp only [Bool.false_and, Bool.true_and]
    go_enter Try.func14, Try.ntmps14
    go_wp2
    go_ret
    exact ⟨rfl, by rw [HW.out]; exact HBW.out⟩
  subst h3
  have d3 : (k1 == k1) = true := by simp
  rw [d3]
  clear d3
  simp only [Bool.true_and]
  rw [← HW.out] at HL
  go_enter Try.func14, Try.ntmps14
  go_wp2_with (go_at_call 34; (with_reducible refine HL.out.mono ?_); rintro e w3 ⟨rfl, hb3⟩; have HB3 := Lib.hid hb3; clear hb3)
  go_ret
  have hb3 := HB3.out
  rw [HW.out] at hb3
  exact ⟨rfl, HBW.out.trans (hb3.mono HBW.out.size)⟩

section
variable {H : Type} {enc : TypeId × Value → H} {W : World} {base : Nat} {fuel : Nat}
theorem cellsI64 : Try.prog.cellsOf 2 = 1 := by kernel_rfl
set_option maxRecDepth 100000 in
theorem sl_i64s {v : Value} {x : DataW H × List MemPlace} (h : DataW.trod enc Try.prog W 0 (fun _ => true) true fuel 22 [v] = some x) :
    ∃ A c L, v = .slice A (L : List Int).length c ∧ Sl W W.heap.size A c (L.map iv) ∧ ∀ z ∈ L, i64ok z := by
  rcases open_ints Try.underlying22 Try.underlying2 cellsI64 h with ⟨hcs, hx⟩ | ⟨a, len', cap', zs, hcs, _, hl, hm, hz, hx, hcell, hwz⟩
  · injection hcs with hcs
    subst hcs
    exact ⟨none, 0, [], rfl, ⟨Reads.none_, Nat.le_refl _, by omega⟩, fun z hz => by cases hz⟩
  · injection hcs with hcs
    subst hcs
    simp only [if_true] at hz
    have hlen : (zs.take len').length = len' := by rw [List.length_take]; omega
    refine ⟨some a, cap', zs.take len', by rw [hlen], ⟨?_, by rw [List.length_map, hlen]; exact hl, by unfold maxLen at hm; omega⟩, fun z hzm => i64_of_wf (hwz z (List.mem_of_mem_take hzm))⟩
    rw [List.length_map, hlen]
    refine ⟨by rw [List.length_map, hlen]; omega, fun h0 => ⟨a, rfl, ?_, fun j u hu => ?_⟩⟩
    · have := lt_of_cell (hcell 0 (by omega))
      rwa [block_of_add] at this
    · have hj : j < len' := by
        have := (List.getElem?_eq_some_iff.1 hu).1
        rwa [List.length_map, hlen] at this
      have hjz : j < zs.length := by omega
      rw [hcell j hjz, ← hu, List.getElem?_map, List.getElem?_take_of_lt hj, List.getElem?_eq_getElem hjz]
      simp [iv, List.getD, List.getElem?_eq_getElem hjz]

set_option maxRecDepth 100000 in
/-- A tile's four cells. -/
theorem tile_of_trod {cs : List Value} {x : DataW H × List MemPlace} (h : DataW.trod enc Try.prog W 0 (fun _ => true) true fuel 24 cs = some x) :
    ∃ (t : TV) (A : Option Addr) (c : Nat), t.Fine ∧ cs = [.int .i64 t.file, .int .i64 t.no, .int .i64 t.kind, .slice A t.el.length c] ∧ Sl W W.heap.size A c (t.el.map iv) := by
  obtain ⟨ys, n', _, _, hlen, hyl, hf⟩ := DataW.trod_struct Try.underlying24 h
  have hl4 : cs.length = 4 := hlen.trans (by kernel_rfl)
  obtain ⟨v0, v1, v2, v3, rfl⟩ : ∃ v0 v1 v2 v3, cs = [v0, v1, v2, v3] := by
    match cs, hl4 with
    | [a, b, c, d], _ => exact ⟨a, b, c, d, rfl⟩
  have t0 := hf 0 _ rfl
  have t1 := hf 1 _ rfl
  have t2 := hf 2 _ rfl
  have t3 := hf 3 _ rfl
  have hys : ∀ j, j < 4 → ∃ y, ys[j]? = some y := fun j hj => ⟨_, List.getElem?_eq_getElem (by rw [hyl]; exact hj)⟩
  obtain ⟨y0, e0⟩ := hys 0 (by omega)
  obtain ⟨y1, e1⟩ := hys 1 (by omega)
  obtain ⟨y2, e2⟩ := hys 2 (by omega)
  obtain ⟨y3, e3⟩ := hys 3 (by omega)
  rw [e0] at t0
  rw [e1] at t1
  rw [e2] at t2
  rw [e3] at t3
  have p0 : DataW.trod enc Try.prog W 0 (fun _ => true) true n' 2 [v0] = some y0 := t0
  have p1 : DataW.trod enc Try.prog W 0 (fun _ => true) true n' 3 [v1] = some y1 := t1
  have p2 : DataW.trod enc Try.prog W 0 (fun _ => true) true n' 3 [v2] = some y2 := t2
  have p3 : DataW.trod enc Try.prog W 0 (fun _ => true) true n' 22 [v3] = some y3 := t3
  obtain ⟨k0, q0, _, w0⟩ := DataW.trod_int Try.underlying2 p0
  obtain ⟨k1, q1, _, w1⟩ := DataW.trod_int Try.underlying3 p1
  obtain ⟨k2, q2, _, w2⟩ := DataW.trod_int Try.underlying3 p2
  obtain ⟨A, c, L, rfl, hs, hL⟩ := sl_i64s p3
  injection q0 with q0
  injection q1 with q1
  injection q2 with q2
  subst q0 q1 q2
  exact ⟨⟨k0, k1, k2, L⟩, A, c, ⟨i64_of_wf w0, i64_of_wf w1, i64_of_wf w2, hL⟩, rfl, hs⟩

set_option maxRecDepth 100000 in
/-- A tile by value, opened. -/
theorem open_tile {v : Value} {d : DataW H} {p : List MemPlace} (hval : Value.okWide Try.prog W .any base 24 v)
    (h : DataW.Trod enc Try.prog W 0 (fun _ => true) true 24 v d p) :
    ∃ (t : TV) (A : Option Addr) (c : Nat), v = tv t A t.el.length c ∧ TEl W t A t.el.length ∧ t.el.length ≤ c ∧ c ≤ 9223372036854775807 := by
  obtain ⟨cs, rfl, hsz⟩ := okWide_struct Try.underlying24 hval
  obtain ⟨fuel, hf⟩ := h
  obtain ⟨t, A, c, hfi, hcs, hs⟩ := tile_of_trod hf
  have h1 := hs.reads
  have h2 := hs.cap
  rw [List.length_map] at h1 h2
  refine ⟨t, A, c, ?_, ⟨rfl, h1, by have := hs.big; omega, hfi⟩, h2, hs.big⟩
  have hcs' : cs.toList = _ := hcs
  rw [← Array.toArray_toList (xs := cs), hcs']
  rfl
end
end Go.Proofs.Ytpededkfgjmhcaa.tile

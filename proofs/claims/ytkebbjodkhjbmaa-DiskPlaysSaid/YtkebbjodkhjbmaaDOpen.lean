/-
  How the arguments of layer 3's statements open: lists of calls, crashes.
-/
import Derived.Test.YtkebbjodkhjbmaaDOps
import Derived.Test.YtkebbjodkhjbmaaOpen
namespace Go.Proofs.Ytkebbjodkhjbmaa
open Go.ChangeShapes Go.WideShapes Go.ChangeAt Go.RowKit Go.Deep

theorem cellsInt : Try.prog.cellsOf 3 = 1 := by kernel_rfl

section
variable {H : Type} {enc : TypeId × Value → H} {W : World} {base : Nat} {fuel : Nat}

set_option maxRecDepth 100000 in
theorem sl_bytes {v : Value} {x : DataW H × List MemPlace} (h : DataW.trod enc Try.prog W 0 (fun _ => true) true fuel 33 [v] = some x) :
    ∃ A c L, v = .slice A (L : List UInt8).length c ∧ Sl W W.heap.size A c (L.map bv) := by
  rcases open_ints Try.underlying33 Try.underlying5 cellsU8 h with ⟨hcs, hx⟩ | ⟨a, len', cap', zs, hcs, _, hl, hm, hz, hx, hcell, hwz⟩
  · injection hcs with hcs
    subst hcs
    exact ⟨none, 0, [], rfl, ⟨Reads.none_, Nat.le_refl _, by omega⟩⟩
  · injection hcs with hcs
    subst hcs
    simp only [if_true] at hz
    have hlen : ((zs.take len').map fun z => UInt8.ofNat z.toNat).length = len' := by rw [List.length_map, List.length_take]; omega
    refine ⟨some a, cap', (zs.take len').map fun z => UInt8.ofNat z.toNat, by rw [hlen], ⟨?_, by rw [List.length_map, hlen]; exact hl, by unfold maxLen at hm; omega⟩⟩
    rw [List.length_map, hlen]
    refine ⟨by rw [List.length_map, hlen]; omega, fun h0 => ⟨a, rfl, ?_, fun j u hu => ?_⟩⟩
    · have := lt_of_cell (hcell 0 (by omega))
      rwa [block_of_add] at this
    · have hj : j < len' := by
        have := (List.getElem?_eq_some_iff.1 hu).1
        rwa [List.length_map, hlen] at this
      have hjz : j < zs.length := by omega
      rw [hcell j hjz, ← hu, List.getElem?_map, List.getElem?_map, List.getElem?_take_of_lt hj, List.getElem?_eq_getElem hjz]
      have hb := hwz zs[j] (List.getElem_mem hjz)
      have m1 : IntKind.u8.min = 0 := rfl
      have m2 : IntKind.u8.max = 255 := rfl
      simp only [Lit.wf, Bool.and_eq_true, decide_eq_true_eq] at hb
      simp [bv, List.getD, List.getElem?_eq_getElem hjz]
      omega

set_option maxRecDepth 100000 in
theorem sl_ints {v : Value} {x : DataW H × List MemPlace} (h : DataW.trod enc Try.prog W 0 (fun _ => true) true fuel 34 [v] = some x) :
    ∃ A c L, v = .slice A (L : List Int).length c ∧ Sl W W.heap.size A c (L.map iv) ∧ ∀ z ∈ L, i64ok z := by
  rcases open_ints Try.underlying34 Try.underlying3 cellsInt h with ⟨hcs, hx⟩ | ⟨a, len', cap', zs, hcs, _, hl, hm, hz, hx, hcell, hwz⟩
  · injection hcs with hcs
    subst hcs
    exact ⟨none, 0, [], rfl, ⟨Reads.none_, Nat.le_refl _, by omega⟩, fun z hz => by cases hz⟩
  · injection hcs with hcs
    subst hcs
    simp only [if_true] at hz
    have hlen : (zs.take len').length = len' := by rw [List.length_take]; omega
    refine ⟨some a, cap', zs.take len', by rw [hlen], ⟨?_, by rw [List.length_map, hlen]; exact hl, by unfold maxLen at hm; omega⟩, fun z hzm => i64_of_wf (hwz z (List.mem_of_mem_take hzm))⟩
    rw [List.length_map, hlen]
    refine ⟨by rw [List.length_map, hlen]; omega, fun h0 => ⟨a, rfl, ?_, fun j u hu => ?_⟩⟩
    · have := lt_of_cell (hcell 0 (by omega))
      rwa [block_of_add] at this
    · have hj : j < len' := by
        have := (List.getElem?_eq_some_iff.1 hu).1
        rwa [List.length_map, hlen] at this
      have hjz : j < zs.length := by omega
      rw [hcell j hjz, ← hu, List.getElem?_map, List.getElem?_take_of_lt hj, List.getElem?_eq_getElem hjz]
      simp [iv, List.getD, List.getElem?_eq_getElem hjz]

set_option maxRecDepth 100000 in
/-- A crash's four cells. -/
theorem crash_of_trod {cs : List Value} {x : DataW H × List MemPlace} (h : DataW.trod enc Try.prog W 0 (fun _ => true) true fuel 36 cs = some x) :
    ∃ (c : DCrash) (KA : Option Addr) (Kc : Nat), c.Fine ∧ cs = [.int .i64 c.write, .slice KA c.keep.length Kc, .int .i64 c.torn, .int .i64 c.at_] ∧ Sl W W.heap.size KA Kc (c.keep.map iv) := by
  obtain ⟨ys, n', _, _, hlen, hyl, hf⟩ := DataW.trod_struct Try.underlying36 h
  have hl4 : cs.length = 4 := hlen.trans (by kernel_rfl)
  obtain ⟨v0, v1, v2, v3, rfl⟩ : ∃ v0 v1 v2 v3, cs = [v0, v1, v2, v3] := by
    match cs, hl4 with
    | [a, b, c, d], _ => exact ⟨a, b, c, d, rfl⟩
  have t0 := hf 0 _ rfl
  have t1 := hf 1 _ rfl
  have t2 := hf 2 _ rfl
  have t3 := hf 3 _ rfl
  have hys : ∀ j, j < 4 → ∃ y, ys[j]? = some y := fun j hj => ⟨_, List.getElem?_eq_getElem (by rw [hyl]; exact hj)⟩
  obtain ⟨y0, e0⟩ := hys 0 (by omega)
  obtain ⟨y1, e1⟩ := hys 1 (by omega)
  obtain ⟨y2, e2⟩ := hys 2 (by omega)
  obtain ⟨y3, e3⟩ := hys 3 (by omega)
  rw [e0] at t0
  rw [e1] at t1
  rw [e2] at t2
  rw [e3] at t3
  have p0 : DataW.trod enc Try.prog W 0 (fun _ => true) true n' 3 [v0] = some y0 := t0
  have p1 : DataW.trod enc Try.prog W 0 (fun _ => true) true n' 34 [v1] = some y1 := t1
  have p2 : DataW.trod enc Try.prog W 0 (fun _ => true) true n' 3 [v2] = some y2 := t2
  have p3 : DataW.trod enc Try.prog W 0 (fun _ => true) true n' 3 [v3] = some y3 := t3
  obtain ⟨k0, q0, _, w0⟩ := DataW.trod_int Try.underlying3 p0
  obtain ⟨KA, Kc, L, rfl, hs, hL⟩ := sl_ints p1
  obtain ⟨k2, q2, _, w2⟩ := DataW.trod_int Try.underlying3 p2
  obtain ⟨k3, q3, _, w3⟩ := DataW.trod_int Try.underlying3 p3
  injection q0 with q0
  injection q2 with q2
  injection q3 with q3
  subst q0 q2 q3
  exact ⟨⟨k0, L, k2, k3⟩, KA, Kc, ⟨i64_of_wf w0, i64_of_wf w2, i64_of_wf w3, hL⟩, rfl, hs⟩

set_option maxRecDepth 100000 in
/-- A call's seven cells. -/
theorem op_of_trod {cs : List Value} {x : DataW H × List MemPlace} (h : DataW.trod enc Try.prog W 0 (fun _ => true) true fuel 38 cs = some x) :
    ∃ (o : DOp) (BA : Option Addr) (Bc : Nat) (KA : Option Addr) (Kc : Nat), o.Fine ∧ cs = [.int .i64 o.kind, .int .i64 o.at_, .slice BA o.b.length Bc, .int .i64 o.c.write, .slice KA o.c.keep.length Kc, .int .i64 o.c.torn, .int .i64 o.c.at_] ∧
      Sl W W.heap.size BA Bc (o.b.map bv) ∧ Sl W W.heap.size KA Kc (o.c.keep.map iv) := by
  obtain ⟨ys, n', _, _, hlen, hyl, hf⟩ := DataW.trod_struct Try.underlying38 h
  have hl7 : cs.length = 7 := hlen.trans (by kernel_rfl)
  obtain ⟨v0, v1, v2, v3, v4, v5, v6, rfl⟩ : ∃ v0 v1 v2 v3 v4 v5 v6, cs = [v0, v1, v2, v3, v4, v5, v6] := by
    match cs, hl7 with
    | [a, b, c, d, e, f, g], _ => exact ⟨a, b, c, d, e, f, g, rfl⟩
  have t0 := hf 0 _ rfl
  have t1 := hf 1 _ rfl
  have t2 := hf 2 _ rfl
  have t3 := hf 3 _ rfl
  have hys : ∀ j, j < 4 → ∃ y, ys[j]? = some y := fun j hj => ⟨_, List.getElem?_eq_getElem (by rw [hyl]; exact hj)⟩
  obtain ⟨y0, e0⟩ := hys 0 (by omega)
  obtain ⟨y1, e1⟩ := hys 1 (by omega)
  obtain ⟨y2, e2⟩ := hys 2 (by omega)
  obtain ⟨y3, e3⟩ := hys 3 (by omega)
  rw [e0] at t0
  rw [e1] at t1
  rw [e2] at t2
  rw [e3] at t3
  have p0 : DataW.trod enc Try.prog W 0 (fun _ => true) true n' 3 [v0] = some y0 := t0
  have p1 : DataW.trod enc Try.prog W 0 (fun _ => true) true n' 3 [v1] = some y1 := t1
  have p2 : DataW.trod enc Try.prog W 0 (fun _ => true) true n' 33 [v2] = some y2 := t2
  have p3 : DataW.trod enc Try.prog W 0 (fun _ => true) true n' 36 [v3, v4, v5, v6] = some y3 := t3
  obtain ⟨k0, q0, _, w0⟩ := DataW.trod_int Try.underlying3 p0
  obtain ⟨k1, q1, _, w1⟩ := DataW.trod_int Try.underlying3 p1
  obtain ⟨BA, Bc, L, rfl, hs⟩ := sl_bytes p2
  obtain ⟨c, KA, Kc, hc, hcs, hk⟩ := crash_of_trod p3
  injection q0 with q0
  injection q1 with q1
  subst q0 q1
  injection hcs with h3 hcs
  injection hcs with h4 hcs
  injection hcs with h5 hcs
  injection hcs with h6 hcs
  subst h3 h4 h5 h6
  exact ⟨⟨k0, k1, L, c⟩, BA, Bc, KA, Kc, ⟨i64_of_wf w0, i64_of_wf w1, hc⟩, rfl, hs, hk⟩

set_option maxRecDepth 100000 in
/-- A list of calls, opened. -/
theorem open_dops {v : Value} {d : DataW H} {p : List MemPlace} (hval : Value.okWide Try.prog W .any base 22 v)
    (h : DataW.Trod enc Try.prog W 0 (fun _ => true) true 22 v d p) : ∃ A n c l, v = .slice A n c ∧ DOps W W.heap.size A n l ∧ n ≤ 9223372036854775807 := by
  obtain ⟨a0, len, cap, rfl⟩ := okWide_slice Try.underlying22 hval
  obtain ⟨fuel, hf⟩ := h
  have hC : Try.prog.cellsOf 38 = 7 := by kernel_rfl
  rcases open_slice Try.underlying22 hf with ⟨hcs, hx⟩ | ⟨a, len', cap', m, n, D, Pl, hcs, _, hl, hm, hmm, hx, hi⟩
  · simp [Value.cells] at hcs
    obtain ⟨rfl, rfl, rfl⟩ := hcs
    exact ⟨none, 0, 0, [], rfl, ⟨rfl, (fun o ho => by cases ho), (fun h => by omega)⟩, by omega⟩
  · simp [Value.cells] at hcs
    obtain ⟨rfl, rfl, rfl⟩ := hcs
    simp only [if_true] at hmm
    subst hmm
    have hmx : len ≤ 9223372036854775807 := by unfold maxLen at hm; omega
    have hall : ∀ i, i < len → ∃ o : DOp, o.Fine ∧ ∃ BA Bc KA Kc, DCells W W.heap.size (a.add (i * 7)) o BA Bc KA Kc := by
      intro i hil
      obtain ⟨cs', hc, ht'⟩ := hi i (by omega)
      rw [hC] at hc
      obtain ⟨o, BA, Bc, KA, Kc, ho, rfl, hs, hk⟩ := op_of_trod ht'
      obtain ⟨_, _, hat⟩ := World.cells?_some hc
      have g0 := hat 0 (by omega)
      have g1 := hat 1 (by omega)
      have g2 := hat 2 (by omega)
      have g3 := hat 3 (by omega)
      have g4 := hat 4 (by omega)
      have g5 := hat 5 (by omega)
      have g6 := hat 6 (by omega)
      exact ⟨o, ho, BA, Bc, KA, Kc, g0, g1, g2, g3, g4, g5, g6, hs, hk⟩
    obtain ⟨l, hll, hp⟩ := exists_list len hall
    refine ⟨some a, len, _, l, rfl, ⟨hll, fun o ho => ?_, fun h0 => ⟨a, rfl, ?_, fun i o ho => (hp i o ho).2⟩⟩, hmx⟩
    · obtain ⟨i, hi, rfl⟩ := List.getElem_of_mem ho
      exact (hp i _ (List.getElem?_eq_getElem hi)).1
    · obtain ⟨_, _, _, _, d⟩ := (hp 0 l[0] (List.getElem?_eq_getElem (by omega))).2
      have := lt_of_cell d.kind
      rwa [block_of_add] at this

set_option maxRecDepth 100000 in
/-- A crash by value, opened. -/
theorem open_crash {v : Value} {d : DataW H} {p : List MemPlace} (hval : Value.okWide Try.prog W .any base 36 v)
    (h : DataW.Trod enc Try.prog W 0 (fun _ => true) true 36 v d p) :
    ∃ (c : DCrash) (KA : Option Addr) (Kc : Nat), c.Fine ∧ v = .agg #[.int .i64 c.write, .slice KA c.keep.length Kc, .int .i64 c.torn, .int .i64 c.at_] ∧ Sl W W.heap.size KA Kc (c.keep.map iv) := by
  obtain ⟨cs, rfl, hsz⟩ := okWide_struct Try.underlying36 hval
  obtain ⟨fuel, hf⟩ := h
  obtain ⟨c, KA, Kc, hc, hcs, hs⟩ := crash_of_trod hf
  refine ⟨c, KA, Kc, hc, ?_, hs⟩
  have hcs' : cs.toList = _ := hcs
  rw [← Array.toArray_toList (xs := cs), hcs']
end

end Go.Proofs.Ytkebbjodkhjbmaa

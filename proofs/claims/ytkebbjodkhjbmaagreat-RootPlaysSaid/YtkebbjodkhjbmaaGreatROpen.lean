/-
  How the arguments of layer 6's statements open: lists of operations.
-/
import Derived.Test.YtkebbjodkhjbmaaGreatROps
import Derived.Test.YtkebbjodkhjbmaaGreatRtOpen
import Derived.Test.YtkebbjodkhjbmaaGreatDOpen
namespace Go.Proofs.YtkebbjodkhjbmaaGreat.root
open Go.ChangeShapes Go.WideShapes Go.ChangeAt Go.RowKit Go.Deep Go.Proofs.YtkebbjodkhjbmaaGreat.crc

section
variable {H : Type} {enc : TypeId × Value → H} {W : World} {base : Nat} {fuel : Nat}
set_option maxRecDepth 100000 in
/-- An operation's ten cells. -/
theorem rop_of_trod {cs : List Value} {x : DataW H × List MemPlace} (h : DataW.trod enc Tryz.prog W 0 (fun _ => true) true fuel 41 cs = some x) :
    ∃ (o : ROp) (BA : Option Addr) (Bc : Nat) (KA : Option Addr) (Kc : Nat), o.Fine ∧ cs = [.int .i64 o.kind, .int .u64 (o.r.n : Int), .int .i64 o.r.len, .int .u32 (o.r.sm : Int), .int .i64 o.at_, .slice BA o.b.length Bc, .int .i64 o.c.write, .slice KA o.c.keep.length Kc, .int .i64 o.c.torn, .int .i64 o.c.at_] ∧
      Sl W W.heap.size BA Bc (o.b.map bv) ∧ Sl W W.heap.size KA Kc (o.c.keep.map iv) := by
  obtain ⟨ys, n', _, _, hlen, hyl, hf⟩ := DataW.trod_struct Tryz.underlying41 h
  have hl : cs.length = 10 := hlen.trans (by kernel_rfl)
  obtain ⟨v0, v1, v2, v3, v4, v5, v6, v7, v8, v9, rfl⟩ : ∃ v0 v1 v2 v3 v4 v5 v6 v7 v8 v9, cs = [v0, v1, v2, v3, v4, v5, v6, v7, v8, v9] := by
    match cs, hl with
    | [a, b, c, d, e, f, g, h, i, j], _ => exact ⟨a, b, c, d, e, f, g, h, i, j, rfl⟩
  have t0 := hf 0 _ rfl
  have t1 := hf 1 _ rfl
  have t2 := hf 2 _ rfl
  have t3 := hf 3 _ rfl
  have t4 := hf 4 _ rfl
  have hys : ∀ j, j < 5 → ∃ y, ys[j]? = some y := fun j hj => ⟨_, List.getElem?_eq_getElem (by rw [hyl]; exact hj)⟩
  obtain ⟨y0, e0⟩ := hys 0 (by omega)
  obtain ⟨y1, e1⟩ := hys 1 (by omega)
  obtain ⟨y2, e2⟩ := hys 2 (by omega)
  obtain ⟨y3, e3⟩ := hys 3 (by omega)
  obtain ⟨y4, e4⟩ := hys 4 (by omega)
  rw [e0] at t0
  rw [e1] at t1
  rw [e2] at t2
  rw [e3] at t3
  rw [e4] at t4
  have p0 : DataW.trod enc Tryz.prog W 0 (fun _ => true) true n' 3 [v0] = some y0 := t0
  have p1 : DataW.trod enc Tryz.prog W 0 (fun _ => true) true n' 35 [v1, v2, v3] = some y1 := t1
  have p2 : DataW.trod enc Tryz.prog W 0 (fun _ => true) true n' 3 [v4] = some y2 := t2
  have p3 : DataW.trod enc Tryz.prog W 0 (fun _ => true) true n' 36 [v5] = some y3 := t3
  have p4 : DataW.trod enc Tryz.prog W 0 (fun _ => true) true n' 39 [v6, v7, v8, v9] = some y4 := t4
  obtain ⟨k0, q0, _, w0⟩ := DataW.trod_int Tryz.underlying3 p0
  obtain ⟨r, hr, hrs⟩ := root_of_trod p1
  obtain ⟨k2, q2, _, w2⟩ := DataW.trod_int Tryz.underlying3 p2
  obtain ⟨BA, Bc, L, rfl, hs⟩ := sl_bytes p3
  obtain ⟨c, KA, Kc, hc, hcs, hk⟩ := crash_of_trod p4
  injection q0 with q0
  injection q2 with q2
  injection hrs with h1 hrs
  injection hrs with h2 hrs
  injection hrs with h3 hrs
  injection hcs with h6 hcs
  injection hcs with h7 hcs
  injection hcs with h8 hcs
  injection hcs with h9 hcs
  subst q0 q2 h1 h2 h3 h6 h7 h8 h9
  exact ⟨⟨k0, r, k2, L, c⟩, BA, Bc, KA, Kc, ⟨i64_of_wf w0, hr, i64_of_wf w2, hc⟩, rfl, hs, hk⟩

set_option maxRecDepth 100000 in
/-- A list of calls, opened. -/
theorem open_rops {v : Value} {d : DataW H} {p : List MemPlace} (hval : Value.okWide Tryz.prog W .any base 22 v)
    (h : DataW.Trod enc Tryz.prog W 0 (fun _ => true) true 22 v d p) : ∃ A n c l, v = .slice A n c ∧ ROps W W.heap.size A n l ∧ n ≤ 9223372036854775807 := by
  obtain ⟨a0, len, cap, rfl⟩ := okWide_slice Tryz.underlying22 hval
  obtain ⟨fuel, hf⟩ := h
  have hC : Tryz.prog.cellsOf 41 = 10 := by kernel_rfl
  rcases open_slice Tryz.underlying22 hf with ⟨hcs, hx⟩ | ⟨a, len', cap', m, n, D, Pl, hcs, _, hl, hm, hmm, hx, hi⟩
  · simp [Value.cells] at hcs
    obtain ⟨rfl, rfl, rfl⟩ := hcs
    exact ⟨none, 0, 0, [], rfl, ⟨rfl, (fun o ho => by cases ho), (fun h => by omega)⟩, by omega⟩
  · simp [Value.cells] at hcs
    obtain ⟨rfl, rfl, rfl⟩ := hcs
    simp only [if_true] at hmm
    subst hmm
    have hmx : len ≤ 9223372036854775807 := by unfold maxLen at hm; omega
    have hall : ∀ i, i < len → ∃ o : ROp, o.Fine ∧ ∃ BA Bc KA Kc, RCells W W.heap.size (a.add (i * 10)) o BA Bc KA Kc := by
      intro i hil
      obtain ⟨cs', hc, ht'⟩ := hi i (by omega)
      rw [hC] at hc
      obtain ⟨o, BA, Bc, KA, Kc, ho, rfl, hs, hk⟩ := rop_of_trod ht'
      obtain ⟨_, _, hat⟩ := World.cells?_some hc
      have g0 := hat 0 (by omega)
      have g1 := hat 1 (by omega)
      have g2 := hat 2 (by omega)
      have g3 := hat 3 (by omega)
      have g4 := hat 4 (by omega)
      have g5 := hat 5 (by omega)
      have g6 := hat 6 (by omega)
      have g7 := hat 7 (by omega)
      have g8 := hat 8 (by omega)
      have g9 := hat 9 (by omega)
      exact ⟨o, ho, BA, Bc, KA, Kc, g0, g1, g2, g3, g4, g5, g6, g7, g8, g9, hs, hk⟩
    obtain ⟨l, hll, hp⟩ := exists_list len hall
    refine ⟨some a, len, _, l, rfl, ⟨hll, fun o ho => ?_, fun h0 => ⟨a, rfl, ?_, fun i o ho => (hp i o ho).2⟩⟩, hmx⟩
    · obtain ⟨i, hi, rfl⟩ := List.getElem_of_mem ho
      exact (hp i _ (List.getElem?_eq_getElem hi)).1
    · obtain ⟨_, _, _, _, d⟩ := (hp 0 l[0] (List.getElem?_eq_getElem (by omega))).2
      have := lt_of_cell d.kind
      rwa [block_of_add] at this

end
end Go.Proofs.YtkebbjodkhjbmaaGreat.root

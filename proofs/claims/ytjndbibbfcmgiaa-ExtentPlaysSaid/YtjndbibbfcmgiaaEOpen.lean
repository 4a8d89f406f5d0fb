/-
  How the arguments of layer 4's statements open: lists of calls.
-/
import Derived.Test.YtjndbibbfcmgiaaEOps
import Derived.Test.YtjndbibbfcmgiaaOpen
namespace Go.Proofs.Ytjndbibbfcmgiaa
open Go.ChangeShapes Go.WideShapes Go.ChangeAt Go.RowKit Go.Deep

section
variable {H : Type} {enc : TypeId × Value → H} {W : World} {base : Nat} {fuel : Nat}
set_option maxRecDepth 100000 in
theorem ext_of_trod {cs : List Value} {x : DataW H × List MemPlace} (h : DataW.trod enc Try.prog W 0 (fun _ => true) true fuel 33 cs = some x) :
    ∃ a n : Int, cs = [.int .i64 a, .int .i64 n] ∧ -9223372036854775808 ≤ n ∧ n ≤ 9223372036854775807 := by
  obtain ⟨ys, n', _, _, hlen, hyl, hf⟩ := DataW.trod_struct Try.underlying33 h
  have hl2 : cs.length = 2 := hlen.trans (by kernel_rfl)
  obtain ⟨v0, v1, rfl⟩ : ∃ v0 v1, cs = [v0, v1] := by
    match cs, hl2 with
    | [a, b], _ => exact ⟨a, b, rfl⟩
  have t0 := hf 0 _ rfl
  have t1 := hf 1 _ rfl
  have hys : ∀ j, j < 2 → ∃ y, ys[j]? = some y := fun j hj => ⟨_, List.getElem?_eq_getElem (by rw [hyl]; exact hj)⟩
  obtain ⟨y0, e0⟩ := hys 0 (by omega)
  obtain ⟨y1, e1⟩ := hys 1 (by omega)
  rw [e0] at t0
  rw [e1] at t1
  have p0 : DataW.trod enc Try.prog W 0 (fun _ => true) true n' 3 [v0] = some y0 := t0
  have p1 : DataW.trod enc Try.prog W 0 (fun _ => true) true n' 3 [v1] = some y1 := t1
  obtain ⟨k0, q0, _, w0⟩ := DataW.trod_int Try.underlying3 p0
  obtain ⟨k1, q1, _, w1⟩ := DataW.trod_int Try.underlying3 p1
  injection q0 with q0
  injection q1 with q1
  subst q0 q1
  have m1 : IntKind.i64.min = -9223372036854775808 := rfl
  have m2 : IntKind.i64.max = 9223372036854775807 := rfl
  simp only [Lit.wf, Bool.and_eq_true, decide_eq_true_eq] at w1
  exact ⟨k0, k1, rfl, by omega, by omega⟩
set_option maxRecDepth 100000 in
theorem eop_of_trod {cs : List Value} {x : DataW H × List MemPlace} (h : DataW.trod enc Try.prog W 0 (fun _ => true) true fuel 35 cs = some x) :
    ∃ o : EOp, o.Fine ∧ cs = [.int .i64 o.kind, .int .i64 o.at_, .int .i64 o.n] := by
  obtain ⟨ys, n', _, _, hlen, hyl, hf⟩ := DataW.trod_struct Try.underlying35 h
  have hl3 : cs.length = 3 := hlen.trans (by kernel_rfl)
  obtain ⟨v0, v1, v2, rfl⟩ : ∃ v0 v1 v2, cs = [v0, v1, v2] := by
    match cs, hl3 with
    | [a, b, c], _ => exact ⟨a, b, c, rfl⟩
  have t0 := hf 0 _ rfl
  have t1 := hf 1 _ rfl
  have hys : ∀ j, j < 2 → ∃ y, ys[j]? = some y := fun j hj => ⟨_, List.getElem?_eq_getElem (by rw [hyl]; exact hj)⟩
  obtain ⟨y0, e0⟩ := hys 0 (by omega)
  obtain ⟨y1, e1⟩ := hys 1 (by omega)
  rw [e0] at t0
  rw [e1] at t1
  have p0 : DataW.trod enc Try.prog W 0 (fun _ => true) true n' 3 [v0] = some y0 := t0
  have p1 : DataW.trod enc Try.prog W 0 (fun _ => true) true n' 33 [v1, v2] = some y1 := t1
  obtain ⟨k0, q0, _, w0⟩ := DataW.trod_int Try.underlying3 p0
  obtain ⟨a, n, hcs, h1, h2⟩ := ext_of_trod p1
  injection q0 with q0
  subst q0
  injection hcs with e1 hcs
  injection hcs with e2 hcs
  subst e1 e2
  exact ⟨⟨k0, a, n⟩, ⟨h1, h2⟩, rfl⟩
set_option maxRecDepth 100000 in
/-- A list of calls, opened. -/
theorem open_eops {v : Value} {d : DataW H} {p : List MemPlace} (hval : Value.okWide Try.prog W .any base 22 v)
    (h : DataW.Trod enc Try.prog W 0 (fun _ => true) true 22 v d p) : ∃ A n c l, v = .slice A n c ∧ EOps W W.heap.size A n l ∧ n ≤ 9223372036854775807 := by
  obtain ⟨a0, len, cap, rfl⟩ := okWide_slice Try.underlying22 hval
  obtain ⟨fuel, hf⟩ := h
  have hC : Try.prog.cellsOf 35 = 3 := by kernel_rfl
  rcases open_slice Try.underlying22 hf with ⟨hcs, hx⟩ | ⟨a, len', cap', m, n, D, Pl, hcs, _, hl, hm, hmm, hx, hi⟩
  · simp [Value.cells] at hcs
    obtain ⟨rfl, rfl, rfl⟩ := hcs
    exact ⟨none, 0, 0, [], rfl, EOps.nil _ _, by omega⟩
  · simp [Value.cells] at hcs
    obtain ⟨rfl, rfl, rfl⟩ := hcs
    simp only [if_true] at hmm
    subst hmm
    have hmx : len ≤ 9223372036854775807 := by unfold maxLen at hm; omega
    have hall : ∀ i, i < len → ∃ o : EOp, o.Fine ∧ ECells W (a.add (i * 3)) o := by
      intro i hil
      obtain ⟨cs', hc, ht'⟩ := hi i (by omega)
      rw [hC] at hc
      obtain ⟨o, ho, rfl⟩ := eop_of_trod ht'
      obtain ⟨_, _, hat⟩ := World.cells?_some hc
      have g0 := hat 0 (by omega)
      have g1 := hat 1 (by omega)
      have g2 := hat 2 (by omega)
      exact ⟨o, ho, g0, g1, g2⟩
    obtain ⟨l, hll, hp⟩ := exists_list len hall
    refine ⟨some a, len, _, l, rfl, ⟨hll, fun o ho => ?_, fun h0 => ⟨a, rfl, ?_, fun i o ho => (hp i o ho).2⟩⟩, hmx⟩
    · obtain ⟨i, hi, rfl⟩ := List.getElem_of_mem ho
      exact (hp i _ (List.getElem?_eq_getElem hi)).1
    · have d := (hp 0 l[0] (List.getElem?_eq_getElem (by omega))).2
      have := lt_of_cell d.kind
      rwa [block_of_add] at this
end
end Go.Proofs.Ytjndbibbfcmgiaa

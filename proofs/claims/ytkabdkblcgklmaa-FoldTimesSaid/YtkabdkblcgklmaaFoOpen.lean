/-
  Layer 16: how an array opens as an argument, with the room behind its lists; lists of numbers of 64 bits.
-/
import Derived.Test.YtkabdkblcgklmaaArOpenA
import Derived.Test.YtkabdkblcgklmaaFoScan
namespace Go.Proofs.Ytkabdkblcgklmaa.fo
open Go.ChangeShapes Go.WideShapes Go.ChangeAt Go.RowKit Go.Deep Go.Proofs.Ytkabdkblcgklmaa.arr

section
variable {H : Type} {enc : TypeId × Value → H} {W : World} {base : Nat} {fuel : Nat}
set_option maxRecDepth 100000 in
theorem opn_cells {t e : TypeId} (ht : Try.prog.underlying t = some (.slice e)) (he : Try.prog.underlying e = some (.int .i64)) (hC : Try.prog.cellsOf e = 1) {v : Value} {x : DataW H × List MemPlace} (h : DataW.trod enc Try.prog W 0 (fun _ => true) true fuel t [v] = some x) :
    ∃ A c l, v = .slice A (l : List Int).length c ∧ IArg W A c l ∧ (A = none → c = 0) := by
  obtain ⟨A, c, l, rfl, h1⟩ := aropen_cells ht he hC h
  refine ⟨A, c, l, rfl, h1, fun hA => ?_⟩
  rcases open_ints ht he hC h with ⟨hcs, _⟩ | ⟨a, len', cap', zs, hcs, _⟩
  · injection hcs with hcs
    injection hcs with e1 e2 e3
  · injection hcs with hcs
    injection hcs with e1 e2 e3
    rw [hA] at e1
    cases e1
set_option maxRecDepth 100000 in
/-- An array's three cells, with the room behind its shape. -/
theorem opn_arr {cs : List Value} {x : DataW H × List MemPlace} (h : DataW.trod enc Try.prog W 0 (fun _ => true) true fuel 25 cs = some x) :
    ∃ (a : AV) (p : AP), cs = (arC a p).toList ∧ IArg W p.A0 p.c0 a.sh ∧ IArg W p.A1 p.c1 a.el ∧ Cap2 a p := by
  obtain ⟨ys, n', _, _, hlen, hyl, hf⟩ := DataW.trod_struct Try.underlying25 h
  have hl4 : cs.length = 3 := hlen.trans (by kernel_rfl)
  obtain ⟨v0, v1, v2, rfl⟩ : ∃ v0 v1 v2, cs = [v0, v1, v2] := by
    match cs, hl4 with
    | [a, b, c], _ => exact ⟨a, b, c, rfl⟩
  have t0 := hf 0 _ rfl
  have t1 := hf 1 _ rfl
  have t2 := hf 2 _ rfl
  have hys : ∀ j, j < 3 → ∃ y, ys[j]? = some y := fun j hj => ⟨_, List.getElem?_eq_getElem (by rw [hyl]; exact hj)⟩
  obtain ⟨y0, e0⟩ := hys 0 (by omega)
  obtain ⟨y1, e1⟩ := hys 1 (by omega)
  obtain ⟨y2, e2⟩ := hys 2 (by omega)
  rw [e0] at t0
  rw [e1] at t1
  rw [e2] at t2
  have p0 : DataW.trod enc Try.prog W 0 (fun _ => true) true n' 3 [v0] = some y0 := t0
  have p1 : DataW.trod enc Try.prog W 0 (fun _ => true) true n' 22 [v1] = some y1 := t1
  have p2 : DataW.trod enc Try.prog W 0 (fun _ => true) true n' 23 [v2] = some y2 := t2
  obtain ⟨k0, q0, _, w0⟩ := DataW.trod_int Try.underlying3 p0
  obtain ⟨A0, c0, L0, rfl, h0, hn0⟩ := opn_cells Try.underlying22 Try.underlying3 arcellsInt p1
  obtain ⟨A1, c1, L1, rfl, h1, hn1⟩ := opn_cells Try.underlying23 Try.underlying2 arcellsI64 p2
  injection q0 with q0
  subst q0
  exact ⟨⟨k0, L0, L1⟩, ⟨A0, c0, A1, c1⟩, rfl, h0, h1, ⟨h0.cap, h1.cap, hn0, hn1⟩⟩
set_option maxRecDepth 100000 in
/-- An array by value, opened, with the room behind its shape. -/
theorem opn_arrC {v : Value} {d : DataW H} {p : List MemPlace} (hval : Value.okWide Try.prog W .any base 25 v) (h : DataW.Trod enc Try.prog W 0 (fun _ => true) true 25 v d p) :
    ∃ (a : AV) (q : AP), v = .agg (arC a q) ∧ AEl W a q ∧ Cap2 a q := by
  obtain ⟨cs, rfl, hsz⟩ := okWide_struct Try.underlying25 hval
  obtain ⟨fuel, hf⟩ := h
  obtain ⟨a, q, hcs, h0, h1, hc⟩ := opn_arr hf
  have hcs' : cs.toList = _ := hcs
  refine ⟨a, q, ?_, ⟨h0.reads, h1.reads, by have := h0.cap; have := h0.big; omega, by have := h1.cap; have := h1.big; omega, h1.fine⟩, hc⟩
  rw [← Array.toArray_toList (xs := cs), hcs']
set_option maxRecDepth 100000 in
theorem opn_longs {v : Value} {d : DataW H} {p : List MemPlace} (hval : Value.okWide Try.prog W .any base 23 v) (h : DataW.Trod enc Try.prog W 0 (fun _ => true) true 23 v d p) :
    ∃ A c l, v = .slice A (l : List Int).length c ∧ IArg W A c l := by
  obtain ⟨a0, len, cap, rfl⟩ := okWide_slice Try.underlying23 hval
  obtain ⟨fuel, hf⟩ := h
  exact aropen_cells Try.underlying23 Try.underlying2 arcellsI64 hf
end
end Go.Proofs.Ytkabdkblcgklmaa.fo

/-
  Layer 11 (array): how an array opens as an argument.
-/
import Derived.Test.YtkabdkblcgklmaaArOpen
import Derived.Test.YtkabdkblcgklmaaArCheck
namespace Go.Proofs.Ytkabdkblcgklmaa.arr
open Go.ChangeShapes Go.WideShapes Go.ChangeAt Go.RowKit Go.Deep

theorem arcellsI64 : Try.prog.cellsOf 2 = 1 := by kernel_rfl
section
variable {H : Type} {enc : TypeId × Value → H} {W : World} {base : Nat} {fuel : Nat}
set_option maxRecDepth 100000 in
/-- An array's three cells. -/
theorem arr_of_trod {cs : List Value} {x : DataW H × List MemPlace} (h : DataW.trod enc Try.prog W 0 (fun _ => true) true fuel 25 cs = some x) :
    ∃ (a : AV) (p : AP), cs = (arC a p).toList ∧ IArg W p.A0 p.c0 a.sh ∧ IArg W p.A1 p.c1 a.el := by
  obtain ⟨ys, n', _, _, hlen, hyl, hf⟩ := DataW.trod_struct Try.underlying25 h
  have hl4 : cs.length = 3 := hlen.trans (by kernel_rfl)
  obtain ⟨v0, v1, v2, rfl⟩ : ∃ v0 v1 v2, cs = [v0, v1, v2] := by
    match cs, hl4 with
    | [a, b, c], _ => exact ⟨a, b, c, rfl⟩
  have t0 := hf 0 _ rfl
  have t1 := hf 1 _ rfl
  have t2 := hf 2 _ rfl
  have hys : ∀ j, j < 3 → ∃ y, ys[j]? = some y := fun j hj => ⟨_, List.getElem?_eq_getElem (by rw [hyl]; exact hj)⟩
  obtain ⟨y0, e0⟩ := hys 0 (by omega)
  obtain ⟨y1, e1⟩ := hys 1 (by omega)
  obtain ⟨y2, e2⟩ := hys 2 (by omega)
  rw [e0] at t0
  rw [e1] at t1
  rw [e2] at t2
  have p0 : DataW.trod enc Try.prog W 0 (fun _ => true) true n' 3 [v0] = some y0 := t0
  have p1 : DataW.trod enc Try.prog W 0 (fun _ => true) true n' 22 [v1] = some y1 := t1
  have p2 : DataW.trod enc Try.prog W 0 (fun _ => true) true n' 23 [v2] = some y2 := t2
  obtain ⟨k0, q0, _, w0⟩ := DataW.trod_int Try.underlying3 p0
  obtain ⟨A0, c0, L0, rfl, h0⟩ := aropen_cells Try.underlying22 Try.underlying3 arcellsInt p1
  obtain ⟨A1, c1, L1, rfl, h1⟩ := aropen_cells Try.underlying23 Try.underlying2 arcellsI64 p2
  injection q0 with q0
  subst q0
  exact ⟨⟨k0, L0, L1⟩, ⟨A0, c0, A1, c1⟩, rfl, h0, h1⟩

set_option maxRecDepth 100000 in
/-- An array by value, opened. -/
theorem aropen_arr {v : Value} {d : DataW H} {p : List MemPlace} (hval : Value.okWide Try.prog W .any base 25 v)
    (h : DataW.Trod enc Try.prog W 0 (fun _ => true) true 25 v d p) :
    ∃ (a : AV) (q : AP), v = .agg (arC a q) ∧ AEl W a q := by
  obtain ⟨cs, rfl, hsz⟩ := okWide_struct Try.underlying25 hval
  obtain ⟨fuel, hf⟩ := h
  obtain ⟨a, q, hcs, h0, h1⟩ := arr_of_trod hf
  have hcs' : cs.toList = _ := hcs
  refine ⟨a, q, ?_, ⟨h0.reads, h1.reads, by have := h0.cap; have := h0.big; omega, by have := h1.cap; have := h1.big; omega, h1.fine⟩⟩
  rw [← Array.toArray_toList (xs := cs), hcs']
end
end Go.Proofs.Ytkabdkblcgklmaa.arr

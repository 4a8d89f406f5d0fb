/-
  How the arguments of layer 6's statements open: a root by value.
-/
import Derived.Test.YtkebbjodkhjbmaaGreatRtDec
import Derived.Test.YtkebbjodkhjbmaaGreatOpen
namespace Go.Proofs.YtkebbjodkhjbmaaGreat.root
open Go.ChangeShapes Go.WideShapes Go.ChangeAt Go.RowKit Go.Deep Go.Proofs.YtkebbjodkhjbmaaGreat.crc

section
variable {H : Type} {enc : TypeId × Value → H} {W : World} {base : Nat} {fuel : Nat}
set_option maxRecDepth 100000 in
theorem root_of_trod {cs : List Value} {x : DataW H × List MemPlace} (h : DataW.trod enc Tryz.prog W 0 (fun _ => true) true fuel 35 cs = some x) :
    ∃ r : RV, r.Fine ∧ cs = [.int .u64 r.n, .int .i64 r.len, .int .u32 r.sm] := by
  obtain ⟨ys, n', _, _, hlen, hyl, hf⟩ := DataW.trod_struct Tryz.underlying35 h
  have hl3 : cs.length = 3 := hlen.trans (by kernel_rfl)
  obtain ⟨v0, v1, v2, rfl⟩ : ∃ v0 v1 v2, cs = [v0, v1, v2] := by
    match cs, hl3 with
    | [a, b, c], _ => exact ⟨a, b, c, rfl⟩
  have t0 := hf 0 _ rfl
  have t1 := hf 1 _ rfl
  have t2 := hf 2 _ rfl
  have hys : ∀ j, j < 3 → ∃ y, ys[j]? = some y := fun j hj => ⟨_, List.getElem?_eq_getElem (by rw [hyl]; exact hj)⟩
  obtain ⟨y0, e0⟩ := hys 0 (by omega)
  obtain ⟨y1, e1⟩ := hys 1 (by omega)
  obtain ⟨y2, e2⟩ := hys 2 (by omega)
  rw [e0] at t0
  rw [e1] at t1
  rw [e2] at t2
  have p0 : DataW.trod enc Tryz.prog W 0 (fun _ => true) true n' 32 [v0] = some y0 := t0
  have p1 : DataW.trod enc Tryz.prog W 0 (fun _ => true) true n' 3 [v1] = some y1 := t1
  have p2 : DataW.trod enc Tryz.prog W 0 (fun _ => true) true n' 33 [v2] = some y2 := t2
  obtain ⟨k0, q0, _, w0⟩ := DataW.trod_int Tryz.underlying32 p0
  obtain ⟨k1, q1, _, w1⟩ := DataW.trod_int Tryz.underlying3 p1
  obtain ⟨k2, q2, _, w2⟩ := DataW.trod_int Tryz.underlying33 p2
  injection q0 with q0
  injection q1 with q1
  injection q2 with q2
  subst q0 q1 q2
  have b0 := u64_of_wf w0
  have m3 : IntKind.u32.min = 0 := rfl
  have m4 : IntKind.u32.max = 4294967295 := rfl
  simp only [Lit.wf, Bool.and_eq_true, decide_eq_true_eq] at w2
  obtain ⟨a, rfl⟩ := Int.eq_ofNat_of_zero_le (a := k0) (by omega)
  obtain ⟨b, rfl⟩ := Int.eq_ofNat_of_zero_le (a := k2) (by omega)
  exact ⟨⟨a, k1, b⟩, ⟨by simp only; omega, i64_of_wf w1, by simp only; omega⟩, rfl⟩

set_option maxRecDepth 100000 in
/-- A root by value, opened. -/
theorem open_root {v : Value} {d : DataW H} {p : List MemPlace} (hval : Value.okWide Tryz.prog W .any base 35 v)
    (h : DataW.Trod enc Tryz.prog W 0 (fun _ => true) true 35 v d p) : ∃ r : RV, v = rtv r ∧ r.Fine := by
  obtain ⟨cs, rfl, hsz⟩ := okWide_struct Tryz.underlying35 hval
  obtain ⟨fuel, hf⟩ := h
  obtain ⟨r, hfi, hcs⟩ := root_of_trod hf
  refine ⟨r, ?_, hfi⟩
  have hcs' : cs.toList = _ := hcs
  unfold rtv
  rw [← Array.toArray_toList (xs := cs), hcs']
theorem cellsU32 : Tryz.prog.cellsOf 33 = 1 := by kernel_rfl
end
end Go.Proofs.YtkebbjodkhjbmaaGreat.root

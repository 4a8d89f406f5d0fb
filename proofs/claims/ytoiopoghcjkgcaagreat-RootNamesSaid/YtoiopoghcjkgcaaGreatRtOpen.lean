/-
  How the arguments of layer 6's statements open: a root by value.
-/
import Derived.Test.YtoiopoghcjkgcaaGreatRtDec
import Derived.Test.YtoiopoghcjkgcaaGreatOpen
namespace Go.Proofs.YtoiopoghcjkgcaaGreat.root
open Go.ChangeShapes Go.WideShapes Go.ChangeAt Go.RowKit Go.Deep Go.Proofs.YtoiopoghcjkgcaaGreat.crc

section
variable {H : Type} {enc : TypeId × Value → H} {W : World} {base : Nat} {fuel : Nat}
set_option maxRecDepth 100000 in
theorem root_of_trod {cs : List Value} {x : DataW H × List MemPlace} (h : DataW.trod enc Tryz.prog W 0 (fun _ => true) true fuel 35 cs = some x) :
    ∃ r : RV, r.Fine ∧ cs = [.int .u64 r.n, .int .i64 r.len, .int .u32 r.sm] := by
  obtain ⟨ys, n', _, _, hlen, hyl, hf⟩ := DataW.trod_struct Tryz.underlying35 h
  have hl3 : cs.length = 3 := hlen.trans (by kernel_rfl)
  obtain ⟨v0, v1, v2, rfl⟩ : ∃ v0 v1 v2, cs = [v0, v1, v2] := by
    match cs, hl3 with
    | [a, b, c], _ => exact ⟨a, b, c, rfl⟩
  have t0 := hf 0 _ rfl
  have t1 := hf 1 _ rfl
  have t2 := hf 2 _ rfl
  have hys : ∀ j, j < 3 → ∃ y, ys[j]? = some y := fun j hj => ⟨_, List.getElem?_eq_getElem (by rw [hyl]; exact hj)⟩
  obtain ⟨y0, e0⟩ := hys 0 (by omega)
  obtain ⟨y1, e1⟩ := hys 1 (by omega)
  obtain ⟨y2, e2⟩ := hys 2 (by omega)
  rw [e0] at t0
  rw [e1] at t1
  rw [e2] at t2
  have p0 : DataW.trod enc Tryz.prog W 0 (fun _ => true) true n' 32 [v0] = some y0 := t0
  have p1 : DataW.trod enc Tryz.prog W 0 (fun _ => true) true n' 3 [v1] = some y1 := t1
  have p2 : DataW.trod enc Tryz.prog W 0 (fun _ => true) true n' 33 [v2] = some y2 := t2
  obtain ⟨k0, q0, _, w0⟩ := DataW.trod_int Tryz.underlying32 p0
  obtain ⟨k1, q1, _, w1⟩ := DataW.trod_int Tryz.underlying3 p1
  obtain ⟨k2, q2, _, w2⟩ := DataW.trod_int Tryz.underlying33 p2
  injection q0 with q0
  injection q1 with q1
  injection q2 with q2
  subst q0 q1 q2
  have b0 := u64_of_wf w0
  have m3 : IntKind.u32.min = 0 := rfl
  have m4 : IntKind.u32.max = 4294967295 := rfl
  simp only [Lit.wf, Bool.and_eq_true, decide_eq_true_eq] at w2
  obtain ⟨a, rfl⟩ := Int.eq_ofNat_of_zero_le (a := k0) (by omega)
  obtain ⟨b, rfl⟩ := Int.eq_ofNat_of_zero_le (a := k2) (by omega)
  exact ⟨⟨a, k1, b⟩, ⟨by simp only; omega, i64_of_wf w1, by simp only; omega⟩, rfl⟩

set_option maxRecDepth 100000 in
/-- A root by value, opened. -/
theorem open_root {v : Value} {d : DataW H} {p : List MemPlace} (hval : Value.okWide Tryz.prog W .any base 35 v)
    (h : DataW.Trod enc Tryz.prog W 0 (fun _ => true) true 35 v d p) : ∃ r : RV, v = rtv r ∧ r.Fine := by
  obtain ⟨cs, rfl, hsz⟩ := okWide_struct Tryz.underlying35 hval
  obtain ⟨fuel, hf⟩ := h
  obtain ⟨r, hfi, hcs⟩ := root_of_trod hf
  refine ⟨r, ?_, hfi⟩
  have hcs' : cs.toList = _ := hcs
  unfold rtv
  rw [← Array.toArray_toList (xs := cs), hcs']
theorem cellsU32 : Tryz.prog.cellsOf 33 = 1 := by kernel_rfl
set_option maxRecDepth 100000 in
/-- A list of numbers of 32 bits, opened. -/
theorem open_u32s {v : Value} {d : DataW H} {p : List MemPlace} (hval : Value.okWide Tryz.prog W .any base 60 v)
    (h : DataW.Trod enc Tryz.prog W 0 (fun _ => true) true 60 v d p) :
    ∃ (A : Option Addr) (c : Nat) (L : List Nat), v = .slice A L.length c ∧ Reads W W.heap.size 1 A L.length (L.map fun x : Nat => .int .u32 (x : Int)) ∧ ∀ x ∈ L, x < 4294967296 := by
  obtain ⟨a0, len, cap, rfl⟩ := okWide_slice Tryz.underlying60 hval
  obtain ⟨fuel, hf⟩ := h
  have m3 : IntKind.u32.min = 0 := rfl
  have m4 : IntKind.u32.max = 4294967295 := rfl
  rcases open_ints Tryz.underlying60 Tryz.underlying33 cellsU32 hf with ⟨hcs, hx⟩ | ⟨a, len', cap', zs, hcs, _, hl, hm, hz, hx, hcell, hwz⟩
  · simp [Value.cells] at hcs
    obtain ⟨rfl, rfl, rfl⟩ := hcs
    exact ⟨none, 0, [], rfl, Reads.none_, fun x hx => by cases hx⟩
  · simp [Value.cells] at hcs
    obtain ⟨rfl, rfl, rfl⟩ := hcs
    simp only [if_true] at hz
    have hlen : ((zs.take len).map Int.toNat).length = len := by rw [List.length_map, List.length_take]; omega
    refine ⟨some a, cap, (zs.take len).map Int.toNat, by rw [hlen], ?_, fun x hx => ?_⟩
    · rw [hlen]
      refine ⟨by rw [List.length_map, hlen]; omega, fun h0 => ⟨a, rfl, ?_, fun j u hu => ?_⟩⟩
      · have := lt_of_cell (hcell 0 (by omega))
        rwa [block_of_add] at this
      · have hj : j < len := by
          have := (List.getElem?_eq_some_iff.1 hu).1
          rwa [List.length_map, hlen] at this
        have hjz : j < zs.length := by omega
        have hw := hwz (zs[j]) (List.getElem_mem hjz)
        simp only [Lit.wf, Bool.and_eq_true, decide_eq_true_eq] at hw
        rw [hcell j hjz, ← hu, List.getElem?_map, List.getElem?_map, List.getElem?_take_of_lt hj, List.getElem?_eq_getElem hjz]
        simp only [Option.map_some, List.getD, List.getElem?_eq_getElem hjz, Option.getD_some]
        rw [Int.toNat_of_nonneg (by omega)]
    · obtain ⟨z, hz1, rfl⟩ := List.mem_map.1 hx
      have hw := hwz z (List.mem_of_mem_take hz1)
      simp only [Lit.wf, Bool.and_eq_true, decide_eq_true_eq] at hw
      omega
end
end Go.Proofs.YtoiopoghcjkgcaaGreat.root

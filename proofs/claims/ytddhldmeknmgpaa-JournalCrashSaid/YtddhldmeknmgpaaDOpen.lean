/-
  How the arguments of layer 3's statements open: lists of calls, crashes.
-/
import Derived.Test.YtddhldmeknmgpaaDOps
import Derived.Test.YtddhldmeknmgpaaOpen
namespace Go.Proofs.Ytddhldmeknmgpaa
open Go.ChangeShapes Go.WideShapes Go.ChangeAt Go.RowKit Go.Deep

theorem cellsInt : Try.prog.cellsOf 3 = 1 := by kernel_rfl

section
variable {H : Type} {enc : TypeId × Value → H} {W : World} {base : Nat} {fuel : Nat}

set_option maxRecDepth 100000 in
theorem sl_bytes {v : Value} {x : DataW H × List MemPlace} (h : DataW.trod enc Try.prog W 0 (fun _ => true) true fuel 23 [v] = some x) :
    ∃ A c L, v = .slice A (L : List UInt8).length c ∧ Sl W W.heap.size A c (L.map bv) := by
  rcases open_ints Try.underlying23 Try.underlying5 cellsU8 h with ⟨hcs, hx⟩ | ⟨a, len', cap', zs, hcs, _, hl, hm, hz, hx, hcell, hwz⟩
  · injection hcs with hcs
    subst hcs
    exact ⟨none, 0, [], rfl, ⟨Reads.none_, Nat.le_refl _, by omega⟩⟩
  · injection hcs with hcs
    subst hcs
    simp only [if_true] at hz
    have hlen : ((zs.take len').map fun z => UInt8.ofNat z.toNat).length = len' := by rw [List.length_map, List.length_take]; omega
    refine ⟨some a, cap', (zs.take len').map fun z => UInt8.ofNat z.toNat, by rw [hlen], ⟨?_, by rw [List.length_map, hlen]; exact hl, by unfold maxLen at hm; omega⟩⟩
    rw [List.length_map, hlen]
    refine ⟨by rw [List.length_map, hlen]; omega, fun h0 => ⟨a, rfl, ?_, fun j u hu => ?_⟩⟩
    · have := lt_of_cell (hcell 0 (by omega))
      rwa [block_of_add] at this
    · have hj : j < len' := by
        have := (List.getElem?_eq_some_iff.1 hu).1
        rwa [List.length_map, hlen] at this
      have hjz : j < zs.length := by omega
      rw [hcell j hjz, ← hu, List.getElem?_map, List.getElem?_map, List.getElem?_take_of_lt hj, List.getElem?_eq_getElem hjz]
      have hb := hwz zs[j] (List.getElem_mem hjz)
      have m1 : IntKind.u8.min = 0 := rfl
      have m2 : IntKind.u8.max = 255 := rfl
      simp only [Lit.wf, Bool.and_eq_true, decide_eq_true_eq] at hb
      simp [bv, List.getD, List.getElem?_eq_getElem hjz]
      omega

set_option maxRecDepth 100000 in
theorem sl_ints {v : Value} {x : DataW H × List MemPlace} (h : DataW.trod enc Try.prog W 0 (fun _ => true) true fuel 50 [v] = some x) :
    ∃ A c L, v = .slice A (L : List Int).length c ∧ Sl W W.heap.size A c (L.map iv) ∧ ∀ z ∈ L, i64ok z := by
  rcases open_ints Try.underlying50 Try.underlying3 cellsInt h with ⟨hcs, hx⟩ | ⟨a, len', cap', zs, hcs, _, hl, hm, hz, hx, hcell, hwz⟩
  · injection hcs with hcs
    subst hcs
    exact ⟨none, 0, [], rfl, ⟨Reads.none_, Nat.le_refl _, by omega⟩, fun z hz => by cases hz⟩
  · injection hcs with hcs
    subst hcs
    simp only [if_true] at hz
    have hlen : (zs.take len').length = len' := by rw [List.length_take]; omega
    refine ⟨some a, cap', zs.take len', by rw [hlen], ⟨?_, by rw [List.length_map, hlen]; exact hl, by unfold maxLen at hm; omega⟩, fun z hzm => i64_of_wf (hwz z (List.mem_of_mem_take hzm))⟩
    rw [List.length_map, hlen]
    refine ⟨by rw [List.length_map, hlen]; omega, fun h0 => ⟨a, rfl, ?_, fun j u hu => ?_⟩⟩
    · have := lt_of_cell (hcell 0 (by omega))
      rwa [block_of_add] at this
    · have hj : j < len' := by
        have := (List.getElem?_eq_some_iff.1 hu).1
        rwa [List.length_map, hlen] at this
      have hjz : j < zs.length := by omega
      rw [hcell j hjz, ← hu, List.getElem?_map, List.getElem?_take_of_lt hj, List.getElem?_eq_getElem hjz]
      simp [iv, List.getD, List.getElem?_eq_getElem hjz]

set_option maxRecDepth 100000 in
/-- A crash's four cells. -/
theorem crash_of_trod {cs : List Value} {x : DataW H × List MemPlace} (h : DataW.trod enc Try.prog W 0 (fun _ => true) true fuel 52 cs = some x) :
    ∃ (c : DCrash) (KA : Option Addr) (Kc : Nat), c.Fine ∧ cs = [.int .i64 c.write, .slice KA c.keep.length Kc, .int .i64 c.torn, .int .i64 c.at_] ∧ Sl W W.heap.size KA Kc (c.keep.map iv) := by
  obtain ⟨ys, n', _, _, hlen, hyl, hf⟩ := DataW.trod_struct Try.underlying52 h
  have hl4 : cs.length = 4 := hlen.trans (by kernel_rfl)
  obtain ⟨v0, v1, v2, v3, rfl⟩ : ∃ v0 v1 v2 v3, cs = [v0, v1, v2, v3] := by
    match cs, hl4 with
    | [a, b, c, d], _ => exact ⟨a, b, c, d, rfl⟩
  have t0 := hf 0 _ rfl
  have t1 := hf 1 _ rfl
  have t2 := hf 2 _ rfl
  have t3 := hf 3 _ rfl
  have hys : ∀ j, j < 4 → ∃ y, ys[j]? = some y := fun j hj => ⟨_, List.getElem?_eq_getElem (by rw [hyl]; exact hj)⟩
  obtain ⟨y0, e0⟩ := hys 0 (by omega)
  obtain ⟨y1, e1⟩ := hys 1 (by omega)
  obtain ⟨y2, e2⟩ := hys 2 (by omega)
  obtain ⟨y3, e3⟩ := hys 3 (by omega)
  rw [e0] at t0
  rw [e1] at t1
  rw [e2] at t2
  rw [e3] at t3
  have p0 : DataW.trod enc Try.prog W 0 (fun _ => true) true n' 3 [v0] = some y0 := t0
  have p1 : DataW.trod enc Try.prog W 0 (fun _ => true) true n' 50 [v1] = some y1 := t1
  have p2 : DataW.trod enc Try.prog W 0 (fun _ => true) true n' 3 [v2] = some y2 := t2
  have p3 : DataW.trod enc Try.prog W 0 (fun _ => true) true n' 3 [v3] = some y3 := t3
  obtain ⟨k0, q0, _, w0⟩ := DataW.trod_int Try.underlying3 p0
  obtain ⟨KA, Kc, L, rfl, hs, hL⟩ := sl_ints p1
  obtain ⟨k2, q2, _, w2⟩ := DataW.trod_int Try.underlying3 p2
  obtain ⟨k3, q3, _, w3⟩ := DataW.trod_int Try.underlying3 p3
  injection q0 with q0
  injection q2 with q2
  injection q3 with q3
  subst q0 q2 q3
  exact ⟨⟨k0, L, k2, k3⟩, KA, Kc, ⟨i64_of_wf w0, i64_of_wf w2, i64_of_wf w3, hL⟩, rfl, hs⟩

set_option maxRecDepth 100000 in
/-- A crash by value, opened. -/
theorem open_crash {v : Value} {d : DataW H} {p : List MemPlace} (hval : Value.okWide Try.prog W .any base 52 v)
    (h : DataW.Trod enc Try.prog W 0 (fun _ => true) true 52 v d p) :
    ∃ (c : DCrash) (KA : Option Addr) (Kc : Nat), c.Fine ∧ v = .agg #[.int .i64 c.write, .slice KA c.keep.length Kc, .int .i64 c.torn, .int .i64 c.at_] ∧ Sl W W.heap.size KA Kc (c.keep.map iv) := by
  obtain ⟨cs, rfl, hsz⟩ := okWide_struct Try.underlying52 hval
  obtain ⟨fuel, hf⟩ := h
  obtain ⟨c, KA, Kc, hc, hcs, hs⟩ := crash_of_trod hf
  refine ⟨c, KA, Kc, hc, ?_, hs⟩
  have hcs' : cs.toList = _ := hcs
  rw [← Array.toArray_toList (xs := cs), hcs']
end

end Go.Proofs.Ytddhldmeknmgpaa

/-
  How the arguments of layer 9's statements open: a note by value, lists of slices of bytes.
-/
import Derived.Test.YtdjneiboeehclaaNtForm
import Derived.Test.YtdjneiboeehclaaOpen
import Derived.Test.YtdjneiboeehclaaDOpen
namespace Go.Proofs.Ytdjneiboeehclaa.note
open Go.ChangeShapes Go.WideShapes Go.ChangeAt Go.RowKit Go.Deep Go.Proofs.Ytdjneiboeehclaa.crc

section
variable {H : Type} {enc : TypeId × Value → H} {W : World} {base : Nat} {fuel : Nat}
set_option maxRecDepth 100000 in
theorem note_of_trod {cs : List Value} {x : DataW H × List MemPlace} (h : DataW.trod enc Try.prog W 0 (fun _ => true) true fuel 23 cs = some x) :
    ∃ r : NV, r.Fine ∧ cs = nc r := by
  obtain ⟨ys, n', _, _, hlen, hyl, hf⟩ := DataW.trod_struct Try.underlying23 h
  have hl3 : cs.length = 4 := hlen.trans (by kernel_rfl)
  obtain ⟨v0, v1, v2, v3, rfl⟩ : ∃ v0 v1 v2 v3, cs = [v0, v1, v2, v3] := by
    match cs, hl3 with
    | [a, b, c, d], _ => exact ⟨a, b, c, d, rfl⟩
  have t0 := hf 0 _ rfl
  have t1 := hf 1 _ rfl
  have t2 := hf 2 _ rfl
  have t3 := hf 3 _ rfl
  have hys : ∀ j, j < 4 → ∃ y, ys[j]? = some y := fun j hj => ⟨_, List.getElem?_eq_getElem (by rw [hyl]; exact hj)⟩
  obtain ⟨y0, e0⟩ := hys 0 (by omega)
  obtain ⟨y1, e1⟩ := hys 1 (by omega)
  obtain ⟨y2, e2⟩ := hys 2 (by omega)
  obtain ⟨y3, e3⟩ := hys 3 (by omega)
  rw [e0] at t0
  rw [e1] at t1
  rw [e2] at t2
  rw [e3] at t3
  have p0 : DataW.trod enc Try.prog W 0 (fun _ => true) true n' 3 [v0] = some y0 := t0
  have p1 : DataW.trod enc Try.prog W 0 (fun _ => true) true n' 3 [v1] = some y1 := t1
  have p2 : DataW.trod enc Try.prog W 0 (fun _ => true) true n' 3 [v2] = some y2 := t2
  have p3 : DataW.trod enc Try.prog W 0 (fun _ => true) true n' 2 [v3] = some y3 := t3
  obtain ⟨k0, q0, _, w0⟩ := DataW.trod_int Try.underlying3 p0
  obtain ⟨k1, q1, _, w1⟩ := DataW.trod_int Try.underlying3 p1
  obtain ⟨k2, q2, _, w2⟩ := DataW.trod_int Try.underlying3 p2
  obtain ⟨k3, q3, _, w3⟩ := DataW.trod_int Try.underlying2 p3
  injection q0 with q0
  injection q1 with q1
  injection q2 with q2
  injection q3 with q3
  subst q0 q1 q2 q3
  exact ⟨⟨k0, k1, k2, k3⟩, ⟨i64_of_wf w0, i64_of_wf w1, i64_of_wf w2, i64_of_wf w3⟩, rfl⟩

set_option maxRecDepth 100000 in
/-- A note by value, opened. -/
theorem open_note {v : Value} {d : DataW H} {p : List MemPlace} (hval : Value.okWide Try.prog W .any base 23 v)
    (h : DataW.Trod enc Try.prog W 0 (fun _ => true) true 23 v d p) : ∃ r : NV, v = nv r ∧ r.Fine := by
  obtain ⟨cs, rfl, hsz⟩ := okWide_struct Try.underlying23 hval
  obtain ⟨fuel, hf⟩ := h
  obtain ⟨r, hfi, hcs⟩ := note_of_trod hf
  refine ⟨r, ?_, hfi⟩
  have hcs' : cs.toList = _ := hcs
  unfold nv
  rw [← Array.toArray_toList (xs := cs), hcs']
  rfl
end

/-- A list of slices of bytes as an argument. -/
structure RArgs (W : World) (A : Option Addr) (n c : Nat) (ls : List (List UInt8)) (us : List Value) : Prop where
  reads : Reads W W.heap.size 1 A n us
  len : ls.length = n
  heads : ∀ (i : Nat) (l : List UInt8), ls[i]? = some l → ∃ B d, us[i]? = some (.slice B l.length d) ∧ l.length ≤ d ∧ d ≤ 9223372036854775807 ∧ Reads W W.heap.size 1 B l.length (l.map bv)
  cap : n ≤ c ∧ c ≤ 9223372036854775807

theorem cellsBytes : Try.prog.cellsOf 24 = 1 := by kernel_rfl

set_option maxRecDepth 100000 in
theorem open_rows {H : Type} {enc : TypeId × Value → H} {W : World} {base : Nat} {v : Value} {d : DataW H} {p : List MemPlace} (hval : Value.okWide Try.prog W .any base 35 v)
    (h : DataW.Trod enc Try.prog W 0 (fun _ => true) true 35 v d p) : ∃ A n c ls us, v = .slice A n c ∧ RArgs W A n c ls us := by
  obtain ⟨a0, len, cap, rfl⟩ := okWide_slice Try.underlying35 hval
  obtain ⟨fuel, hf⟩ := h
  rcases open_slice Try.underlying35 hf with ⟨hcs, hx⟩ | ⟨a, len', cap', m, n, D, Pl, hcs, _, hl, hm, hmm, hx, hi⟩
  · simp [Value.cells] at hcs
    obtain ⟨rfl, rfl, rfl⟩ := hcs
    exact ⟨none, 0, 0, [], [], rfl, Reads.none_, rfl, fun i l hl => by simp at hl, by omega⟩
  · simp [Value.cells] at hcs
    obtain ⟨rfl, rfl, rfl⟩ := hcs
    simp only [if_true] at hmm
    subst hmm
    have hmx : m ≤ 9223372036854775807 := by unfold maxLen at hm; omega
    have hall : ∀ i, i < len → ∃ o : List UInt8 × Value, W.cell? (a.add i) = some o.2 ∧ ∃ B d, o.2 = .slice B o.1.length d ∧ Sl W W.heap.size B d (o.1.map bv) := by
      intro i hil
      obtain ⟨cs', hc, ht'⟩ := hi i (by omega)
      rw [cellsBytes] at hc
      obtain ⟨_, hcl, hat⟩ := World.cells?_some hc
      obtain ⟨v0, rfl⟩ : ∃ v0, cs' = [v0] := by
        match cs', hcl with
        | [x], _ => exact ⟨x, rfl⟩
      obtain ⟨B, d, L, rfl, hs⟩ := sl_bytes ht'
      have g0 := hat 0 (by omega)
      have ha0 : (a.add (i * 1)).add 0 = a.add i := by rw [Nat.mul_one]; generalize a.add i = q; unfold Addr.add; cases q; simp
      rw [ha0] at g0
      exact ⟨⟨L, _⟩, g0, B, d, rfl, hs⟩
    obtain ⟨l, hll, hp⟩ := exists_list len hall
    refine ⟨some a, len, _, l.map (·.1), l.map (·.2), rfl, ⟨by rw [List.length_map, hll]; omega, fun h0 => ⟨a, rfl, ?_, fun j u hu => ?_⟩⟩, by rw [List.length_map, hll], fun i x hx => ?_, hl, hmx⟩
    · obtain ⟨o, ho⟩ : ∃ o, l[0]? = some o := ⟨_, List.getElem?_eq_getElem (by omega)⟩
      have := lt_of_cell (hp 0 o ho).1
      rwa [block_of_add] at this
    · rw [List.getElem?_map] at hu
      cases ho : l[j]? with
      | none => rw [ho] at hu; cases hu
      | some o =>
        rw [ho] at hu
        exact (hp j o ho).1.trans hu
    · rw [List.getElem?_map] at hx
      cases ho : l[i]? with
      | none => rw [ho] at hx; cases hx
      | some o =>
        rw [ho] at hx
        injection hx with hx
        subst hx
        obtain ⟨_, B, d, e, hs⟩ := hp i o ho
        have hr := hs.reads
        rw [List.length_map] at hr
        have hc := hs.cap
        rw [List.length_map] at hc
        exact ⟨B, d, by rw [List.getElem?_map, ho]; exact congrArg some e, hc, hs.big, hr⟩
theorem RArgs.below {w w' : World} {A : Option Addr} {n c : Nat} {ls : List (List UInt8)} {us : List Value} (h : RArgs w A n c ls us) (hb : Below w.heap.size w w') : RArgs w' A n c ls us :=
  ⟨(h.reads.below hb).more hb.size, h.len, fun i l hl => by obtain ⟨B, d, h1, h2, h3, h4⟩ := h.heads i l hl; exact ⟨B, d, h1, h2, h3, (h4.below hb).more hb.size⟩, h.cap⟩
end Go.Proofs.Ytdjneiboeehclaa.note

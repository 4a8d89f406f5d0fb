/-
  How the arguments of layer 10's statements open: lists of calls, a key by value.
-/
import Derived.Test.YtlmdijijlbmddaaPlIdle
import Derived.Test.YtlmdijijlbmddaaOpen
namespace Go.Proofs.Ytlmdijijlbmddaa.pool
open Go.ChangeShapes Go.WideShapes Go.ChangeAt Go.RowKit Go.Deep

/-- A call of a statement's list. -/
structure POp where
  kind : Int
  f : Int
  no : Int
  i : Int
  v : Int
  n : Int
def ok64 (n : Int) : Prop := -9223372036854775808 ≤ n ∧ n ≤ 9223372036854775807
structure POp.Fine (o : POp) : Prop where
  f : ok64 o.f
  no : ok64 o.no
/-- Its six cells at ad. -/
structure PCells (W : World) (ad : Addr) (o : POp) : Prop where
  kind : W.cell? ad = some (.int .i64 o.kind)
  f : W.cell? ⟨ad.block, ad.off + 1, none⟩ = some (.int .i64 o.f)
  no : W.cell? ⟨ad.block, ad.off + 2, none⟩ = some (.int .i64 o.no)
  i : W.cell? ⟨ad.block, ad.off + 3, none⟩ = some (.int .i64 o.i)
  v : W.cell? ⟨ad.block, ad.off + 4, none⟩ = some (.int .i64 o.v)
  n : W.cell? ⟨ad.block, ad.off + 5, none⟩ = some (.int .i64 o.n)
def POps (W : World) (B : Nat) (A : Option Addr) (n : Nat) (l : List POp) : Prop :=
  l.length = n ∧ (0 < n → ∃ ad, A = some ad ∧ ad.block < B ∧ ∀ i o, l[i]? = some o → PCells W (ad.add (i * 6)) o)
theorem POps.below {w w' : World} {B n : Nat} {A : Option Addr} {l : List POp} (h : POps w B A n l) (hk : Below B w w') : POps w' B A n l :=
  ⟨h.1, fun h0 => by
    obtain ⟨ad, e, hb, hc⟩ := h.2 h0
    refine ⟨ad, e, hb, fun i o ho => ?_⟩
    have d := hc i o ho
    have same : ∀ j, w'.cell? ⟨(ad.add (i * 6)).block, (ad.add (i * 6)).off + j, none⟩ = w.cell? ⟨(ad.add (i * 6)).block, (ad.add (i * 6)).off + j, none⟩ := fun j => hk.cell (by dsimp only; rw [block_of_add]; exact hb)
    have same0 : w'.cell? (ad.add (i * 6)) = w.cell? (ad.add (i * 6)) := hk.cell (by rw [block_of_add]; exact hb)
    exact ⟨same0.trans d.kind, (same 1).trans d.f, (same 2).trans d.no, (same 3).trans d.i, (same 4).trans d.v, (same 5).trans d.n⟩⟩
theorem POps.at_ {w : World} {B n k : Nat} {A : Option Addr} {l : List POp} (h : POps w B A n l) (hk : k < n) : ∃ ad o, A = some ad ∧ ad.block < B ∧ PCells w (ad.add (k * 6)) o := by
  obtain ⟨ad, e, hb, hc⟩ := h.2 (by omega)
  exact ⟨ad, l[k]'(by rw [h.1]; exact hk), e, hb, hc k _ (List.getElem?_eq_getElem (by rw [h.1]; exact hk))⟩

section
variable {H : Type} {enc : TypeId × Value → H} {W : World} {base : Nat} {fuel : Nat}
set_option maxRecDepth 100000 in
/-- A key's two cells. -/
theorem key_of_trod {cs : List Value} {x : DataW H × List MemPlace} (h : DataW.trod enc Try.prog W 0 (fun _ => true) true fuel 29 cs = some x) :
    ∃ f n : Int, ok64 f ∧ ok64 n ∧ cs = [.int .i64 f, .int .i64 n] := by
  obtain ⟨ys, n', _, _, hlen, hyl, hf⟩ := DataW.trod_struct Try.underlying29 h
  have hl2 : cs.length = 2 := hlen.trans (by kernel_rfl)
  obtain ⟨v0, v1, rfl⟩ : ∃ v0 v1, cs = [v0, v1] := by
    match cs, hl2 with
    | [a, b], _ => exact ⟨a, b, rfl⟩
  have t0 := hf 0 _ rfl
  have t1 := hf 1 _ rfl
  have hys : ∀ j, j < 2 → ∃ y, ys[j]? = some y := fun j hj => ⟨_, List.getElem?_eq_getElem (by rw [hyl]; exact hj)⟩
  obtain ⟨y0, e0⟩ := hys 0 (by omega)
  obtain ⟨y1, e1⟩ := hys 1 (by omega)
  rw [e0] at t0
  rw [e1] at t1
  have p0 : DataW.trod enc Try.prog W 0 (fun _ => true) true n' 2 [v0] = some y0 := t0
  have p1 : DataW.trod enc Try.prog W 0 (fun _ => true) true n' 3 [v1] = some y1 := t1
  obtain ⟨k0, q0, _, w0⟩ := DataW.trod_int Try.underlying2 p0
  obtain ⟨k1, q1, _, w1⟩ := DataW.trod_int Try.underlying3 p1
  injection q0 with q0
  injection q1 with q1
  subst q0 q1
  exact ⟨k0, k1, i64_of_wf w0, i64_of_wf w1, rfl⟩
set_option maxRecDepth 100000 in
/-- A call's six cells. -/
theorem pop_of_trod {cs : List Value} {x : DataW H × List MemPlace} (h : DataW.trod enc Try.prog W 0 (fun _ => true) true fuel 58 cs = some x) :
    ∃ o : POp, cs = [.int .i64 o.kind, .int .i64 o.f, .int .i64 o.no, .int .i64 o.i, .int .i64 o.v, .int .i64 o.n] := by
  obtain ⟨ys, n', _, _, hlen, hyl, hf⟩ := DataW.trod_struct Try.underlying58 h
  have hl6 : cs.length = 6 := hlen.trans (by kernel_rfl)
  obtain ⟨v0, v1, v2, v3, v4, v5, rfl⟩ : ∃ v0 v1 v2 v3 v4 v5, cs = [v0, v1, v2, v3, v4, v5] := by
    match cs, hl6 with
    | [a, b, c, d, e, f], _ => exact ⟨a, b, c, d, e, f, rfl⟩
  have hys : ∀ j, j < 5 → ∃ y, ys[j]? = some y := fun j hj => ⟨_, List.getElem?_eq_getElem (by rw [hyl]; exact hj)⟩
  have t0 := hf 0 _ rfl
  have t1 := hf 1 _ rfl
  have t2 := hf 2 _ rfl
  have t3 := hf 3 _ rfl
  have t4 := hf 4 _ rfl
  obtain ⟨y0, e0⟩ := hys 0 (by omega)
  obtain ⟨y1, e1⟩ := hys 1 (by omega)
  obtain ⟨y2, e2⟩ := hys 2 (by omega)
  obtain ⟨y3, e3⟩ := hys 3 (by omega)
  obtain ⟨y4, e4⟩ := hys 4 (by omega)
  rw [e0] at t0
  rw [e1] at t1
  rw [e2] at t2
  rw [e3] at t3
  rw [e4] at t4
  have p0 : DataW.trod enc Try.prog W 0 (fun _ => true) true n' 3 [v0] = some y0 := t0
  have p1 : DataW.trod enc Try.prog W 0 (fun _ => true) true n' 29 [v1, v2] = some y1 := t1
  have p2 : DataW.trod enc Try.prog W 0 (fun _ => true) true n' 3 [v3] = some y2 := t2
  have p3 : DataW.trod enc Try.prog W 0 (fun _ => true) true n' 2 [v4] = some y3 := t3
  have p4 : DataW.trod enc Try.prog W 0 (fun _ => true) true n' 3 [v5] = some y4 := t4
  obtain ⟨k0, q0, _, _⟩ := DataW.trod_int Try.underlying3 p0
  obtain ⟨f, n, _, _, hk⟩ := key_of_trod p1
  obtain ⟨k2, q2, _, _⟩ := DataW.trod_int Try.underlying3 p2
  obtain ⟨k3, q3, _, _⟩ := DataW.trod_int Try.underlying2 p3
  obtain ⟨k4, q4, _, _⟩ := DataW.trod_int Try.underlying3 p4
  injection q0 with q0
  injection q2 with q2
  injection q3 with q3
  injection q4 with q4
  subst q0 q2 q3 q4
  injection hk with h1 hk
  injection hk with h2 hk
  subst h1 h2
  exact ⟨⟨k0, f, n, k2, k3, k4⟩, rfl⟩
set_option maxRecDepth 100000 in
/-- A list of calls, opened. -/
theorem open_pops {v : Value} {d : DataW H} {p : List MemPlace} (hval : Value.okWide Try.prog W .any base 56 v)
    (h : DataW.Trod enc Try.prog W 0 (fun _ => true) true 56 v d p) : ∃ A n c l, v = .slice A n c ∧ POps W W.heap.size A n l ∧ n ≤ 9223372036854775807 := by
  obtain ⟨a0, len, cap, rfl⟩ := okWide_slice Try.underlying56 hval
  obtain ⟨fuel, hf⟩ := h
  have hC : Try.prog.cellsOf 58 = 6 := by kernel_rfl
  rcases open_slice Try.underlying56 hf with ⟨hcs, hx⟩ | ⟨a, len', cap', m, n, D, Pl, hcs, _, hl, hm, hmm, hx, hi⟩
  · simp [Value.cells] at hcs
    obtain ⟨rfl, rfl, rfl⟩ := hcs
    exact ⟨none, 0, 0, [], rfl, ⟨rfl, (fun h => by omega)⟩, by omega⟩
  · simp [Value.cells] at hcs
    obtain ⟨rfl, rfl, rfl⟩ := hcs
    simp only [if_true] at hmm
    subst hmm
    have hmx : len ≤ 9223372036854775807 := by unfold maxLen at hm; omega
    have hall : ∀ i, i < len → ∃ o : POp, PCells W (a.add (i * 6)) o := by
      intro i hil
      obtain ⟨cs', hc, ht'⟩ := hi i (by omega)
      rw [hC] at hc
      obtain ⟨o, rfl⟩ := pop_of_trod ht'
      obtain ⟨_, _, hat⟩ := World.cells?_some hc
      exact ⟨o, hat 0 (by omega), hat 1 (by omega), hat 2 (by omega), hat 3 (by omega), hat 4 (by omega), hat 5 (by omega)⟩
    obtain ⟨l, hll, hp⟩ := exists_list len hall
    refine ⟨some a, len, _, l, rfl, ⟨hll, fun h0 => ⟨a, rfl, ?_, fun i o ho => hp i o ho⟩⟩, hmx⟩
    have := lt_of_cell (hp 0 l[0] (List.getElem?_eq_getElem (by omega))).kind
    rwa [block_of_add] at this
set_option maxRecDepth 100000 in
/-- A key by value, opened. -/
theorem open_key {v : Value} {d : DataW H} {p : List MemPlace} (hval : Value.okWide Try.prog W .any base 29 v)
    (h : DataW.Trod enc Try.prog W 0 (fun _ => true) true 29 v d p) : ∃ f n : Int, ok64 f ∧ ok64 n ∧ v = .agg #[.int .i64 f, .int .i64 n] := by
  obtain ⟨cs, rfl, hsz⟩ := okWide_struct Try.underlying29 hval
  obtain ⟨fuel, hf⟩ := h
  obtain ⟨f, n, h1, h2, hcs⟩ := key_of_trod hf
  refine ⟨f, n, h1, h2, ?_⟩
  have hcs' : cs.toList = _ := hcs
  rw [← Array.toArray_toList (xs := cs), hcs']
end
end Go.Proofs.Ytlmdijijlbmddaa.pool

/-
  Words for OctetBack: the calls that were written, kept in a slice of the law's own.
-/
import Derived.Test.YtlonejpphmpnjaaReadL
namespace Go.Proofs.Ytlonejpphmpnjaa
open Go.RowKit

theorem infoOp : (Try.prog.info? 30).map (fun i => (i.zero, i.size, i.bytes)) = some (some (.agg #[.int .i64 0, .int .i64 0, .int .u64 0, .string ⟨#[]⟩]), 4, 40) := by kernel_rfl

/-- A call's cells. -/
def opc (o : Cal) : List Value := [.int .i64 o.kind, .int .i64 o.size, .int .u64 o.n, .string o.s]
theorem opc_len (K : List Cal) : (K.flatMap opc).length = K.length * 4 := by
  induction K with
  | nil => rfl
  | cons o K ih => rw [List.flatMap_cons, List.length_append, ih]; simp [opc]; omega
theorem opc_one (K : List Cal) : ∀ u ∈ K.flatMap opc, u.oneCell' = true := by
  intro u hu
  obtain ⟨o, _, ho⟩ := List.mem_flatMap.1 hu
  simp only [opc, List.mem_cons, List.not_mem_nil, or_false] at ho
  rcases ho with rfl | rfl | rfl | rfl <;> rfl
theorem opc_at (K : List Cal) : ∀ (i j : Nat) (o : Cal), K[i]? = some o → j < 4 → (K.flatMap opc)[i * 4 + j]? = (opc o)[j]? := by
  induction K with
  | nil => intro i j o h; simp at h
  | cons x K ih =>
    intro i j o h hj
    rw [List.flatMap_cons]
    cases i with
    | zero =>
      simp at h
      subst h
      rw [List.getElem?_append_left (by simp [opc]; omega)]
      congr 1
      omega
    | succ i =>
      rw [List.getElem?_append_right (by simp [opc]; omega)]
      rw [show (i + 1) * 4 + j - (opc x).length = i * 4 + j from by simp [opc]; omega]
      exact ih i j o (by simpa using h) hj

theorem cals_own {W : World} {base n c : Nat} {A : Option Addr} {K : List Cal} (h : W.ownsRow base 30 4 (.slice A n c) n (K.flatMap opc)) (hF : ∀ o ∈ K, o.Fine) : Cals W W.heap.size A n K := by
  have hl : K.length = n := by have := h.1; rw [opc_len] at this; omega
  refine ⟨hl, hF, fun h0 => ?_⟩
  rcases h.2 with ⟨_, e0⟩ | ⟨g, cap, cur, e, hb, hh, _⟩
  · omega
  · injection e with e
    subst e
    refine ⟨_, rfl, (Array.getElem?_eq_some_iff.1 hh).1, fun i o ho => ?_⟩
    have hc := fun j (hj : j < 4) (u : Value) (hu : (opc o)[j]? = some u) => h.cells (g := g) rfl (i * 4 + j) u (by rw [opc_at K i j o ho hj]; exact hu)
    exact ⟨hc 0 (by omega) _ rfl, hc 1 (by omega) _ rfl, hc 2 (by omega) _ rfl, hc 3 (by omega) _ rfl⟩

theorem reads_op {W : World} (o : Cal) : Reads (W.alloc (.cells #[.int .i64 o.kind, .int .i64 o.size, .int .u64 o.n, .string o.s] 30)) (W.heap.size + 1) 4 (some ⟨W.heap.size, 0, none⟩) 1 ([o].flatMap opc) := by
  refine ⟨rfl, fun _ => ⟨_, rfl, Nat.lt_succ_self _, fun j u hu => ?_⟩⟩
  have hp : (⟨W.heap.size, 0, none⟩ : Addr).add j = ⟨W.heap.size, j, none⟩ := by unfold Addr.add; split <;> simp_all
  rw [hp, (Blk.new W 30 #[.int .i64 o.kind, .int .i64 o.size, .int .u64 o.n, .string o.s]).cell j, ← hu]
  simp [opc]

/-- The Writer at b has written what the calls K write; kv holds K. -/
def Sk (N W : World) (b : Nat) (K : List Cal) (kv : Value) : Prop :=
  ∃ A c u, Wr W b A c u (K.flatMap outOf) ∧ (∀ k, foot b A u k → N.heap.size ≤ k) ∧ Below N.heap.size N W ∧
    W.ownsRow N.heap.size 30 4 kv K.length (K.flatMap opc) ∧ (∀ k, kv.ownBlock = some k → ¬ foot b A u k) ∧ ∃ Ak ck, kv = .slice Ak K.length ck

/-- A call is written, and not kept (it wrote nothing). -/
theorem Sk.wrote {N w w1 : World} {b : Nat} {K : List Cal} {kv : Value} {A u : Option Addr} {lw' : List UInt8} (s2 : ∀ k, foot b A u k → N.heap.size ≤ k) (s3 : Below N.heap.size N w)
    (s4 : w.ownsRow N.heap.size 30 4 kv K.length (K.flatMap opc)) (s5 : ∀ k, kv.ownBlock = some k → ¬ foot b A u k) (h : Wrote w w1 b A u lw') :
    ∃ A' c' u', Wr w1 b A' c' u' lw' ∧ (∀ k, foot b A' u' k → N.heap.size ≤ k) ∧ Below N.heap.size N w1 ∧ w1.ownsRow N.heap.size 30 4 kv K.length (K.flatMap opc) ∧ (∀ k, kv.ownBlock = some k → ¬ foot b A' u' k) := by
  obtain ⟨A', c', u', g1, g2, g3⟩ := h
  refine ⟨A', c', u', g1, fun k h => ?_, s3.trans (g3.below s3.size (fun i hi h => by have := s2 i h; omega)), g3.own s4 s5, fun k e h => ?_⟩
  · rcases g2 k h with h | h
    · exact s2 k h
    · have := s3.size; omega
  · rcases g2 k h with h | h
    · exact s5 k e h
    · have := (s4.lt k e).2; omega

/-- .. and kept. -/
theorem Sk.kept {N w1 w2 : World} {b : Nat} {K : List Cal} {kv v' : Value} {A u : Option Addr} {c : Nat} {o : Cal} {row : Option Nat} {X : Nat} (t1 : Wr w1 b A c u (K.flatMap outOf ++ outOf o)) (t2 : ∀ k, foot b A u k → N.heap.size ≤ k) (t3 : Below N.heap.size N w1)
    (t4 : w1.ownsRow N.heap.size 30 4 kv K.length (K.flatMap opc)) (t5 : ∀ k, kv.ownBlock = some k → ¬ foot b A u k)
    (hrow : row = kv.ownBlock) (hX : w1.heap.size ≤ X) (hown : w2.ownsRow N.heap.size 30 4 v' (K.length + 1) (K.flatMap opc ++ opc o))
    (hgrow : (w1.alloc (.cells #[.int .i64 o.kind, .int .i64 o.size, .int .u64 o.n, .string o.s] 30)).grownBy w2 row) (hat : v'.ownBlock = kv.ownBlock ∨ v'.ownBlock = some X) : Sk N w2 b (K ++ [o]) v' := by
  subst hrow
  have hk : Keep (fun k => kv.ownBlock = some k) w1 w2 := ((Keep.refl (fun k => kv.ownBlock = some k) w1).alloc _).grown hgrow (fun g e _ => e)
  have hfm : (K ++ [o]).flatMap outOf = K.flatMap outOf ++ outOf o := by rw [List.flatMap_append, List.flatMap_cons, List.flatMap_nil, List.append_nil]
  have hfo : (K ++ [o]).flatMap opc = K.flatMap opc ++ opc o := by rw [List.flatMap_append, List.flatMap_cons, List.flatMap_nil, List.append_nil]
  have hlen : (K ++ [o]).length = K.length + 1 := by simp
  have hform : ∃ Ak ck, v' = .slice Ak (K ++ [o]).length ck := by
    rcases hown.2 with ⟨_, h0⟩ | ⟨g, cap, cur, e, _⟩
    · omega
    · exact ⟨_, cap, by rw [hlen]; exact e⟩
  refine ⟨A, c, u, by rw [hfm]; exact t1.keep hk (fun k h e => t5 k e h), t2, t3.trans (hk.below t3.size (fun i hi e => by have := (t4.lt i e).1; omega)), by rw [hlen, hfo]; exact hown, fun k e h => ?_, hform⟩
  rcases hat with h' | h'
  · rw [h'] at e; exact t5 k e h
  · rw [h'] at e
    injection e with e
    have := t1.foot_lt k h
    omega

end Go.Proofs.Ytlonejpphmpnjaa

/-
  Layer 16 (fold): each element of an inner product of two arrays of two axes is that of a row and a column alone.
-/
import Derived.Test.YtkabdkblcgklmaaFoIn2
namespace Go.Proofs.Ytkabdkblcgklmaa.foldTimes
open Go.RowKit Go.Proofs.Ytkabdkblcgklmaa.arr Go.Proofs.Ytkabdkblcgklmaa.sc Go.Proofs.Ytkabdkblcgklmaa.fo

def rowA (a : AV) (L i : Nat) : AV := ⟨a.kind, [(L : Int)], (a.el.drop (i * L)).take L⟩
def colB (b : AV) (L M k : Nat) : AV := ⟨b.kind, [(L : Int)], apL (fun j => b.el.getD (j * M + k) 0) L⟩
theorem kind_sub {k : Int} {l m : List Int} (h : arr.kindOk k l = true) (hs : ∀ x ∈ m, x ∈ l) : arr.kindOk k m = true := by
  unfold arr.kindOk at h ⊢
  rw [Bool.or_eq_true, Bool.and_eq_true] at h ⊢
  rcases h with h | ⟨h1, h2⟩
  · exact .inl h
  · exact .inr ⟨h1, List.all_eq_true.2 (fun x hx => List.all_eq_true.1 h2 x (hs x hx))⟩
/-- What a good inner product of arrays of two axes has. -/
structure TwoOk (f g : Int) (a b : AV) (R L M : Nat) : Prop where
  bf : binB f = true
  bg : binB g = true
  sa : a.sh = [(R : Int), (L : Int)]
  sb : b.sh = [(L : Int), (M : Int)]
  ea : a.el.length = R * L
  eb : b.el.length = L * M
  ka : arr.kindOk a.kind a.el = true
  kb : arr.kindOk b.kind b.el = true
  kk : kindsE g a.kind b.kind = 0
  l4 : L ≤ 4096
  r4 : R ≤ 4096
  m4 : M ≤ 4096
  rm : R * M ≤ 4096
  ez : apE (inGE f g a.kind b.kind a.el b.el L M) (R * M) = 0
  x : inMA f g a b = ⟨1, [(R : Int), (M : Int)], apL (inGV f g a.kind b.kind a.el b.el L M) (R * M)⟩
theorem two_len {l : List Int} (h : l.length = 2) : ∃ x y, l = [x, y] := by
  rcases l with _ | ⟨x, _ | ⟨y, _ | ⟨z, t⟩⟩⟩
  · cases h
  · cases h
  · exact ⟨x, y, rfl⟩
  · simp at h
theorem two_ok {f g : Int} {a b : AV} (h2a : a.sh.length = 2) (h2b : b.sh.length = 2) (h : inME f g a b = 0) : ∃ R L M, TwoOk f g a b R L M := by
  have h0 : inE0 f g a b = 0 := by
    unfold inME at h
    by_cases e : inE0 f g a b = 0
    · exact e
    · rw [if_pos e] at h
      exact h
  have hE := h
  unfold inME at hE
  rw [if_neg (by rw [h0]; decide)] at hE
  obtain ⟨ha, hb, hL, hk, hs⟩ := in_ok h0
  obtain ⟨PA, M, L, hPA, hM, hLL, hal, hbl, hN, hL4⟩ := in_N ha hb (by omega) (by omega) hL
  obtain ⟨x1, y1, e1⟩ := two_len h2a
  obtain ⟨x2, y2, e2⟩ := two_len h2b
  have q1 : longI a.sh = y1 := by rw [e1]; rfl
  have q2 : b.sh.getD 0 0 = x2 := by rw [e2]; rfl
  have q3 : prodI (othL a.sh) = x1 := by rw [e1]; show x1 * 1 = x1; omega
  have q4 : prodI (b.sh.drop 1) = y2 := by rw [e2]; show y2 * 1 = y2; omega
  have r1 : x1 = (PA : Int) := q3.symm.trans hPA
  have r2 : y1 = (L : Int) := q1.symm.trans hLL
  have r3 : x2 = (L : Int) := (q2.symm.trans hL).trans hLL
  have r4 : y2 = (M : Int) := q4.symm.trans hM
  subst r1 r2 r3 r4
  have hLn : longN a.sh = L := by unfold longN; rw [hLL, Int.toNat_natCast]
  have hMn : (prodI (b.sh.drop 1)).toNat = M := by rw [hM, Int.toNat_natCast]
  have hsh : othL a.sh ++ b.sh.drop 1 = [(PA : Int), (M : Int)] := by rw [e1, e2]; rfl
  rw [hLn, hMn, hN] at hE
  have hx : inMA f g a b = ⟨1, [(PA : Int), (M : Int)], apL (inGV f g a.kind b.kind a.el b.el L M) (PA * M)⟩ := by
    unfold inMA
    rw [if_pos h, hLn, hMn, hN, hsh]
  have hfg : binB f = true ∧ binB g = true := by
    unfold inE0 at h0
    cases hf : binB f <;> cases hg : binB g
    · rw [hf, hg] at h0; cases h0
    · rw [hf, hg] at h0; cases h0
    · rw [hf, hg] at h0; cases h0
    · exact ⟨rfl, rfl⟩
  have t1 := lenOk_iff.1 (List.all_eq_true.1 (okShape_iff.1 (okA_iff.1 ha).1).2.1 (PA : Int) (by rw [e1]; simp))
  have t2 := lenOk_iff.1 (List.all_eq_true.1 (okShape_iff.1 (okA_iff.1 hb).1).2.1 (M : Int) (by rw [e2]; simp))
  refine ⟨PA, L, M, hfg.1, hfg.2, e1, e2, hal, hbl, (okA_iff.1 ha).2.2, (okA_iff.1 hb).2.2, hk, hL4, by omega, by omega, ?_, hE, hx⟩
  have := (okShape_iff.1 hs).2.2
  rw [← hN]
  unfold mdN
  omega
theorem row_ok {f g : Int} {a b : AV} {R L M i : Nat} (h : TwoOk f g a b R L M) (hi : i < R) : okA (rowA a L i) = true ∧ (rowA a L i).el.length = L ∧ ∀ j, j < L → (rowA a L i).el.getD j 0 = a.el.getD (i * L + j) 0 := by
  have hl := h.l4
  have hle : i * L + L ≤ R * L := by
    have := Nat.mul_le_mul_right L hi
    rw [Nat.succ_mul] at this
    exact this
  have hlen : ((a.el.drop (i * L)).take L).length = L := by
    rw [List.length_take, List.length_drop, h.ea]
    omega
  refine ⟨okA_iff.2 ⟨one_shape hl, ?_, kind_sub h.ka (fun x hx => List.mem_of_mem_drop (List.mem_of_mem_take hx))⟩, hlen, fun j hj => ?_⟩
  · show (((a.el.drop (i * L)).take L).length : Int) = (L : Int) * 1
    rw [hlen]
    omega
  · show ((a.el.drop (i * L)).take L).getD j 0 = _
    rw [List.getD_eq_getElem?_getD, List.getElem?_take_of_lt hj, List.getElem?_drop, List.getD_eq_getElem?_getD]
theorem col_ok {f g : Int} {a b : AV} {R L M k : Nat} (h : TwoOk f g a b R L M) (hk : k < M) : okA (colB b L M k) = true ∧ (colB b L M k).el.length = L ∧ ∀ j, j < L → (colB b L M k).el.getD j 0 = b.el.getD (j * M + k) 0 := by
  have hl := h.l4
  refine ⟨okA_iff.2 ⟨one_shape hl, ?_, kind_sub h.kb (fun x hx => ?_)⟩, apL_length _ _, fun j hj => ?_⟩
  · show ((apL _ L).length : Int) = (L : Int) * 1
    rw [apL_length]
    omega
  · have hx2 : x ∈ apL (fun j => b.el.getD (j * M + k) 0) L := hx
    unfold apL at hx2
    obtain ⟨j, hj, rfl⟩ := List.mem_map.1 hx2
    have hj2 : j < L := List.mem_range.1 hj
    have hb : j * M + k < b.el.length := by
      have := Nat.mul_le_mul_right M hj2
      rw [Nat.succ_mul] at this
      rw [h.eb]
      omega
    show b.el.getD (j * M + k) 0 ∈ b.el
    rw [List.getD_eq_getElem?_getD, List.getElem?_eq_getElem hb]
    exact List.getElem_mem hb
  · show (apL _ L).getD j 0 = _
    rw [List.getD_eq_getElem?_getD, apL_at hj]
    rfl
/-- THE STATEMENT'S MATHEMATICS. -/
theorem times_is {f g : Int} {a b : AV} {R L M i k : Nat} (h : TwoOk f g a b R L M) (hi : i < R) (hk : k < M) : inME f g (rowA a L i) (colB b L M k) = 0 ∧ inMA f g (rowA a L i) (colB b L M k) = ⟨1, [], [inGV f g a.kind b.kind a.el b.el L M (i * M + k)]⟩ := by
  obtain ⟨o1, l1, c1⟩ := row_ok h hi
  obtain ⟨o2, l2, c2⟩ := col_ok h hk
  have hM : 0 < M := by omega
  have hn : i * M + k < R * M := by
    have := Nat.mul_le_mul_right M hi
    rw [Nat.succ_mul] at this
    omega
  have hd : (i * M + k) / M = i := by rw [Nat.mul_comm, Nat.mul_add_div hM, Nat.div_eq_of_lt hk, Nat.add_zero]
  have hr : (i * M + k) % M = k := by rw [Nat.mul_comm, Nat.mul_add_mod, Nat.mod_eq_of_lt hk]
  have e0 : inE0 f g (rowA a L i) (colB b L M k) = 0 := by
    unfold inE0
    rw [h.bf, h.bg, o1, o2, if_neg (by decide), if_neg (by decide), if_neg (by show ¬ ((L : Int) ≠ (L : Int)); exact fun e => e rfl), if_neg (by show ¬ kindsE g a.kind b.kind ≠ 0; rw [h.kk]; decide)]
    rfl
  have x1 : ∀ j, j < L → inXE g a.kind b.kind (rowA a L i).el (colB b L M k).el L 1 0 j = inXE g a.kind b.kind a.el b.el L M (i * M + k) j := fun j hj => by
    unfold inXE
    rw [hd, hr, Nat.zero_div, Nat.zero_mul, Nat.zero_add, Nat.mul_one, Nat.zero_mod, Nat.add_zero, c1 j hj, c2 j hj]
  have x2 : ∀ j, j < L → inXV g a.kind b.kind (rowA a L i).el (colB b L M k).el L 1 0 j = inXV g a.kind b.kind a.el b.el L M (i * M + k) j := fun j hj => by
    unfold inXV
    rw [hd, hr, Nat.zero_div, Nat.zero_mul, Nat.zero_add, Nat.mul_one, Nat.zero_mod, Nat.add_zero, c1 j hj, c2 j hj]
  have g1 : inGE f g a.kind b.kind (rowA a L i).el (colB b L M k).el L 1 0 = inGE f g a.kind b.kind a.el b.el L M (i * M + k) := by
    unfold inGE
    rw [apE_congr x1, apL_congr x2]
  have g2 : inGV f g a.kind b.kind (rowA a L i).el (colB b L M k).el L 1 0 = inGV f g a.kind b.kind a.el b.el L M (i * M + k) := by
    unfold inGV
    rw [apE_congr x1, apL_congr x2]
  have hz : inGE f g a.kind b.kind a.el b.el L M (i * M + k) = 0 := apE_all h.ez _ hn
  have hl1 : longN (rowA a L i).sh = L := rfl
  have hl2 : (prodI ((colB b L M k).sh.drop 1)).toNat = 1 := rfl
  have hN : mdN (othL (rowA a L i).sh ++ (colB b L M k).sh.drop 1) = 1 := rfl
  have he : inME f g (rowA a L i) (colB b L M k) = 0 := by
    unfold inME
    rw [if_neg (by rw [e0]; decide), hl1, hl2, hN]
    show (if (0 : Int) = 0 then inGE f g a.kind b.kind _ _ L 1 0 else 0) = 0
    rw [if_pos rfl, g1, hz]
  refine ⟨he, ?_⟩
  unfold inMA
  rw [if_pos he, hl1, hl2, hN]
  show (⟨1, [], [inGV f g a.kind b.kind (rowA a L i).el (colB b L M k).el L 1 0]⟩ : AV) = _
  rw [g2]
end Go.Proofs.Ytkabdkblcgklmaa.foldTimes

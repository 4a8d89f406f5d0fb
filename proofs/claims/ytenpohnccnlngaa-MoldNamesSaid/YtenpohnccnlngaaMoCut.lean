/-
  Layer 13 (mold): what the region of cutWay's round turns: two rows that grow.
  Layer 13 (mold): cutWay.
-/
import Derived.Test.YtenpohnccnlngaaMoSrc
import Derived.Test.YtenpohnccnlngaaDoneIn
namespace Go.Proofs.Ytenpohnccnlngaa.mo
open Go.RowKit Go.Proofs.Ytenpohnccnlngaa.arr

theorem moInfoSpan : (Try.prog.info? 125).map (fun i => (i.zero, i.size, i.bytes)) = some (some (.agg #[.int .i64 0, .int .i64 0, .int .i64 0]), 3, 24) := by kernel_rfl
theorem own_typ {w : World} {base size n : Nat} {e : TypeId} {v : Value} {xs : List Value} (h : w.ownsRow base e size v n xs) : ∀ g, v.ownBlock = some g → ∃ cs, Blk w g e cs := by
  intro g hg
  rcases h.2 with ⟨rfl, _⟩ | ⟨g', cap, cur, rfl, _, hh, _⟩
  · simp [Value.ownBlock] at hg
  · have : g' = g := by simpa [Value.ownBlock] using hg
    subst this
    exact ⟨cur, hh⟩
theorem blk_gr {W W' : World} {g : Nat} {e t : TypeId} {cs : Array Value} {row : Option Nat} (h : Blk W g e cs) (hg : W.grownBy W' row) (ht : ∀ r, row = some r → ∃ cs, Blk W r t cs) (hne : e ≠ t) : Blk W' g e cs :=
  h.grown hg (fun e1 => by
    obtain ⟨cs2, h2⟩ := ht g e1.symm
    exact Blk.ne_ h h2 hne rfl)
theorem own_gr {W W' : World} {base size n : Nat} {e t : TypeId} {v : Value} {xs : List Value} {row : Option Nat} (h : W.ownsRow base e size v n xs) (hg : W.grownBy W' row) (ht : ∀ r, row = some r → ∃ cs, Blk W r t cs) (hne : e ≠ t) : W'.ownsRow base e size v n xs := by
  refine ⟨h.1, ?_⟩
  rcases h.2 with ⟨rfl, h0⟩ | ⟨g, cap, cur, rfl, hb, hh, hrest⟩
  · exact .inl ⟨rfl, h0⟩
  · exact .inr ⟨g, cap, cur, rfl, hb, blk_gr (show Blk W g e cur from hh) hg ht hne, hrest⟩
theorem kf_gr {B : Nat} {W0 W W' : World} {t : TypeId} {row : Option Nat} (h : KeepsFrom B W0 W) (hg : W.grownBy W' row) (ht : ∀ r, row = some r → ∃ cs, Blk W r t cs) : KeepsFrom B W0 W' :=
  mo_keeps_on h ⟨hg.size, fun i o _ hi ho => by
    refine (hg.block i (Array.getElem?_eq_some_iff.1 hi).1 (fun e => ?_)).trans hi
    obtain ⟨cs, hb⟩ := ht i e.symm
    unfold Blk at hb
    rw [hb] at hi
    injection hi with hi
    subst hi
    cases ho⟩

structure CtS (b3 zs zl rb : Nat) (W0 : World) (k : Nat) (vs vl : Value) (xs ys x3 : List Value) (yv : Value) (dn : Nat → Bool) (W : World) : Prop where
  kf : KeepsFrom b3 W0 W
  kp : Keep (fun i => i = zs ∨ i = zl ∨ b3 ≤ i) W0 W
  sz : b3 ≤ W.heap.size
  rbk : Blk W rb 125 x3.toArray
  ne : ∀ g, vs.ownBlock = some g → g ≠ rb
  s1 : dn 3 = false → W.ownsRow b3 125 3 vs k xs
  l1 : dn 8 = false → W.ownsRow b3 3 1 vl k ys
  bs : dn 9 = false → Blk W zs 120 #[vs]
  bl : dn 10 = false → Blk W zl 22 #[vl]
  d8 : dn 8 = true → dn 3 = true
  e9 : dn 9 = true → dn 8 = true ∧ ∃ A c, Blk W zs 120 #[.slice A (k + 1) c] ∧ W.ownsRow b3 125 3 (.slice A (k + 1) c) (k + 1) (xs ++ x3)
  e10 : dn 10 = true → dn 8 = true ∧ ∃ A c, Blk W zl 22 #[.slice A (k + 1) c] ∧ W.ownsRow b3 3 1 (.slice A (k + 1) c) (k + 1) (ys ++ [yv])
def ctR (b3 : Nat) (k : Nat) (xs ys x3 : List Value) (yv : Value) (vals : List Value) (dn : Nat → Bool) (i : Nat) (v : Value) (W : World) : Prop :=
  match i with
  | 2 => ∃ g, v = .slice (some ⟨g, 0, none⟩) 1 1 ∧ (dn 3 = false → Blk W g 125 x3.toArray)
  | 7 => ∃ g, v = .slice (some ⟨g, 0, none⟩) 1 1 ∧ (dn 8 = false → Blk W g 3 #[yv])
  | 3 => dn 3 = true ∧ ∃ A c, v = .slice A (k + 1) c ∧ W.ownsRow b3 125 3 (.slice A (k + 1) c) (k + 1) (xs ++ x3)
  | 8 => dn 8 = true ∧ ∃ A c, v = .slice A (k + 1) c ∧ W.ownsRow b3 3 1 (.slice A (k + 1) c) (k + 1) (ys ++ [yv])
  | i => v = vals.getD i undef

section
variable {b3 zs zl rb k : Nat} {W0 : World} {vs vl : Value} {xs ys x3 : List Value} {yv : Value} {vals : List Value} {dn : Nat → Bool} {i : Nat}
theorem ctR_other {j : Nat} {u : Value} {w w' : World} {dn' : Nat → Bool} (h2 : j ≠ 2) (h7 : j ≠ 7) (h3 : j ≠ 3) (h8 : j ≠ 8) (h : ctR b3 k xs ys x3 yv vals dn j u w) : ctR b3 k xs ys x3 yv vals dn' j u w' := by
  have e : ∀ dn w, ctR b3 k xs ys x3 yv vals dn j u w = (u = vals.getD j undef) := fun dn w => by
    unfold ctR
    split <;> first | rfl | contradiction
  rw [e] at h ⊢
  exact h
theorem ctR_step {j : Nat} {u : Value} {w w' : World} (hb2 : ∀ g, dn 3 = false → upd dn i 3 = false → Blk w g 125 x3.toArray → Blk w' g 125 x3.toArray) (hb7 : ∀ g, dn 8 = false → upd dn i 8 = false → Blk w g 3 #[yv] → Blk w' g 3 #[yv])
    (h3 : dn 3 = true → ∀ v n xs, w.ownsRow b3 125 3 v n xs → w'.ownsRow b3 125 3 v n xs) (h8 : dn 8 = true → ∀ v n xs, w.ownsRow b3 3 1 v n xs → w'.ownsRow b3 3 1 v n xs)
    (h : ctR b3 k xs ys x3 yv vals dn j u w) : ctR b3 k xs ys x3 yv vals (upd dn i) j u w' := by
  by_cases h2' : j = 2
  · subst h2'; obtain ⟨g, rfl, h⟩ := h; exact ⟨g, rfl, fun e => hb2 g (upd_false e) e (h (upd_false e))⟩
  by_cases h7' : j = 7
  · subst h7'; obtain ⟨g, rfl, h⟩ := h; exact ⟨g, rfl, fun e => hb7 g (upd_false e) e (h (upd_false e))⟩
  by_cases h3' : j = 3
  · subst h3'; obtain ⟨hd, A, c, rfl, h⟩ := h; exact ⟨upd_on hd, A, c, rfl, h3 hd _ _ _ h⟩
  by_cases h8' : j = 8
  · subst h8'; obtain ⟨hd, A, c, rfl, h⟩ := h; exact ⟨upd_on hd, A, c, rfl, h8 hd _ _ _ h⟩
  exact ctR_other h2' h7' h3' h8' h
theorem ctR_mono (j : Nat) (u : Value) (w : World) (h : ctR b3 k xs ys x3 yv vals dn j u w) : ctR b3 k xs ys x3 yv vals (upd dn i) j u w :=
  ctR_step (fun _ _ _ h => h) (fun _ _ _ h => h) (fun _ _ _ _ h => h) (fun _ _ _ _ h => h) h
theorem upd_off {dn : Nat → Bool} {i j : Nat} (h : i ≠ j) : upd dn i j = dn j := by
  cases h1 : dn j with
  | true => exact upd_on h1
  | false =>
    cases h2 : upd dn i j with
    | false => rfl
    | true => rw [upd_ne h2 (fun e => h e.symm)] at h1; cases h1
/-- An operation that is none of 3, 8, 9, 10. -/
theorem CtS.up (h3 : i ≠ 3) (h8 : i ≠ 8) (h9 : i ≠ 9) (h10 : i ≠ 10) {W : World} (h : CtS b3 zs zl rb W0 k vs vl xs ys x3 yv dn W) : CtS b3 zs zl rb W0 k vs vl xs ys x3 yv (upd dn i) W := by
  have e3 := upd_off (dn := dn) h3
  have e8 := upd_off (dn := dn) h8
  have e9 := upd_off (dn := dn) h9
  have e10 := upd_off (dn := dn) h10
  exact ⟨h.kf, h.kp, h.sz, h.rbk, h.ne, fun e => h.s1 (e3 ▸ e), fun e => h.l1 (e8 ▸ e), fun e => h.bs (e9 ▸ e), fun e => h.bl (e10 ▸ e), fun e => e3 ▸ h.d8 (e8 ▸ e), fun e => e8 ▸ h.e9 (e9 ▸ e), fun e => e8 ▸ h.e10 (e10 ▸ e)⟩
theorem CtS.below {W W' : World} (h : CtS b3 zs zl rb W0 k vs vl xs ys x3 yv dn W) (hb : Below W.heap.size W W') : CtS b3 zs zl rb W0 k vs vl xs ys x3 yv dn W' := by
  have ow : ∀ {base e size n v xs}, W.ownsRow base e size v n xs → W'.ownsRow base e size v n xs := fun ho => arown_stay ho hb (fun g hg => (arown_lt ho g hg).2)
  have bl : ∀ {g t cs}, Blk W g t cs → Blk W' g t cs := fun h => h.below hb h.lt
  refine ⟨mo_keeps_on h.kf (mo_keeps_below _ hb), h.kp.trans (Keep.of_below (S := fun _ => False) hb) (fun _ _ e => e.elim), Nat.le_trans h.sz hb.size, bl h.rbk, h.ne, fun e => ow (h.s1 e), fun e => ow (h.l1 e), fun e => bl (h.bs e), fun e => bl (h.bl e), h.d8, fun e => ?_, fun e => ?_⟩
  · obtain ⟨h1, A, c, h2, h3⟩ := h.e9 e
    exact ⟨h1, A, c, bl h2, ow h3⟩
  · obtain ⟨h1, A, c, h2, h3⟩ := h.e10 e
    exact ⟨h1, A, c, bl h2, ow h3⟩
/-- The spans' row has grown. -/
theorem CtS.app3 {W W' : World} (hzs : zs < b3) (hzl : zl < b3) (h : CtS b3 zs zl rb W0 k vs vl xs ys x3 yv dn W) (hd : dn 3 = false) (hg : W.grownBy W' vs.ownBlock) : CtS b3 zs zl rb W0 k vs vl xs ys x3 yv (upd dn 3) W' := by
  have d8 : dn 8 = false := by
    cases h8 : dn 8 with
    | false => rfl
    | true => rw [h.d8 h8] at hd; cases hd
  have d9 : dn 9 = false := by
    cases h9 : dn 9 with
    | false => rfl
    | true => rw [(h.e9 h9).1] at d8; cases d8
  have d10 : dn 10 = false := by
    cases h10 : dn 10 with
    | false => rfl
    | true => rw [(h.e10 h10).1] at d8; cases d8
  have ho := h.s1 hd
  have ht := own_typ ho
  have hlt := fun g hg => (arown_lt ho g hg)
  have e8 := upd_off (dn := dn) (i := 3) (j := 8) (by decide)
  have e9 := upd_off (dn := dn) (i := 3) (j := 9) (by decide)
  have e10 := upd_off (dn := dn) (i := 3) (j := 10) (by decide)
  refine ⟨kf_gr h.kf hg ht, h.kp.grown hg (fun g e _ => .inr (.inr (hlt g e).1)), Nat.le_trans h.sz hg.size, h.rbk.grown hg (fun e => h.ne rb e.symm rfl), h.ne, fun e => ?_, fun e => own_gr (h.l1 d8) hg ht (by decide), fun e => (h.bs d9).grown hg (fun e2 => by have := (hlt zs e2.symm).1; omega), fun e => (h.bl d10).grown hg (fun e2 => by have := (hlt zl e2.symm).1; omega), fun _ => upd_self _ _, fun e => ?_, fun e => ?_⟩
  · rw [upd_self] at e; cases e
  · rw [e9, d9] at e; cases e
  · rw [e10, d10] at e; cases e
/-- The lengths' row has grown. -/
theorem CtS.app8 {W W' : World} (hzs : zs < b3) (hzl : zl < b3) (h : CtS b3 zs zl rb W0 k vs vl xs ys x3 yv dn W) (hd : dn 8 = false) (h3 : dn 3 = true) (hg : W.grownBy W' vl.ownBlock) : CtS b3 zs zl rb W0 k vs vl xs ys x3 yv (upd dn 8) W' := by
  have d9 : dn 9 = false := by
    cases h9 : dn 9 with
    | false => rfl
    | true => rw [(h.e9 h9).1] at hd; cases hd
  have d10 : dn 10 = false := by
    cases h10 : dn 10 with
    | false => rfl
    | true => rw [(h.e10 h10).1] at hd; cases hd
  have ho := h.l1 hd
  have ht := own_typ ho
  have hlt := fun g hg => (arown_lt ho g hg)
  have e3 := upd_off (dn := dn) (i := 8) (j := 3) (by decide)
  have e9 := upd_off (dn := dn) (i := 8) (j := 9) (by decide)
  have e10 := upd_off (dn := dn) (i := 8) (j := 10) (by decide)
  refine ⟨kf_gr h.kf hg ht, h.kp.grown hg (fun g e _ => .inr (.inr (hlt g e).1)), Nat.le_trans h.sz hg.size, blk_gr h.rbk hg ht (by decide), h.ne, fun e => ?_, fun e => ?_, fun e => (h.bs d9).grown hg (fun e2 => by have := (hlt zs e2.symm).1; omega), fun e => (h.bl d10).grown hg (fun e2 => by have := (hlt zl e2.symm).1; omega), fun _ => e3 ▸ h3, fun e => ?_, fun e => ?_⟩
  · rw [e3, h3] at e; cases e
  · rw [upd_self] at e; cases e
  · rw [e9, d9] at e; cases e
  · rw [e10, d10] at e; cases e
theorem CtS.put9 {W : World} {A : Option Addr} {c : Nat} (hzs : zs < b3) (hzz : zs ≠ zl) (hzr : b3 ≤ rb) (h : CtS b3 zs zl rb W0 k vs vl xs ys x3 yv dn W) (hd : dn 9 = false) (h8 : dn 8 = true) (ho : W.ownsRow b3 125 3 (.slice A (k + 1) c) (k + 1) (xs ++ x3)) :
    CtS b3 zs zl rb W0 k vs vl xs ys x3 yv (upd dn 9) (W.setCell ⟨zs, 0, none⟩ (.slice A (k + 1) c)) := by
  have h3 := h.d8 h8
  have e3 := upd_off (dn := dn) (i := 9) (j := 3) (by decide)
  have e8 := upd_off (dn := dn) (i := 9) (j := 8) (by decide)
  have e10 := upd_off (dn := dn) (i := 9) (j := 10) (by decide)
  have hk : Keep (fun i => i = zs) W (W.setCell ⟨zs, 0, none⟩ (.slice A (k + 1) c)) := (Keep.refl _ _).setCell _ _ (fun _ => rfl)
  refine ⟨mo_keeps_on h.kf (mo_keeps_set hzs _), h.kp.trans hk (fun _ _ e => .inl e), Nat.le_trans h.sz hk.size, hk.blk h.rbk (by omega), h.ne, fun e => ?_, fun e => ?_, fun e => ?_, fun e => hk.blk (h.bl (e10 ▸ e)) (by omega), fun _ => e3 ▸ h3, fun _ => ⟨e8 ▸ h8, A, c, (h.bs hd).set_ 0 _, hk.own ho (fun g e e2 => by have := (arown_lt ho g e).1; omega)⟩, fun e => ?_⟩
  · rw [e3, h3] at e; cases e
  · rw [e8, h8] at e; cases e
  · rw [upd_self] at e; cases e
  · obtain ⟨_, A1, c1, hb1, ho1⟩ := h.e10 (e10 ▸ e)
    exact ⟨e8 ▸ h8, A1, c1, hk.blk hb1 (by omega), hk.own ho1 (fun g e e2 => by have := (arown_lt ho1 g e).1; omega)⟩
theorem CtS.put10 {W : World} {A : Option Addr} {c : Nat} (hzl : zl < b3) (hzz : zs ≠ zl) (hzr : b3 ≤ rb) (h : CtS b3 zs zl rb W0 k vs vl xs ys x3 yv dn W) (hd : dn 10 = false) (h8 : dn 8 = true) (ho : W.ownsRow b3 3 1 (.slice A (k + 1) c) (k + 1) (ys ++ [yv])) :
    CtS b3 zs zl rb W0 k vs vl xs ys x3 yv (upd dn 10) (W.setCell ⟨zl, 0, none⟩ (.slice A (k + 1) c)) := by
  have h3 := h.d8 h8
  have e3 := upd_off (dn := dn) (i := 10) (j := 3) (by decide)
  have e8 := upd_off (dn := dn) (i := 10) (j := 8) (by decide)
  have e9 := upd_off (dn := dn) (i := 10) (j := 9) (by decide)
  have hk : Keep (fun i => i = zl) W (W.setCell ⟨zl, 0, none⟩ (.slice A (k + 1) c)) := (Keep.refl _ _).setCell _ _ (fun _ => rfl)
  refine ⟨mo_keeps_on h.kf (mo_keeps_set hzl _), h.kp.trans hk (fun _ _ e => .inr (.inl e)), Nat.le_trans h.sz hk.size, hk.blk h.rbk (by omega), h.ne, fun e => ?_, fun e => ?_, fun e => hk.blk (h.bs (e9 ▸ e)) (by omega), fun e => ?_, fun _ => e3 ▸ h3, fun e => ?_, fun _ => ⟨e8 ▸ h8, A, c, (h.bl hd).set_ 0 _, hk.own ho (fun g e e2 => by have := (arown_lt ho g e).1; omega)⟩⟩
  · rw [e3, h3] at e; cases e
  · rw [e8, h8] at e; cases e
  · rw [upd_self] at e; cases e
  · obtain ⟨_, A1, c1, hb1, ho1⟩ := h.e9 (e9 ▸ e)
    exact ⟨e8 ▸ h8, A1, c1, hk.blk hb1 (by omega), hk.own ho1 (fun g e e2 => by have := (arown_lt ho1 g e).1; omega)⟩
/-- A row of three cells, and of one, in a block of their own. -/
theorem reads3 {w : World} {g : Nat} {x3 : List Value} (h : Blk w g 125 x3.toArray) (h3 : x3.length = 3) : Reads w w.heap.size 3 (some ⟨g, 0, none⟩) 1 x3 :=
  ⟨by rw [h3], fun _ => ⟨_, rfl, h.lt, fun j u hu => by
    rw [Addr.add_mid, Nat.zero_add, h.cell j, List.getElem?_toArray]
    exact hu⟩⟩
theorem reads1 {w : World} {g : Nat} {t : TypeId} {x : Value} (h : Blk w g t #[x]) : Reads w w.heap.size 1 (some ⟨g, 0, none⟩) 1 [x] :=
  ⟨rfl, fun _ => ⟨_, rfl, h.lt, fun j u hu => by
    rw [Addr.add_mid, Nat.zero_add, h.cell j]
    rcases j with _ | j
    · simpa using hu
    · simp at hu⟩⟩
end

section
variable {P : Program} {ops : Array Oper} {Q : Exit → Act → World → Prop} {md : Region.Mode} {a0 : Act} {o : Oper} {b3 zs zl rb k i : Nat} {W0 : World} {vs vl : Value} {xs ys x3 : List Value} {yv : Value} {vals : List Value}
theorem CtS.nine8 {dn : Nat → Bool} {W : World} (h : CtS b3 zs zl rb W0 k vs vl xs ys x3 yv dn W) (d8 : dn 8 = false) : dn 9 = false ∧ dn 10 = false := by
  constructor
  · cases h9 : dn 9 with
    | false => rfl
    | true => rw [(h.e9 h9).1] at d8; cases d8
  · cases h9 : dn 10 with
    | false => rfl
    | true => rw [(h.e10 h9).1] at d8; cases d8
theorem CtS.nine {dn : Nat → Bool} {W : World} (h : CtS b3 zs zl rb W0 k vs vl xs ys x3 yv dn W) (h3 : dn 3 = false) : dn 8 = false ∧ dn 9 = false ∧ dn 10 = false := by
  have d8 : dn 8 = false := by
    cases h8 : dn 8 with
    | false => rfl
    | true => rw [h.d8 h8] at h3; cases h3
  exact ⟨d8, h.nine8 d8⟩
theorem ct_value (h3 : i ≠ 3) (h8 : i ≠ 8) (h9 : i ≠ 9) (h10 : i ≠ 10) (h2 : i ≠ 2) (h7 : i ≠ 7) (hi : ops[i]? = some o) (v : Value) (hv : vals.getD i undef = v)
    (h : ∀ (dn : Nat → Bool) (a : Act) (w : World), CtS b3 zs zl rb W0 k vs vl xs ys x3 yv dn w → (∀ j, behind md ops j i = true → dn j = false) → (∀ t, free md ops i t = true → a.tmps[t]? = a0.tmps[t]?) → (∀ j d, behind md ops i j = true → dstOf ops j = some d → ∃ v, a.tmps[d]? = some v ∧ ctR b3 k xs ys x3 yv vals dn j v w) →
      Region.wanted o (yielded ops a.tmps) = true ∧ (execOp a.eval o).run P w = .ok (.value v) w) : DoneStep P md ops Q (CtS b3 zs zl rb W0 k vs vl xs ys x3 yv) (ctR b3 k xs ys x3 yv vals) a0 i :=
  done_make hi (fun dn a w hS hd hx ho hn => by
    obtain ⟨e1, e2⟩ := h dn a w hS hx ho hn
    refine ⟨e1, v, w, e2, hS.up h3 h8 h9 h10, ?_, fun j u _ _ hR => ctR_mono j u w hR⟩
    have e : ctR b3 k xs ys x3 yv vals (upd dn i) i v w = (v = vals.getD i undef) := by
      unfold ctR
      split <;> first | rfl | contradiction
    rw [e]
    exact hv.symm)
end
end Go.Proofs.Ytenpohnccnlngaa.mo

namespace Go.Proofs.Ytenpohnccnlngaa.mo
open Go.RowKit Go.Proofs.Ytenpohnccnlngaa.arr

theorem mo_own_slice {w : World} {base e size n : Nat} {v : Value} {xs : List Value} (h : w.ownsRow base e size v n xs) : ∃ A c, v = .slice A n c := by
  rcases h.2 with ⟨rfl, h0⟩ | ⟨g, cap, cur, e, _⟩
  · exact ⟨none, 0, by rw [h0]⟩
  · exact ⟨_, cap, e⟩
theorem CtS.start {b3 zs k c1 c3 : Nat} {w9 w10 : World} {A1 A3 : Option Addr} {xs ys x3 : List Value} {yv : Value} (hw : w9.alloc (.cells x3.toArray 125) = w10) (hs : b3 ≤ w9.heap.size) (hb1 : Blk w9 zs 120 #[.slice A1 k c1]) (hb3 : Blk w9 (zs + 1) 22 #[.slice A3 k c3]) (ho1 : w9.ownsRow b3 125 3 (.slice A1 k c1) k xs) (ho3 : w9.ownsRow b3 3 1 (.slice A3 k c3) k ys) (_hz : zs < b3) :
    CtS b3 zs (zs + 1) w9.heap.size w10 k (.slice A1 k c1) (.slice A3 k c3) xs ys x3 yv (fun _ => false) w10.drew := by
  have hb := albel w9 (.cells x3.toArray 125)
  rw [hw] at hb
  have hx : Blk w10 w9.heap.size 125 x3.toArray := by rw [← hw]; exact Blk.new w9 _ _
  refine ⟨mo_keeps_below _ (Below.refl _ _).drew, (Keep.refl _ _).drew, Nat.le_trans hs hb.size, hx.drew, fun g hg => ?_, fun _ => ?_, fun _ => ?_, fun _ => (hb1.below hb hb1.lt).drew, fun _ => (hb3.below hb hb3.lt).drew, fun e => (by cases e), fun e => (by cases e), fun e => (by cases e)⟩
  · have := (arown_lt ho1 g hg).2
    omega
  · exact arown_stay (arown_stay ho1 hb (fun g hg => (arown_lt ho1 g hg).2)) ((Below.refl _ w10).drew) (fun g hg => Nat.lt_of_lt_of_le (arown_lt ho1 g hg).2 hb.size)
  · exact arown_stay (arown_stay ho3 hb (fun g hg => (arown_lt ho3 g hg).2)) ((Below.refl _ w10).drew) (fun g hg => Nat.lt_of_lt_of_le (arown_lt ho3 g hg).2 hb.size)
theorem cut_fin {w w8 : World} {D : Nat} {a0 a1 v0 v1 : Value} (hx : Blk w8 (w.heap.size + 1 + 1) 37 #[a0, a1]) (hb : Below w.heap.size w w8) (hK : w8.heap[D]? = some (.deferred (some []))) (hD : w.heap.size + 1 + 1 < D) :
    ((w8.setCell ⟨w.heap.size + 1 + 1, 0, none⟩ v0).setCell ⟨w.heap.size + 1 + 1, 1, none⟩ v1).heap[D]? = some (.deferred (some [])) ∧
    Blk (((w8.setCell ⟨w.heap.size + 1 + 1, 0, none⟩ v0).setCell ⟨w.heap.size + 1 + 1, 1, none⟩ v1).putObj D (.deferred none)) (w.heap.size + 1 + 1) 37 #[v0, v1] ∧
    Below w.heap.size w (((w8.setCell ⟨w.heap.size + 1 + 1, 0, none⟩ v0).setCell ⟨w.heap.size + 1 + 1, 1, none⟩ v1).putObj D (.deferred none)) ∧
    ∀ zs, w.heap.size + 2 < zs → ∀ v sh f, WayAt zs w8 v sh f → WayAt zs (((w8.setCell ⟨w.heap.size + 1 + 1, 0, none⟩ v0).setCell ⟨w.heap.size + 1 + 1, 1, none⟩ v1).putObj D (.deferred none)) v sh f := by
  have hk := mokeep_two w8 (w.heap.size + 1 + 1) v0 v1
  have hx2 := moblk_two v0 v1 hx
  obtain ⟨W, hW⟩ : ∃ W, (w8.setCell ⟨w.heap.size + 1 + 1, 0, none⟩ v0).setCell ⟨w.heap.size + 1 + 1, 1, none⟩ v1 = W := ⟨_, rfl⟩
  rw [hW] at hk hx2 ⊢
  have hDl : D < w8.heap.size := (Array.getElem?_eq_some_iff.1 hK).1
  have hKD : W.heap[D]? = some (.deferred (some [])) := (hk.block D hDl (by omega)).trans hK
  have hp : Keep (fun k => k = D) W (W.putObj D (.deferred none)) := (Keep.refl _ _).grown (grownBy_putObj' _ D _) (fun k e _ => by injection e with e; exact e.symm)
  refine ⟨hKD, hp.blk hx2 (by omega), (hb.trans (hk.below hb.size (fun i hi e => by omega))).trans (hp.below (Nat.le_trans hb.size hk.size) (fun i hi e => by omega)), fun zs hz v sh f h => ?_⟩
  exact (h.sin (Sin.keep hk (fun i hi e => by omega))).sin (Sin.put (fun cs t fr e => by rw [hKD] at e; cases e))
def sh1 (sh : List Int) : List Int := if sh.length = 0 then [1] else sh
def cutL (cf : Int → Int → Sp) (l sh : List Int) : List Sp := List.zipWith cf l sh
/-- cutWay's error. -/
def cwE (cf : Int → Int → Sp) (a : AV) (sh : List Int) : Int := if axE a sh ≠ 0 then axE a sh else if (axL a sh).length ≠ (sh1 sh).length then 4 else if okShape (lensI (cutL cf (axL a sh) (sh1 sh))) = true then 0 else 9

theorem mocut1_any (B zs g c : Nat) (L : List Sp) (n : Nat) (w : World) (hx : Blk w zs 120 #[.slice (some ⟨g, 0, none⟩) L.length c]) (hok : okShape (lensI L) = true) (hn : (n : Int) < prodI (lensI L)) (hsp : ∀ s ∈ L, spOk s) (ho : w.ownsRow B 125 3 (.slice (some ⟨g, 0, none⟩) L.length c) L.length (spL L)) :
    Calls Try.prog 127 #[.int .i64 (n : Int), .pointer (some ⟨zs, 0, none⟩)] w fun e w' => e = .returned (.tuple #[.int .i64 (srcF L n).1, .int .i64 (srcF L n).2]) ∧ Below w.heap.size w w' := by
  have x0 := hx.cell 0
  have HS := Lib.hid (mosource_any B g c L n w hok hn hsp ho)
  generalize L.length = N at *
  generalize (srcF L n).1 = V1 at *
  generalize (srcF L n).2 = V2 at *
  clear hx ho hn
  go_enter Try.func127, Try.ntmps127
  go_wp2_with (go_at_call 128; refine HS.out.mono ?_; rintro e w2 ⟨rfl, b2⟩)
  go_ret2
  exact ⟨rfl, b2⟩

theorem ct_start {u W3 : World} {v1 v2 : Value} (h : (((u.alloc (.cells #[.slice none 0 0] 120)).alloc (.cells #[.slice none 0 0] 22)).alloc (.cells #[v1] 22)).alloc (.cells #[v2] 22) = W3) :
    W3.heap.size = u.heap.size + 4 ∧ Blk W3 u.heap.size 120 #[.slice none 0 0] ∧ Blk W3 (u.heap.size + 1) 22 #[.slice none 0 0] ∧ Blk W3 (u.heap.size + 2) 22 #[v1] ∧ Blk W3 (u.heap.size + 3) 22 #[v2] ∧ Below u.heap.size u W3 := by
  refine ⟨by rw [← h]; simp, ?_, ?_, ?_, ?_, by rw [← h]; exact (mobelow3 _ _ _).alloc (by simp; omega) _⟩
  · rw [← h]
    exact (((Blk.new u _ _).alloc _).alloc _).alloc _
  · have h2 := ((Blk.new (u.alloc (.cells #[.slice none 0 0] 120)) 22 #[.slice none 0 0]).alloc (.cells #[v1] 22)).alloc (.cells #[v2] 22)
    rw [h] at h2
    simpa only [World.size_alloc] using h2
  · have h2 := (Blk.new ((u.alloc (.cells #[.slice none 0 0] 120)).alloc (.cells #[.slice none 0 0] 22)) 22 #[v1]).alloc (.cells #[v2] 22)
    rw [h] at h2
    simpa only [World.size_alloc] using h2
  · have h2 := Blk.new (((u.alloc (.cells #[.slice none 0 0] 120)).alloc (.cells #[.slice none 0 0] 22)).alloc (.cells #[v1] 22)) 22 #[v2]
    rw [h] at h2
    simpa only [World.size_alloc] using h2

/-- What stands while the axes are cut. -/
structure CtI (W3 : World) (zs : Nat) (L : List Sp) (k : Nat) (W : World) : Prop where
  keep : Keep (fun i => i = zs ∨ i = zs + 1) W3 W
  sp : ∃ A c, Blk W zs 120 #[.slice A k c] ∧ W.ownsRow W3.heap.size 125 3 (.slice A k c) k (spL (L.take k))
  ln : ∃ A c, Blk W (zs + 1) 22 #[.slice A k c] ∧ W.ownsRow W3.heap.size 3 1 (.slice A k c) k ((lensI (L.take k)).map iv)
theorem CtI.own {W3 W W' : World} {zs k : Nat} {L : List Sp} {row : Option Nat} (h : CtI W3 zs L k W) (hg : W.grownBy W' row) (hr : ∀ r, row = some r → W3.heap.size ≤ r ∧ ∃ o : Obj, W.heap[r]? = some o ∧ o.isCells = false) : CtI W3 zs L k W' := by
  obtain ⟨h1, ⟨A, c, h2, h3⟩, A', c', h4, h5⟩ := h
  exact ⟨h1.grown hg (fun g e hlt => by have := (hr g e).1; omega), ⟨A, c, mo_blk_turned h2 hg hr, mo_own_turned h3 hg hr⟩, A', c', mo_blk_turned h4 hg hr, mo_own_turned h5 hg hr⟩
theorem CtI.below {W3 W W' : World} {zs k : Nat} {L : List Sp} (h : CtI W3 zs L k W) (hb : Below W.heap.size W W') : CtI W3 zs L k W' := by
  obtain ⟨h1, ⟨A, c, h2, h3⟩, A', c', h4, h5⟩ := h
  exact ⟨h1.trans (Keep.of_below (S := fun _ => False) hb) (fun _ _ e => e.elim), ⟨A, c, h2.below hb h2.lt, arown_stay h3 hb (fun g hg => (arown_lt h3 g hg).2)⟩, A', c', h4.below hb h4.lt, arown_stay h5 hb (fun g hg => (arown_lt h5 g hg).2)⟩
theorem spL_succ (L : List Sp) (k : Nat) (s : Sp) (h : L[k]? = some s) : spL (L.take (k + 1)) = spL (L.take k) ++ spC s ∧ (lensI (L.take (k + 1))).map iv = (lensI (L.take k)).map iv ++ [.int .i64 s.len] := by
  obtain ⟨h1, h2⟩ := List.getElem?_eq_some_iff.1 h
  rw [List.take_succ_eq_append_getElem h1, h2]
  unfold spL lensI
  simp [iv]
theorem cutL_at {cf : Int → Int → Sp} {l sh : List Int} (h : l.length = sh.length) {k : Nat} (hk : k < l.length) : (cutL cf l sh)[k]? = some (cf (l.getD k 0) (sh.getD k 0)) := by
  unfold cutL
  rw [List.getElem?_zipWith, List.getD_eq_getElem?_getD, List.getD_eq_getElem?_getD, List.getElem?_eq_getElem hk, List.getElem?_eq_getElem (show k < sh.length by omega)]
  rfl
theorem cutL_len {cf : Int → Int → Sp} {l sh : List Int} (h : l.length = sh.length) : (cutL cf l sh).length = l.length := by
  unfold cutL
  rw [List.length_zipWith, h, Nat.min_self]
theorem axL_bounds (a : AV) (sh : List Int) : ∀ x ∈ axL a sh, -4097 ≤ x ∧ x ≤ 4097 := by
  intro x hx
  unfold axL at hx
  split at hx
  · obtain ⟨y, _, rfl⟩ := List.mem_map.1 hx
    exact limN_bounds y
  · cases hx
theorem sh1_bounds {sh : List Int} (h : okShape sh = true) : ∀ x ∈ sh1 sh, 0 ≤ x ∧ x ≤ 4096 := by
  intro x hx
  unfold sh1 at hx
  split at hx
  · rw [List.mem_singleton] at hx
    subst hx
    decide
  · exact lenOk_iff.1 (List.all_eq_true.1 (okShape_iff.1 h).2.1 x hx)
theorem getD_mem {l : List Int} {k : Nat} (hk : k < l.length) : l.getD k 0 ∈ l := by
  rw [List.getD_eq_getElem?_getD, List.getElem?_eq_getElem hk]
  exact List.getElem_mem hk

section
attribute [local go_sem] Oper.semAt_some

set_option maxRecDepth 100000 in
set_option maxHeartbeats 4000000 in
theorem mocutn_any (cg : Nat) (hcg : ∀ args w, (callFunc cg args).run Try.prog w = .ok (.enter cg args) w) (cf : Int → Int → Sp) (hcf : ∀ n h, -4097 ≤ n → n ≤ 4097 → 0 ≤ h → h ≤ 4096 → spOk (cf n h) ∧ ∀ W, Calls Try.prog cg #[.int .i64 n, .int .i64 h] W (CutA (cf n h) W)) (a : AV) (p : AP) (S : Option Addr) (c : Nat) (sh : List Int) (w : World) (h : AEl w a p) (rs : Reads w w.heap.size 1 S sh.length (sh.map iv)) (hs : sh.length ≤ 9223372036854775807) (hsl : sh.length ≠ 0) :
    Calls Try.prog 80 #[.agg (arC a p), .slice S sh.length c, .func (.func cg) #[] #[]] w (GiveW w.heap.size (lensI (cutL cf (axL a sh) (sh1 sh))) (srcF (cutL cf (axL a sh) (sh1 sh))) (cwE cf a sh) w) := by
  have hb2 := mobelow3 (w := w) (.cells (arC a p) 25) (.cells #[.func (.func cg) #[] #[]] 82) (.cells #[.slice none 0 0, .nilFunc] 37)
  have h2 := ((Blk.new w 25 (arC a p)).alloc (.cells #[.func (.func cg) #[] #[]] 82)).alloc (.cells #[.slice none 0 0, .nilFunc] 37)
  have h3 := (Blk.new (w.alloc (.cells (arC a p) 25)) 82 #[.func (.func cg) #[] #[]]).alloc (.cells #[.slice none 0 0, .nilFunc] 37)
  have h4 := Blk.new ((w.alloc (.cells (arC a p) 25)).alloc (.cells #[.func (.func cg) #[] #[]] 82)) 37 #[.slice none 0 0, .nilFunc]
  simp only [World.size_alloc] at h3 h4
  have HAX := Lib.hid (moaxis_any a p S c sh _ (h.below hb2) ((rs.below hb2).more hb2.size) hs)
  obtain ⟨w1, hw1⟩ : ∃ w1, ((w.alloc (.cells (arC a p) 25)).alloc (.cells #[.func (.func cg) #[] #[]] 82)).alloc (.cells #[.slice none 0 0, .nilFunc] 37) = w1 := ⟨_, rfl⟩
  rw [hw1] at HAX hb2 h2 h3 h4
  have hsz1 : w1.heap.size = w.heap.size + 3 := by rw [← hw1]; simp
  have hE : cwE cf a sh = if axE a sh ≠ 0 then axE a sh else if (axL a sh).length ≠ (sh1 sh).length then 4 else if okShape (lensI (cutL cf (axL a sh) (sh1 sh))) = true then 0 else 9 := rfl
  have hAL := axL_len a sh
  have hAB := axL_bounds a sh
  have HOK := Lib.hid (fun he : axE a sh = 0 => (axE_ok he).1)
  have hL0 : axE a sh ≠ 0 → axL a sh = [] := fun h => by unfold axL; rw [if_neg h]
  have HRS := Lib.hid (fun W (hb : Below w.heap.size w W) => (rs.below hb).more hb.size)
  have hAC : arC a p = #[.int .i64 a.kind, .slice p.A0 a.sh.length p.c0, .slice p.A1 a.el.length p.c1] := rfl
  rw [hAC] at HAX hw1 h2
  rw [hAC]
  have u0 := h2.cell 0
  have u1 := h2.cell 1
  have u2 := h2.cell 2
  have H3 := Lib.hid h3
  have H4 := Lib.hid h4
  have HB2 := Lib.hid hb2
  have HSZ1 := Lib.hid hsz1
  generalize a.kind = ka at *
  generalize (Value.slice p.A0 a.sh.length p.c0) = sa at *
  generalize (Value.slice p.A1 a.el.length p.c1) = la at *
  obtain ⟨E, hEq⟩ : ∃ E, axE a sh = E := ⟨_, rfl⟩
  obtain ⟨Lx, hLq⟩ : ∃ Lx, axL a sh = Lx := ⟨_, rfl⟩
  rw [hEq, hLq] at HAX hE hL0
  rw [hLq] at hAL hAB ⊢
  rw [hEq] at HOK
  have hsh : sh1 sh = sh := by unfold sh1; rw [if_neg hsl]
  rw [hsh] at hE
  rw [hsh]
  have hsl2 : ((sh.length : Int) == 0) = false := by rw [beq_eq_false_iff_ne]; omega
  clear h rs h2 h3 h4 hb2 hAC hEq hLq hsz1
  by_cases h0 : E = 0
  case neg =>
    rw [if_pos h0] at hE
    rw [hE]
    have hne : (E != 0) = true := by simp [h0]
    obtain rfl := hL0 h0
    clear hE hL0 HOK
    have H0 := Lib.hid h0
    clear h0
    go_enter Try.func80, Try.ntmps80
    go_wp2_with (go_at_call 75; (try rw [hw1]); refine HAX.out.mono ?_; rintro e w2 ⟨A2, c2, rfl, o2, b2⟩; have hx := H4.out.below b2 H4.out.lt; have x0 := hx.cell 0; have x1 := hx.cell 1; have f0 := hx.frozen 0; have f1 := hx.frozen 1; have HX := Lib.hid hx; have HB3 := Lib.hid (bon HB2.out b2); clear o2 b2 hx)
    refine bodyPost_ret (results_way2 rfl rfl rfl (moblk_two _ _ HX.out)) rfl ?_
    exact GiveW.no H0.out (HB3.out.trans ((mokeep_two _ _ _ _).below HB3.out.size (fun i hi e => by omega)))
  subst h0
  rw [if_neg (fun h => h rfl)] at hE
  have hok := HOK.out rfl
  have hsb := sh1_bounds hok
  rw [hsh] at hsb
  clear hL0 HOK hok
  by_cases hN : Lx.length = sh.length
  case neg =>
    rw [if_pos hN] at hE
    rw [hE]
    have hne : ((Lx.length : Int) != (sh.length : Int)) = true := by rw [bne_iff_ne]; omega
    clear hE hsb hAB hcf
    go_enter Try.func80, Try.ntmps80
    go_wp2_with (go_at_call 75; (try rw [hw1]); refine HAX.out.mono ?_; rintro e w2 ⟨A2, c2, rfl, o2, b2⟩; have hx := H4.out.below b2 H4.out.lt; have x0 := hx.cell 0; have x1 := hx.cell 1; have f0 := hx.frozen 0; have f1 := hx.frozen 1; have HX := Lib.hid hx; have HB3 := Lib.hid (bon HB2.out b2); clear o2 b2 hx)
    refine bodyPost_ret (results_way2 rfl rfl rfl (moblk_two _ _ HX.out)) rfl ?_
    exact GiveW.no (by decide) (HB3.out.trans ((mokeep_two _ _ _ _).below HB3.out.size (fun i hi e => by omega)))
  rw [if_neg (fun h => h hN)] at hE
  obtain ⟨L, hL⟩ : ∃ L, cutL cf Lx sh = L := ⟨_, rfl⟩
  have hLlen : L.length = Lx.length := by rw [← hL]; exact cutL_len hN
  have hLat : ∀ k, k < Lx.length → L[k]? = some (cf (Lx.getD k 0) (sh.getD k 0)) := fun k hk => by rw [← hL]; exact cutL_at hN hk
  rw [hL] at hE
  rw [hL]
  have HSPO : Hid (∀ s ∈ L, spOk s) := Lib.hid (fun s hs => by
    obtain ⟨k, hk, e⟩ := List.mem_iff_getElem.1 hs
    have hk2 : k < Lx.length := by omega
    have e2 := hLat k hk2
    rw [List.getElem?_eq_getElem hk, e] at e2
    injection e2 with e2
    rw [e2]
    have b1 := hAB _ (getD_mem hk2)
    have b2 := hsb _ (getD_mem (show k < sh.length by have : sh.length = sh.length := rfl; omega))
    exact (hcf _ _ b1.1 b1.2 b2.1 b2.2).1)
  have HCF : Hid (∀ k, k < Lx.length → ∃ s, L[k]? = some s ∧ ∀ W, Calls Try.prog cg #[.int .i64 (Lx.getD k 0), .int .i64 (sh.getD k 0)] W (CutA s W)) := Lib.hid (fun k hk => by
    have b1 := hAB _ (getD_mem hk)
    have b2 := hsb _ (getD_mem (show k < sh.length by have : sh.length = sh.length := rfl; omega))
    exact ⟨_, hLat k hk, (hcf _ _ b1.1 b1.2 b2.1 b2.2).2⟩)
  obtain ⟨N, hNN⟩ : ∃ N, Lx.length = N := ⟨_, rfl⟩
  have HE := Lib.hid hE
  have HLL := Lib.hid hLlen
  have HNL := Lib.hid hN
  have HNN := Lib.hid hNN
  have hN4 : N ≤ 4096 := by omega
  have hfa : Fence.wide.fn 75 := trivial
  have hfs : Fence.wide.fn 126 := trivial
  have hfg : Fence.wide.fn 78 := trivial
  have HAX2 : Hid (CallsIn Fence.wide 6 Try.prog 75 #[.agg #[.int .i64 ka, sa, la], .slice S sh.length c] w1 (GiveL 3 Lx 0 w1)) := Lib.hid (callsIn_wide.2 HAX.out)
  unfold GiveL at HAX2
  rw [hNN] at HAX2
  obtain ⟨E, hEE⟩ : ∃ E, cwE cf a sh = E := ⟨_, rfl⟩
  have hE3 : E = if okShape (lensI L) = true then 0 else 9 := hEE.symm.trans hE
  rw [hEE]
  have HE3 := Lib.hid hE3
  clear hcf hAB hsb hLat hE hLlen hL HAX HE hEE hE3 hAL hs
  rw [hNN] at hN
  rw [← hN] at hsl2 HAX2 hsl
  rw [← hN]
  clear hN hNN
  refine (callsIn_wide (n := 7)).1 ?_
  refine callsIn_of_wp_marks Try.func80 rfl trivial ?_
  simp only [Try.ntmps80, List.size_toArray, List.length_cons, List.length_nil, Nat.reduceAdd, Nat.reduceSub, Array.replicate_succ, Array.replicate_zero, List.push_toArray, List.append_toArray, List.nil_append, List.cons_append]
  gi_wp2_with (first
    | (gi_at_call 75; (try rw [hw1]); refine HAX2.out.mono ?_; rintro e w2 ⟨A2, c2, rfl, o2, b2⟩
       have HO2 := Lib.hid o2
       have HBB2 := Lib.hid b2
       clear o2 b2)
    | (gi_at_call 126; refine (callsIn_wide.2 (moside_any _ _ _ _ _ _ _)).mono ?_; rintro e w7 ⟨rfl, hw7⟩))
  obtain ⟨hs3, k0, k1, k2, k3, hb3⟩ := ct_start hw7
  have HBU : Hid (Below w1.heap.size w1 w2) := Lib.hid (HBB2.out)
  obtain ⟨zs, hzs⟩ : ∃ zs, w2.heap.size = zs := ⟨_, rfl⟩
  have hzu : w2.heap.size = zs := by rw [← hzs]
  rw [hzu] at hs3 k0 k1 k2 k3 hb3
  have HB13 : Hid (Below w1.heap.size w1 w7) := Lib.hid (HBU.out.trans (hb3.mono (by have := HBU.out.size; omega)))
  have HPRE : Hid (∀ W, Keep (fun i => i = zs ∨ i = zs + 1) w7 W → Below w1.heap.size w1 W ∧ SdPre (zs + 2) (zs + 3) A2 S c2 c Lx sh W) := Lib.hid (fun W hk => by
    have hlt := HBU.out.size
    have hb := HB13.out.trans (hk.below (B := w1.heap.size) HB13.out.size (fun i hi e => by omega))
    have hbu : Below zs w2 W := hb3.trans (hk.below (B := zs) (by omega) (fun i hi e => by omega))
    have hbu2 : Below w2.heap.size w2 W := by rw [hzu]; exact hbu
    refine ⟨hb, ?_, ?_, ?_, ?_⟩
    · rw [HNN.out]; exact hk.blk k2 (by omega)
    · rw [← HNL.out, HNN.out]; exact hk.blk k3 (by omega)
    · rw [HNN.out]
      exact Reads.of_own (arown_stay HO2.out hbu2 (fun g hg => (arown_lt HO2.out g hg).2))
    · exact HRS.out W (HB2.out.trans (hb.mono HB2.out.size)))
  have H0 : Hid (CtI w7 zs L 0 w7) := Lib.hid ⟨Keep.refl _ _, ⟨none, 0, k0, World.ownsRow_nil _ _ _ _⟩, none, 0, k1, World.ownsRow_nil _ _ _ _⟩
  have HS3 := Lib.hid hs3
  have hMV := side_moves 6 (zs + 2) (zs + 3) A2 S c2 c Lx sh HNL.out (by rw [HNN.out]; omega) w7
  rw [HNN.out] at hMV
  have HZU := Lib.hid hzu
  have HH3 := Lib.hid (fun W (hb : Below w1.heap.size w1 W) => H3.out.below hb H3.out.lt)
  simp only [hzs, Nat.add_assoc, Nat.reduceAdd]
  clear hw7 hs3 k0 k1 k2 k3 hb3 hzu
  refine wpIn_rangeFunc_movesV rfl (by omega) (gf := 152) (lb := #[.pointer (some ⟨zs + 2, 0, none⟩), .pointer (some ⟨zs + 3, 0, none⟩)]) rfl trivial (enters_of Try.func152 (by kernel_rfl) rfl)
    hMV (Below.refl _ _) (fun _ _ => rfl)
    (fun k W => CtI w7 zs L k W ∧ k ≤ N)
    (fun k _ W => CtI w7 zs L k W ∧ k < N)
    (fun W => CtI w7 zs L N W)
    (fun cc W => False)
    (fun k W W' row hs hg hr => ⟨hs.1.own hg hr, hs.2⟩)
    (fun _ W W' row hs hg hr => hs.own hg hr)
    (fun cc W W' row hs hg hr => hs)
    (fun k W hs => (HPRE.out W hs.1.keep).2)
    (fun k W W' hs hx l o ho hc => by
      rcases hx with ⟨_, _, hb⟩ | ⟨_, rfl⟩
      · exact (hb.block l (Array.getElem?_eq_some_iff.1 ho).1).trans ho
      · exact ho)
    (fun k x W W' hs hx => ⟨hs.1.below hx.2, hx.1⟩)
    (fun k W W' hs hx => by
      obtain ⟨rfl, rfl⟩ := hx
      exact hs.1)
    ⟨H0.out, Nat.zero_le _⟩
    (fun k _ a' W => a' = { tmps := #[.agg #[.int .i64 ka, sa, la], .slice S N c, .func (.func cg) #[] #[], .pointer (some ⟨w.heap.size, 0, none⟩), undef, .pointer (some ⟨w.heap.size + 1, 0, none⟩), .pointer (some ⟨w.heap.size + 2, 0, none⟩), .int .i64 0, .slice A2 N c2, .int .i64 0, .pointer (some ⟨zs, 0, none⟩), .pointer (some ⟨zs + 1, 0, none⟩), .int .i64 (Lx.getD k 0), .int .i64 (sh.getD k 0), undef, .tuple #[.slice A2 N c2, .int .i64 0], .agg #[.int .i64 ka, sa, la], .slice S N c, .tuple #[.slice A2 N c2, .int .i64 0], .slice A2 N c2, .int .i64 0, .int .i64 0, .bool false, undef, undef, .slice S N c, .int .i64 (N : Int), .bool false, undef, .slice A2 N c2, .int .i64 (N : Int), .slice S N c, .int .i64 (N : Int), .bool false, undef, .slice A2 N c2, .slice S N c, .func (.func 152) #[] #[.pointer (some ⟨zs + 2, 0, none⟩), .pointer (some ⟨zs + 3, 0, none⟩)], .int .i64 (Lx.getD k 0), .int .i64 (sh.getD k 0), undef, undef, undef, undef, undef, undef, undef, undef, undef, undef, undef, undef, undef, undef, undef, undef, undef, undef], defers := [] } ∧ CtI w7 zs L k W ∧ k < N)
    (fun k x a' _ W W' row hs hg hr => ⟨hs.1, hs.2.1.own hg hr, hs.2.2⟩)
    ?assign ?body ?done ?stop
  case assign =>
    intro l k x W K hI hK
    have HK := Lib.hid hK
    have HI := Lib.hid hI
    unfold sdAt
    generalize Lx.getD k 0 = nk at *
    generalize sh.getD k 0 = hk at *
    clear hK hI
    gi_wp2
    exact HK.out _ _ (mo_keeps_below _ (Below.refl _ _)) ⟨rfl, HI.out⟩
  case body =>
    rintro l k x a' W ⟨rfl, hI, hkN⟩
    obtain ⟨s, hs, hcut⟩ := HCF.out k (by rw [HNN.out]; exact hkN)
    have x5 := (HH3.out W (HPRE.out W hI.keep).1).cell 0
    have HC := Lib.hid (hcut W)
    obtain ⟨hx1, hx2⟩ := spL_succ L k s hs
    have HX1 := Lib.hid hx1
    have HX2 := Lib.hid hx2
    have HI := Lib.hid hI
    have HKN := Lib.hid hkN
    generalize Lx.getD k 0 = nk at *
    generalize sh.getD k 0 = hk at *
    have hspc : spC s = [.int .i64 s.len, .int .i64 s.frm, .int .i64 s.has] := rfl
    have HSC := Lib.hid hspc
    obtain ⟨i3, hi3, h3z0, h3z1, h3z2⟩ := info_parts moInfoSpan
    obtain ⟨i1, hi1, h1z0, h1z1, h1z2⟩ := info_parts arInfoInt
    unfold CutA at HC
    generalize s.len = sl at *
    generalize s.frm = sf at *
    generalize s.has = sh' at *
    clear hI hkN hs hcut hx1 hx2 hspc
    gi_wp2_with (first
      | (refine ⟨trivial, (CallsIn.inRound l (callsIn_wide.2 HC.out)).mono ?_⟩; rintro e' w9 ⟨rfl, b9⟩))
    obtain ⟨hk9, ⟨A1, c1, hb1, ho1⟩, A3, c3, hb3, ho3⟩ := HI.out.below b9
    obtain ⟨w10, hw10⟩ : ∃ w10, w9.alloc (.cells #[.int .i64 sl, .int .i64 sf, .int .i64 sh'] 125) = w10 := ⟨_, rfl⟩
    have hzs7 : zs + 4 = w7.heap.size := HS3.out.symm
    have hS0 := CtS.start (x3 := [.int .i64 sl, .int .i64 sf, .int .i64 sh']) (yv := .int .i64 sl) hw10 hk9.size hb1 hb3 ho1 ho3 (show zs < w7.heap.size by omega)
    have hk10 : Keep (fun i => i = zs ∨ i = zs + 1) w7 w10 := by rw [← hw10]; exact hk9.alloc _
    have HK10 := Lib.hid hk10
    have HKF : Hid (KeepsFrom w7.heap.size W w10) := Lib.hid (by rw [← hw10]; exact mo_keeps_below _ (bon b9 (albel _ _)))
    have HRB : Hid (w7.heap.size ≤ w9.heap.size) := Lib.hid hk9.size
    have HZ7 := Lib.hid hzs7
    rw [hw10]
    have hN4b : k ≤ 4096 := by have := HKN.out; omega
    obtain ⟨rb, hrb⟩ : ∃ rb, w9.heap.size = rb := ⟨_, rfl⟩
    rw [hrb] at hS0 HRB
    try rw [hrb]
    clear hb1 hb3 ho1 ho3 hk9 b9 hw10 hk10 hzs7
    refine wpIn_region_done_mute_on (fun ⟨_, _, h⟩ => h) (CtS w7.heap.size zs (zs + 1) rb w10 k (.slice A1 k c1) (.slice A3 k c3) (spL (L.take k)) ((lensI (L.take k)).map iv) [.int .i64 sl, .int .i64 sf, .int .i64 sh'] (.int .i64 sl)) (ctR w7.heap.size k (spL (L.take k)) ((lensI (L.take k)).map iv) [.int .i64 sl, .int .i64 sf, .int .i64 sh'] (.int .i64 sl) [.slice A1 k c1, .agg #[.int .i64 sl, .int .i64 sf, .int .i64 sh'], undef, undef, .slice A3 k c3, .pointer (some ⟨rb, 0, none⟩), .int .i64 sl]) (by kernel_rfl) (by intro o ho; simp only [List.mem_toArray, List.mem_cons, List.not_mem_nil, or_false] at ho; rcases ho with rfl | rfl | rfl | rfl | rfl | rfl | rfl | rfl | rfl | rfl | rfl <;> first | exact mute_load rfl | exact mute_fieldAddr rfl | exact mute_buildSlice rfl | exact mute_append rfl | exact mute_store rfl) 58 rfl (by kernel_rfl) hS0 ?_ ?_
    · intro i hi
      have hi2 : i < 11 := hi
      clear hi
      rcases i with _ | i
      · refine ct_value (by decide) (by decide) (by decide) (by decide) (by decide) (by decide) rfl (.slice A1 k c1) rfl ?_
        intro dn a8 w8 hS hx ho hn
        have o10 : a8.tmps[10]? = some _ := (ho 10 (by kernel_rfl)).trans rfl
        have y0 := (hS.bs (hS.nine (hx 3 (by kernel_rfl))).2.1).cell 0
        clear ho hn hx
        refine ⟨wanted_free rfl, ?_⟩
        go_simp
      rcases i with _ | i
      · refine ct_value (by decide) (by decide) (by decide) (by decide) (by decide) (by decide) rfl (.agg #[.int .i64 sl, .int .i64 sf, .int .i64 sh']) rfl ?_
        intro dn a8 w8 hS hx ho hn
        have o14 : a8.tmps[14]? = some _ := (ho 14 (by kernel_rfl)).trans rfl
        have y0 := hS.rbk.cell 0
        have y1 := hS.rbk.cell 1
        have y2 := hS.rbk.cell 2
        clear ho hn hx
        refine ⟨wanted_free rfl, ?_⟩
        go_simp
      rcases i with _ | i
      · refine done_make rfl ?_
        intro dn a8 w8 hS hd hx ho hn
        obtain ⟨v45, n45, hq45⟩ := hn 1 45 (by kernel_rfl) rfl
        obtain rfl : v45 = .agg #[.int .i64 sl, .int .i64 sf, .int .i64 sh'] := hq45
        clear ho hn hx
        have hb := albel w8 (.cells #[.int .i64 sl, .int .i64 sf, .int .i64 sh'] 125)
        refine ⟨wanted_free rfl, .slice (some ⟨w8.heap.size, 0, none⟩) 1 1, w8.alloc (.cells #[.int .i64 sl, .int .i64 sf, .int .i64 sh'] 125), (by go_simp), (hS.below hb).up (by decide) (by decide) (by decide) (by decide), ⟨w8.heap.size, rfl, fun _ => Blk.new w8 _ _⟩, fun j u _ _ hR => ctR_step (fun g _ _ h => h.below hb h.lt) (fun g _ _ h => h.below hb h.lt) (fun _ v n xs h => arown_stay h hb (fun g hg => (arown_lt h g hg).2)) (fun _ v n xs h => arown_stay h hb (fun g hg => (arown_lt h g hg).2)) hR⟩
      rcases i with _ | i
      · refine done_make rfl ?_
        intro dn a8 w8 hS hd hx ho hn
        obtain ⟨v44, n44, hq44⟩ := hn 0 44 (by kernel_rfl) rfl
        obtain rfl : v44 = .slice A1 k c1 := hq44
        obtain ⟨v46, n46, hq46⟩ := hn 2 46 (by kernel_rfl) rfl
        obtain ⟨g, rfl, hg⟩ := hq46
        clear ho hn hx
        have h9 := hS.nine hd
        obtain ⟨v', w', hrun, hown, hgrow, _⟩ := run_append_any (P := Try.prog) w8 w7.heap.size 120 120 125 i3 _ 3 24 Try.underlying120 hi3 h3z0 h3z1 h3z2 rfl (by decide) _ k _ (hS.s1 hd) w8.heap.size (some ⟨g, 0, none⟩) 1 1 _ (reads3 (hg hd) rfl) (by intro u hu; simp only [List.mem_cons, List.not_mem_nil, or_false] at hu; rcases hu with rfl | rfl | rfl <;> rfl) (by unfold maxLen; omega) (by omega) hS.sz
        obtain ⟨A', c', rfl⟩ := mo_own_slice hown
        refine ⟨wanted_free rfl, _, w', exec_append (.tmp 44) (.tmp 46) 120 rfl (eval_of n44) (eval_of n46) hrun, hS.app3 (by have := HZ7.out; omega) (by have := HZ7.out; omega) hd hgrow, ⟨upd_self _ _, A', c', rfl, hown⟩, fun j u _ _ hR => ctR_step (fun g _ e _ => by rw [upd_self] at e; cases e) (fun g _ _ h => blk_gr h hgrow (own_typ (hS.s1 hd)) (by decide)) (fun e => by rw [hd] at e; cases e) (fun e => by rw [h9.1] at e; cases e) hR⟩
      rcases i with _ | i
      · refine ct_value (by decide) (by decide) (by decide) (by decide) (by decide) (by decide) rfl (.slice A3 k c3) rfl ?_
        intro dn a8 w8 hS hx ho hn
        have o11 : a8.tmps[11]? = some _ := (ho 11 (by kernel_rfl)).trans rfl
        have y0 := (hS.bl (hS.nine8 (hx 8 (by kernel_rfl))).2).cell 0
        clear ho hn hx
        refine ⟨wanted_free rfl, ?_⟩
        go_simp
      rcases i with _ | i
      · refine ct_value (by decide) (by decide) (by decide) (by decide) (by decide) (by decide) rfl (.pointer (some ⟨rb, 0, none⟩)) rfl ?_
        intro dn a8 w8 hS hx ho hn
        have o14 : a8.tmps[14]? = some _ := (ho 14 (by kernel_rfl)).trans rfl
        clear ho hn hx
        refine ⟨wanted_free rfl, ?_⟩
        go_simp
      rcases i with _ | i
      · refine ct_value (by decide) (by decide) (by decide) (by decide) (by decide) (by decide) rfl (.int .i64 sl) rfl ?_
        intro dn a8 w8 hS hx ho hn
        obtain ⟨v49, n49, hq49⟩ := hn 5 49 (by kernel_rfl) rfl
        obtain rfl : v49 = .pointer (some ⟨rb, 0, none⟩) := hq49
        have y0 := hS.rbk.cell 0
        clear ho hn hx
        refine ⟨wanted_free rfl, ?_⟩
        go_simp
      rcases i with _ | i
      · refine done_make rfl ?_
        intro dn a8 w8 hS hd hx ho hn
        obtain ⟨v50, n50, hq50⟩ := hn 6 50 (by kernel_rfl) rfl
        obtain rfl : v50 = .int .i64 sl := hq50
        clear ho hn hx
        have hb := albel w8 (.cells #[.int .i64 sl] 3)
        refine ⟨wanted_free rfl, .slice (some ⟨w8.heap.size, 0, none⟩) 1 1, w8.alloc (.cells #[.int .i64 sl] 3), (by go_simp), (hS.below hb).up (by decide) (by decide) (by decide) (by decide), ⟨w8.heap.size, rfl, fun _ => Blk.new w8 _ _⟩, fun j u _ _ hR => ctR_step (fun g _ _ h => h.below hb h.lt) (fun g _ _ h => h.below hb h.lt) (fun _ v n xs h => arown_stay h hb (fun g hg => (arown_lt h g hg).2)) (fun _ v n xs h => arown_stay h hb (fun g hg => (arown_lt h g hg).2)) hR⟩
      rcases i with _ | i
      · refine done_make rfl ?_
        intro dn a8 w8 hS hd hx ho hn
        obtain ⟨v48, n48, hq48⟩ := hn 4 48 (by kernel_rfl) rfl
        obtain rfl : v48 = .slice A3 k c3 := hq48
        obtain ⟨v51, n51, hq51⟩ := hn 7 51 (by kernel_rfl) rfl
        obtain ⟨g, rfl, hg⟩ := hq51
        obtain ⟨v47, n47, hq47⟩ := hn 3 47 (by kernel_rfl) rfl
        have h3 := hq47.1
        clear ho hn hx hq47
        obtain ⟨v', w', hrun, hown, hgrow, _⟩ := run_append_any (P := Try.prog) w8 w7.heap.size 22 22 3 i1 _ 1 8 Try.underlying22 hi1 h1z0 h1z1 h1z2 rfl (by decide) _ k _ (hS.l1 hd) w8.heap.size (some ⟨g, 0, none⟩) 1 1 _ (reads1 (hg hd)) (by intro u hu; simp only [List.mem_cons, List.not_mem_nil, or_false] at hu; subst hu; rfl) (by unfold maxLen; omega) (by omega) hS.sz
        obtain ⟨A', c', rfl⟩ := mo_own_slice hown
        refine ⟨wanted_free rfl, _, w', exec_append (.tmp 48) (.tmp 51) 22 rfl (eval_of n48) (eval_of n51) hrun, hS.app8 (by have := HZ7.out; omega) (by have := HZ7.out; omega) hd h3 hgrow, ⟨upd_self _ _, A', c', rfl, hown⟩, fun j u _ _ hR => ctR_step (fun g e _ _ => by rw [h3] at e; cases e) (fun g _ e _ => by rw [upd_self] at e; cases e) (fun _ v n xs h => own_gr h hgrow (own_typ (hS.l1 hd)) (by decide)) (fun e => by rw [hd] at e; cases e) hR⟩
      rcases i with _ | i
      · refine done_store rfl rfl ?_
        intro dn a8 w8 hS hd hx ho hn
        obtain ⟨v47, n47, hq47⟩ := hn 3 47 (by kernel_rfl) rfl
        obtain ⟨_, A', c', rfl, hown⟩ := hq47
        obtain ⟨v52, n52, hq52⟩ := hn 8 52 (by kernel_rfl) rfl
        have h8 := hq52.1
        have o10 : a8.tmps[10]? = some _ := (ho 10 (by kernel_rfl)).trans rfl
        have y0 := (hS.bs hd).cell 0
        have f0 := (hS.bs hd).frozen 0
        clear ho hn hx hq52
        have hk : Keep (fun i => i = zs) w8 (w8.setCell ⟨zs, 0, none⟩ (.slice A' (k + 1) c')) := (Keep.refl _ _).setCell _ _ (fun _ => rfl)
        have h3 := hS.d8 h8
        refine ⟨wanted_free rfl, w8.setCell ⟨zs, 0, none⟩ (.slice A' (k + 1) c'), (by go_simp), hS.put9 (by have := HZ7.out; omega) (by omega) HRB.out hd h8 hown, rfl, fun j u _ _ hR => ctR_step (fun g e _ _ => by rw [h3] at e; cases e) (fun g e _ _ => by rw [h8] at e; cases e) (fun _ v n xs h => hk.own h (fun g e e2 => by have := (arown_lt h g e).1; have := HZ7.out; omega)) (fun _ v n xs h => hk.own h (fun g e e2 => by have := (arown_lt h g e).1; have := HZ7.out; omega)) hR⟩
      rcases i with _ | i
      · refine done_store rfl rfl ?_
        intro dn a8 w8 hS hd hx ho hn
        obtain ⟨v52, n52, hq52⟩ := hn 8 52 (by kernel_rfl) rfl
        obtain ⟨h8, A', c', rfl, hown⟩ := hq52
        have o11 : a8.tmps[11]? = some _ := (ho 11 (by kernel_rfl)).trans rfl
        have y0 := (hS.bl hd).cell 0
        have f0 := (hS.bl hd).frozen 0
        clear ho hn hx
        have hk : Keep (fun i => i = zs + 1) w8 (w8.setCell ⟨zs + 1, 0, none⟩ (.slice A' (k + 1) c')) := (Keep.refl _ _).setCell _ _ (fun _ => rfl)
        have h3 := hS.d8 h8
        refine ⟨wanted_free rfl, w8.setCell ⟨zs + 1, 0, none⟩ (.slice A' (k + 1) c'), (by go_simp), hS.put10 (by have := HZ7.out; omega) (by omega) HRB.out hd h8 hown, rfl, fun j u _ _ hR => ctR_step (fun g e _ _ => by rw [h3] at e; cases e) (fun g e _ _ => by rw [h8] at e; cases e) (fun _ v n xs h => hk.own h (fun g e e2 => by have := (arown_lt h g e).1; have := HZ7.out; omega)) (fun _ v n xs h => hk.own h (fun g e e2 => by have := (arown_lt h g e).1; have := HZ7.out; omega)) hR⟩
      omega
    · intro dn fv w5 hS5 hR5 hall
      obtain ⟨_, A5, c5, hb5, ho5⟩ := hS5.e9 (hall 9 (by decide))
      obtain ⟨_, A6, c6, hb6, ho6⟩ := hS5.e10 (hall 10 (by decide))
      have e5 := HX1.out
      rw [HSC.out] at e5
      rw [← e5] at ho5
      rw [← HX2.out] at ho6
      exact ⟨mo_keeps_on HKF.out hS5.kf, ⟨HK10.out.trans hS5.kp (fun i hi h => by rcases h with h | h | h <;> omega), ⟨A5, c5, hb5, ho5⟩, A6, c6, hb6, ho6⟩, HKN.out⟩
  case done =>
    rintro D W hD hI hK
    have hbw := (HPRE.out W hI.keep).1
    obtain ⟨_, ⟨A5, c5, hb5, ho5⟩, A6, c6, hb6, ho6⟩ := hI
    have hLN : L.length = N := HLL.out.trans HNN.out
    have hlN : (lensI L).length = N := by unfold lensI; rw [List.length_map]; exact hLN
    have htk : L.take N = L := List.take_of_length_le (by omega)
    rw [htk] at ho5 ho6
    have hbz : zs ≤ W.heap.size := by have := hb5.lt; omega
    have hz7 := HS3.out
    have hHGA : Calls Try.prog 78 #[.slice A6 N c6, .func (.func 127) #[] #[.pointer (some ⟨zs, 0, none⟩)]] W (GiveW zs (lensI L) (srcF L) (if okShape (lensI L) = true then 0 else 9) W) := by
      have h := mogather_any zs A6 c6 (lensI L) 127 #[.pointer (some ⟨zs, 0, none⟩)] (enters_of Try.func127 (by kernel_rfl) rfl) (srcF L) W (by rw [hlN]; exact arown_mono ho6 (by omega)) hbz (by rw [hlN]; omega) (fun hk W' hs' n hn => by
        obtain ⟨g, hg⟩ : ∃ g, A5 = some ⟨g, 0, none⟩ := by
          rcases ho5.2 with ⟨_, h0⟩ | ⟨g, cap, cur, e, _⟩
          · exfalso
            omega
          · injection e with e _ _
            exact ⟨g, e⟩
        subst hg
        refine mocut1_any w7.heap.size zs g c5 L n W' ?_ hk hn HSPO.out ?_
        · rw [hLN]; exact hs'.blk_ hb5 (Nat.le_refl _)
        · rw [hLN]; exact hs'.own_ ho5 (by omega))
      rw [hlN] at h
      exact h
    have y0 := hb6.cell 0
    have hx4 := H4.out.below hbw H4.out.lt
    have HX4 := Lib.hid hx4
    have HBW := Lib.hid hbw
    have HKK := Lib.hid hK
    have hE3 := HE3.out
    have HD7 : Hid (w.heap.size + 2 < D ∧ D < W.heap.size ∧ w.heap.size + 2 < zs) := Lib.hid (by
      have h1 := HSZ1.out
      have h2 := HBU.out.size
      have h3 := HZU.out
      have h4 := (Array.getElem?_eq_some_iff.1 hK).1
      omega)
    cases hok : okShape (lensI L)
    · rw [hok, if_neg (by decide)] at hHGA hE3
      subst hE3
      have HGA := Lib.hid (callsIn_wide (n := 6) |>.2 hHGA)
      clear hHGA hb5 ho5 hb6 ho6 hlN htk hbz hz7 hLN hbw hK hx4 hok
      gi_wp2_with (gi_at_call 78; refine HGA.out.mono ?_; rintro e w8 ⟨v, rfl, b8, hy, hn⟩; obtain rfl := hn (by decide); have hx8 := HX4.out.below b8 HX4.out.lt; have x0 := hx8.cell 0; have x1 := hx8.cell 1; have f0 := hx8.frozen 0; have f1 := hx8.frozen 1; have HX8 := Lib.hid hx8; have HB8 := Lib.hid b8; clear hx8 b8 hy hn)
      have hF := cut_fin (v0 := .slice none 0 0) (v1 := .nilFunc) HX8.out (bon (bon HB2.out HBW.out) HB8.out) ((HB8.out.block D HD7.out.2.1).trans HKK.out) (by have := HD7.out; omega)
      exact ⟨by simp, .inl ⟨_, _, rfl, run_takeDeferred hF.1, _, results_way2 rfl rfl rfl hF.2.1, GiveW.no (by decide) hF.2.2.1⟩⟩
    · rw [hok, if_pos rfl] at hHGA hE3
      subst hE3
      have HGA := Lib.hid (callsIn_wide (n := 6) |>.2 hHGA)
      have HOK2 := Lib.hid hok
      clear hHGA hb5 ho5 hb6 ho6 hlN htk hbz hz7 hLN hbw hK hx4 hok
      gi_wp2_with (gi_at_call 78; refine HGA.out.mono ?_; rintro e w8 ⟨v, rfl, b8, hy, hn⟩; obtain ⟨_, A8, c8, gf8, cap8, rfl, hy5⟩ := hy rfl; have HY : Hid (WayAt zs w8 (.agg #[.slice A8 (lensI L).length c8, .func (.func gf8) #[] cap8]) (lensI L) (srcF L)) := Lib.hid ⟨A8, c8, gf8, cap8, rfl, hy5⟩; have hx8 := HX4.out.below b8 HX4.out.lt; have x0 := hx8.cell 0; have x1 := hx8.cell 1; have f0 := hx8.frozen 0; have f1 := hx8.frozen 1; have HX8 := Lib.hid hx8; have HB8 := Lib.hid b8; clear hx8 b8 hy hn hy5)
      have hF := cut_fin (v0 := .slice A8 (lensI L).length c8) (v1 := .func (.func gf8) #[] cap8) HX8.out (bon (bon HB2.out HBW.out) HB8.out) ((HB8.out.block D HD7.out.2.1).trans HKK.out) (by have := HD7.out; omega)
      exact ⟨by simp, .inl ⟨_, _, rfl, run_takeDeferred hF.1, _, results_way2 rfl rfl rfl hF.2.1, _, rfl, hF.2.2.1, fun _ => ⟨HOK2.out, (hF.2.2.2 zs HD7.out.2.2 _ _ _ HY.out).base (by have := HD7.out; omega)⟩, fun h => absurd rfl h⟩⟩
  case stop =>
    rintro D c' W hD h hK
    exact h.elim

set_option maxRecDepth 100000 in
set_option maxHeartbeats 4000000 in
theorem mocutz_any (cg : Nat) (hcg : ∀ args w, (callFunc cg args).run Try.prog w = .ok (.enter cg args) w) (cf : Int → Int → Sp) (hcf : ∀ n h, -4097 ≤ n → n ≤ 4097 → 0 ≤ h → h ≤ 4096 → spOk (cf n h) ∧ ∀ W, Calls Try.prog cg #[.int .i64 n, .int .i64 h] W (CutA (cf n h) W)) (a : AV) (p : AP) (S : Option Addr) (c : Nat) (sh : List Int) (w : World) (h : AEl w a p) (rs : Reads w w.heap.size 1 S sh.length (sh.map iv)) (hs : sh.length ≤ 9223372036854775807) (hsl : sh.length = 0) :
    Calls Try.prog 80 #[.agg (arC a p), .slice S sh.length c, .func (.func cg) #[] #[]] w (GiveW w.heap.size (lensI (cutL cf (axL a sh) (sh1 sh))) (srcF (cutL cf (axL a sh) (sh1 sh))) (cwE cf a sh) w) := by
  have hb2 := mobelow3 (w := w) (.cells (arC a p) 25) (.cells #[.func (.func cg) #[] #[]] 82) (.cells #[.slice none 0 0, .nilFunc] 37)
  have h2 := ((Blk.new w 25 (arC a p)).alloc (.cells #[.func (.func cg) #[] #[]] 82)).alloc (.cells #[.slice none 0 0, .nilFunc] 37)
  have h3 := (Blk.new (w.alloc (.cells (arC a p) 25)) 82 #[.func (.func cg) #[] #[]]).alloc (.cells #[.slice none 0 0, .nilFunc] 37)
  have h4 := Blk.new ((w.alloc (.cells (arC a p) 25)).alloc (.cells #[.func (.func cg) #[] #[]] 82)) 37 #[.slice none 0 0, .nilFunc]
  simp only [World.size_alloc] at h3 h4
  have HAX := Lib.hid (moaxis_any a p S c sh _ (h.below hb2) ((rs.below hb2).more hb2.size) hs)
  obtain ⟨w1, hw1⟩ : ∃ w1, ((w.alloc (.cells (arC a p) 25)).alloc (.cells #[.func (.func cg) #[] #[]] 82)).alloc (.cells #[.slice none 0 0, .nilFunc] 37) = w1 := ⟨_, rfl⟩
  rw [hw1] at HAX hb2 h2 h3 h4
  have hsz1 : w1.heap.size = w.heap.size + 3 := by rw [← hw1]; simp
  have hE : cwE cf a sh = if axE a sh ≠ 0 then axE a sh else if (axL a sh).length ≠ (sh1 sh).length then 4 else if okShape (lensI (cutL cf (axL a sh) (sh1 sh))) = true then 0 else 9 := rfl
  have hAL := axL_len a sh
  have hAB := axL_bounds a sh
  have HOK := Lib.hid (fun he : axE a sh = 0 => (axE_ok he).1)
  have hL0 : axE a sh ≠ 0 → axL a sh = [] := fun h => by unfold axL; rw [if_neg h]
  have HRS := Lib.hid (fun W (hb : Below w.heap.size w W) => (rs.below hb).more hb.size)
  have hAC : arC a p = #[.int .i64 a.kind, .slice p.A0 a.sh.length p.c0, .slice p.A1 a.el.length p.c1] := rfl
  rw [hAC] at HAX hw1 h2
  rw [hAC]
  have u0 := h2.cell 0
  have u1 := h2.cell 1
  have u2 := h2.cell 2
  have H3 := Lib.hid h3
  have H4 := Lib.hid h4
  have HB2 := Lib.hid hb2
  have HSZ1 := Lib.hid hsz1
  generalize a.kind = ka at *
  generalize (Value.slice p.A0 a.sh.length p.c0) = sa at *
  generalize (Value.slice p.A1 a.el.length p.c1) = la at *
  obtain ⟨E, hEq⟩ : ∃ E, axE a sh = E := ⟨_, rfl⟩
  obtain ⟨Lx, hLq⟩ : ∃ Lx, axL a sh = Lx := ⟨_, rfl⟩
  rw [hEq, hLq] at HAX hE hL0
  rw [hLq] at hAL hAB ⊢
  rw [hEq] at HOK
  have hsh : sh1 sh = [1] := by unfold sh1; rw [if_pos hsl]
  rw [hsh, show ([1] : List Int).length = 1 from rfl] at hE
  rw [hsh]
  rw [hsl] at HAX
  rw [hsl]
  clear h rs h2 h3 h4 hb2 hAC hEq hLq hsz1
  by_cases h0 : E = 0
  case neg =>
    rw [if_pos h0] at hE
    rw [hE]
    have hne : (E != 0) = true := by simp [h0]
    obtain rfl := hL0 h0
    clear hE hL0 HOK
    have H0 := Lib.hid h0
    clear h0
    go_enter Try.func80, Try.ntmps80
    go_wp2_with (go_at_call 75; (try rw [hw1]); refine HAX.out.mono ?_; rintro e w2 ⟨A2, c2, rfl, o2, b2⟩; have hx := H4.out.below b2 H4.out.lt; have x0 := hx.cell 0; have x1 := hx.cell 1; have f0 := hx.frozen 0; have f1 := hx.frozen 1; have HX := Lib.hid hx; have HB3 := Lib.hid (bon HB2.out b2); clear o2 b2 hx)
    refine bodyPost_ret (results_way2 rfl rfl rfl (moblk_two _ _ HX.out)) rfl ?_
    exact GiveW.no H0.out (HB3.out.trans ((mokeep_two _ _ _ _).below HB3.out.size (fun i hi e => by omega)))
  subst h0
  rw [if_neg (fun h => h rfl)] at hE
  have hok := HOK.out rfl
  have hsb := sh1_bounds hok
  rw [hsh] at hsb
  clear hL0 HOK hok
  by_cases hN : Lx.length = 1
  case neg =>
    rw [if_pos hN] at hE
    rw [hE]
    have hne : ((Lx.length : Int) != 1) = true := by rw [bne_iff_ne]; omega
    clear hE hsb hAB hcf
    go_enter Try.func80, Try.ntmps80
    go_wp2_with (go_at_call 75; (try rw [hw1]); refine HAX.out.mono ?_; rintro e w2 ⟨A2, c2, rfl, o2, b2⟩; have hx := (H4.out.below b2 H4.out.lt).alloc (.cells #[.int .i64 1] 3); have x0 := hx.cell 0; have x1 := hx.cell 1; have f0 := hx.frozen 0; have f1 := hx.frozen 1; have HX := Lib.hid hx; have HB3 := Lib.hid (bon (bon HB2.out b2) (albel _ (.cells #[.int .i64 1] 3))); clear o2 b2 hx)
    refine bodyPost_ret (results_way2 rfl rfl rfl (moblk_two _ _ HX.out)) rfl ?_
    exact GiveW.no (by decide) (HB3.out.trans ((mokeep_two _ _ _ _).below HB3.out.size (fun i hi e => by omega)))
  rw [if_neg (fun h => h hN)] at hE
  obtain ⟨L, hL⟩ : ∃ L, cutL cf Lx ([1] : List Int) = L := ⟨_, rfl⟩
  have hLlen : L.length = Lx.length := by rw [← hL]; exact cutL_len hN
  have hLat : ∀ k, k < Lx.length → L[k]? = some (cf (Lx.getD k 0) (([1] : List Int).getD k 0)) := fun k hk => by rw [← hL]; exact cutL_at hN hk
  rw [hL] at hE
  rw [hL]
  have HSPO : Hid (∀ s ∈ L, spOk s) := Lib.hid (fun s hs => by
    obtain ⟨k, hk, e⟩ := List.mem_iff_getElem.1 hs
    have hk2 : k < Lx.length := by omega
    have e2 := hLat k hk2
    rw [List.getElem?_eq_getElem hk, e] at e2
    injection e2 with e2
    rw [e2]
    have b1 := hAB _ (getD_mem hk2)
    have b2 := hsb _ (getD_mem (show k < ([1] : List Int).length by have : ([1] : List Int).length = 1 := rfl; omega))
    exact (hcf _ _ b1.1 b1.2 b2.1 b2.2).1)
  have HCF : Hid (∀ k, k < Lx.length → ∃ s, L[k]? = some s ∧ ∀ W, Calls Try.prog cg #[.int .i64 (Lx.getD k 0), .int .i64 (([1] : List Int).getD k 0)] W (CutA s W)) := Lib.hid (fun k hk => by
    have b1 := hAB _ (getD_mem hk)
    have b2 := hsb _ (getD_mem (show k < ([1] : List Int).length by have : ([1] : List Int).length = 1 := rfl; omega))
    exact ⟨_, hLat k hk, (hcf _ _ b1.1 b1.2 b2.1 b2.2).2⟩)
  obtain ⟨N, hNN⟩ : ∃ N, Lx.length = N := ⟨_, rfl⟩
  have HE := Lib.hid hE
  have HLL := Lib.hid hLlen
  have HNL := Lib.hid hN
  have HNN := Lib.hid hNN
  have hN4 : N ≤ 4096 := by omega
  have hfa : Fence.wide.fn 75 := trivial
  have hfs : Fence.wide.fn 126 := trivial
  have hfg : Fence.wide.fn 78 := trivial
  have HAX2 : Hid (CallsIn Fence.wide 6 Try.prog 75 #[.agg #[.int .i64 ka, sa, la], .slice S 0 c] w1 (GiveL 3 Lx 0 w1)) := Lib.hid (callsIn_wide.2 HAX.out)
  unfold GiveL at HAX2
  rw [hNN] at HAX2
  obtain ⟨E, hEE⟩ : ∃ E, cwE cf a sh = E := ⟨_, rfl⟩
  have hE3 : E = if okShape (lensI L) = true then 0 else 9 := hEE.symm.trans hE
  rw [hEE]
  have HE3 := Lib.hid hE3
  clear hcf hAB hsb hLat hE hLlen hL HAX HE hEE hE3 hAL hs
  rw [hNN] at hN
  obtain rfl := hN
  have hN := hNN
  clear hN hNN
  refine (callsIn_wide (n := 7)).1 ?_
  refine callsIn_of_wp_marks Try.func80 rfl trivial ?_
  simp only [Try.ntmps80, List.size_toArray, List.length_cons, List.length_nil, Nat.reduceAdd, Nat.reduceSub, Array.replicate_succ, Array.replicate_zero, List.push_toArray, List.append_toArray, List.nil_append, List.cons_append]
  gi_wp2_with (first
    | (gi_at_call 75; (try rw [hw1]); refine HAX2.out.mono ?_; rintro e w2 ⟨A2, c2, rfl, o2, b2⟩
       have HO2 := Lib.hid o2
       have HBB2 := Lib.hid b2
       clear o2 b2)
    | (gi_at_call 126; refine (callsIn_wide.2 (moside_any _ _ _ _ _ _ _)).mono ?_; rintro e w7 ⟨rfl, hw7⟩))
  obtain ⟨hs3, k0, k1, k2, k3, hb3⟩ := ct_start hw7
  have HBU : Hid (Below w1.heap.size w1 (w2.alloc (.cells #[.int .i64 1] 3))) := Lib.hid (bon HBB2.out (albel _ _))
  obtain ⟨zs, hzs⟩ : ∃ zs, w2.heap.size + 1 = zs := ⟨_, rfl⟩
  have hzu : (w2.alloc (.cells #[.int .i64 1] 3)).heap.size = zs := by rw [← hzs]; simp
  rw [hzu] at hs3 k0 k1 k2 k3 hb3
  have HB13 : Hid (Below w1.heap.size w1 w7) := Lib.hid (HBU.out.trans (hb3.mono (by have := HBU.out.size; omega)))
  have HPRE : Hid (∀ W, Keep (fun i => i = zs ∨ i = zs + 1) w7 W → Below w1.heap.size w1 W ∧ SdPre (zs + 2) (zs + 3) A2 (some ⟨w2.heap.size, 0, none⟩) c2 1 Lx ([1] : List Int) W) := Lib.hid (fun W hk => by
    have hlt := HBU.out.size
    have hb := HB13.out.trans (hk.below (B := w1.heap.size) HB13.out.size (fun i hi e => by omega))
    have hbu : Below zs (w2.alloc (.cells #[.int .i64 1] 3)) W := hb3.trans (hk.below (B := zs) (by omega) (fun i hi e => by omega))
    have hbu2 : Below (w2.alloc (.cells #[.int .i64 1] 3)).heap.size (w2.alloc (.cells #[.int .i64 1] 3)) W := by rw [hzu]; exact hbu
    refine ⟨hb, ?_, ?_, ?_, ?_⟩
    · rw [HNN.out]; exact hk.blk k2 (by omega)
    · skip; exact hk.blk k3 (by omega)
    · rw [HNN.out]
      exact Reads.of_own (arown_stay ((Sin.of (albel w2 (.cells #[.int .i64 1] 3)) : Sin 0 _ _).own_ HO2.out (Nat.zero_le _)) hbu2 (fun g hg => (arown_lt ((Sin.of (albel w2 (.cells #[.int .i64 1] 3)) : Sin 0 _ _).own_ HO2.out (Nat.zero_le _)) g hg).2))
    · exact reads1 ((Blk.new w2 3 #[.int .i64 1]).below hbu2 (by simp)))
  have H0 : Hid (CtI w7 zs L 0 w7) := Lib.hid ⟨Keep.refl _ _, ⟨none, 0, k0, World.ownsRow_nil _ _ _ _⟩, none, 0, k1, World.ownsRow_nil _ _ _ _⟩
  have HS3 := Lib.hid hs3
  have hMV := side_moves 6 (zs + 2) (zs + 3) A2 (some ⟨w2.heap.size, 0, none⟩) c2 1 Lx ([1] : List Int) HNL.out (by rw [HNN.out]; omega) w7
  rw [HNN.out] at hMV
  have HZU := Lib.hid hzu
  have HH3 := Lib.hid (fun W (hb : Below w1.heap.size w1 W) => H3.out.below hb H3.out.lt)
  simp only [hzs, Nat.add_assoc, Nat.reduceAdd]
  clear hw7 hs3 k0 k1 k2 k3 hb3 hzu
  refine wpIn_rangeFunc_movesV rfl (by omega) (gf := 152) (lb := #[.pointer (some ⟨zs + 2, 0, none⟩), .pointer (some ⟨zs + 3, 0, none⟩)]) rfl trivial (enters_of Try.func152 (by kernel_rfl) rfl)
    hMV (Below.refl _ _) (fun _ _ => rfl)
    (fun k W => CtI w7 zs L k W ∧ k ≤ 1)
    (fun k _ W => CtI w7 zs L k W ∧ k < 1)
    (fun W => CtI w7 zs L 1 W)
    (fun cc W => False)
    (fun k W W' row hs hg hr => ⟨hs.1.own hg hr, hs.2⟩)
    (fun _ W W' row hs hg hr => hs.own hg hr)
    (fun cc W W' row hs hg hr => hs)
    (fun k W hs => (HPRE.out W hs.1.keep).2)
    (fun k W W' hs hx l o ho hc => by
      rcases hx with ⟨_, _, hb⟩ | ⟨_, rfl⟩
      · exact (hb.block l (Array.getElem?_eq_some_iff.1 ho).1).trans ho
      · exact ho)
    (fun k x W W' hs hx => ⟨hs.1.below hx.2, hx.1⟩)
    (fun k W W' hs hx => by
      obtain ⟨rfl, rfl⟩ := hx
      exact hs.1)
    ⟨H0.out, Nat.zero_le _⟩
    (fun k _ a' W => a' = { tmps := #[.agg #[.int .i64 ka, sa, la], .slice (some ⟨w2.heap.size, 0, none⟩) 1 1, .func (.func cg) #[] #[], .pointer (some ⟨w.heap.size, 0, none⟩), undef, .pointer (some ⟨w.heap.size + 1, 0, none⟩), .pointer (some ⟨w.heap.size + 2, 0, none⟩), .int .i64 0, .slice A2 1 c2, .int .i64 0, .pointer (some ⟨zs, 0, none⟩), .pointer (some ⟨zs + 1, 0, none⟩), .int .i64 (Lx.getD k 0), .int .i64 (([1] : List Int).getD k 0), undef, .tuple #[.slice A2 1 c2, .int .i64 0], .agg #[.int .i64 ka, sa, la], .slice S 0 c, .tuple #[.slice A2 1 c2, .int .i64 0], .slice A2 1 c2, .int .i64 0, .int .i64 0, .bool false, undef, undef, .slice S 0 c, .int .i64 0, .bool true, .slice (some ⟨w2.heap.size, 0, none⟩) 1 1, .slice A2 1 c2, .int .i64 1, .slice (some ⟨w2.heap.size, 0, none⟩) 1 1, .int .i64 1, .bool false, undef, .slice A2 1 c2, .slice (some ⟨w2.heap.size, 0, none⟩) 1 1, .func (.func 152) #[] #[.pointer (some ⟨zs + 2, 0, none⟩), .pointer (some ⟨zs + 3, 0, none⟩)], .int .i64 (Lx.getD k 0), .int .i64 (([1] : List Int).getD k 0), undef, undef, undef, undef, undef, undef, undef, undef, undef, undef, undef, undef, undef, undef, undef, undef, undef, undef], defers := [] } ∧ CtI w7 zs L k W ∧ k < 1)
    (fun k x a' _ W W' row hs hg hr => ⟨hs.1, hs.2.1.own hg hr, hs.2.2⟩)
    ?assign ?body ?done ?stop
  case assign =>
    intro l k x W K hI hK
    have HK := Lib.hid hK
    have HI := Lib.hid hI
    unfold sdAt
    generalize Lx.getD k 0 = nk at *
    generalize ([1] : List Int).getD k 0 = hk at *
    clear hK hI
    gi_wp2
    exact HK.out _ _ (mo_keeps_below _ (Below.refl _ _)) ⟨rfl, HI.out⟩
  case body =>
    rintro l k x a' W ⟨rfl, hI, hkN⟩
    obtain ⟨s, hs, hcut⟩ := HCF.out k (by rw [HNN.out]; exact hkN)
    have x5 := (HH3.out W (HPRE.out W hI.keep).1).cell 0
    have HC := Lib.hid (hcut W)
    obtain ⟨hx1, hx2⟩ := spL_succ L k s hs
    have HX1 := Lib.hid hx1
    have HX2 := Lib.hid hx2
    have HI := Lib.hid hI
    have HKN := Lib.hid hkN
    generalize Lx.getD k 0 = nk at *
    generalize ([1] : List Int).getD k 0 = hk at *
    have hspc : spC s = [.int .i64 s.len, .int .i64 s.frm, .int .i64 s.has] := rfl
    have HSC := Lib.hid hspc
    obtain ⟨i3, hi3, h3z0, h3z1, h3z2⟩ := info_parts moInfoSpan
    obtain ⟨i1, hi1, h1z0, h1z1, h1z2⟩ := info_parts arInfoInt
    unfold CutA at HC
    generalize s.len = sl at *
    generalize s.frm = sf at *
    generalize s.has = sh' at *
    clear hI hkN hs hcut hx1 hx2 hspc
    gi_wp2_with (first
      | (refine ⟨trivial, (CallsIn.inRound l (callsIn_wide.2 HC.out)).mono ?_⟩; rintro e' w9 ⟨rfl, b9⟩))
    obtain ⟨hk9, ⟨A1, c1, hb1, ho1⟩, A3, c3, hb3, ho3⟩ := HI.out.below b9
    obtain ⟨w10, hw10⟩ : ∃ w10, w9.alloc (.cells #[.int .i64 sl, .int .i64 sf, .int .i64 sh'] 125) = w10 := ⟨_, rfl⟩
    have hzs7 : zs + 4 = w7.heap.size := HS3.out.symm
    have hS0 := CtS.start (x3 := [.int .i64 sl, .int .i64 sf, .int .i64 sh']) (yv := .int .i64 sl) hw10 hk9.size hb1 hb3 ho1 ho3 (show zs < w7.heap.size by omega)
    have hk10 : Keep (fun i => i = zs ∨ i = zs + 1) w7 w10 := by rw [← hw10]; exact hk9.alloc _
    have HK10 := Lib.hid hk10
    have HKF : Hid (KeepsFrom w7.heap.size W w10) := Lib.hid (by rw [← hw10]; exact mo_keeps_below _ (bon b9 (albel _ _)))
    have HRB : Hid (w7.heap.size ≤ w9.heap.size) := Lib.hid hk9.size
    have HZ7 := Lib.hid hzs7
    rw [hw10]
    have hN4b : k ≤ 4096 := by have := HKN.out; omega
    obtain ⟨rb, hrb⟩ : ∃ rb, w9.heap.size = rb := ⟨_, rfl⟩
    rw [hrb] at hS0 HRB
    try rw [hrb]
    clear hb1 hb3 ho1 ho3 hk9 b9 hw10 hk10 hzs7
    refine wpIn_region_done_mute_on (fun ⟨_, _, h⟩ => h) (CtS w7.heap.size zs (zs + 1) rb w10 k (.slice A1 k c1) (.slice A3 k c3) (spL (L.take k)) ((lensI (L.take k)).map iv) [.int .i64 sl, .int .i64 sf, .int .i64 sh'] (.int .i64 sl)) (ctR w7.heap.size k (spL (L.take k)) ((lensI (L.take k)).map iv) [.int .i64 sl, .int .i64 sf, .int .i64 sh'] (.int .i64 sl) [.slice A1 k c1, .agg #[.int .i64 sl, .int .i64 sf, .int .i64 sh'], undef, undef, .slice A3 k c3, .pointer (some ⟨rb, 0, none⟩), .int .i64 sl]) (by kernel_rfl) (by intro o ho; simp only [List.mem_toArray, List.mem_cons, List.not_mem_nil, or_false] at ho; rcases ho with rfl | rfl | rfl | rfl | rfl | rfl | rfl | rfl | rfl | rfl | rfl <;> first | exact mute_load rfl | exact mute_fieldAddr rfl | exact mute_buildSlice rfl | exact mute_append rfl | exact mute_store rfl) 58 rfl (by kernel_rfl) hS0 ?_ ?_
    · intro i hi
      have hi2 : i < 11 := hi
      clear hi
      rcases i with _ | i
      · refine ct_value (by decide) (by decide) (by decide) (by decide) (by decide) (by decide) rfl (.slice A1 k c1) rfl ?_
        intro dn a8 w8 hS hx ho hn
        have o10 : a8.tmps[10]? = some _ := (ho 10 (by kernel_rfl)).trans rfl
        have y0 := (hS.bs (hS.nine (hx 3 (by kernel_rfl))).2.1).cell 0
        clear ho hn hx
        refine ⟨wanted_free rfl, ?_⟩
        go_simp
      rcases i with _ | i
      · refine ct_value (by decide) (by decide) (by decide) (by decide) (by decide) (by decide) rfl (.agg #[.int .i64 sl, .int .i64 sf, .int .i64 sh']) rfl ?_
        intro dn a8 w8 hS hx ho hn
        have o14 : a8.tmps[14]? = some _ := (ho 14 (by kernel_rfl)).trans rfl
        have y0 := hS.rbk.cell 0
        have y1 := hS.rbk.cell 1
        have y2 := hS.rbk.cell 2
        clear ho hn hx
        refine ⟨wanted_free rfl, ?_⟩
        go_simp
      rcases i with _ | i
      · refine done_make rfl ?_
        intro dn a8 w8 hS hd hx ho hn
        obtain ⟨v45, n45, hq45⟩ := hn 1 45 (by kernel_rfl) rfl
        obtain rfl : v45 = .agg #[.int .i64 sl, .int .i64 sf, .int .i64 sh'] := hq45
        clear ho hn hx
        have hb := albel w8 (.cells #[.int .i64 sl, .int .i64 sf, .int .i64 sh'] 125)
        refine ⟨wanted_free rfl, .slice (some ⟨w8.heap.size, 0, none⟩) 1 1, w8.alloc (.cells #[.int .i64 sl, .int .i64 sf, .int .i64 sh'] 125), (by go_simp), (hS.below hb).up (by decide) (by decide) (by decide) (by decide), ⟨w8.heap.size, rfl, fun _ => Blk.new w8 _ _⟩, fun j u _ _ hR => ctR_step (fun g _ _ h => h.below hb h.lt) (fun g _ _ h => h.below hb h.lt) (fun _ v n xs h => arown_stay h hb (fun g hg => (arown_lt h g hg).2)) (fun _ v n xs h => arown_stay h hb (fun g hg => (arown_lt h g hg).2)) hR⟩
      rcases i with _ | i
      · refine done_make rfl ?_
        intro dn a8 w8 hS hd hx ho hn
        obtain ⟨v44, n44, hq44⟩ := hn 0 44 (by kernel_rfl) rfl
        obtain rfl : v44 = .slice A1 k c1 := hq44
        obtain ⟨v46, n46, hq46⟩ := hn 2 46 (by kernel_rfl) rfl
        obtain ⟨g, rfl, hg⟩ := hq46
        clear ho hn hx
        have h9 := hS.nine hd
        obtain ⟨v', w', hrun, hown, hgrow, _⟩ := run_append_any (P := Try.prog) w8 w7.heap.size 120 120 125 i3 _ 3 24 Try.underlying120 hi3 h3z0 h3z1 h3z2 rfl (by decide) _ k _ (hS.s1 hd) w8.heap.size (some ⟨g, 0, none⟩) 1 1 _ (reads3 (hg hd) rfl) (by intro u hu; simp only [List.mem_cons, List.not_mem_nil, or_false] at hu; rcases hu with rfl | rfl | rfl <;> rfl) (by unfold maxLen; omega) (by omega) hS.sz
        obtain ⟨A', c', rfl⟩ := mo_own_slice hown
        refine ⟨wanted_free rfl, _, w', exec_append (.tmp 44) (.tmp 46) 120 rfl (eval_of n44) (eval_of n46) hrun, hS.app3 (by have := HZ7.out; omega) (by have := HZ7.out; omega) hd hgrow, ⟨upd_self _ _, A', c', rfl, hown⟩, fun j u _ _ hR => ctR_step (fun g _ e _ => by rw [upd_self] at e; cases e) (fun g _ _ h => blk_gr h hgrow (own_typ (hS.s1 hd)) (by decide)) (fun e => by rw [hd] at e; cases e) (fun e => by rw [h9.1] at e; cases e) hR⟩
      rcases i with _ | i
      · refine ct_value (by decide) (by decide) (by decide) (by decide) (by decide) (by decide) rfl (.slice A3 k c3) rfl ?_
        intro dn a8 w8 hS hx ho hn
        have o11 : a8.tmps[11]? = some _ := (ho 11 (by kernel_rfl)).trans rfl
        have y0 := (hS.bl (hS.nine8 (hx 8 (by kernel_rfl))).2).cell 0
        clear ho hn hx
        refine ⟨wanted_free rfl, ?_⟩
        go_simp
      rcases i with _ | i
      · refine ct_value (by decide) (by decide) (by decide) (by decide) (by decide) (by decide) rfl (.pointer (some ⟨rb, 0, none⟩)) rfl ?_
        intro dn a8 w8 hS hx ho hn
        have o14 : a8.tmps[14]? = some _ := (ho 14 (by kernel_rfl)).trans rfl
        clear ho hn hx
        refine ⟨wanted_free rfl, ?_⟩
        go_simp
      rcases i with _ | i
      · refine ct_value (by decide) (by decide) (by decide) (by decide) (by decide) (by decide) rfl (.int .i64 sl) rfl ?_
        intro dn a8 w8 hS hx ho hn
        obtain ⟨v49, n49, hq49⟩ := hn 5 49 (by kernel_rfl) rfl
        obtain rfl : v49 = .pointer (some ⟨rb, 0, none⟩) := hq49
        have y0 := hS.rbk.cell 0
        clear ho hn hx
        refine ⟨wanted_free rfl, ?_⟩
        go_simp
      rcases i with _ | i
      · refine done_make rfl ?_
        intro dn a8 w8 hS hd hx ho hn
        obtain ⟨v50, n50, hq50⟩ := hn 6 50 (by kernel_rfl) rfl
        obtain rfl : v50 = .int .i64 sl := hq50
        clear ho hn hx
        have hb := albel w8 (.cells #[.int .i64 sl] 3)
        refine ⟨wanted_free rfl, .slice (some ⟨w8.heap.size, 0, none⟩) 1 1, w8.alloc (.cells #[.int .i64 sl] 3), (by go_simp), (hS.below hb).up (by decide) (by decide) (by decide) (by decide), ⟨w8.heap.size, rfl, fun _ => Blk.new w8 _ _⟩, fun j u _ _ hR => ctR_step (fun g _ _ h => h.below hb h.lt) (fun g _ _ h => h.below hb h.lt) (fun _ v n xs h => arown_stay h hb (fun g hg => (arown_lt h g hg).2)) (fun _ v n xs h => arown_stay h hb (fun g hg => (arown_lt h g hg).2)) hR⟩
      rcases i with _ | i
      · refine done_make rfl ?_
        intro dn a8 w8 hS hd hx ho hn
        obtain ⟨v48, n48, hq48⟩ := hn 4 48 (by kernel_rfl) rfl
        obtain rfl : v48 = .slice A3 k c3 := hq48
        obtain ⟨v51, n51, hq51⟩ := hn 7 51 (by kernel_rfl) rfl
        obtain ⟨g, rfl, hg⟩ := hq51
        obtain ⟨v47, n47, hq47⟩ := hn 3 47 (by kernel_rfl) rfl
        have h3 := hq47.1
        clear ho hn hx hq47
        obtain ⟨v', w', hrun, hown, hgrow, _⟩ := run_append_any (P := Try.prog) w8 w7.heap.size 22 22 3 i1 _ 1 8 Try.underlying22 hi1 h1z0 h1z1 h1z2 rfl (by decide) _ k _ (hS.l1 hd) w8.heap.size (some ⟨g, 0, none⟩) 1 1 _ (reads1 (hg hd)) (by intro u hu; simp only [List.mem_cons, List.not_mem_nil, or_false] at hu; subst hu; rfl) (by unfold maxLen; omega) (by omega) hS.sz
        obtain ⟨A', c', rfl⟩ := mo_own_slice hown
        refine ⟨wanted_free rfl, _, w', exec_append (.tmp 48) (.tmp 51) 22 rfl (eval_of n48) (eval_of n51) hrun, hS.app8 (by have := HZ7.out; omega) (by have := HZ7.out; omega) hd h3 hgrow, ⟨upd_self _ _, A', c', rfl, hown⟩, fun j u _ _ hR => ctR_step (fun g e _ _ => by rw [h3] at e; cases e) (fun g _ e _ => by rw [upd_self] at e; cases e) (fun _ v n xs h => own_gr h hgrow (own_typ (hS.l1 hd)) (by decide)) (fun e => by rw [hd] at e; cases e) hR⟩
      rcases i with _ | i
      · refine done_store rfl rfl ?_
        intro dn a8 w8 hS hd hx ho hn
        obtain ⟨v47, n47, hq47⟩ := hn 3 47 (by kernel_rfl) rfl
        obtain ⟨_, A', c', rfl, hown⟩ := hq47
        obtain ⟨v52, n52, hq52⟩ := hn 8 52 (by kernel_rfl) rfl
        have h8 := hq52.1
        have o10 : a8.tmps[10]? = some _ := (ho 10 (by kernel_rfl)).trans rfl
        have y0 := (hS.bs hd).cell 0
        have f0 := (hS.bs hd).frozen 0
        clear ho hn hx hq52
        have hk : Keep (fun i => i = zs) w8 (w8.setCell ⟨zs, 0, none⟩ (.slice A' (k + 1) c')) := (Keep.refl _ _).setCell _ _ (fun _ => rfl)
        have h3 := hS.d8 h8
        refine ⟨wanted_free rfl, w8.setCell ⟨zs, 0, none⟩ (.slice A' (k + 1) c'), (by go_simp), hS.put9 (by have := HZ7.out; omega) (by omega) HRB.out hd h8 hown, rfl, fun j u _ _ hR => ctR_step (fun g e _ _ => by rw [h3] at e; cases e) (fun g e _ _ => by rw [h8] at e; cases e) (fun _ v n xs h => hk.own h (fun g e e2 => by have := (arown_lt h g e).1; have := HZ7.out; omega)) (fun _ v n xs h => hk.own h (fun g e e2 => by have := (arown_lt h g e).1; have := HZ7.out; omega)) hR⟩
      rcases i with _ | i
      · refine done_store rfl rfl ?_
        intro dn a8 w8 hS hd hx ho hn
        obtain ⟨v52, n52, hq52⟩ := hn 8 52 (by kernel_rfl) rfl
        obtain ⟨h8, A', c', rfl, hown⟩ := hq52
        have o11 : a8.tmps[11]? = some _ := (ho 11 (by kernel_rfl)).trans rfl
        have y0 := (hS.bl hd).cell 0
        have f0 := (hS.bl hd).frozen 0
        clear ho hn hx
        have hk : Keep (fun i => i = zs + 1) w8 (w8.setCell ⟨zs + 1, 0, none⟩ (.slice A' (k + 1) c')) := (Keep.refl _ _).setCell _ _ (fun _ => rfl)
        have h3 := hS.d8 h8
        refine ⟨wanted_free rfl, w8.setCell ⟨zs + 1, 0, none⟩ (.slice A' (k + 1) c'), (by go_simp), hS.put10 (by have := HZ7.out; omega) (by omega) HRB.out hd h8 hown, rfl, fun j u _ _ hR => ctR_step (fun g e _ _ => by rw [h3] at e; cases e) (fun g e _ _ => by rw [h8] at e; cases e) (fun _ v n xs h => hk.own h (fun g e e2 => by have := (arown_lt h g e).1; have := HZ7.out; omega)) (fun _ v n xs h => hk.own h (fun g e e2 => by have := (arown_lt h g e).1; have := HZ7.out; omega)) hR⟩
      omega
    · intro dn fv w5 hS5 hR5 hall
      obtain ⟨_, A5, c5, hb5, ho5⟩ := hS5.e9 (hall 9 (by decide))
      obtain ⟨_, A6, c6, hb6, ho6⟩ := hS5.e10 (hall 10 (by decide))
      have e5 := HX1.out
      rw [HSC.out] at e5
      rw [← e5] at ho5
      rw [← HX2.out] at ho6
      exact ⟨mo_keeps_on HKF.out hS5.kf, ⟨HK10.out.trans hS5.kp (fun i hi h => by rcases h with h | h | h <;> omega), ⟨A5, c5, hb5, ho5⟩, A6, c6, hb6, ho6⟩, HKN.out⟩
  case done =>
    rintro D W hD hI hK
    have hbw := (HPRE.out W hI.keep).1
    obtain ⟨_, ⟨A5, c5, hb5, ho5⟩, A6, c6, hb6, ho6⟩ := hI
    have hLN : L.length = 1 := HLL.out.trans HNN.out
    have hlN : (lensI L).length = 1 := by unfold lensI; rw [List.length_map]; exact hLN
    have htk : L.take 1 = L := List.take_of_length_le (by omega)
    rw [htk] at ho5 ho6
    have hbz : zs ≤ W.heap.size := by have := hb5.lt; omega
    have hz7 := HS3.out
    have hHGA : Calls Try.prog 78 #[.slice A6 1 c6, .func (.func 127) #[] #[.pointer (some ⟨zs, 0, none⟩)]] W (GiveW zs (lensI L) (srcF L) (if okShape (lensI L) = true then 0 else 9) W) := by
      have h := mogather_any zs A6 c6 (lensI L) 127 #[.pointer (some ⟨zs, 0, none⟩)] (enters_of Try.func127 (by kernel_rfl) rfl) (srcF L) W (by rw [hlN]; exact arown_mono ho6 (by omega)) hbz (by rw [hlN]; omega) (fun hk W' hs' n hn => by
        obtain ⟨g, hg⟩ : ∃ g, A5 = some ⟨g, 0, none⟩ := by
          rcases ho5.2 with ⟨_, h0⟩ | ⟨g, cap, cur, e, _⟩
          · exfalso
            omega
          · injection e with e _ _
            exact ⟨g, e⟩
        subst hg
        refine mocut1_any w7.heap.size zs g c5 L n W' ?_ hk hn HSPO.out ?_
        · rw [hLN]; exact hs'.blk_ hb5 (Nat.le_refl _)
        · rw [hLN]; exact hs'.own_ ho5 (by omega))
      rw [hlN] at h
      exact h
    have y0 := hb6.cell 0
    have hx4 := H4.out.below hbw H4.out.lt
    have HX4 := Lib.hid hx4
    have HBW := Lib.hid hbw
    have HKK := Lib.hid hK
    have hE3 := HE3.out
    have HD7 : Hid (w.heap.size + 2 < D ∧ D < W.heap.size ∧ w.heap.size + 2 < zs) := Lib.hid (by
      have h1 := HSZ1.out
      have h2 := HBU.out.size
      have h3 := HZU.out
      have h4 := (Array.getElem?_eq_some_iff.1 hK).1
      omega)
    cases hok : okShape (lensI L)
    · rw [hok, if_neg (by decide)] at hHGA hE3
      subst hE3
      have HGA := Lib.hid (callsIn_wide (n := 6) |>.2 hHGA)
      clear hHGA hb5 ho5 hb6 ho6 hlN htk hbz hz7 hLN hbw hK hx4 hok
      gi_wp2_with (gi_at_call 78; refine HGA.out.mono ?_; rintro e w8 ⟨v, rfl, b8, hy, hn⟩; obtain rfl := hn (by decide); have hx8 := HX4.out.below b8 HX4.out.lt; have x0 := hx8.cell 0; have x1 := hx8.cell 1; have f0 := hx8.frozen 0; have f1 := hx8.frozen 1; have HX8 := Lib.hid hx8; have HB8 := Lib.hid b8; clear hx8 b8 hy hn)
      have hF := cut_fin (v0 := .slice none 0 0) (v1 := .nilFunc) HX8.out (bon (bon HB2.out HBW.out) HB8.out) ((HB8.out.block D HD7.out.2.1).trans HKK.out) (by have := HD7.out; omega)
      exact ⟨by simp, .inl ⟨_, _, rfl, run_takeDeferred hF.1, _, results_way2 rfl rfl rfl hF.2.1, GiveW.no (by decide) hF.2.2.1⟩⟩
    · rw [hok, if_pos rfl] at hHGA hE3
      subst hE3
      have HGA := Lib.hid (callsIn_wide (n := 6) |>.2 hHGA)
      have HOK2 := Lib.hid hok
      clear hHGA hb5 ho5 hb6 ho6 hlN htk hbz hz7 hLN hbw hK hx4 hok
      gi_wp2_with (gi_at_call 78; refine HGA.out.mono ?_; rintro e w8 ⟨v, rfl, b8, hy, hn⟩; obtain ⟨_, A8, c8, gf8, cap8, rfl, hy5⟩ := hy rfl; have HY : Hid (WayAt zs w8 (.agg #[.slice A8 (lensI L).length c8, .func (.func gf8) #[] cap8]) (lensI L) (srcF L)) := Lib.hid ⟨A8, c8, gf8, cap8, rfl, hy5⟩; have hx8 := HX4.out.below b8 HX4.out.lt; have x0 := hx8.cell 0; have x1 := hx8.cell 1; have f0 := hx8.frozen 0; have f1 := hx8.frozen 1; have HX8 := Lib.hid hx8; have HB8 := Lib.hid b8; clear hx8 b8 hy hn hy5)
      have hF := cut_fin (v0 := .slice A8 (lensI L).length c8) (v1 := .func (.func gf8) #[] cap8) HX8.out (bon (bon HB2.out HBW.out) HB8.out) ((HB8.out.block D HD7.out.2.1).trans HKK.out) (by have := HD7.out; omega)
      exact ⟨by simp, .inl ⟨_, _, rfl, run_takeDeferred hF.1, _, results_way2 rfl rfl rfl hF.2.1, _, rfl, hF.2.2.1, fun _ => ⟨HOK2.out, (hF.2.2.2 zs HD7.out.2.2 _ _ _ HY.out).base (by have := HD7.out; omega)⟩, fun h => absurd rfl h⟩⟩
  case stop =>
    rintro D c' W hD h hK
    exact h.elim
end
end Go.Proofs.Ytenpohnccnlngaa.mo

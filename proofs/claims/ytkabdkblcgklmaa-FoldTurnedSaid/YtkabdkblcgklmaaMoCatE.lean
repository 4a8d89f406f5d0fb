/-
  Layer 13 (mold): CatWay.
  Layer 13 (mold): Cat.
-/
import Derived.Test.YtkabdkblcgklmaaMoCatR
import Derived.Test.YtkabdkblcgklmaaMoMold
import Derived.Test.YtkabdkblcgklmaaDone
import Derived.Test.YtkabdkblcgklmaaMoCut
import Derived.Test.YtkabdkblcgklmaaHeads
namespace Go.Proofs.Ytkabdkblcgklmaa.mo
open Go.RowKit Go.Proofs.Ytkabdkblcgklmaa.arr

/-- CatWay's shape, error, and where elements come from. -/
def ctwN (a b : List Int) : Nat := (exL a b).length - 1
def ctwL (a b : List Int) : List Int := (exL a b).take (ctwN a b) ++ [(exL a b).getD (ctwN a b) 0 + (exL b a).getD (ctwN a b) 0]
def ctwE (a b : List Int) : Int := if (okShape a && okShape b) = false then 110 else if (exL a b).length ≠ (exL b a).length then 3 else if (exL a b).take (ctwN a b) ≠ (exL b a).take (ctwN a b) then 4 else if okShape (ctwL a b) = true then 0 else 9
def ctwF (a b : List Int) : Nat → Int × Int := catF ((exL a b).getD (ctwN a b) 0 + (exL b a).getD (ctwN a b) 0).toNat ((exL a b).getD (ctwN a b) 0).toNat ((exL b a).getD (ctwN a b) 0).toNat (prodI a).toNat (prodI b).toNat
theorem exL_pos (a b : List Int) : 0 < (exL a b).length := by
  unfold exL
  split
  · simp
  · split
    · simp
    · omega
theorem exL_bounds {a b : List Int} (ha : okShape a = true) (hb : okShape b = true) : ∀ x ∈ exL a b, 0 ≤ x ∧ x ≤ 4096 := by
  have h1 : ∀ l, okShape l = true → ∀ x ∈ l, 0 ≤ x ∧ x ≤ 4096 := fun l h x hx => lenOk_iff.1 (List.all_eq_true.1 (okShape_iff.1 h).2.1 x hx)
  intro x hx
  unfold exL at hx
  split at hx
  · rcases List.mem_append.1 hx with h | h
    · exact h1 b hb x (List.mem_of_mem_take h)
    · rw [List.mem_singleton] at h
      omega
  · split at hx
    · rcases List.mem_append.1 hx with h | h
      · exact h1 a ha x h
      · rw [List.mem_singleton] at h
        omega
    · exact h1 a ha x hx
theorem exL_len4 {a b : List Int} (ha : okShape a = true) (hb : okShape b = true) : (exL a b).length ≤ 5 := by
  have h1 := (okShape_iff.1 ha).1
  have h2 := (okShape_iff.1 hb).1
  unfold exL
  split
  · simp; omega
  · split
    · simp; omega
    · omega
/-- What stands: the counts' boxes, and the result. -/
structure CwI (w : World) (CA CB : Nat) (W : World) : Prop where
  r : Blk W w.heap.size 87 #[.slice none 0 0, .nilFunc]
  x : Blk W (w.heap.size + 1) 3 #[.int .i64 (CA : Int)]
  y : Blk W (w.heap.size + 1 + 1) 3 #[.int .i64 (CB : Int)]
  fb : Below w.heap.size w W
theorem CwI.below {w W W' : World} {CA CB : Nat} (h : CwI w CA CB W) (hb : Below W.heap.size W W') : CwI w CA CB W' := ⟨h.r.below hb h.r.lt, h.x.below hb h.x.lt, h.y.below hb h.y.lt, bon h.fb hb⟩
theorem CwI.start (w : World) (CA CB : Nat) : CwI w CA CB (((w.alloc (.cells #[.slice none 0 0, .nilFunc] 87)).alloc (.cells #[.int .i64 (CA : Int)] 3)).alloc (.cells #[.int .i64 (CB : Int)] 3)) := by
  refine ⟨((Blk.new w _ _).alloc _).alloc _, ?_, ?_, mobelow3 _ _ _⟩
  · have h := (Blk.new (w.alloc (.cells #[.slice none 0 0, .nilFunc] 87)) 3 #[.int .i64 (CA : Int)]).alloc (.cells #[.int .i64 (CB : Int)] 3)
    simpa only [World.size_alloc] using h
  · have h := Blk.new ((w.alloc (.cells #[.slice none 0 0, .nilFunc] 87)).alloc (.cells #[.int .i64 (CA : Int)] 3)) 3 #[.int .i64 (CB : Int)]
    simpa only [World.size_alloc] using h

theorem ex_pos {a b : List Int} (h : 0 < prodI (exL a b)) : 0 < prodI a := by
  unfold exL at h
  split at h
  · rename_i h0
    rw [List.eq_nil_of_length_eq_zero h0.1]
    decide
  · split at h
    · rw [prodI_append] at h
      have e : prodI [1] = 1 := rfl
      rw [e, Int.mul_one] at h
      exact h
    · exact h
/-- What the region of the two boxes turns. -/
structure AlS (w0 : World) (x y : Value) (dn : Nat → Bool) (T : Array Value) (W : World) : Prop where
  b : Below w0.heap.size w0 W
  h8 : dn 8 = true → ∃ g, T[13]? = some (.pointer (some ⟨g, 0, none⟩)) ∧ w0.heap.size ≤ g ∧ ∃ u, Blk W g 3 #[u] ∧ (dn 10 = true → u = x)
  h9 : dn 9 = true → ∃ g, T[14]? = some (.pointer (some ⟨g, 0, none⟩)) ∧ w0.heap.size ≤ g ∧ ∃ u, Blk W g 3 #[u] ∧ (dn 11 = true → u = y)
  ne : dn 8 = true → dn 9 = true → T[13]? ≠ T[14]?
  d10 : dn 10 = true → dn 8 = true
  d11 : dn 11 = true → dn 9 = true
theorem AlS.up {w0 W : World} {x y : Value} {dn : Nat → Bool} {T : Array Value} {i : Nat} (h8 : i ≠ 8) (h9 : i ≠ 9) (h10 : i ≠ 10) (h11 : i ≠ 11) (d : Nat) (h13 : d ≠ 13) (h14 : d ≠ 14) (v : Value) (h : AlS w0 x y dn T W) : AlS w0 x y (upd dn i) (T.setIfInBounds d v) W := by
  have e8 := upd_off (dn := dn) h8
  have e9 := upd_off (dn := dn) h9
  have e10 := upd_off (dn := dn) h10
  have e11 := upd_off (dn := dn) h11
  have t13 : (T.setIfInBounds d v)[13]? = T[13]? := Array.getElem?_setIfInBounds_ne h13
  have t14 : (T.setIfInBounds d v)[14]? = T[14]? := Array.getElem?_setIfInBounds_ne h14
  refine ⟨h.b, fun e => ?_, fun e => ?_, fun e f => by rw [t13, t14]; exact h.ne (e8 ▸ e) (e9 ▸ f), fun e => e8 ▸ h.d10 (e10 ▸ e), fun e => e9 ▸ h.d11 (e11 ▸ e)⟩
  · rw [t13, e10]; exact h.h8 (e8 ▸ e)
  · rw [t14, e11]; exact h.h9 (e9 ▸ e)
theorem AlS.make8 {w0 W : World} {x y u : Value} {dn : Nat → Bool} {T : Array Value} (hT : 13 < T.size) (hd : dn 8 = false) (h : AlS w0 x y dn T W) : AlS w0 x y (upd dn 8) (T.setIfInBounds 13 (.pointer (some ⟨W.heap.size, 0, none⟩))) (W.alloc (.cells #[u] 3)) := by
  have e9 := upd_off (dn := dn) (i := 8) (j := 9) (by decide)
  have e10 := upd_off (dn := dn) (i := 8) (j := 10) (by decide)
  have e11 := upd_off (dn := dn) (i := 8) (j := 11) (by decide)
  have t13 : (T.setIfInBounds 13 (.pointer (some ⟨W.heap.size, 0, none⟩)))[13]? = some (.pointer (some ⟨W.heap.size, 0, none⟩)) := by simp [hT]
  have t14 : (T.setIfInBounds 13 (.pointer (some ⟨W.heap.size, 0, none⟩)))[14]? = T[14]? := Array.getElem?_setIfInBounds_ne (by decide)
  have n10 : dn 10 = false := by
    cases h1 : dn 10 with
    | false => rfl
    | true => rw [h.d10 h1] at hd; cases hd
  refine ⟨h.b.alloc h.b.size _, fun _ => ⟨W.heap.size, t13, h.b.size, u, Blk.new W _ _, fun e => (by rw [e10, n10] at e; cases e)⟩, fun e => ?_, fun _ f => ?_, fun e => (by rw [e10, n10] at e; cases e), fun e => e9 ▸ h.d11 (e11 ▸ e)⟩
  · obtain ⟨g, h1, h2, u', h3, h4⟩ := h.h9 (e9 ▸ e)
    exact ⟨g, t14.trans h1, h2, u', h3.alloc _, fun e => h4 (e11 ▸ e)⟩
  · obtain ⟨g, h1, h2, u', h3, h4⟩ := h.h9 (e9 ▸ f)
    rw [t13, t14, h1]
    intro e
    injection e with e
    injection e with e
    injection e with e
    injection e with e
    have := h3.lt
    omega
theorem AlS.make9 {w0 W : World} {x y u : Value} {dn : Nat → Bool} {T : Array Value} (hT : 14 < T.size) (hd : dn 9 = false) (h : AlS w0 x y dn T W) : AlS w0 x y (upd dn 9) (T.setIfInBounds 14 (.pointer (some ⟨W.heap.size, 0, none⟩))) (W.alloc (.cells #[u] 3)) := by
  have e8 := upd_off (dn := dn) (i := 9) (j := 8) (by decide)
  have e10 := upd_off (dn := dn) (i := 9) (j := 10) (by decide)
  have e11 := upd_off (dn := dn) (i := 9) (j := 11) (by decide)
  have t14 : (T.setIfInBounds 14 (.pointer (some ⟨W.heap.size, 0, none⟩)))[14]? = some (.pointer (some ⟨W.heap.size, 0, none⟩)) := by simp [hT]
  have t13 : (T.setIfInBounds 14 (.pointer (some ⟨W.heap.size, 0, none⟩)))[13]? = T[13]? := Array.getElem?_setIfInBounds_ne (by decide)
  have n11 : dn 11 = false := by
    cases h1 : dn 11 with
    | false => rfl
    | true => rw [h.d11 h1] at hd; cases hd
  refine ⟨h.b.alloc h.b.size _, fun e => ?_, fun _ => ⟨W.heap.size, t14, h.b.size, u, Blk.new W _ _, fun e => (by rw [e11, n11] at e; cases e)⟩, fun f _ => ?_, fun e => e8 ▸ h.d10 (e10 ▸ e), fun e => (by rw [e11, n11] at e; cases e)⟩
  · obtain ⟨g, h1, h2, u', h3, h4⟩ := h.h8 (e8 ▸ e)
    exact ⟨g, t13.trans h1, h2, u', h3.alloc _, fun e => h4 (e10 ▸ e)⟩
  · obtain ⟨g, h1, h2, u', h3, h4⟩ := h.h8 (e8 ▸ f)
    rw [t13, t14, h1]
    intro e
    injection e with e
    injection e with e
    injection e with e
    injection e with e
    have := h3.lt
    omega
theorem AlS.put10 {w0 W : World} {x y : Value} {dn : Nat → Bool} {T : Array Value} {g : Nat} (h8 : dn 8 = true) (hg : T[13]? = some (.pointer (some ⟨g, 0, none⟩))) (h : AlS w0 x y dn T W) : AlS w0 x y (upd dn 10) T (W.setCell ⟨g, 0, none⟩ x) := by
  have e8 := upd_off (dn := dn) (i := 10) (j := 8) (by decide)
  have e9 := upd_off (dn := dn) (i := 10) (j := 9) (by decide)
  have e11 := upd_off (dn := dn) (i := 10) (j := 11) (by decide)
  obtain ⟨g', h1, h2, u, h3, h4⟩ := h.h8 h8
  have hgg : g' = g := by
    rw [hg] at h1
    injection h1 with h1
    injection h1 with h1
    injection h1 with h1
    injection h1 with h1
    exact h1.symm
  subst hgg
  refine ⟨h.b.setCell (p := ⟨g', 0, none⟩) h2 _, fun _ => ⟨g', hg, h2, x, h3.set_ 0 x, fun _ => rfl⟩, fun e => ?_, fun e f => h.ne (e8 ▸ e) (e9 ▸ f), fun _ => e8 ▸ h8, fun e => e9 ▸ h.d11 (e11 ▸ e)⟩
  obtain ⟨g2, k1, k2, u2, k3, k4⟩ := h.h9 (e9 ▸ e)
  have hne : g2 ≠ g' := fun e2 => h.ne h8 (e9 ▸ e) (by rw [hg, k1, e2])
  exact ⟨g2, k1, k2, u2, k3.far hne _, fun e => k4 (e11 ▸ e)⟩
theorem AlS.put11 {w0 W : World} {x y : Value} {dn : Nat → Bool} {T : Array Value} {g : Nat} (h9 : dn 9 = true) (hg : T[14]? = some (.pointer (some ⟨g, 0, none⟩))) (h : AlS w0 x y dn T W) : AlS w0 x y (upd dn 11) T (W.setCell ⟨g, 0, none⟩ y) := by
  have e8 := upd_off (dn := dn) (i := 11) (j := 8) (by decide)
  have e9 := upd_off (dn := dn) (i := 11) (j := 9) (by decide)
  have e10 := upd_off (dn := dn) (i := 11) (j := 10) (by decide)
  obtain ⟨g', h1, h2, u, h3, h4⟩ := h.h9 h9
  have hgg : g' = g := by
    rw [hg] at h1
    injection h1 with h1
    injection h1 with h1
    injection h1 with h1
    injection h1 with h1
    exact h1.symm
  subst hgg
  refine ⟨h.b.setCell (p := ⟨g', 0, none⟩) h2 _, fun e => ?_, fun _ => ⟨g', hg, h2, y, h3.set_ 0 y, fun _ => rfl⟩, fun e f => h.ne (e8 ▸ e) (e9 ▸ f), fun e => e8 ▸ h.d10 (e10 ▸ e), fun _ => e9 ▸ h9⟩
  obtain ⟨g2, k1, k2, u2, k3, k4⟩ := h.h8 (e8 ▸ e)
  have hne : g2 ≠ g' := fun e2 => h.ne (e8 ▸ e) h9 (by rw [hg, k1, e2])
  exact ⟨g2, k1, k2, u2, k3.far hne _, fun e => k4 (e10 ▸ e)⟩
section
variable {P : Program} {ops : Array Oper} {Q : Exit → Act → World → Prop} {md : Region.Mode} {a0 : Act} {o : Oper} {i : Nat} {w0 : World} {x y : Value} {vals : List Value}
def alR (vals : List Value) (dn : Nat → Bool) (i : Nat) (v : Value) (_ : World) : Prop := (i ≠ 8 → i ≠ 9 → v = vals.getD i undef) ∧ (i = 8 → dn 8 = true) ∧ (i = 9 → dn 9 = true)
theorem alR_up {dn : Nat → Bool} {j : Nat} {u : Value} {W W' : World} (h : alR vals dn j u W) : alR vals (upd dn i) j u W' := ⟨h.1, fun e => upd_on (h.2.1 e), fun e => upd_on (h.2.2 e)⟩
theorem al_value (h8 : i ≠ 8) (h9 : i ≠ 9) (h10 : i ≠ 10) (h11 : i ≠ 11) (hi : ops[i]? = some o) (d : Tmp) (hdst : dstOf ops i = some d) (h13 : d ≠ 13) (h14 : d ≠ 14) (v : Value) (hv : vals.getD i undef = v)
    (h : ∀ (a : Act) (w : World), Below w0.heap.size w0 w → (∀ t, free md ops i t = true → a.tmps[t]? = a0.tmps[t]?) → (∀ j d, behind md ops i j = true → dstOf ops j = some d → ∃ v, a.tmps[d]? = some v ∧ (j ≠ 8 → j ≠ 9 → v = vals.getD j undef)) →
      Region.wanted o (yielded ops a.tmps) = true ∧ (execOp a.eval o).run P w = .ok (.value v) w) : DoneStepT P md ops Q (AlS w0 x y) (alR vals) a0 i :=
  doneT_make hi (fun dn a w hS _ _ ho hn => by
    obtain ⟨e1, e2⟩ := h a w hS.b ho (fun j d hb hd => by
      obtain ⟨u, hu, hR⟩ := hn j d hb hd
      exact ⟨u, hu, hR.1⟩)
    refine ⟨e1, v, w, e2, ?_, ⟨fun _ _ => hv.symm, fun e => absurd e h8, fun e => absurd e h9⟩, fun j u _ _ hR => alR_up hR⟩
    rw [hdst]
    exact hS.up h8 h9 h10 h11 d h13 h14 v)
end

theorem own_some {W : World} {base n c : Nat} {A : Option Addr} {xs : List Value} (h : W.ownsRow base 3 1 (.slice A (n + 1) c) (n + 1) xs) : ∃ g, A = some ⟨g, 0, none⟩ ∧ n + 1 ≤ c := by
  rcases h.2 with ⟨_, h0⟩ | ⟨g, cap, cur, e, _, _, h1, _⟩
  · omega
  · injection e with e1 e2 e3
    exact ⟨g, e1, by omega⟩
theorem reads_take {W : World} {B n k : Nat} {A : Option Addr} {l : List Int} (h : Reads W B 1 A n (l.map iv)) (hk : k ≤ n) : Reads W B 1 A k ((l.take k).map iv) := by
  refine ⟨?_, fun hp => ?_⟩
  · have := h.1
    rw [List.length_map] at this ⊢
    rw [List.length_take]
    omega
  · obtain ⟨ad, e, hb, hc⟩ := h.2 (by omega)
    refine ⟨ad, e, hb, fun j u hu => hc j u ?_⟩
    rw [List.map_take, List.getElem?_take] at hu
    split at hu
    · exact hu
    · cases hu
theorem snoc_take {X : List Int} {k : Nat} (h : X.length = k + 1) : X = X.take k ++ [X.getD k 0] := by
  rw [List.getD_eq_getElem?_getD, List.getElem?_eq_getElem (by omega : k < X.length)]
  show X = X.take k ++ [X[k]'(by omega)]
  rw [← List.take_succ_eq_append_getElem (by omega : k < X.length), ← h, List.take_length]
theorem prodI_last (l : List Int) (x : Int) : prodI (l ++ [x]) = prodI l * x := by
  rw [prodI_append]
  show prodI l * (x * 1) = _
  rw [Int.mul_one]
theorem pos_of_mul {a b : Int} (ha : 0 ≤ a) (hb : 0 ≤ b) (h : 0 < a * b) : 0 < a ∧ 0 < b := by
  constructor
  · rcases Int.lt_or_eq_of_le ha with h1 | h1
    · exact h1
    · rw [← h1, Int.zero_mul] at h
      omega
  · rcases Int.lt_or_eq_of_le hb with h1 | h1
    · exact h1
    · rw [← h1, Int.mul_zero] at h
      omega
theorem cat_conds {X Y : List Int} {lst xn yn wd CA CB n : Nat} (hX : X.length = lst + 1) (hY : Y.length = lst + 1) (hxy : X.take lst = Y.take lst) (hx : X.getD lst 0 = (xn : Int)) (hy : Y.getD lst 0 = (yn : Int)) (hw : xn + yn = wd) (hA : 0 < prodI X → 0 < (CA : Int)) (hB : 0 < prodI Y → 0 < (CB : Int)) (hok : okShape (X.take lst ++ [(wd : Int)]) = true) (hn : (n : Int) < prodI (X.take lst ++ [(wd : Int)])) : 0 < wd ∧ n ≤ 4096 ∧ (n % wd < xn → 0 < CA) ∧ (¬ n % wd < xn → 0 < CB) := by
  have h1 := okShape_iff.1 hok
  have h2 : 0 ≤ prodI (X.take lst) := (prodI_bounds _ (by
    have := h1.2.1
    rw [List.all_append, Bool.and_eq_true] at this
    exact this.1)).1
  have hp : 0 < prodI (X.take lst ++ [(wd : Int)]) := by omega
  rw [prodI_last] at hp
  obtain ⟨h3, h4⟩ := pos_of_mul h2 (by omega) hp
  have h5 : 0 < wd := by omega
  refine ⟨h5, by have := h1.2.2; omega, fun h => ?_, fun h => ?_⟩
  · have h6 : 0 < prodI X := by
      rw [snoc_take hX, hx, prodI_last]
      exact Int.mul_pos h3 (by omega)
    have := hA h6
    omega
  · have h8 := Nat.mod_lt n h5
    have h6 : 0 < prodI Y := by
      rw [snoc_take hY, hy, prodI_last, ← hxy]
      exact Int.mul_pos h3 (by omega)
    have := hB h6
    omega
/-- What stands, is made, and is told at CatWay's end. -/
def CeT (w w7 W : World) : Prop := Sin (w.heap.size + 1) w7 W ∧ Below w.heap.size w W ∧ ∃ u v, Blk W w.heap.size 87 #[u, v]
def CeW (B : Nat) (R : List Int) (F : Nat → Int × Int) (E : Int) (v : Value) (W : World) : Prop := ∃ v0 v1, v = .agg #[v0, v1] ∧ ((∃ A n c, v0 = .slice A n c) ∧ ((∃ gf cap, v1 = .func (.func gf) #[] cap) ∨ v1 = .nilFunc)) ∧ (E = 0 → okShape R = true ∧ WayAt (B + 1) W v R F) ∧ (E ≠ 0 → v = noW)
def CeU (B lst wd : Nat) (R : List Int) (F : Nat → Int × Int) (E : Int) (j : Nat) (v : Value) (W : World) : Prop :=
  if j = 5 then ∃ g, v = .slice (some ⟨g, 0, none⟩) 1 1 ∧ B + 1 ≤ g ∧ Blk W g 3 #[.int .i64 (wd : Int)]
  else if j = 6 then ∃ A c, v = .slice A (lst + 1) c ∧ W.ownsRow (B + 1) 3 1 (.slice A (lst + 1) c) (lst + 1) (R.map iv)
  else if j = 8 then ∃ v0, v = .tuple #[v0, .int .i64 E] ∧ CeW B R F E v0 W
  else CeW B R F E v W
def CeF (w : World) (R : List Int) (F : Nat → Int × Int) (E : Int) (W : World) : Prop := ∃ v0 v1, Blk W w.heap.size 87 #[v0, v1] ∧ (E = 0 → okShape R = true ∧ WayAt (w.heap.size + 1) W (.agg #[v0, v1]) R F) ∧ (E ≠ 0 → (.agg #[v0, v1] : Value) = noW)
section
variable {w w7 W W' : World} {B lst wd : Nat} {R : List Int} {F : Nat → Int × Int} {E : Int} {v : Value}
theorem CeW.sin (h : CeW B R F E v W) (hs : Sin (B + 1) W W') : CeW B R F E v W' := by
  obtain ⟨v0, v1, h1, h0, h2, h3⟩ := h
  exact ⟨v0, v1, h1, h0, fun e => ⟨(h2 e).1, (h2 e).2.sin hs⟩, h3⟩
theorem CeU.sin {j : Nat} (h : CeU B lst wd R F E j v W) (hs : Sin (B + 1) W W') : CeU B lst wd R F E j v W' := by
  unfold CeU at *
  by_cases h5 : j = 5
  · rw [if_pos h5] at h ⊢
    obtain ⟨g, h1, h2, h3⟩ := h
    exact ⟨g, h1, h2, hs.blk_ h3 h2⟩
  rw [if_neg h5] at h ⊢
  by_cases h6 : j = 6
  · rw [if_pos h6] at h ⊢
    obtain ⟨A, c, h1, h2⟩ := h
    exact ⟨A, c, h1, hs.own_ h2 (Nat.le_refl _)⟩
  rw [if_neg h6] at h ⊢
  by_cases h8 : j = 8
  · rw [if_pos h8] at h ⊢
    obtain ⟨v0, h1, h2⟩ := h
    exact ⟨v0, h1, h2.sin hs⟩
  rw [if_neg h8] at h ⊢
  exact h.sin hs
theorem ce_stays : CT (CeT w w7) (CeF w R F E) (CeU w.heap.size lst wd R F E) := by
  refine ⟨fun W W' hb h => ?_, fun W W' hb h => ?_, fun j v W W' hb h => h.sin (Sin.of hb)⟩
  · obtain ⟨h1, h2, u, v, h3⟩ := h
    exact ⟨h1.on (Sin.of hb), bon h2 hb, u, v, h3.below hb h3.lt⟩
  · obtain ⟨v0, v1, h1, h2, h3⟩ := h
    exact ⟨v0, v1, h1.below hb h1.lt, fun e => ⟨(h2 e).1, (h2 e).2.below hb⟩, h3⟩
theorem ceW_of (h1 : E = 0 → okShape R = true ∧ WayAt (B + 1) W v R F) (h2 : E ≠ 0 → v = noW) : CeW B R F E v W := by
  by_cases h : E = 0
  · obtain ⟨A, c, gf, cap, rfl, _⟩ := (h1 h).2
    exact ⟨_, _, rfl, ⟨⟨_, _, _, rfl⟩, .inl ⟨_, _, rfl⟩⟩, h1, h2⟩
  · exact ⟨_, _, h2 h, ⟨⟨_, _, _, rfl⟩, .inr rfl⟩, h1, h2⟩
theorem take_at {X : List Int} {k j : Nat} {u : Value} (h : ((X.take k).map iv)[j]? = some u) : (X.map iv)[j]? = some u := by
  rw [List.map_take, List.getElem?_take] at h
  split at h
  · exact h
  · cases h
theorem cell_one {g : Nat} {t : TypeId} {x : Value} (hg : Blk W g t #[x]) : ∀ j u, ([x] : List Value)[j]? = some u → W.cell? ((⟨g, 0, none⟩ : Addr).add j) = some u := fun j u hu => by
  rw [Addr.add_mid, Nat.zero_add, hg.cell j, List.getElem?_toArray]
  exact hu
theorem ce_sin (W : World) (B : Nat) (x y : Value) : Sin (B + 1) W ((W.setCell ⟨B, 0, none⟩ x).setCell ⟨B, 1, none⟩ y) := Sin.keep (mokeep_two W B x y) (fun i hi e => by omega)
theorem CeT.store (h : CeT w w7 W) (x y : Value) : CeT w w7 ((W.setCell ⟨w.heap.size, 0, none⟩ x).setCell ⟨w.heap.size, 1, none⟩ y) := by
  obtain ⟨h1, h2, u, v, h3⟩ := h
  exact ⟨h1.on (ce_sin _ _ _ _), h2.trans ((mokeep_two _ _ _ _).below h2.size (fun i hi e => by omega)), _, _, moblk_two x y h3⟩
theorem CeF.store {x y : Value} (h : CeT w w7 W) (hw : CeW w.heap.size R F E (.agg #[x, y]) W) : CeF w R F E ((W.setCell ⟨w.heap.size, 0, none⟩ x).setCell ⟨w.heap.size, 1, none⟩ y) := by
  obtain ⟨_, _, u, v, h3⟩ := h
  obtain ⟨v0, v1, h1, _, h2, h4⟩ := hw
  exact ⟨x, y, moblk_two x y h3, fun e => ⟨(h2 e).1, (h2 e).2.sin (ce_sin _ _ _ _)⟩, h4⟩
end
end Go.Proofs.Ytkabdkblcgklmaa.mo

namespace Go.Proofs.Ytkabdkblcgklmaa.mo
open Go.RowKit Go.Proofs.Ytkabdkblcgklmaa.arr

/-- Cat's error, and what it makes. -/
def ctE (a b : AV) : Int := if (okA a && okA b) = false then 110 else if a.kind ≠ b.kind ∧ (ctwE a.sh b.sh = 0 ∨ ctwE a.sh b.sh = 9) then 5 else if ctwE a.sh b.sh ≠ 0 then ctwE a.sh b.sh else goE a.kind [a, b] (ctwL a.sh b.sh) (ctwF a.sh b.sh)
def ctA (a b : AV) : AV := if (okA a && okA b) = false then noA else if a.kind ≠ b.kind ∧ (ctwE a.sh b.sh = 0 ∨ ctwE a.sh b.sh = 9) then noA else if ctwE a.sh b.sh ≠ 0 then noA else goA a.kind [a, b] (ctwL a.sh b.sh) (ctwF a.sh b.sh)
/-- Room behind a shape. -/
structure Cap (a : AV) (p : AP) : Prop where
  le : a.sh.length ≤ p.c0
  no : p.A0 = none → p.c0 = 0
theorem Cap.of {W : World} {B : Nat} {a : AV} {p : AP} (h : AOwn B W a p) : Cap a p := by
  rcases h.o0.2 with ⟨e, h0⟩ | ⟨g, cap, cur, e, _, _, h1, _⟩
  · injection e with e1 e2 e3
    exact ⟨by omega, fun _ => e3⟩
  · injection e with e1 e2 e3
    exact ⟨by omega, fun h => by rw [h] at e1; cases e1⟩
theorem Els.two {W : World} {a b : AV} {p q : AP} (h : AEl W a p) (k : AEl W b q) : Els (W.alloc (.cells #[.int .i64 a.kind, .slice p.A0 a.sh.length p.c0, .slice p.A1 a.el.length p.c1, .int .i64 b.kind, .slice q.A0 b.sh.length q.c0, .slice q.A1 b.el.length q.c1] 25)) (some ⟨W.heap.size, 0, none⟩) [a, b] := by
  refine ⟨fun i x hx => ?_⟩
  rcases i with _ | i
  · injection hx with hx
    subst hx
    exact ⟨_, p, rfl, by simp, h.below (albel _ _), (Blk.new W 25 _).cell 2⟩
  · rcases i with _ | i
    · injection hx with hx
      subst hx
      exact ⟨_, q, rfl, by simp, k.below (albel _ _), (Blk.new W 25 _).cell 5⟩
    · simp at hx

end Go.Proofs.Ytkabdkblcgklmaa.mo

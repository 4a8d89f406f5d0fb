/-
  Layer 13 (mold): CatWay.
  Layer 13 (mold): Cat.
-/
import Derived.Test.YtenpohnccnlngaaMoCatR
import Derived.Test.YtenpohnccnlngaaMoMold
import Derived.Test.YtenpohnccnlngaaDone
import Derived.Test.YtenpohnccnlngaaMoCut
import Derived.Test.YtenpohnccnlngaaHeads
namespace Go.Proofs.Ytenpohnccnlngaa.mo
open Go.RowKit Go.Proofs.Ytenpohnccnlngaa.arr

/-- CatWay's shape, error, and where elements come from. -/
def ctwN (a b : List Int) : Nat := (exL a b).length - 1
def ctwL (a b : List Int) : List Int := (exL a b).take (ctwN a b) ++ [(exL a b).getD (ctwN a b) 0 + (exL b a).getD (ctwN a b) 0]
def ctwE (a b : List Int) : Int := if (okShape a && okShape b) = false then 110 else if (exL a b).length ≠ (exL b a).length then 3 else if (exL a b).take (ctwN a b) ≠ (exL b a).take (ctwN a b) then 4 else if okShape (ctwL a b) = true then 0 else 9
def ctwF (a b : List Int) : Nat → Int × Int := catF ((exL a b).getD (ctwN a b) 0 + (exL b a).getD (ctwN a b) 0).toNat ((exL a b).getD (ctwN a b) 0).toNat ((exL b a).getD (ctwN a b) 0).toNat (prodI a).toNat (prodI b).toNat
theorem exL_pos (a b : List Int) : 0 < (exL a b).length := by
  unfold exL
  split
  · simp
  · split
    · simp
    · omega
theorem exL_bounds {a b : List Int} (ha : okShape a = true) (hb : okShape b = true) : ∀ x ∈ exL a b, 0 ≤ x ∧ x ≤ 4096 := by
  have h1 : ∀ l, okShape l = true → ∀ x ∈ l, 0 ≤ x ∧ x ≤ 4096 := fun l h x hx => lenOk_iff.1 (List.all_eq_true.1 (okShape_iff.1 h).2.1 x hx)
  intro x hx
  unfold exL at hx
  split at hx
  · rcases List.mem_append.1 hx with h | h
    · exact h1 b hb x (List.mem_of_mem_take h)
    · rw [List.mem_singleton] at h
      omega
  · split at hx
    · rcases List.mem_append.1 hx with h | h
      · exact h1 a ha x h
      · rw [List.mem_singleton] at h
        omega
    · exact h1 a ha x hx
theorem exL_len4 {a b : List Int} (ha : okShape a = true) (hb : okShape b = true) : (exL a b).length ≤ 5 := by
  have h1 := (okShape_iff.1 ha).1
  have h2 := (okShape_iff.1 hb).1
  unfold exL
  split
  · simp; omega
  · split
    · simp; omega
    · omega
/-- What stands: the counts' boxes, and the result. -/
structure CwI (w : World) (CA CB : Nat) (W : World) : Prop where
  r : Blk W w.heap.size 37 #[.slice none 0 0, .nilFunc]
  x : Blk W (w.heap.size + 1) 3 #[.int .i64 (CA : Int)]
  y : Blk W (w.heap.size + 1 + 1) 3 #[.int .i64 (CB : Int)]
  fb : Below w.heap.size w W
theorem CwI.below {w W W' : World} {CA CB : Nat} (h : CwI w CA CB W) (hb : Below W.heap.size W W') : CwI w CA CB W' := ⟨h.r.below hb h.r.lt, h.x.below hb h.x.lt, h.y.below hb h.y.lt, bon h.fb hb⟩
theorem CwI.start (w : World) (CA CB : Nat) : CwI w CA CB (((w.alloc (.cells #[.slice none 0 0, .nilFunc] 37)).alloc (.cells #[.int .i64 (CA : Int)] 3)).alloc (.cells #[.int .i64 (CB : Int)] 3)) := by
  refine ⟨((Blk.new w _ _).alloc _).alloc _, ?_, ?_, mobelow3 _ _ _⟩
  · have h := (Blk.new (w.alloc (.cells #[.slice none 0 0, .nilFunc] 37)) 3 #[.int .i64 (CA : Int)]).alloc (.cells #[.int .i64 (CB : Int)] 3)
    simpa only [World.size_alloc] using h
  · have h := Blk.new ((w.alloc (.cells #[.slice none 0 0, .nilFunc] 37)).alloc (.cells #[.int .i64 (CA : Int)] 3)) 3 #[.int .i64 (CB : Int)]
    simpa only [World.size_alloc] using h

theorem ex_pos {a b : List Int} (h : 0 < prodI (exL a b)) : 0 < prodI a := by
  unfold exL at h
  split at h
  · rename_i h0
    rw [List.eq_nil_of_length_eq_zero h0.1]
    decide
  · split at h
    · rw [prodI_append] at h
      have e : prodI [1] = 1 := rfl
      rw [e, Int.mul_one] at h
      exact h
    · exact h
/-- What the region of the two boxes turns. -/
structure AlS (w0 : World) (x y : Value) (dn : Nat → Bool) (T : Array Value) (W : World) : Prop where
  b : Below w0.heap.size w0 W
  h8 : dn 8 = true → ∃ g, T[13]? = some (.pointer (some ⟨g, 0, none⟩)) ∧ w0.heap.size ≤ g ∧ ∃ u, Blk W g 3 #[u] ∧ (dn 10 = true → u = x)
  h9 : dn 9 = true → ∃ g, T[14]? = some (.pointer (some ⟨g, 0, none⟩)) ∧ w0.heap.size ≤ g ∧ ∃ u, Blk W g 3 #[u] ∧ (dn 11 = true → u = y)
  ne : dn 8 = true → dn 9 = true → T[13]? ≠ T[14]?
  d10 : dn 10 = true → dn 8 = true
  d11 : dn 11 = true → dn 9 = true
theorem AlS.up {w0 W : World} {x y : Value} {dn : Nat → Bool} {T : Array Value} {i : Nat} (h8 : i ≠ 8) (h9 : i ≠ 9) (h10 : i ≠ 10) (h11 : i ≠ 11) (d : Nat) (h13 : d ≠ 13) (h14 : d ≠ 14) (v : Value) (h : AlS w0 x y dn T W) : AlS w0 x y (upd dn i) (T.setIfInBounds d v) W := by
  have e8 := upd_off (dn := dn) h8
  have e9 := upd_off (dn := dn) h9
  have e10 := upd_off (dn := dn) h10
  have e11 := upd_off (dn := dn) h11
  have t13 : (T.setIfInBounds d v)[13]? = T[13]? := Array.getElem?_setIfInBounds_ne h13
  have t14 : (T.setIfInBounds d v)[14]? = T[14]? := Array.getElem?_setIfInBounds_ne h14
  refine ⟨h.b, fun e => ?_, fun e => ?_, fun e f => by rw [t13, t14]; exact h.ne (e8 ▸ e) (e9 ▸ f), fun e => e8 ▸ h.d10 (e10 ▸ e), fun e => e9 ▸ h.d11 (e11 ▸ e)⟩
  · rw [t13, e10]; exact h.h8 (e8 ▸ e)
  · rw [t14, e11]; exact h.h9 (e9 ▸ e)
theorem AlS.make8 {w0 W : World} {x y u : Value} {dn : Nat → Bool} {T : Array Value} (hT : 13 < T.size) (hd : dn 8 = false) (h : AlS w0 x y dn T W) : AlS w0 x y (upd dn 8) (T.setIfInBounds 13 (.pointer (some ⟨W.heap.size, 0, none⟩))) (W.alloc (.cells #[u] 3)) := by
  have e9 := upd_off (dn := dn) (i := 8) (j := 9) (by decide)
  have e10 := upd_off (dn := dn) (i := 8) (j := 10) (by decide)
  have e11 := upd_off (dn := dn) (i := 8) (j := 11) (by decide)
  have t13 : (T.setIfInBounds 13 (.pointer (some ⟨W.heap.size, 0, none⟩)))[13]? = some (.pointer (some ⟨W.heap.size, 0, none⟩)) := by simp [hT]
  have t14 : (T.setIfInBounds 13 (.pointer (some ⟨W.heap.size, 0, none⟩)))[14]? = T[14]? := Array.getElem?_setIfInBounds_ne (by decide)
  have n10 : dn 10 = false := by
    cases h1 : dn 10 with
    | false => rfl
    | true => rw [h.d10 h1] at hd; cases hd
  refine ⟨h.b.alloc h.b.size _, fun _ => ⟨W.heap.size, t13, h.b.size, u, Blk.new W _ _, fun e => (by rw [e10, n10] at e; cases e)⟩, fun e => ?_, fun _ f => ?_, fun e => (by rw [e10, n10] at e; cases e), fun e => e9 ▸ h.d11 (e11 ▸ e)⟩
  · obtain ⟨g, h1, h2, u', h3, h4⟩ := h.h9 (e9 ▸ e)
    exact ⟨g, t14.trans h1, h2, u', h3.alloc _, fun e => h4 (e11 ▸ e)⟩
  · obtain ⟨g, h1, h2, u', h3, h4⟩ := h.h9 (e9 ▸ f)
    rw [t13, t14, h1]
    intro e
    injection e with e
    injection e with e
    injection e with e
    injection e with e
    have := h3.lt
    omega
theorem AlS.make9 {w0 W : World} {x y u : Value} {dn : Nat → Bool} {T : Array Value} (hT : 14 < T.size) (hd : dn 9 = false) (h : AlS w0 x y dn T W) : AlS w0 x y (upd dn 9) (T.setIfInBounds 14 (.pointer (some ⟨W.heap.size, 0, none⟩))) (W.alloc (.cells #[u] 3)) := by
  have e8 := upd_off (dn := dn) (i := 9) (j := 8) (by decide)
  have e10 := upd_off (dn := dn) (i := 9) (j := 10) (by decide)
  have e11 := upd_off (dn := dn) (i := 9) (j := 11) (by decide)
  have t14 : (T.setIfInBounds 14 (.pointer (some ⟨W.heap.size, 0, none⟩)))[14]? = some (.pointer (some ⟨W.heap.size, 0, none⟩)) := by simp [hT]
  have t13 : (T.setIfInBounds 14 (.pointer (some ⟨W.heap.size, 0, none⟩)))[13]? = T[13]? := Array.getElem?_setIfInBounds_ne (by decide)
  have n11 : dn 11 = false := by
    cases h1 : dn 11 with
    | false => rfl
    | true => rw [h.d11 h1] at hd; cases hd
  refine ⟨h.b.alloc h.b.size _, fun e => ?_, fun _ => ⟨W.heap.size, t14, h.b.size, u, Blk.new W _ _, fun e => (by rw [e11, n11] at e; cases e)⟩, fun f _ => ?_, fun e => e8 ▸ h.d10 (e10 ▸ e), fun e => (by rw [e11, n11] at e; cases e)⟩
  · obtain ⟨g, h1, h2, u', h3, h4⟩ := h.h8 (e8 ▸ e)
    exact ⟨g, t13.trans h1, h2, u', h3.alloc _, fun e => h4 (e10 ▸ e)⟩
  · obtain ⟨g, h1, h2, u', h3, h4⟩ := h.h8 (e8 ▸ f)
    rw [t13, t14, h1]
    intro e
    injection e with e
    injection e with e
    injection e with e
    injection e with e
    have := h3.lt
    omega
theorem AlS.put10 {w0 W : World} {x y : Value} {dn : Nat → Bool} {T : Array Value} {g : Nat} (h8 : dn 8 = true) (hg : T[13]? = some (.pointer (some ⟨g, 0, none⟩))) (h : AlS w0 x y dn T W) : AlS w0 x y (upd dn 10) T (W.setCell ⟨g, 0, none⟩ x) := by
  have e8 := upd_off (dn := dn) (i := 10) (j := 8) (by decide)
  have e9 := upd_off (dn := dn) (i := 10) (j := 9) (by decide)
  have e11 := upd_off (dn := dn) (i := 10) (j := 11) (by decide)
  obtain ⟨g', h1, h2, u, h3, h4⟩ := h.h8 h8
  have hgg : g' = g := by
    rw [hg] at h1
    injection h1 with h1
    injection h1 with h1
    injection h1 with h1
    injection h1 with h1
    exact h1.symm
  subst hgg
  refine ⟨h.b.setCell (p := ⟨g', 0, none⟩) h2 _, fun _ => ⟨g', hg, h2, x, h3.set_ 0 x, fun _ => rfl⟩, fun e => ?_, fun e f => h.ne (e8 ▸ e) (e9 ▸ f), fun _ => e8 ▸ h8, fun e => e9 ▸ h.d11 (e11 ▸ e)⟩
  obtain ⟨g2, k1, k2, u2, k3, k4⟩ := h.h9 (e9 ▸ e)
  have hne : g2 ≠ g' := fun e2 => h.ne h8 (e9 ▸ e) (by rw [hg, k1, e2])
  exact ⟨g2, k1, k2, u2, k3.far hne _, fun e => k4 (e11 ▸ e)⟩
theorem AlS.put11 {w0 W : World} {x y : Value} {dn : Nat → Bool} {T : Array Value} {g : Nat} (h9 : dn 9 = true) (hg : T[14]? = some (.pointer (some ⟨g, 0, none⟩))) (h : AlS w0 x y dn T W) : AlS w0 x y (upd dn 11) T (W.setCell ⟨g, 0, none⟩ y) := by
  have e8 := upd_off (dn := dn) (i := 11) (j := 8) (by decide)
  have e9 := upd_off (dn := dn) (i := 11) (j := 9) (by decide)
  have e10 := upd_off (dn := dn) (i := 11) (j := 10) (by decide)
  obtain ⟨g', h1, h2, u, h3, h4⟩ := h.h9 h9
  have hgg : g' = g := by
    rw [hg] at h1
    injection h1 with h1
    injection h1 with h1
    injection h1 with h1
    injection h1 with h1
    exact h1.symm
  subst hgg
  refine ⟨h.b.setCell (p := ⟨g', 0, none⟩) h2 _, fun e => ?_, fun _ => ⟨g', hg, h2, y, h3.set_ 0 y, fun _ => rfl⟩, fun e f => h.ne (e8 ▸ e) (e9 ▸ f), fun e => e8 ▸ h.d10 (e10 ▸ e), fun _ => e9 ▸ h9⟩
  obtain ⟨g2, k1, k2, u2, k3, k4⟩ := h.h8 (e8 ▸ e)
  have hne : g2 ≠ g' := fun e2 => h.ne (e8 ▸ e) h9 (by rw [hg, k1, e2])
  exact ⟨g2, k1, k2, u2, k3.far hne _, fun e => k4 (e10 ▸ e)⟩
section
variable {P : Program} {ops : Array Oper} {Q : Exit → Act → World → Prop} {md : Region.Mode} {a0 : Act} {o : Oper} {i : Nat} {w0 : World} {x y : Value} {vals : List Value}
def alR (vals : List Value) (dn : Nat → Bool) (i : Nat) (v : Value) (_ : World) : Prop := (i ≠ 8 → i ≠ 9 → v = vals.getD i undef) ∧ (i = 8 → dn 8 = true) ∧ (i = 9 → dn 9 = true)
theorem alR_up {dn : Nat → Bool} {j : Nat} {u : Value} {W W' : World} (h : alR vals dn j u W) : alR vals (upd dn i) j u W' := ⟨h.1, fun e => upd_on (h.2.1 e), fun e => upd_on (h.2.2 e)⟩
theorem al_value (h8 : i ≠ 8) (h9 : i ≠ 9) (h10 : i ≠ 10) (h11 : i ≠ 11) (hi : ops[i]? = some o) (d : Tmp) (hdst : dstOf ops i = some d) (h13 : d ≠ 13) (h14 : d ≠ 14) (v : Value) (hv : vals.getD i undef = v)
    (h : ∀ (a : Act) (w : World), Below w0.heap.size w0 w → (∀ t, free md ops i t = true → a.tmps[t]? = a0.tmps[t]?) → (∀ j d, behind md ops i j = true → dstOf ops j = some d → ∃ v, a.tmps[d]? = some v ∧ (j ≠ 8 → j ≠ 9 → v = vals.getD j undef)) →
      Region.wanted o (yielded ops a.tmps) = true ∧ (execOp a.eval o).run P w = .ok (.value v) w) : DoneStepT P md ops Q (AlS w0 x y) (alR vals) a0 i :=
  doneT_make hi (fun dn a w hS _ _ ho hn => by
    obtain ⟨e1, e2⟩ := h a w hS.b ho (fun j d hb hd => by
      obtain ⟨u, hu, hR⟩ := hn j d hb hd
      exact ⟨u, hu, hR.1⟩)
    refine ⟨e1, v, w, e2, ?_, ⟨fun _ _ => hv.symm, fun e => absurd e h8, fun e => absurd e h9⟩, fun j u _ _ hR => alR_up hR⟩
    rw [hdst]
    exact hS.up h8 h9 h10 h11 d h13 h14 v)
end

theorem own_some {W : World} {base n c : Nat} {A : Option Addr} {xs : List Value} (h : W.ownsRow base 3 1 (.slice A (n + 1) c) (n + 1) xs) : ∃ g, A = some ⟨g, 0, none⟩ ∧ n + 1 ≤ c := by
  rcases h.2 with ⟨_, h0⟩ | ⟨g, cap, cur, e, _, _, h1, _⟩
  · omega
  · injection e with e1 e2 e3
    exact ⟨g, e1, by omega⟩
theorem reads_take {W : World} {B n k : Nat} {A : Option Addr} {l : List Int} (h : Reads W B 1 A n (l.map iv)) (hk : k ≤ n) : Reads W B 1 A k ((l.take k).map iv) := by
  refine ⟨?_, fun hp => ?_⟩
  · have := h.1
    rw [List.length_map] at this ⊢
    rw [List.length_take]
    omega
  · obtain ⟨ad, e, hb, hc⟩ := h.2 (by omega)
    refine ⟨ad, e, hb, fun j u hu => hc j u ?_⟩
    rw [List.map_take, List.getElem?_take] at hu
    split at hu
    · exact hu
    · cases hu
theorem snoc_take {X : List Int} {k : Nat} (h : X.length = k + 1) : X = X.take k ++ [X.getD k 0] := by
  rw [List.getD_eq_getElem?_getD, List.getElem?_eq_getElem (by omega : k < X.length)]
  show X = X.take k ++ [X[k]'(by omega)]
  rw [← List.take_succ_eq_append_getElem (by omega : k < X.length), ← h, List.take_length]
theorem prodI_last (l : List Int) (x : Int) : prodI (l ++ [x]) = prodI l * x := by
  rw [prodI_append]
  show prodI l * (x * 1) = _
  rw [Int.mul_one]
theorem pos_of_mul {a b : Int} (ha : 0 ≤ a) (hb : 0 ≤ b) (h : 0 < a * b) : 0 < a ∧ 0 < b := by
  constructor
  · rcases Int.lt_or_eq_of_le ha with h1 | h1
    · exact h1
    · rw [← h1, Int.zero_mul] at h
      omega
  · rcases Int.lt_or_eq_of_le hb with h1 | h1
    · exact h1
    · rw [← h1, Int.mul_zero] at h
      omega
theorem cat_conds {X Y : List Int} {lst xn yn wd CA CB n : Nat} (hX : X.length = lst + 1) (hY : Y.length = lst + 1) (hxy : X.take lst = Y.take lst) (hx : X.getD lst 0 = (xn : Int)) (hy : Y.getD lst 0 = (yn : Int)) (hw : xn + yn = wd) (hA : 0 < prodI X → 0 < (CA : Int)) (hB : 0 < prodI Y → 0 < (CB : Int)) (hok : okShape (X.take lst ++ [(wd : Int)]) = true) (hn : (n : Int) < prodI (X.take lst ++ [(wd : Int)])) : 0 < wd ∧ n ≤ 4096 ∧ (n % wd < xn → 0 < CA) ∧ (¬ n % wd < xn → 0 < CB) := by
  have h1 := okShape_iff.1 hok
  have h2 : 0 ≤ prodI (X.take lst) := (prodI_bounds _ (by
    have := h1.2.1
    rw [List.all_append, Bool.and_eq_true] at this
    exact this.1)).1
  have hp : 0 < prodI (X.take lst ++ [(wd : Int)]) := by omega
  rw [prodI_last] at hp
  obtain ⟨h3, h4⟩ := pos_of_mul h2 (by omega) hp
  have h5 : 0 < wd := by omega
  refine ⟨h5, by have := h1.2.2; omega, fun h => ?_, fun h => ?_⟩
  · have h6 : 0 < prodI X := by
      rw [snoc_take hX, hx, prodI_last]
      exact Int.mul_pos h3 (by omega)
    have := hA h6
    omega
  · have h8 := Nat.mod_lt n h5
    have h6 : 0 < prodI Y := by
      rw [snoc_take hY, hy, prodI_last, ← hxy]
      exact Int.mul_pos h3 (by omega)
    have := hB h6
    omega
/-- What stands, is made, and is told at CatWay's end. -/
def CeT (w w7 W : World) : Prop := Sin (w.heap.size + 1) w7 W ∧ Below w.heap.size w W ∧ ∃ u v, Blk W w.heap.size 37 #[u, v]
def CeW (B : Nat) (R : List Int) (F : Nat → Int × Int) (E : Int) (v : Value) (W : World) : Prop := ∃ v0 v1, v = .agg #[v0, v1] ∧ ((∃ A n c, v0 = .slice A n c) ∧ ((∃ gf cap, v1 = .func (.func gf) #[] cap) ∨ v1 = .nilFunc)) ∧ (E = 0 → okShape R = true ∧ WayAt (B + 1) W v R F) ∧ (E ≠ 0 → v = noW)
def CeU (B lst wd : Nat) (R : List Int) (F : Nat → Int × Int) (E : Int) (j : Nat) (v : Value) (W : World) : Prop :=
  if j = 5 then ∃ g, v = .slice (some ⟨g, 0, none⟩) 1 1 ∧ B + 1 ≤ g ∧ Blk W g 3 #[.int .i64 (wd : Int)]
  else if j = 6 then ∃ A c, v = .slice A (lst + 1) c ∧ W.ownsRow (B + 1) 3 1 (.slice A (lst + 1) c) (lst + 1) (R.map iv)
  else if j = 8 then ∃ v0, v = .tuple #[v0, .int .i64 E] ∧ CeW B R F E v0 W
  else CeW B R F E v W
def CeF (w : World) (R : List Int) (F : Nat → Int × Int) (E : Int) (W : World) : Prop := ∃ v0 v1, Blk W w.heap.size 37 #[v0, v1] ∧ (E = 0 → okShape R = true ∧ WayAt (w.heap.size + 1) W (.agg #[v0, v1]) R F) ∧ (E ≠ 0 → (.agg #[v0, v1] : Value) = noW)
section
variable {w w7 W W' : World} {B lst wd : Nat} {R : List Int} {F : Nat → Int × Int} {E : Int} {v : Value}
theorem CeW.sin (h : CeW B R F E v W) (hs : Sin (B + 1) W W') : CeW B R F E v W' := by
  obtain ⟨v0, v1, h1, h0, h2, h3⟩ := h
  exact ⟨v0, v1, h1, h0, fun e => ⟨(h2 e).1, (h2 e).2.sin hs⟩, h3⟩
theorem CeU.sin {j : Nat} (h : CeU B lst wd R F E j v W) (hs : Sin (B + 1) W W') : CeU B lst wd R F E j v W' := by
  unfold CeU at *
  by_cases h5 : j = 5
  · rw [if_pos h5] at h ⊢
    obtain ⟨g, h1, h2, h3⟩ := h
    exact ⟨g, h1, h2, hs.blk_ h3 h2⟩
  rw [if_neg h5] at h ⊢
  by_cases h6 : j = 6
  · rw [if_pos h6] at h ⊢
    obtain ⟨A, c, h1, h2⟩ := h
    exact ⟨A, c, h1, hs.own_ h2 (Nat.le_refl _)⟩
  rw [if_neg h6] at h ⊢
  by_cases h8 : j = 8
  · rw [if_pos h8] at h ⊢
    obtain ⟨v0, h1, h2⟩ := h
    exact ⟨v0, h1, h2.sin hs⟩
  rw [if_neg h8] at h ⊢
  exact h.sin hs
theorem ce_stays : CT (CeT w w7) (CeF w R F E) (CeU w.heap.size lst wd R F E) := by
  refine ⟨fun W W' hb h => ?_, fun W W' hb h => ?_, fun j v W W' hb h => h.sin (Sin.of hb)⟩
  · obtain ⟨h1, h2, u, v, h3⟩ := h
    exact ⟨h1.on (Sin.of hb), bon h2 hb, u, v, h3.below hb h3.lt⟩
  · obtain ⟨v0, v1, h1, h2, h3⟩ := h
    exact ⟨v0, v1, h1.below hb h1.lt, fun e => ⟨(h2 e).1, (h2 e).2.below hb⟩, h3⟩
theorem ceW_of (h1 : E = 0 → okShape R = true ∧ WayAt (B + 1) W v R F) (h2 : E ≠ 0 → v = noW) : CeW B R F E v W := by
  by_cases h : E = 0
  · obtain ⟨A, c, gf, cap, rfl, _⟩ := (h1 h).2
    exact ⟨_, _, rfl, ⟨⟨_, _, _, rfl⟩, .inl ⟨_, _, rfl⟩⟩, h1, h2⟩
  · exact ⟨_, _, h2 h, ⟨⟨_, _, _, rfl⟩, .inr rfl⟩, h1, h2⟩
theorem take_at {X : List Int} {k j : Nat} {u : Value} (h : ((X.take k).map iv)[j]? = some u) : (X.map iv)[j]? = some u := by
  rw [List.map_take, List.getElem?_take] at h
  split at h
  · exact h
  · cases h
theorem cell_one {g : Nat} {t : TypeId} {x : Value} (hg : Blk W g t #[x]) : ∀ j u, ([x] : List Value)[j]? = some u → W.cell? ((⟨g, 0, none⟩ : Addr).add j) = some u := fun j u hu => by
  rw [Addr.add_mid, Nat.zero_add, hg.cell j, List.getElem?_toArray]
  exact hu
theorem ce_sin (W : World) (B : Nat) (x y : Value) : Sin (B + 1) W ((W.setCell ⟨B, 0, none⟩ x).setCell ⟨B, 1, none⟩ y) := Sin.keep (mokeep_two W B x y) (fun i hi e => by omega)
theorem CeT.store (h : CeT w w7 W) (x y : Value) : CeT w w7 ((W.setCell ⟨w.heap.size, 0, none⟩ x).setCell ⟨w.heap.size, 1, none⟩ y) := by
  obtain ⟨h1, h2, u, v, h3⟩ := h
  exact ⟨h1.on (ce_sin _ _ _ _), h2.trans ((mokeep_two _ _ _ _).below h2.size (fun i hi e => by omega)), _, _, moblk_two x y h3⟩
theorem CeF.store {x y : Value} (h : CeT w w7 W) (hw : CeW w.heap.size R F E (.agg #[x, y]) W) : CeF w R F E ((W.setCell ⟨w.heap.size, 0, none⟩ x).setCell ⟨w.heap.size, 1, none⟩ y) := by
  obtain ⟨_, _, u, v, h3⟩ := h
  obtain ⟨v0, v1, h1, _, h2, h4⟩ := hw
  exact ⟨x, y, moblk_two x y h3, fun e => ⟨(h2 e).1, (h2 e).2.sin (ce_sin _ _ _ _)⟩, h4⟩
end
set_option maxRecDepth 100000 in
set_option maxHeartbeats 4000000 in
theorem mocatway_any (A B : Option Addr) (c d : Nat) (a b : List Int) (w : World) (ra : Reads w w.heap.size 1 A a.length (a.map iv)) (rb : Reads w w.heap.size 1 B b.length (b.map iv)) (hc : a.length ≤ c) (hd : b.length ≤ d) (hA : A = none → c = 0) (hB : B = none → d = 0) (ha : a.length ≤ 9223372036854775807) (hb : b.length ≤ 9223372036854775807) :
    Calls Try.prog 36 #[.slice A a.length c, .slice B b.length d] w (GiveW w.heap.size (ctwL a b) (ctwF a b) (ctwE a b) w) := by
  have hE : ctwE a b = if (okShape a && okShape b) = false then 110 else if (exL a b).length ≠ (exL b a).length then 3 else if (exL a b).take (ctwN a b) ≠ (exL b a).take (ctwN a b) then 4 else if okShape (ctwL a b) = true then 0 else 9 := rfl
  have HCA := Lib.hid (fun W (hW : Below w.heap.size w W) => arcount_any A c a.length a W rfl ((ra.below hW).more hW.size) ha)
  have HCB := Lib.hid (fun W (hW : Below w.heap.size w W) => arcount_any B d b.length b W rfl ((rb.below hW).more hW.size) hb)
  have hva : 0 ≤ cntV a ∧ cntV a ≤ 4096 := by
    unfold cntV
    split
    · rename_i h
      exact ⟨(prodI_four (okShape_iff.1 h).2.1 (okShape_iff.1 h).1).1, (okShape_iff.1 h).2.2⟩
    · omega
  have hvb : 0 ≤ cntV b ∧ cntV b ≤ 4096 := by
    unfold cntV
    split
    · rename_i h
      exact ⟨(prodI_four (okShape_iff.1 h).2.1 (okShape_iff.1 h).1).1, (okShape_iff.1 h).2.2⟩
    · omega
  obtain ⟨CA, hCA⟩ := Int.eq_ofNat_of_zero_le hva.1
  obtain ⟨CB, hCB⟩ := Int.eq_ofNat_of_zero_le hvb.1
  rw [hCA] at HCA
  rw [hCB] at HCB
  have HI := Lib.hid (CwI.start w CA CB)
  by_cases h1 : (okShape a && okShape b) = false
  · rw [if_pos h1] at hE
    rw [hE]
    have hor : ((cntE a != 0) || (cntE b != 0)) = true := by
      rw [Bool.and_eq_false_iff] at h1
      rcases h1 with h | h
      · rw [(cnt_no h).2]; rfl
      · rw [(cnt_no h).2, Bool.or_comm]; rfl
    have x0 := HI.out.r.cell 0
    have x1 := HI.out.r.cell 1
    have f0 := HI.out.r.frozen 0
    have f1 := HI.out.r.frozen 1
    generalize cntE a = ea at *
    generalize cntE b = eb at *
    clear hE h1 ra rb hva hvb hCA hCB hA hB ha hb hc hd
    have HB1 := Lib.hid (albel w (.cells #[.slice none 0 0, .nilFunc] 37))
    have HB2 := Lib.hid (mobelow2 (w := w) (.cells #[.slice none 0 0, .nilFunc] 37) (.cells #[.int .i64 (CA : Int)] 3))
    generalize a.length = n at *
    generalize b.length = m at *
    rw [Bool.or_eq_true] at hor
    cases hea : (ea != 0)
    · have heb : (eb != 0) = true := by
        rcases hor with h | h
        · rw [hea] at h; cases h
        · exact h
      clear hor
      go_enter Try.func36, Try.ntmps36
      go_wp2_with (first
        | (go_at_call 69; (have l0 := Z1.out; clear l0); refine (HCB.out _ HB2.out).mono ?_; rintro e _ ⟨rfl, rfl⟩)
        | (go_at_call 69; refine (HCA.out _ HB1.out).mono ?_; rintro e _ ⟨rfl, rfl⟩; have Z1 : Hid (1 = 1) := Lib.hid rfl))
      refine bodyPost_ret (results_way2 rfl rfl rfl HI.out.r) rfl ?_
      exact GiveW.no (by decide) HI.out.fb
    · clear hor
      go_enter Try.func36, Try.ntmps36
      go_wp2_with (first
        | (go_at_call 69; (have l0 := Z1.out; clear l0); refine (HCB.out _ HB2.out).mono ?_; rintro e _ ⟨rfl, rfl⟩)
        | (go_at_call 69; refine (HCA.out _ HB1.out).mono ?_; rintro e _ ⟨rfl, rfl⟩; have Z1 : Hid (1 = 1) := Lib.hid rfl))
      refine bodyPost_ret (results_way2 rfl rfl rfl HI.out.r) rfl ?_
      exact GiveW.no (by decide) HI.out.fb
  have hca4 : CA ≤ 4096 := by omega
  have hcb4 : CB ≤ 4096 := by omega
  rw [if_neg h1] at hE
  have hoa : okShape a = true ∧ okShape b = true := by
    cases e1 : okShape a <;> cases e2 : okShape b <;> simp_all
  obtain ⟨hoa, hob⟩ := hoa
  rw [(cnt_ok hoa).2] at HCA
  rw [(cnt_ok hob).2] at HCB
  rw [(cnt_ok hoa).1] at hCA
  rw [(cnt_ok hob).1] at hCB
  have hal := (okShape_iff.1 hoa).1
  have hbl := (okShape_iff.1 hob).1
  have HXA := Lib.hid (fun W (hW : Below w.heap.size w W) => moext_any A B c d a b W ((ra.below hW).more hW.size) ((rb.below hW).more hW.size) hc hd (by omega) (by omega) hA)
  have HXB := Lib.hid (fun W (hW : Below w.heap.size w W) => moext_any B A d c b a W ((rb.below hW).more hW.size) ((ra.below hW).more hW.size) hd hc (by omega) (by omega) hB)
  unfold GiveR at HXA HXB
  have HB1 := Lib.hid (albel w (.cells #[.slice none 0 0, .nilFunc] 37))
  have HB2 := Lib.hid (mobelow2 (w := w) (.cells #[.slice none 0 0, .nilFunc] 37) (.cells #[.int .i64 (CA : Int)] 3))
  have hN := exL_pos a b
  have hb1 := exL_bounds hoa hob
  have hb2 := exL_bounds hob hoa
  have hl5 := exL_len4 hoa hob
  have hl5b := exL_len4 hob hoa
  have HPA := Lib.hid (fun h => ex_pos (a := a) (b := b) h)
  have HPB := Lib.hid (fun h => ex_pos (a := b) (b := a) h)
  have hF : ctwF a b = catF ((exL a b).getD (ctwN a b) 0 + (exL b a).getD (ctwN a b) 0).toNat ((exL a b).getD (ctwN a b) 0).toNat ((exL b a).getD (ctwN a b) 0).toNat (prodI a).toNat (prodI b).toNat := rfl
  have hL : ctwL a b = (exL a b).take (ctwN a b) ++ [(exL a b).getD (ctwN a b) 0 + (exL b a).getD (ctwN a b) 0] := rfl
  have hNN : ctwN a b = (exL a b).length - 1 := rfl
  rw [hCA, hCB] at hF
  rw [hCA] at HPA
  rw [hCB] at HPB
  generalize exL a b = X at *
  generalize exL b a = Y at *
  generalize ctwN a b = lst at *
  obtain ⟨F, hFF⟩ : ∃ F, ctwF a b = F := ⟨_, rfl⟩
  obtain ⟨R, hRR⟩ : ∃ R, ctwL a b = R := ⟨_, rfl⟩
  obtain ⟨E, hEE⟩ : ∃ E, ctwE a b = E := ⟨_, rfl⟩
  rw [hFF] at hF
  rw [hRR] at hL
  rw [hEE, hRR] at hE
  rw [hFF, hRR, hEE]
  rw [Int.toNat_natCast, Int.toNat_natCast] at hF
  have hXl : X.length = lst + 1 := by omega
  rw [hXl] at HXA hE
  have HI' : Hid (∀ W, CwI w CA CB W → (W.cell? ⟨w.heap.size, 0, none⟩ = some (.slice none 0 0) ∧ W.cell? ⟨w.heap.size, 1, none⟩ = some .nilFunc) ∧ W.frozen? ⟨w.heap.size, 0, none⟩ = false ∧ W.frozen? ⟨w.heap.size, 1, none⟩ = false) := Lib.hid (fun W h => ⟨⟨h.r.cell 0, h.r.cell 1⟩, h.r.frozen 0, h.r.frozen 1⟩)
  generalize a.length = n at *
  generalize b.length = m at *
  clear h1 ra rb hva hvb hA hB ha hb hc hd hFF hRR hEE hNN hoa hob
  by_cases hXY : lst + 1 = Y.length
  case neg =>
    rw [if_pos (by exact hXY)] at hE
    subst hE
    have hne : (((lst : Int) + 1) != (Y.length : Int)) = true := by rw [bne_iff_ne]; omega
    have hne2 : ((((lst + 1 : Nat) : Int)) != (Y.length : Int)) = true := by rw [bne_iff_ne]; omega
    clear hF hL hb1 hb2 HPA HPB hXl hXY hN
    generalize Y.length = ym at *
    go_enter Try.func36, Try.ntmps36
    go_wp2_with (first
      | (go_at_call 69; (have l0 := Z1.out; clear l0); refine (HCB.out _ HB2.out).mono ?_; rintro e _ ⟨rfl, rfl⟩)
      | (go_at_call 69; refine (HCA.out _ HB1.out).mono ?_; rintro e _ ⟨rfl, rfl⟩; have Z1 : Hid (1 = 1) := Lib.hid rfl)
      | (go_at_call 83; (have l0 := Z2.out; clear l0); refine (HXB.out _ Z2.out.fb).mono ?_; rintro e w4 ⟨A4, c4, rfl, o4, b4⟩; have I4 := Lib.hid (Z2.out.below b4); obtain ⟨⟨x0, x1⟩, f0, f1⟩ := HI'.out _ I4.out; clear o4 b4)
      | (go_at_call 83; refine (HXA.out _ HI.out.fb).mono ?_; rintro e w3 ⟨A3, c3, rfl, o3, b3⟩; have Z2 := Lib.hid (HI.out.below b3); clear o3 b3))
    refine bodyPost_ret (results_way2 rfl rfl rfl (moblk_two _ _ I4.out.r)) rfl ?_
    exact GiveW.no (by decide) (I4.out.fb.trans ((mokeep_two _ _ _ _).below I4.out.fb.size (fun i hi e => by omega)))
  rw [if_neg (fun h => h (by exact hXY))] at hE
  rw [← hXY] at HXB
  have hYl : Y.length = lst + 1 := hXY.symm
  clear hXY
  obtain ⟨bb, hbb⟩ : ∃ bb, decide (X.take lst = Y.take lst) = bb := ⟨_, rfl⟩
  have HAG : Hid (∀ (g3 g4 c3 c4 : Nat) (W : World) (B3 B4 : Nat), W.ownsRow B3 3 1 (.slice (some ⟨g3, 0, none⟩) (lst + 1) c3) (lst + 1) (X.map iv) → W.ownsRow B4 3 1 (.slice (some ⟨g4, 0, none⟩) (lst + 1) c4) (lst + 1) (Y.map iv) → ∀ c5 c6, Calls Try.prog 84 #[.slice (some ⟨g3, 0, none⟩) lst c5, .slice (some ⟨g4, 0, none⟩) lst c6] W fun e w' => e = .returned (.bool bb) ∧ Below W.heap.size W w') := Lib.hid (fun g3 g4 c3 c4 W B3 B4 o3 o4 c5 c6 => by
    rw [← hbb]
    exact moagree_any (some ⟨g3, 0, none⟩) (some ⟨g4, 0, none⟩) c5 c6 lst (X.take lst) (Y.take lst) W (by rw [List.length_take]; omega) (by rw [List.length_take]; omega) (reads_take (Reads.of_own o3) (by omega)) (reads_take (Reads.of_own o4) (by omega)) (by omega))
  have hlst5 : lst ≤ 4 := by omega
  have HU : GU (fun (_ : Nat) (v : Value) (_ : World) => v = .bool bb) := fun _ _ _ _ _ h => h
  have HE := Lib.hid hE
  have HF := Lib.hid hF
  have HL := Lib.hid hL
  have HBX := Lib.hid hb1
  have HBY := Lib.hid hb2
  have HXL := Lib.hid hXl
  have HYL := Lib.hid hYl
  have HBBE := Lib.hid hbb
  clear hE hF hL hb1 hb2 hXl hYl hbb hCA hCB hl5 hl5b hN hal hbl
  go_enter Try.func36, Try.ntmps36
  go_upto_region 9 with (first
    | (go_at_call 69; (have l0 := Z1.out; clear l0); refine (HCB.out _ HB2.out).mono ?_; rintro e _ ⟨rfl, rfl⟩)
    | (go_at_call 69; refine (HCA.out _ HB1.out).mono ?_; rintro e _ ⟨rfl, rfl⟩; have Z1 : Hid (1 = 1) := Lib.hid rfl)
    | (go_at_call 83; (have l0 := Z2.out; clear l0); refine (HXB.out _ Z2.out.fb).mono ?_; rintro e w4 ⟨A4, c4, rfl, o4, b4⟩; obtain ⟨g4, rfl, hc4⟩ := own_some o4; have I4 := Lib.hid (Z2.out.below b4); have O3 := Lib.hid (arown_stay Z3.out b4 (fun g hg => (arown_lt Z3.out g hg).2)); have O4 := Lib.hid o4; clear o4 b4)
    | (go_at_call 83; refine (HXA.out _ HI.out.fb).mono ?_; rintro e w3 ⟨A3, c3, rfl, o3, b3⟩; obtain ⟨g3, rfl, hc3⟩ := own_some o3; have Z2 := Lib.hid (HI.out.below b3); have Z3 := Lib.hid o3; clear o3 b3))
  refine wp_region_done_on (GS _) (GR [6] (fun (_ : Nat) (v : Value) (_ : World) => v = .bool bb) [.slice (some ⟨g3, 0, none⟩) (lst + 1) c3, .int .i64 (lst : Int), .slice (some ⟨g3, 0, none⟩) lst c3, .slice (some ⟨g4, 0, none⟩) (lst + 1) c4, .int .i64 (lst : Int), .slice (some ⟨g4, 0, none⟩) lst c4, undef, .bool (!bb)]) (by kernel_rfl) 79 rfl (by kernel_rfl) ((Below.refl _ _).drew) ?_ ?_
  · intro i hi
    have hi2 : i < 8 := hi
    clear hi
    rcases i with _ | i
    · refine gr_value rfl (by decide) (.slice (some ⟨g3, 0, none⟩) (lst + 1) c3) rfl ?_
      intro a8 w8 hb8 ho hn
      have o10 : a8.tmps[10]? = some _ := (ho 10 (by kernel_rfl)).trans rfl
      clear ho hn
      refine ⟨wanted_free rfl, ?_⟩
      go_simp
    rcases i with _ | i
    · refine gr_value rfl (by decide) (.int .i64 (lst : Int)) rfl ?_
      intro a8 w8 hb8 ho hn
      have o12 : a8.tmps[12]? = some _ := (ho 12 (by kernel_rfl)).trans rfl
      clear ho hn
      refine ⟨wanted_free rfl, ?_⟩
      go_simp
    rcases i with _ | i
    · refine gr_value rfl (by decide) (.slice (some ⟨g3, 0, none⟩) lst c3) rfl ?_
      intro a8 w8 hb8 ho hn
      obtain ⟨v48, n48, hq48⟩ := hn 0 48 (by kernel_rfl) rfl
      obtain rfl := hq48.1 (by decide)
      obtain ⟨v49, n49, hq49⟩ := hn 1 49 (by kernel_rfl) rfl
      obtain rfl := hq49.1 (by decide)
      clear ho hn
      refine ⟨wanted_free rfl, ?_⟩
      go_simp
      intro h
      omega
    rcases i with _ | i
    · refine gr_value rfl (by decide) (.slice (some ⟨g4, 0, none⟩) (lst + 1) c4) rfl ?_
      intro a8 w8 hb8 ho hn
      have o11 : a8.tmps[11]? = some _ := (ho 11 (by kernel_rfl)).trans rfl
      clear ho hn
      refine ⟨wanted_free rfl, ?_⟩
      go_simp
    rcases i with _ | i
    · refine gr_value rfl (by decide) (.int .i64 (lst : Int)) rfl ?_
      intro a8 w8 hb8 ho hn
      have o12 : a8.tmps[12]? = some _ := (ho 12 (by kernel_rfl)).trans rfl
      clear ho hn
      refine ⟨wanted_free rfl, ?_⟩
      go_simp
    rcases i with _ | i
    · refine gr_value rfl (by decide) (.slice (some ⟨g4, 0, none⟩) lst c4) rfl ?_
      intro a8 w8 hb8 ho hn
      obtain ⟨v51, n51, hq51⟩ := hn 3 51 (by kernel_rfl) rfl
      obtain rfl := hq51.1 (by decide)
      obtain ⟨v52, n52, hq52⟩ := hn 4 52 (by kernel_rfl) rfl
      obtain rfl := hq52.1 (by decide)
      clear ho hn
      refine ⟨wanted_free rfl, ?_⟩
      go_simp
      intro h
      omega
    rcases i with _ | i
    · refine gr_call HU 84 rfl (by decide) ?_
      intro a8 w8 hb8 ho hn
      obtain ⟨v50, n50, hq50⟩ := hn 2 50 (by kernel_rfl) rfl
      obtain rfl := hq50.1 (by decide)
      obtain ⟨v53, n53, hq53⟩ := hn 5 53 (by kernel_rfl) rfl
      obtain rfl := hq53.1 (by decide)
      clear ho hn
      refine ⟨wanted_free rfl, ?_⟩
      refine ⟨#[.slice (some ⟨g3, 0, none⟩) lst c3, .slice (some ⟨g4, 0, none⟩) lst c4], (by go_simp), (HAG.out g3 g4 c3 c4 w8 _ _ (arown_stay O3.out hb8 (fun g hg => (arown_lt O3.out g hg).2)) (arown_stay O4.out hb8 (fun g hg => (arown_lt O4.out g hg).2)) c3 c4).mono ?_⟩
      rintro e w9 ⟨rfl, b9⟩
      exact ⟨_, rfl, b9, rfl⟩
    rcases i with _ | i
    · refine gr_value rfl (by decide) (.bool (!bb)) rfl ?_
      intro a8 w8 hb8 ho hn
      obtain ⟨v54, n54, hq54⟩ := hn 6 54 (by kernel_rfl) rfl
      have hv54 := hq54.2 (by decide)
      clear ho hn
      refine ⟨wanted_free rfl, ?_⟩
      obtain rfl : v54 = .bool bb := hv54
      go_simp
    omega
  · intro dn fv w5 hb5 hR5 hall
    have h55 : fv 55 = _ := (hR5 7 55 rfl).1 (by decide)
    simp only [putAll, List.foldl_cons, List.foldl_nil, Act.put, List.setIfInBounds_toArray, List.set_cons_succ, List.set_cons_zero, h55, List.getD_cons_zero, List.getD_cons_succ]
    clear hR5 hall
    have hf55 : fv 55 = .bool (!bb) := h55
    generalize fv 48 = u48
    generalize fv 49 = u49
    generalize fv 50 = u50
    generalize fv 51 = u51
    generalize fv 52 = u52
    generalize fv 53 = u53
    generalize fv 54 = u54
    have I5 := Lib.hid (I4.out.below hb5)
    have O35 := Lib.hid (arown_stay O3.out hb5 (fun g hg => (arown_lt O3.out g hg).2))
    have O45 := Lib.hid (arown_stay O4.out hb5 (fun g hg => (arown_lt O4.out g hg).2))
    clear hb5
    try rw [hf55]
    obtain ⟨⟨x0, x1⟩, f0, f1⟩ := HI'.out _ I5.out
    cases bb
    · have hE := HE.out
      rw [if_pos (of_decide_eq_false HBBE.out)] at hE
      subst hE
      go_wp2
      refine bodyPost_ret (results_way2 rfl rfl rfl (moblk_two _ _ I5.out.r)) rfl ?_
      exact GiveW.no (by decide) (I5.out.fb.trans ((mokeep_two _ _ _ _).below I5.out.fb.size (fun i hi e => by omega)))
    · have hE := HE.out
      rw [if_neg (fun h => h (of_decide_eq_true HBBE.out))] at hE
      have HE2 := Lib.hid hE
      clear hE HE x0 x1 f0 f1
      go_upto_region 11 with (fail)
      obtain ⟨xn, hxn⟩ := Int.eq_ofNat_of_zero_le (HBX.out (X.getD lst 0) (getD_mem (by have := HXL.out; omega))).1
      obtain ⟨yn, hyn⟩ := Int.eq_ofNat_of_zero_le (HBY.out (Y.getD lst 0) (getD_mem (by have := HYL.out; omega))).1
      have hx4 : xn ≤ 4096 := by have := (HBX.out (X.getD lst 0) (getD_mem (by have := HXL.out; omega))).2; omega
      have hy4 : yn ≤ 4096 := by have := (HBY.out (Y.getD lst 0) (getD_mem (by have := HYL.out; omega))).2; omega
      have hXat : (X.map iv)[lst]? = some (.int .i64 (xn : Int)) := by
        rw [List.getElem?_map, List.getElem?_eq_getElem (by have := HXL.out; omega)]
        rw [List.getD_eq_getElem?_getD, List.getElem?_eq_getElem (by have := HXL.out; omega)] at hxn
        have h : X[lst]'(by have := HXL.out; omega) = (xn : Int) := hxn
        show some (iv _) = _
        rw [h]
        rfl
      have hYat : (Y.map iv)[lst]? = some (.int .i64 (yn : Int)) := by
        rw [List.getElem?_map, List.getElem?_eq_getElem (by have := HYL.out; omega)]
        rw [List.getD_eq_getElem?_getD, List.getElem?_eq_getElem (by have := HYL.out; omega)] at hyn
        have h : Y[lst]'(by have := HYL.out; omega) = (yn : Int) := hyn
        show some (iv _) = _
        rw [h]
        rfl
      have HCL : Hid (∀ W2, Below w5.heap.size w5 W2 → W2.cell? ⟨g3, lst, none⟩ = some (.int .i64 (xn : Int)) ∧ W2.cell? ⟨g4, lst, none⟩ = some (.int .i64 (yn : Int))) := Lib.hid (fun W2 h2 =>
        ⟨(own_at (arown_stay O35.out h2 (fun g hg => (arown_lt O35.out g hg).2)) hXat).1, (own_at (arown_stay O45.out h2 (fun g hg => (arown_lt O45.out g hg).2)) hYat).1⟩)
      have HXN := Lib.hid hxn
      have HYN := Lib.hid hyn
      clear hxn hyn hXat hYat
      have hl1 : (lst : Int) < (lst : Int) + 1 := by omega
      have hl0 : ¬ (lst : Int) < 0 := by omega
      refine wp_region_doneT_on (AlS w5 (.int .i64 (xn : Int)) (.int .i64 (yn : Int))) (alR [.slice (some ⟨g3, 0, none⟩) (lst + 1) c3, .int .i64 (lst : Int), .pointer (some ⟨g3, lst, none⟩), .int .i64 (xn : Int), .slice (some ⟨g4, 0, none⟩) (lst + 1) c4, .int .i64 (lst : Int), .pointer (some ⟨g4, lst, none⟩), .int .i64 (yn : Int)]) (by kernel_rfl) 79 rfl (by kernel_rfl) ⟨(Below.refl _ _).drew, fun e => (by cases e), fun e => (by cases e), fun e => (by cases e), fun e => (by cases e), fun e => (by cases e)⟩ ?_ ?_
      · intro i hi
        have hi2 : i < 12 := hi
        clear hi
        rcases i with _ | i
        · refine al_value (by decide) (by decide) (by decide) (by decide) rfl 57 rfl (by decide) (by decide) (.slice (some ⟨g3, 0, none⟩) (lst + 1) c3) rfl ?_
          intro a8 w8 hb8 ho hn
          have o10 : a8.tmps[10]? = some _ := (ho 10 (by kernel_rfl)).trans rfl
          clear ho hn
          refine ⟨wanted_free rfl, ?_⟩
          go_simp
        rcases i with _ | i
        · refine al_value (by decide) (by decide) (by decide) (by decide) rfl 58 rfl (by decide) (by decide) (.int .i64 (lst : Int)) rfl ?_
          intro a8 w8 hb8 ho hn
          have o12 : a8.tmps[12]? = some _ := (ho 12 (by kernel_rfl)).trans rfl
          clear ho hn
          refine ⟨wanted_free rfl, ?_⟩
          go_simp
        rcases i with _ | i
        · refine al_value (by decide) (by decide) (by decide) (by decide) rfl 59 rfl (by decide) (by decide) (.pointer (some ⟨g3, lst, none⟩)) rfl ?_
          intro a8 w8 hb8 ho hn
          obtain ⟨v57, n57, hq57⟩ := hn 0 57 (by kernel_rfl) rfl
          obtain rfl := hq57 (by decide) (by decide)
          obtain ⟨v58, n58, hq58⟩ := hn 1 58 (by kernel_rfl) rfl
          obtain rfl := hq58 (by decide) (by decide)
          clear ho hn
          refine ⟨wanted_free rfl, ?_⟩
          go_simp
        rcases i with _ | i
        · refine al_value (by decide) (by decide) (by decide) (by decide) rfl 60 rfl (by decide) (by decide) (.int .i64 (xn : Int)) rfl ?_
          intro a8 w8 hb8 ho hn
          obtain ⟨v59, n59, hq59⟩ := hn 2 59 (by kernel_rfl) rfl
          obtain rfl := hq59 (by decide) (by decide)
          clear ho hn
          refine ⟨wanted_free rfl, ?_⟩
          obtain ⟨y3, y4⟩ := HCL.out w8 hb8
          go_simp
        rcases i with _ | i
        · refine al_value (by decide) (by decide) (by decide) (by decide) rfl 61 rfl (by decide) (by decide) (.slice (some ⟨g4, 0, none⟩) (lst + 1) c4) rfl ?_
          intro a8 w8 hb8 ho hn
          have o11 : a8.tmps[11]? = some _ := (ho 11 (by kernel_rfl)).trans rfl
          clear ho hn
          refine ⟨wanted_free rfl, ?_⟩
          go_simp
        rcases i with _ | i
        · refine al_value (by decide) (by decide) (by decide) (by decide) rfl 62 rfl (by decide) (by decide) (.int .i64 (lst : Int)) rfl ?_
          intro a8 w8 hb8 ho hn
          have o12 : a8.tmps[12]? = some _ := (ho 12 (by kernel_rfl)).trans rfl
          clear ho hn
          refine ⟨wanted_free rfl, ?_⟩
          go_simp
        rcases i with _ | i
        · refine al_value (by decide) (by decide) (by decide) (by decide) rfl 63 rfl (by decide) (by decide) (.pointer (some ⟨g4, lst, none⟩)) rfl ?_
          intro a8 w8 hb8 ho hn
          obtain ⟨v61, n61, hq61⟩ := hn 4 61 (by kernel_rfl) rfl
          obtain rfl := hq61 (by decide) (by decide)
          obtain ⟨v62, n62, hq62⟩ := hn 5 62 (by kernel_rfl) rfl
          obtain rfl := hq62 (by decide) (by decide)
          clear ho hn
          refine ⟨wanted_free rfl, ?_⟩
          go_simp
        rcases i with _ | i
        · refine al_value (by decide) (by decide) (by decide) (by decide) rfl 64 rfl (by decide) (by decide) (.int .i64 (yn : Int)) rfl ?_
          intro a8 w8 hb8 ho hn
          obtain ⟨v63, n63, hq63⟩ := hn 6 63 (by kernel_rfl) rfl
          obtain rfl := hq63 (by decide) (by decide)
          clear ho hn
          refine ⟨wanted_free rfl, ?_⟩
          obtain ⟨y3, y4⟩ := HCL.out w8 hb8
          go_simp
        rcases i with _ | i
        · refine doneT_make rfl ?_
          intro dn a8 w8 hS hd hx ho hn
          have o78 : a8.tmps[78]? = some _ := (ho 78 (by kernel_rfl)).trans rfl
          have hsz : 78 < a8.tmps.size := (Array.getElem?_eq_some_iff.1 o78).1
          clear ho hn hx
          refine ⟨wanted_free rfl, .pointer (some ⟨w8.heap.size, 0, none⟩), w8.alloc (.cells #[.int .i64 0] 3), (by go_simp), hS.make8 (by omega) hd, ⟨fun h1 h2 => absurd rfl h1, fun _ => upd_self _ _, fun _ => by omega⟩, fun j u _ _ hR => alR_up hR⟩
        rcases i with _ | i
        · refine doneT_make rfl ?_
          intro dn a8 w8 hS hd hx ho hn
          have o78 : a8.tmps[78]? = some _ := (ho 78 (by kernel_rfl)).trans rfl
          have hsz : 78 < a8.tmps.size := (Array.getElem?_eq_some_iff.1 o78).1
          clear ho hn hx
          refine ⟨wanted_free rfl, .pointer (some ⟨w8.heap.size, 0, none⟩), w8.alloc (.cells #[.int .i64 0] 3), (by go_simp), hS.make9 (by omega) hd, ⟨fun h1 h2 => absurd rfl h2, fun _ => by omega, fun _ => upd_self _ _⟩, fun j u _ _ hR => alR_up hR⟩
        rcases i with _ | i
        · refine doneT_store rfl rfl ?_
          intro dn a8 w8 hS hd hx ho hn
          obtain ⟨v13, n13, hq13⟩ := hn 8 13 (by kernel_rfl) rfl
          have h8 := hq13.2.1 rfl
          obtain ⟨v60, n60, hq60⟩ := hn 3 60 (by kernel_rfl) rfl
          obtain rfl := hq60.1 (by decide) (by decide)
          obtain ⟨g, e1, h2, u, h3, h4⟩ := hS.h8 h8
          have ev : v13 = .pointer (some ⟨g, 0, none⟩) := by
            rw [n13] at e1
            injection e1
          subst ev
          have y0 := h3.cell 0
          have f0 := h3.frozen 0
          clear ho hn hx hq13 hq60 h4
          refine ⟨wanted_free rfl, w8.setCell ⟨g, 0, none⟩ (.int .i64 (xn : Int)), (by clear hS h2 h3; go_simp), hS.put10 h8 e1, ⟨fun _ _ => rfl, fun e => by omega, fun e => by omega⟩, fun j u _ _ hR => alR_up hR⟩
        rcases i with _ | i
        · refine doneT_store rfl rfl ?_
          intro dn a8 w8 hS hd hx ho hn
          obtain ⟨v14, n14, hq14⟩ := hn 9 14 (by kernel_rfl) rfl
          have h8 := hq14.2.2 rfl
          obtain ⟨v64, n64, hq64⟩ := hn 7 64 (by kernel_rfl) rfl
          obtain rfl := hq64.1 (by decide) (by decide)
          obtain ⟨g, e1, h2, u, h3, h4⟩ := hS.h9 h8
          have ev : v14 = .pointer (some ⟨g, 0, none⟩) := by
            rw [n14] at e1
            injection e1
          subst ev
          have y0 := h3.cell 0
          have f0 := h3.frozen 0
          clear ho hn hx hq14 hq64 h4
          refine ⟨wanted_free rfl, w8.setCell ⟨g, 0, none⟩ (.int .i64 (yn : Int)), (by clear hS h2 h3; go_simp), hS.put11 h8 e1, ⟨fun _ _ => rfl, fun e => by omega, fun e => by omega⟩, fun j u _ _ hR => alR_up hR⟩
        omega
      · intro dn fv w6 hS5 hR5 hall
        obtain ⟨g8, e13, hg8, u8, hb8, hu8⟩ := hS5.h8 (hall 8 (by decide))
        obtain ⟨g9, e14, hg9, u9, hb9, hu9⟩ := hS5.h9 (hall 9 (by decide))
        obtain rfl := hu8 (hall 10 (by decide))
        obtain rfl := hu9 (hall 11 (by decide))
        have hbw := hS5.b
        clear hS5 hR5 hall hu8 hu9
        simp only [putAll, List.foldl_cons, List.foldl_nil, Act.put, List.setIfInBounds_toArray, List.set_cons_succ, List.set_cons_zero, List.getElem?_toArray, List.getElem?_cons_succ, List.getElem?_cons_zero, Option.some.injEq] at e13 e14 ⊢
        rw [e13, e14]
        have I6 := Lib.hid (I5.out.below hbw)
        have O36 := Lib.hid (arown_stay O35.out hbw (fun g hg => (arown_lt O35.out g hg).2))
        have P8 := Lib.hid hb8
        have P9 := Lib.hid hb9
        have q8 := hb8.cell 0
        have q9 := hb9.cell 0
        have GG := Lib.hid (show w.heap.size + 1 + 1 < g8 ∧ w.heap.size + 1 + 1 < g9 by have := I5.out.y.lt; omega)
        obtain ⟨wd, hwd⟩ : ∃ wd : Nat, xn + yn = wd := ⟨_, rfl⟩
        have ewd : (xn : Int) + (yn : Int) = (wd : Int) := by omega
        have hwd8 : wd ≤ 8192 := by omega
        have HWD := Lib.hid hwd
        clear e13 e14 hb8 hb9 hg8 hg9 hbw hwd
        generalize fv 57 = u57
        generalize fv 58 = u58
        generalize fv 59 = u59
        generalize fv 60 = u60
        generalize fv 61 = u61
        generalize fv 62 = u62
        generalize fv 63 = u63
        generalize fv 64 = u64
        go_upto_region 13 with (fail)
        obtain ⟨w7, hw7⟩ : ∃ w7, w6.alloc (.cells #[.int .i64 (wd : Int)] 3) = w7 := ⟨_, rfl⟩
        have hb67 : Below w6.heap.size w6 w7 := by rw [← hw7]; exact albel _ _
        have I7 := Lib.hid (I6.out.below hb67)
        have O37 := Lib.hid (arown_mono (arown_stay O36.out hb67 (fun g hg => (arown_lt O36.out g hg).2)) (show w.heap.size + 1 ≤ _ by simp))
        have P87 := Lib.hid (P8.out.below hb67 P8.out.lt)
        have P97 := Lib.hid (P9.out.below hb67 P9.out.lt)
        obtain ⟨g15, hg15⟩ : ∃ g15, w6.heap.size = g15 := ⟨_, rfl⟩
        have P157 : Hid (Blk w7 g15 3 #[.int .i64 (wd : Int)]) := Lib.hid (by rw [← hw7, ← hg15]; exact Blk.new _ _ _)
        have G15 : Hid (w.heap.size + 1 + 1 < g15) := Lib.hid (by have := I6.out.y.lt; omega)
        have hRe : R = X.take lst ++ [(wd : Int)] := by rw [HL.out, HXN.out, HYN.out, ewd]
        have HRM : Hid (R.map iv = (X.take lst).map iv ++ [.int .i64 (wd : Int)]) := Lib.hid (by rw [hRe, List.map_append]; rfl)
        have hRl : R.length = lst + 1 := by rw [hRe, List.length_append, List.length_take, HXL.out, List.length_singleton]; omega
        have hFe : F = catF wd xn yn CA CB := by rw [HF.out, HXN.out, HYN.out, ewd]; rfl
        have HG : Hid (∀ A c W, CeT w w7 W → W.ownsRow (w.heap.size + 1) 3 1 (.slice A (lst + 1) c) (lst + 1) (R.map iv) → Calls Try.prog 78 #[.slice A (lst + 1) c, .func (.func 85) #[] #[.pointer (some ⟨g15, 0, none⟩), .pointer (some ⟨g8, 0, none⟩), .pointer (some ⟨w.heap.size + 1, 0, none⟩), .pointer (some ⟨g9, 0, none⟩), .pointer (some ⟨w.heap.size + 1 + 1, 0, none⟩)]] W (GiveW (w.heap.size + 1) R F E W)) := Lib.hid (fun A c W hT ho => by
          have h8 := GG.out
          have h9 := G15.out
          rw [HE2.out]
          rw [← hRl] at ho ⊢
          refine mogather_any (w.heap.size + 1) A c R 85 _ (enters_of Try.func85 (by kernel_rfl) rfl) F W ho (by have := I7.out.y.lt; have := hT.1.size; omega) (by omega) (fun hk W' hs n hn => ?_)
          have hs7 := hT.1.on hs
          rw [hRe] at hk hn
          obtain ⟨c1, c2, c3, c4⟩ := cat_conds HXL.out HYL.out (of_decide_eq_true HBBE.out) HXN.out HYN.out HWD.out HPA.out HPB.out hk hn
          rw [hFe]
          exact mocat1_any g15 g8 (w.heap.size + 1) g9 (w.heap.size + 1 + 1) wd xn yn CA CB n W' c1 c2 HWD.out.symm hx4 hy4 hca4 hcb4 c3 c4 (hs7.blk_ P157.out (by omega)) (hs7.blk_ P87.out (by omega)) (hs7.blk_ I7.out.x (by omega)) (hs7.blk_ P97.out (by omega)) (hs7.blk_ I7.out.y (by omega)))
        have hT0 : CeT w w7 w7.drew := ⟨Sin.of (Below.refl _ _).drew, I7.out.fb.trans ((Below.refl _ _).drew), _, _, I7.out.r.drew⟩
        have HCT : CT (CeT w w7) (CeF w R F E) (CeU w.heap.size lst wd R F E) := ce_stays
        have HBS : Hid (w.heap.size + 1 ≤ w7.heap.size) := Lib.hid (by have := I7.out.y.lt; omega)
        obtain ⟨i1, hi1, h1z0, h1z1, h1z2⟩ := info_parts arInfoInt
        try rw [hw7]
        try rw [hg15]
        clear hw7 hb67 hRe hRl hFe q8 q9 hg15
        refine wp_region_done_on (CS (CeT w w7) (CeF w R F E) 11) (GR [5, 6, 8, 9] (CeU w.heap.size lst wd R F E) [.slice (some ⟨g3, 0, none⟩) (lst + 1) c3, .int .i64 (lst : Int), .int .i64 (lst : Int), .slice (some ⟨g3, 0, none⟩) lst lst, .int .i64 (wd : Int), undef, undef, .func (.func 85) #[] #[.pointer (some ⟨g15, 0, none⟩), .pointer (some ⟨g8, 0, none⟩), .pointer (some ⟨w.heap.size + 1, 0, none⟩), .pointer (some ⟨g9, 0, none⟩), .pointer (some ⟨w.heap.size + 1 + 1, 0, none⟩)], undef, undef, .int .i64 E, undef, .int .i64 E]) (by kernel_rfl) 79 rfl (by kernel_rfl) ⟨hT0, fun e => (by cases e)⟩ ?_ ?_
        · intro i hi
          have hi2 : i < 13 := hi
          clear hi
          rcases i with _ | i
          · refine cs_value (by decide) rfl (by decide) (.slice (some ⟨g3, 0, none⟩) (lst + 1) c3) rfl ?_
            intro a8 w8 hb8 ho hn
            have o10 : a8.tmps[10]? = some _ := (ho 10 (by kernel_rfl)).trans rfl
            clear ho hn
            refine ⟨wanted_free rfl, ?_⟩
            go_simp
          rcases i with _ | i
          · refine cs_value (by decide) rfl (by decide) (.int .i64 (lst : Int)) rfl ?_
            intro a8 w8 hb8 ho hn
            have o12 : a8.tmps[12]? = some _ := (ho 12 (by kernel_rfl)).trans rfl
            clear ho hn
            refine ⟨wanted_free rfl, ?_⟩
            go_simp
          rcases i with _ | i
          · refine cs_value (by decide) rfl (by decide) (.int .i64 (lst : Int)) rfl ?_
            intro a8 w8 hb8 ho hn
            have o12 : a8.tmps[12]? = some _ := (ho 12 (by kernel_rfl)).trans rfl
            clear ho hn
            refine ⟨wanted_free rfl, ?_⟩
            go_simp
          rcases i with _ | i
          · refine cs_value (by decide) rfl (by decide) (.slice (some ⟨g3, 0, none⟩) lst lst) rfl ?_
            intro a8 w8 hb8 ho hn
            obtain ⟨v68, n68, hq68⟩ := hn 0 68 (by kernel_rfl) rfl
            obtain rfl := hq68.1 (by decide)
            obtain ⟨v69, n69, hq69⟩ := hn 1 69 (by kernel_rfl) rfl
            obtain rfl := hq69.1 (by decide)
            obtain ⟨v70, n70, hq70⟩ := hn 2 70 (by kernel_rfl) rfl
            obtain rfl := hq70.1 (by decide)
            clear ho hn
            refine ⟨wanted_free rfl, ?_⟩
            go_simp
            all_goals omega
          rcases i with _ | i
          · refine cs_value (by decide) rfl (by decide) (.int .i64 (wd : Int)) rfl ?_
            intro a8 w8 hb8 ho hn
            have o15 : a8.tmps[15]? = some _ := (ho 15 (by kernel_rfl)).trans rfl
            clear ho hn
            refine ⟨wanted_free rfl, ?_⟩
            have y0 := (hb8.1.blk_ P157.out (by have := G15.out; omega)).cell 0
            go_simp
          rcases i with _ | i
          · refine cs_make HCT (by decide) rfl (by decide) ?_
            intro a8 w8 hb8 ho hn
            obtain ⟨v72, n72, hq72⟩ := hn 4 72 (by kernel_rfl) rfl
            obtain rfl := hq72.1 (by decide)
            clear ho hn
            refine ⟨wanted_free rfl, ?_⟩
            refine ⟨.slice (some ⟨w8.heap.size, 0, none⟩) 1 1, w8.alloc (.cells #[.int .i64 (wd : Int)] 3), (by go_simp), albel _ _, ⟨w8.heap.size, rfl, Nat.le_trans HBS.out hb8.1.size, Blk.new w8 _ _⟩⟩
          rcases i with _ | i
          · refine cs_make HCT (by decide) rfl (by decide) ?_
            intro a8 w8 hb8 ho hn
            obtain ⟨v71, n71, hq71⟩ := hn 3 71 (by kernel_rfl) rfl
            obtain rfl := hq71.1 (by decide)
            obtain ⟨v73, n73, hq73⟩ := hn 5 73 (by kernel_rfl) rfl
            have hv73 := hq73.2 (by decide)
            clear ho hn
            refine ⟨wanted_free rfl, ?_⟩
            obtain ⟨g, rfl, hg0, hg⟩ : ∃ g, v73 = .slice (some ⟨g, 0, none⟩) 1 1 ∧ w.heap.size + 1 ≤ g ∧ Blk w8 g 3 #[.int .i64 (wd : Int)] := hv73
            obtain ⟨v9, w9, hrun, hown, hgrow⟩ := run_append_arg_grows (P := Try.prog) (w := w8) 22 22 3 i1 _ 1 8 Try.underlying22 hi1 h1z0 h1z1 h1z2 rfl (by decide) ⟨g3, 0, none⟩ lst lst ((X.take lst).map iv) (by rw [List.length_map, List.length_take, HXL.out]; omega) (fun j u hu => (hb8.1.own_ O37.out (Nat.le_refl _)).cells (g := g3) rfl j u (take_at hu)) ⟨g, 0, none⟩ 1 1 [.int .i64 (wd : Int)] rfl (cell_one hg) (by omega) (by unfold maxLen; omega) (by omega)
            rw [← HRM.out] at hown
            obtain ⟨A9, c9, rfl⟩ := mo_own_slice hown
            exact ⟨_, w9, exec_append (.tmp 71) (.tmp 73) 22 rfl (eval_of n71) (eval_of n73) hrun, (Below.refl _ _).grown hgrow (Nat.le_refl _) (fun k e => by cases e), ⟨A9, c9, rfl, arown_mono hown (Nat.le_trans HBS.out hb8.1.size)⟩⟩
          rcases i with _ | i
          · refine cs_value (by decide) rfl (by decide) (.func (.func 85) #[] #[.pointer (some ⟨g15, 0, none⟩), .pointer (some ⟨g8, 0, none⟩), .pointer (some ⟨w.heap.size + 1, 0, none⟩), .pointer (some ⟨g9, 0, none⟩), .pointer (some ⟨w.heap.size + 1 + 1, 0, none⟩)]) rfl ?_
            intro a8 w8 hb8 ho hn
            have o15 : a8.tmps[15]? = some _ := (ho 15 (by kernel_rfl)).trans rfl
            have o13 : a8.tmps[13]? = some _ := (ho 13 (by kernel_rfl)).trans rfl
            have o6 : a8.tmps[6]? = some _ := (ho 6 (by kernel_rfl)).trans rfl
            have o14 : a8.tmps[14]? = some _ := (ho 14 (by kernel_rfl)).trans rfl
            have o8 : a8.tmps[8]? = some _ := (ho 8 (by kernel_rfl)).trans rfl
            clear ho hn
            refine ⟨wanted_free rfl, ?_⟩
            go_simp
          rcases i with _ | i
          · refine cs_call HCT 78 (by decide) rfl (by decide) ?_
            intro a8 w8 hb8 ho hn
            obtain ⟨v74, n74, hq74⟩ := hn 6 74 (by kernel_rfl) rfl
            have hv74 := hq74.2 (by decide)
            obtain ⟨v75, n75, hq75⟩ := hn 7 75 (by kernel_rfl) rfl
            obtain rfl := hq75.1 (by decide)
            clear ho hn
            refine ⟨wanted_free rfl, ?_⟩
            obtain ⟨A9, c9, rfl, o9⟩ : ∃ A c, v74 = .slice A (lst + 1) c ∧ w8.ownsRow (w.heap.size + 1) 3 1 (.slice A (lst + 1) c) (lst + 1) (R.map iv) := hv74
            refine ⟨#[.slice A9 (lst + 1) c9, .func (.func 85) #[] #[.pointer (some ⟨g15, 0, none⟩), .pointer (some ⟨g8, 0, none⟩), .pointer (some ⟨w.heap.size + 1, 0, none⟩), .pointer (some ⟨g9, 0, none⟩), .pointer (some ⟨w.heap.size + 1 + 1, 0, none⟩)]], (by go_simp), (HG.out A9 c9 w8 hb8 o9).mono ?_⟩
            rintro e w9 ⟨v, rfl, b9, h9, k9⟩
            exact ⟨_, rfl, b9, v, rfl, ceW_of h9 k9⟩
          rcases i with _ | i
          · refine cs_make HCT (by decide) rfl (by decide) ?_
            intro a8 w8 hb8 ho hn
            obtain ⟨v76, n76, hq76⟩ := hn 8 76 (by kernel_rfl) rfl
            have hv76 := hq76.2 (by decide)
            clear ho hn
            refine ⟨wanted_free rfl, ?_⟩
            obtain ⟨v0, rfl, h9⟩ : ∃ v0, v76 = .tuple #[v0, .int .i64 E] ∧ CeW w.heap.size R F E v0 w8 := hv76
            exact ⟨v0, w8, (by go_simp), Below.refl _ _, h9⟩
          rcases i with _ | i
          · refine cs_value (by decide) rfl (by decide) (.int .i64 E) rfl ?_
            intro a8 w8 hb8 ho hn
            obtain ⟨v76, n76, hq76⟩ := hn 8 76 (by kernel_rfl) rfl
            have hv76 := hq76.2 (by decide)
            clear ho hn
            refine ⟨wanted_free rfl, ?_⟩
            obtain ⟨v0, rfl, h9⟩ : ∃ v0, v76 = .tuple #[v0, .int .i64 E] ∧ CeW w.heap.size R F E v0 w8 := hv76
            go_simp
          rcases i with _ | i
          · refine cs_store rfl rfl (by decide) rfl ?_
            intro a8 w8 hb8 ho hn
            have o4 : a8.tmps[4]? = some _ := (ho 4 (by kernel_rfl)).trans rfl
            obtain ⟨v77, n77, hq77⟩ := hn 9 77 (by kernel_rfl) rfl
            have hv77 := hq77.2 (by decide)
            clear ho hn
            refine ⟨wanted_free rfl, ?_⟩
            obtain ⟨v0, v1, rfl, ⟨⟨A9, n9, c9, rfl⟩, hf9⟩, h9⟩ : ∃ v0 v1, v77 = .agg #[v0, v1] ∧ ((∃ A n c, v0 = .slice A n c) ∧ ((∃ gf cap, v1 = .func (.func gf) #[] cap) ∨ v1 = .nilFunc)) ∧ (E = 0 → okShape R = true ∧ WayAt (w.heap.size + 1) w8 v77 R F) ∧ (E ≠ 0 → v77 = noW) := hv77
            obtain ⟨ux, vx, hbx⟩ := hb8.2.2
            have x0 := hbx.cell 0
            have x1 := hbx.cell 1
            have f0 := hbx.frozen 0
            have f1 := hbx.frozen 1
            refine ⟨(w8.setCell ⟨w.heap.size, 0, none⟩ (.slice A9 n9 c9)).setCell ⟨w.heap.size, 1, none⟩ v1, ?_, hb8.store _ v1, CeF.store hb8 ⟨_, v1, rfl, ⟨⟨_, _, _, rfl⟩, hf9⟩, h9⟩, fun j v h => CeU.sin h (ce_sin _ _ _ _)⟩
            clear hb8 h9 hbx
            rcases hf9 with ⟨gf9, cap9, rfl⟩ | rfl
            all_goals go_simp
          rcases i with _ | i
          · refine cs_value (by decide) rfl (by decide) (.int .i64 E) rfl ?_
            intro a8 w8 hb8 ho hn
            obtain ⟨v78, n78, hq78⟩ := hn 10 78 (by kernel_rfl) rfl
            obtain rfl := hq78.1 (by decide)
            clear ho hn
            refine ⟨wanted_free rfl, ?_⟩
            go_simp
          omega
        · intro dn fv w5 hb5 hR5 hall
          have h5 : fv 5 = _ := (hR5 12 5 rfl).1 (by decide)
          simp only [putAll, List.foldl_cons, List.foldl_nil, Act.put, List.setIfInBounds_toArray, List.set_cons_succ, List.set_cons_zero, h5, List.getD_cons_zero, List.getD_cons_succ]
          obtain ⟨v0, v1, hbl, hE0, hEn⟩ := hb5.2 (hall 11 (by decide))
          have hfb := hb5.1.2.1
          clear hR5 hall hb5
          go_wp2
          refine bodyPost_ret (results_way2 rfl rfl rfl hbl) rfl ?_
          exact ⟨_, rfl, hfb, fun e => ⟨(hE0 e).1, (hE0 e).2.base (by omega)⟩, hEn⟩
end Go.Proofs.Ytenpohnccnlngaa.mo

namespace Go.Proofs.Ytenpohnccnlngaa.mo
open Go.RowKit Go.Proofs.Ytenpohnccnlngaa.arr

/-- Cat's error, and what it makes. -/
def ctE (a b : AV) : Int := if (okA a && okA b) = false then 110 else if a.kind ≠ b.kind ∧ (ctwE a.sh b.sh = 0 ∨ ctwE a.sh b.sh = 9) then 5 else if ctwE a.sh b.sh ≠ 0 then ctwE a.sh b.sh else goE a.kind [a, b] (ctwL a.sh b.sh) (ctwF a.sh b.sh)
def ctA (a b : AV) : AV := if (okA a && okA b) = false then noA else if a.kind ≠ b.kind ∧ (ctwE a.sh b.sh = 0 ∨ ctwE a.sh b.sh = 9) then noA else if ctwE a.sh b.sh ≠ 0 then noA else goA a.kind [a, b] (ctwL a.sh b.sh) (ctwF a.sh b.sh)
/-- Room behind a shape. -/
structure Cap (a : AV) (p : AP) : Prop where
  le : a.sh.length ≤ p.c0
  no : p.A0 = none → p.c0 = 0
theorem Cap.of {W : World} {B : Nat} {a : AV} {p : AP} (h : AOwn B W a p) : Cap a p := by
  rcases h.o0.2 with ⟨e, h0⟩ | ⟨g, cap, cur, e, _, _, h1, _⟩
  · injection e with e1 e2 e3
    exact ⟨by omega, fun _ => e3⟩
  · injection e with e1 e2 e3
    exact ⟨by omega, fun h => by rw [h] at e1; cases e1⟩
theorem Els.two {W : World} {a b : AV} {p q : AP} (h : AEl W a p) (k : AEl W b q) : Els (W.alloc (.cells #[.int .i64 a.kind, .slice p.A0 a.sh.length p.c0, .slice p.A1 a.el.length p.c1, .int .i64 b.kind, .slice q.A0 b.sh.length q.c0, .slice q.A1 b.el.length q.c1] 25)) (some ⟨W.heap.size, 0, none⟩) [a, b] := by
  refine ⟨fun i x hx => ?_⟩
  rcases i with _ | i
  · injection hx with hx
    subst hx
    exact ⟨_, p, rfl, by simp, h.below (albel _ _), (Blk.new W 25 _).cell 2⟩
  · rcases i with _ | i
    · injection hx with hx
      subst hx
      exact ⟨_, q, rfl, by simp, k.below (albel _ _), (Blk.new W 25 _).cell 5⟩
    · simp at hx

set_option maxRecDepth 100000 in
set_option maxHeartbeats 8000000 in
theorem mocat_any (a b : AV) (p q : AP) (w : World) (ha : AEl w a p) (hb : AEl w b q) (ca : Cap a p) (cb : Cap b q) :
    Calls Try.prog 23 #[.agg (arC a p), .agg (arC b q)] w (GiveE (ctA a b) (ctE a b) w) := by
  have hI := TwI.start ha hb
  obtain ⟨w1, hw1⟩ : ∃ w1, ((w.alloc (.cells (arC a p) 25)).alloc (.cells (arC b q) 25)).alloc (.cells #[.int .i64 0, .slice none 0 0, .slice none 0 0] 25) = w1 := ⟨_, rfl⟩
  rw [hw1] at hI
  have HCA := Lib.hid (fun W (h : TwI w a b p q W) => archeck_any a p W h.ea)
  have HCB := Lib.hid (fun W (h : TwI w a b p q W) => archeck_any b q W h.eb)
  have hE : ctE a b = if (okA a && okA b) = false then 110 else if a.kind ≠ b.kind ∧ (ctwE a.sh b.sh = 0 ∨ ctwE a.sh b.sh = 9) then 5 else if ctwE a.sh b.sh ≠ 0 then ctwE a.sh b.sh else goE a.kind [a, b] (ctwL a.sh b.sh) (ctwF a.sh b.sh) := rfl
  have hA : ctA a b = if (okA a && okA b) = false then noA else if a.kind ≠ b.kind ∧ (ctwE a.sh b.sh = 0 ∨ ctwE a.sh b.sh = 9) then noA else if ctwE a.sh b.sh ≠ 0 then noA else goA a.kind [a, b] (ctwL a.sh b.sh) (ctwF a.sh b.sh) := rfl
  have hca : checkE a = if okA a = true then 0 else 110 := rfl
  have hcb : checkE b = if okA b = true then 0 else 110 := rfl
  have hLC : arC a p = #[.int .i64 a.kind, .slice p.A0 a.sh.length p.c0, .slice p.A1 a.el.length p.c1] := rfl
  have hAC : arC b q = #[.int .i64 b.kind, .slice q.A0 b.sh.length q.c0, .slice q.A1 b.el.length q.c1] := rfl
  have HI := Lib.hid hI
  have HWY : Hid (∀ W, TwI w a b p q W → Calls Try.prog 36 #[.slice p.A0 a.sh.length p.c0, .slice q.A0 b.sh.length q.c0] W (GiveW W.heap.size (ctwL a.sh b.sh) (ctwF a.sh b.sh) (ctwE a.sh b.sh) W)) := Lib.hid (fun W h => mocatway_any p.A0 q.A0 p.c0 q.c0 a.sh b.sh W h.ea.r0 h.eb.r0 ca.le cb.le ca.no cb.no ha.b0 hb.b0)
  generalize ctwE a.sh b.sh = E at *
  generalize ctwF a.sh b.sh = F at *
  generalize ctwL a.sh b.sh = R at *
  have HGO : Hid (∀ (v : Value) (W3 : World) (g : Nat), W3.heap.size = g → okShape R = true → WayAt w.heap.size W3 v R F → AEl W3 a p → AEl W3 b q →
      Calls Try.prog 28 #[v, .int .i64 a.kind, .slice (some ⟨g, 0, none⟩) 2 2] (W3.alloc (.cells #[.int .i64 a.kind, .slice p.A0 a.sh.length p.c0, .slice p.A1 a.el.length p.c1, .int .i64 b.kind, .slice q.A0 b.sh.length q.c0, .slice q.A1 b.el.length q.c1] 25)) (GiveE (goA a.kind [a, b] R F) (goE a.kind [a, b] R F) (W3.alloc (.cells #[.int .i64 a.kind, .slice p.A0 a.sh.length p.c0, .slice p.A1 a.el.length p.c1, .int .i64 b.kind, .slice q.A0 b.sh.length q.c0, .slice q.A1 b.el.length q.c1] 25)))) := Lib.hid (fun v W3 g e hok hv he hf => by
    subst e
    exact mogo_any w.heap.size v R F a.kind (some ⟨W3.heap.size, 0, none⟩) 2 [a, b] _ (hv.below (albel _ _)) hok (Els.two he hf) (fun x hx => by
      simp only [List.mem_cons, List.not_mem_nil, or_false] at hx
      rcases hx with rfl | rfl
      · exact he.f1
      · exact hf.f1))
  have HC : Hid (∀ W, TwI w a b p q W → ((W.cell? ⟨w.heap.size, 0, none⟩ = some (.int .i64 a.kind) ∧ W.cell? ⟨w.heap.size, 1, none⟩ = some (.slice p.A0 a.sh.length p.c0) ∧ W.cell? ⟨w.heap.size, 2, none⟩ = some (.slice p.A1 a.el.length p.c1)) ∧
    (W.cell? ⟨w.heap.size + 1, 0, none⟩ = some (.int .i64 b.kind) ∧ W.cell? ⟨w.heap.size + 1, 1, none⟩ = some (.slice q.A0 b.sh.length q.c0) ∧ W.cell? ⟨w.heap.size + 1, 2, none⟩ = some (.slice q.A1 b.el.length q.c1))) ∧
    ((W.cell? ⟨w.heap.size + 1 + 1, 0, none⟩ = some (.int .i64 0) ∧ W.cell? ⟨w.heap.size + 1 + 1, 1, none⟩ = some (.slice none 0 0) ∧ W.cell? ⟨w.heap.size + 1 + 1, 2, none⟩ = some (.slice none 0 0)) ∧
    W.frozen? ⟨w.heap.size + 1 + 1, 0, none⟩ = false ∧ W.frozen? ⟨w.heap.size + 1 + 1, 1, none⟩ = false ∧ W.frozen? ⟨w.heap.size + 1 + 1, 2, none⟩ = false)) := Lib.hid (fun W h =>
      ⟨⟨⟨h.x.cell 0, h.x.cell 1, h.x.cell 2⟩, h.y.cell 0, h.y.cell 1, h.y.cell 2⟩, ⟨h.r.cell 0, h.r.cell 1, h.r.cell 2⟩, h.r.frozen 0, h.r.frozen 1, h.r.frozen 2⟩)
  obtain ⟨⟨⟨x0, x1, x2⟩, y0, y1, y2⟩, _⟩ := HC.out w1 hI
  obtain ⟨X, hX⟩ : ∃ X, ctA a b = X := ⟨_, rfl⟩
  obtain ⟨E2, hE2⟩ : ∃ E2, ctE a b = E2 := ⟨_, rfl⟩
  rw [hX, hE2]
  rw [hX] at hA
  rw [hE2] at hE
  rw [hLC] at HCA hw1
  rw [hAC] at HCB hw1
  rw [hLC, hAC]
  clear ha hb hI hLC hAC hX hE2 ca cb
  generalize a.kind = ka at *
  generalize b.kind = kb at *
  cases hoa : okA a
  · rw [hoa, if_neg (by decide)] at hca
    rw [hoa, Bool.false_and, if_pos rfl] at hE hA
    subst hE
    subst hA
    rw [hca] at HCA
    clear HGO HWY hca hcb HCB
    go_enter Try.func23, Try.ntmps23
    go_wp2_with (go_at_call 32; (try rw [hw1]); refine (HCA.out _ HI.out).mono ?_; rintro e w2 ⟨rfl, b2⟩; have hI2 := HI.out.below b2; obtain ⟨_, ⟨r0, r1, r2⟩, f0, f1, f2⟩ := HC.out w2 hI2; have HI2 := Lib.hid hI2; clear b2 hI2)
    refine bodyPost_ret (results_arr2 rfl rfl rfl (arblk_three _ _ _ HI2.out.r)) rfl ?_
    exact GiveE.no rfl (HI2.out.fin _ _ _)
  rw [hoa, if_pos rfl] at hca
  rw [hoa, Bool.true_and] at hE hA
  rw [hca] at HCA
  cases hob : okA b
  · rw [hob, if_neg (by decide)] at hcb
    rw [hob, if_pos rfl] at hE hA
    subst hE
    subst hA
    rw [hcb] at HCB
    clear HGO HWY hca hcb
    go_enter Try.func23, Try.ntmps23
    go_wp2_with (first
      | (go_at_call 32; (have l0 := HI2.out; clear l0); refine (HCB.out _ HI2.out).mono ?_; rintro e w3 ⟨rfl, b3⟩; have hI3 := HI2.out.below b3; obtain ⟨_, ⟨r0, r1, r2⟩, f0, f1, f2⟩ := HC.out w3 hI3; have HI3 := Lib.hid hI3; clear b3 hI3)
      | (go_at_call 32; (try rw [hw1]); refine (HCA.out _ HI.out).mono ?_; rintro e w2 ⟨rfl, b2⟩; have hI2 := HI.out.below b2; obtain ⟨⟨⟨x0, x1, x2⟩, y0, y1, y2⟩, _⟩ := HC.out w2 hI2; have HI2 := Lib.hid hI2; clear b2 hI2))
    refine bodyPost_ret (results_arr2 rfl rfl rfl (arblk_three _ _ _ HI3.out.r)) rfl ?_
    exact GiveE.no rfl (HI3.out.fin _ _ _)
  rw [hob, if_pos rfl] at hcb
  rw [hob, if_neg (by decide)] at hE hA
  rw [hcb] at HCB
  clear hca hcb
  by_cases h0 : E = 0
  case neg =>
    have H0 := Lib.hid h0
    have hne : (E != 0) = true := by simp [h0]
    have hne2 : (E == 0) = false := by simp [h0]
    clear HGO
    by_cases hk : ka = kb
    · subst hk
      rw [if_neg (fun h => h.1 rfl), if_pos h0] at hE hA
      subst hE
      subst hA
      have hkb : (ka != ka) = false := by simp
      clear h0
      go_enter Try.func23, Try.ntmps23
      go_wp2_with (first
        | (go_at_call 32; (have l0 := HI2.out; clear l0); refine (HCB.out _ HI2.out).mono ?_; rintro e w3 ⟨rfl, b3⟩; have hI3 := HI2.out.below b3; obtain ⟨⟨⟨x0, x1, x2⟩, y0, y1, y2⟩, _⟩ := HC.out w3 hI3; have HI3 := Lib.hid hI3; clear b3 hI3)
        | (go_at_call 32; (try rw [hw1]); refine (HCA.out _ HI.out).mono ?_; rintro e w2 ⟨rfl, b2⟩; have hI2 := HI.out.below b2; obtain ⟨⟨⟨x0, x1, x2⟩, y0, y1, y2⟩, _⟩ := HC.out w2 hI2; have HI2 := Lib.hid hI2; clear b2 hI2)
        | (go_at_call 36; refine (HWY.out _ HI3.out).mono ?_; rintro e w4 ⟨v, rfl, b4, hy, hn⟩
           obtain rfl := hn H0.out
           have hI4 := (HI3.out.below b4).below (albel w4 (.cells #[.slice none 0 0, .nilFunc] 37))
           obtain ⟨⟨⟨x0, x1, x2⟩, y0, y1, y2⟩, ⟨r0, r1, r2⟩, f0, f1, f2⟩ := HC.out _ hI4
           have HI4 := Lib.hid hI4
           clear b4 hI4 hy hn))
      refine bodyPost_ret (results_arr2 rfl rfl rfl (arblk_three _ _ _ HI4.out.r)) rfl ?_
      exact GiveE.no rfl (HI4.out.fin _ _ _)
    have hkb : (ka != kb) = true := by simp [hk]
    by_cases h9 : E = 9
    · subst h9
      rw [if_pos ⟨hk, .inr rfl⟩] at hE hA
      clear hk
      subst hE
      subst hA
      clear h0
      go_enter Try.func23, Try.ntmps23
      go_wp2_with (first
        | (go_at_call 32; (have l0 := HI2.out; clear l0); refine (HCB.out _ HI2.out).mono ?_; rintro e w3 ⟨rfl, b3⟩; have hI3 := HI2.out.below b3; obtain ⟨⟨⟨x0, x1, x2⟩, y0, y1, y2⟩, _⟩ := HC.out w3 hI3; have HI3 := Lib.hid hI3; clear b3 hI3)
        | (go_at_call 32; (try rw [hw1]); refine (HCA.out _ HI.out).mono ?_; rintro e w2 ⟨rfl, b2⟩; have hI2 := HI.out.below b2; obtain ⟨⟨⟨x0, x1, x2⟩, y0, y1, y2⟩, _⟩ := HC.out w2 hI2; have HI2 := Lib.hid hI2; clear b2 hI2)
        | (go_at_call 36; refine (HWY.out _ HI3.out).mono ?_; rintro e w4 ⟨v, rfl, b4, hy, hn⟩
           obtain rfl := hn H0.out
           have hI4 := (HI3.out.below b4).below (albel w4 (.cells #[.slice none 0 0, .nilFunc] 37))
           obtain ⟨⟨⟨x0, x1, x2⟩, y0, y1, y2⟩, ⟨r0, r1, r2⟩, f0, f1, f2⟩ := HC.out _ hI4
           have HI4 := Lib.hid hI4
           clear b4 hI4 hy hn))
      refine bodyPost_ret (results_arr2 rfl rfl rfl (arblk_three _ _ _ HI4.out.r)) rfl ?_
      exact GiveE.no rfl (HI4.out.fin _ _ _)
    · have hn9 : (E == 9) = false := by simp [h9]
      rw [if_neg (fun h => h.2.elim h0 h9), if_pos h0] at hE hA
      subst hE
      subst hA
      clear h0 h9 hk
      go_enter Try.func23, Try.ntmps23
      go_wp2_with (first
        | (go_at_call 32; (have l0 := HI2.out; clear l0); refine (HCB.out _ HI2.out).mono ?_; rintro e w3 ⟨rfl, b3⟩; have hI3 := HI2.out.below b3; obtain ⟨⟨⟨x0, x1, x2⟩, y0, y1, y2⟩, _⟩ := HC.out w3 hI3; have HI3 := Lib.hid hI3; clear b3 hI3)
        | (go_at_call 32; (try rw [hw1]); refine (HCA.out _ HI.out).mono ?_; rintro e w2 ⟨rfl, b2⟩; have hI2 := HI.out.below b2; obtain ⟨⟨⟨x0, x1, x2⟩, y0, y1, y2⟩, _⟩ := HC.out w2 hI2; have HI2 := Lib.hid hI2; clear b2 hI2)
        | (go_at_call 36; refine (HWY.out _ HI3.out).mono ?_; rintro e w4 ⟨v, rfl, b4, hy, hn⟩
           obtain rfl := hn H0.out
           have hI4 := (HI3.out.below b4).below (albel w4 (.cells #[.slice none 0 0, .nilFunc] 37))
           obtain ⟨⟨⟨x0, x1, x2⟩, y0, y1, y2⟩, ⟨r0, r1, r2⟩, f0, f1, f2⟩ := HC.out _ hI4
           have HI4 := Lib.hid hI4
           clear b4 hI4 hy hn))
      refine bodyPost_ret (results_arr2 rfl rfl rfl (arblk_three _ _ _ HI4.out.r)) rfl ?_
      exact GiveE.no rfl (HI4.out.fin _ _ _)
  subst h0
  by_cases hk : ka = kb
  case neg =>
    rw [if_pos ⟨hk, .inl rfl⟩] at hE hA
    subst hE
    subst hA
    have hkb : (ka != kb) = true := by simp [hk]
    clear hk
    clear HGO
    go_enter Try.func23, Try.ntmps23
    go_wp2_with (first
      | (go_at_call 32; (have l0 := HI2.out; clear l0); refine (HCB.out _ HI2.out).mono ?_; rintro e w3 ⟨rfl, b3⟩; have hI3 := HI2.out.below b3; obtain ⟨⟨⟨x0, x1, x2⟩, y0, y1, y2⟩, _⟩ := HC.out w3 hI3; have HI3 := Lib.hid hI3; clear b3 hI3)
      | (go_at_call 32; (try rw [hw1]); refine (HCA.out _ HI.out).mono ?_; rintro e w2 ⟨rfl, b2⟩; have hI2 := HI.out.below b2; obtain ⟨⟨⟨x0, x1, x2⟩, y0, y1, y2⟩, _⟩ := HC.out w2 hI2; have HI2 := Lib.hid hI2; clear b2 hI2)
      | (go_at_call 36; refine (HWY.out _ HI3.out).mono ?_; rintro e w4 ⟨v, rfl, b4, hy, hn⟩
         obtain ⟨hok, A4, c4, gf4, cap4, rfl, hy5⟩ := hy rfl
         have hI4 := (HI3.out.below b4).below (albel w4 (.cells #[.slice A4 R.length c4, .func (.func gf4) #[] cap4] 37))
         obtain ⟨⟨⟨x0, x1, x2⟩, y0, y1, y2⟩, ⟨r0, r1, r2⟩, f0, f1, f2⟩ := HC.out _ hI4
         have HI4 := Lib.hid hI4
         clear b4 hI4 hy hn hy5 hok))
    refine bodyPost_ret (results_arr2 rfl rfl rfl (arblk_three _ _ _ HI4.out.r)) rfl ?_
    exact GiveE.no rfl (HI4.out.fin _ _ _)
  subst hk
  rw [if_neg (fun h => h.1 rfl), if_neg (fun h => h rfl)] at hE hA
  rw [← hE, ← hA] at HGO
  have hkb : (ka != ka) = false := by simp
  have HPC : Hid (∀ p, arC X p = #[.int .i64 X.kind, .slice p.A0 X.sh.length p.c0, .slice p.A1 X.el.length p.c1]) := Lib.hid (fun p => rfl)
  clear hE hA
  go_enter Try.func23, Try.ntmps23
  go_wp2_with (first
    | (go_at_call 32; (have l0 := HI2.out; clear l0); refine (HCB.out _ HI2.out).mono ?_; rintro e w3 ⟨rfl, b3⟩; have hI3 := HI2.out.below b3; obtain ⟨⟨⟨x0, x1, x2⟩, y0, y1, y2⟩, _⟩ := HC.out w3 hI3; have HI3 := Lib.hid hI3; clear b3 hI3)
    | (go_at_call 32; (try rw [hw1]); refine (HCA.out _ HI.out).mono ?_; rintro e w2 ⟨rfl, b2⟩; have hI2 := HI.out.below b2; obtain ⟨⟨⟨x0, x1, x2⟩, y0, y1, y2⟩, _⟩ := HC.out w2 hI2; have HI2 := Lib.hid hI2; clear b2 hI2)
    | (go_at_call 36; refine (HWY.out _ HI3.out).mono ?_; rintro e w4 ⟨v, rfl, b4, hy, hn⟩
       obtain ⟨hok, A4, c4, gf4, cap4, rfl, hy5⟩ := hy rfl
       have hwy : WayAt w3.heap.size w4 (.agg #[.slice A4 R.length c4, .func (.func gf4) #[] cap4]) R F := ⟨A4, c4, gf4, cap4, rfl, hy5⟩
       have HV := Lib.hid ((hwy.below (albel w4 (.cells #[.slice A4 R.length c4, .func (.func gf4) #[] cap4] 37))).base HI3.out.fb.size)
       have HOK := Lib.hid hok
       have hI4 := (HI3.out.below b4).below (albel w4 (.cells #[.slice A4 R.length c4, .func (.func gf4) #[] cap4] 37))
       obtain ⟨⟨⟨x0, x1, x2⟩, y0, y1, y2⟩, _⟩ := HC.out _ hI4
       have v0 := (Blk.new w4 37 #[.slice A4 R.length c4, .func (.func gf4) #[] cap4]).cell 0
       have v1 := (Blk.new w4 37 #[.slice A4 R.length c4, .func (.func gf4) #[] cap4]).cell 1
       have HI4 := Lib.hid hI4
       clear b4 hI4 hy hn hy5 hok hwy)
    | (go_at_call 28; refine (HGO.out (.agg #[.slice A4 R.length c4, .func (.func gf4) #[] cap4]) (w4.alloc (.cells #[.slice A4 R.length c4, .func (.func gf4) #[] cap4] 37)) (w4.heap.size + 1) (by simp) HOK.out HV.out HI4.out.ea HI4.out.eb).mono ?_; rintro e w5 ⟨r, rfl, o5, b5⟩
       rw [HPC.out r]
       have hI5 := HI4.out.below (albel _ (.cells #[.int .i64 ka, .slice p.A0 a.sh.length p.c0, .slice p.A1 a.el.length p.c1, .int .i64 ka, .slice q.A0 b.sh.length q.c0, .slice q.A1 b.el.length q.c1] 25))
       have HI6 := Lib.hid (hI5.below b5)
       have HGV := Lib.hid (hI5.give b5 o5)
       obtain ⟨_, ⟨r0, r1, r2⟩, f0, f1, f2⟩ := HC.out _ (hI5.below b5)
       clear hI5 o5 b5))
  refine bodyPost_ret (results_arr2 rfl rfl rfl (arblk_three _ _ _ HI6.out.r)) rfl ?_
  exact ⟨r, rfl, HGV.out⟩
end Go.Proofs.Ytenpohnccnlngaa.mo

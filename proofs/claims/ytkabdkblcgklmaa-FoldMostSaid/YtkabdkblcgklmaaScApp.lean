/-
  Layer 12 (scalar): applied: an operation's results over two arrays' pairs, or the first error.
-/
import Derived.Test.YtkabdkblcgklmaaScIter
namespace Go.Proofs.Ytkabdkblcgklmaa.sc
open Go.RowKit Go.Proofs.Ytkabdkblcgklmaa.arr

def apE (g : Nat → Int) : Nat → Int
  | 0 => 0
  | n + 1 => if apE g n = 0 then g n else apE g n
def apL (g : Nat → Int) (n : Nat) : List Int := (List.range n).map g
theorem apL_length (g : Nat → Int) (n : Nat) : (apL g n).length = n := by simp [apL]
theorem apL_succ (g : Nat → Int) (n : Nat) : apL g (n + 1) = apL g n ++ [g n] := by simp [apL, List.range_succ]
theorem apE_stay {g : Nat → Int} {k : Nat} (h : apE g k ≠ 0) : ∀ n, k ≤ n → apE g n = apE g k
  | 0, hn => by
    obtain rfl : k = 0 := by omega
    rfl
  | n + 1, hn => by
    by_cases he : k = n + 1
    · rw [he]
    · have ih := apE_stay h n (by omega)
      show (if apE g n = 0 then g n else apE g n) = _
      rw [ih, if_neg h]
theorem apE_step {g : Nat → Int} {k n : Nat} (h0 : apE g k = 0) (hg : g k ≠ 0) (hn : k < n) : apE g n = g k := by
  have e : apE g (k + 1) = g k := by
    show (if apE g k = 0 then g k else apE g k) = _
    rw [if_pos h0]
  rw [← e]
  exact apE_stay (by rw [e]; exact hg) n hn
theorem apE_next {g : Nat → Int} {k : Nat} (h0 : apE g k = 0) (hg : g k = 0) : apE g (k + 1) = 0 := by
  show (if apE g k = 0 then g k else apE g k) = _
  rw [if_pos h0, hg]

/-! ### What the rounds turn -/
theorem own_turned {W W' : World} {base B size n : Nat} {e : TypeId} {v : Value} {xs : List Value} {row : Option Nat} (h : W.ownsRow base e size v n xs) (hg : W.grownBy W' row) (hr : ∀ r, row = some r → B ≤ r ∧ ∃ o : Obj, W.heap[r]? = some o ∧ o.isCells = false) : W'.ownsRow base e size v n xs := by
  refine ⟨h.1, ?_⟩
  rcases h.2 with ⟨rfl, h0⟩ | ⟨g, cap, cur, rfl, hb, hh, hrest⟩
  · exact .inl ⟨rfl, h0⟩
  · refine .inr ⟨g, cap, cur, rfl, hb, ?_, hrest⟩
    refine (hg.block g (Array.getElem?_eq_some_iff.1 hh).1 (fun e => ?_)).trans hh
    obtain ⟨_, o, ho, hc⟩ := hr g e.symm
    rw [hh] at ho
    injection ho with ho
    subst ho
    cases hc
theorem blk_turned {W W' : World} {g B : Nat} {t : TypeId} {cs : Array Value} {row : Option Nat} (h : Blk W g t cs) (hg : W.grownBy W' row) (hr : ∀ r, row = some r → B ≤ r ∧ ∃ o : Obj, W.heap[r]? = some o ∧ o.isCells = false) : Blk W' g t cs :=
  h.grown hg (fun e => by
    obtain ⟨_, o, ho, hc⟩ := hr g e.symm
    unfold Blk at h
    rw [h] at ho
    injection ho with ho
    subst ho
    cases hc)
structure ApI (W3 : World) (z : Nat) (vals : List Int) (E : Int) (W : World) : Prop where
  keep : Keep (fun i => i = z + 4 ∨ i = z + 5) W3 W
  el : ∃ A c, Blk W (z + 4) 23 #[.slice A vals.length c] ∧ W.ownsRow W3.heap.size 2 1 (.slice A vals.length c) vals.length (vals.map iv)
  ft : Blk W (z + 5) 28 #[.int .i64 E]
theorem ApI.own {W3 W W' : World} {z : Nat} {vals : List Int} {E : Int} {row : Option Nat} (h : ApI W3 z vals E W) (hg : W.grownBy W' row) (hr : ∀ r, row = some r → W3.heap.size ≤ r ∧ ∃ o : Obj, W.heap[r]? = some o ∧ o.isCells = false) : ApI W3 z vals E W' := by
  obtain ⟨h1, ⟨A, c, h2, h3⟩, h4⟩ := h
  exact ⟨h1.grown hg (fun g e hlt => by have := (hr g e).1; omega), ⟨A, c, blk_turned h2 hg hr, own_turned h3 hg hr⟩, blk_turned h4 hg hr⟩
theorem ApI.below {W3 W W' : World} {z : Nat} {vals : List Int} {E : Int} (h : ApI W3 z vals E W) (hb : Below W.heap.size W W') : ApI W3 z vals E W' := by
  obtain ⟨h1, ⟨A, c, h2, h3⟩, h4⟩ := h
  exact ⟨h1.trans (Keep.of_below (S := fun _ => False) hb) (fun _ _ e => e.elim), ⟨A, c, h2.below hb h2.lt, arown_stay h3 hb (fun g hg => (arown_lt h3 g hg).2)⟩, h4.below hb h4.lt⟩
theorem ApI.alloc {W3 W : World} {z : Nat} {vals : List Int} {E : Int} (h : ApI W3 z vals E W) (o : Obj) : ApI W3 z vals E (W.alloc o) := h.below (alloc_below _ _)
theorem ApI.fail {W3 W : World} {z : Nat} {vals : List Int} {E : Int} (h : ApI W3 z vals E W) (hz : z + 5 < W3.heap.size) (F : Int) : ApI W3 z vals F (W.setCell ⟨z + 5, 0, none⟩ (.int .i64 F)) := by
  obtain ⟨h1, ⟨A, c, h2, h3⟩, h4⟩ := h
  have hk : Keep (fun i => i = z + 5) W (W.setCell ⟨z + 5, 0, none⟩ (.int .i64 F)) := (Keep.refl _ _).setCell _ _ (fun _ => rfl)
  exact ⟨h1.trans hk (fun _ _ e => .inr e), ⟨A, c, hk.blk h2 (by omega), hk.own h3 (fun g e e2 => by have := (arown_lt h3 g e).1; omega)⟩, h4.set_ 0 _⟩
theorem keeps_below {W W' : World} (B : Nat) (h : Below W.heap.size W W') : KeepsFrom B W W' :=
  ⟨h.size, fun k _ _ hk _ => (h.block k (Array.getElem?_eq_some_iff.1 hk).1).trans hk⟩
theorem keeps_on {B : Nat} {W W1 W2 : World} (h : KeepsFrom B W W1) (k : KeepsFrom B W1 W2) : KeepsFrom B W W2 :=
  ⟨Nat.le_trans h.size k.size, fun i o hB hi ho => k.same i o hB (h.same i o hB hi ho) ho⟩
theorem keeps_set {B : Nat} {W : World} {g i : Nat} (hg : g < B) (v : Value) : KeepsFrom B W (W.setCell ⟨g, i, none⟩ v) :=
  ⟨by simp [World.setCell], fun k o hB hk _ => (Below.heap_setCell W ⟨g, i, none⟩ v k (by simp; omega)).trans hk⟩
theorem ApI.push {W3 W w9 : World} {z : Nat} {vals : List Int} {E : Int} {A : Option Addr} {c : Nat} (h : ApI W3 z vals E W) (hz : z + 5 < W3.heap.size) (he : Blk W (z + 4) 23 #[.slice A vals.length c]) (ho0 : W.ownsRow W3.heap.size 2 1 (.slice A vals.length c) vals.length (vals.map iv)) (x : Int) (v' : Value)
    (ho : w9.ownsRow W3.heap.size 2 1 v' (vals.length + 1) (vals.map iv ++ [.int .i64 x])) (hg : (W.alloc (.cells #[.int .i64 x] 2)).grownBy w9 (Value.slice A vals.length c).ownBlock) :
    w9.cell? ⟨z + 4, 0, none⟩ = some (.slice A vals.length c) ∧ w9.frozen? ⟨z + 4, 0, none⟩ = false ∧ ∃ A' c', v' = .slice A' (vals.length + 1) c' ∧ KeepsFrom W3.heap.size W (w9.setCell ⟨z + 4, 0, none⟩ v') ∧ ApI W3 z (vals ++ [x]) E (w9.setCell ⟨z + 4, 0, none⟩ v') := by
  have hsz := h.keep.size
  have hal := alloc_below W (.cells #[.int .i64 x] 2)
  have hr : ∀ g, (Value.slice A vals.length c).ownBlock = some g → W3.heap.size ≤ g := fun g e => (arown_lt ho0 g e).1
  have hk1 : Keep (fun i => W3.heap.size ≤ i) (W.alloc (.cells #[.int .i64 x] 2)) w9 := (Keep.refl _ _).grown hg (fun g e _ => hr g e)
  have hk2 : Keep (fun i => W3.heap.size ≤ i) W w9 := (Keep.of_below (S := fun i => W3.heap.size ≤ i) hal).trans hk1 (fun _ _ h => h)
  have hb9 := hk2.blk he (by omega)
  obtain ⟨A', c', hv'⟩ : ∃ A' c', v' = .slice A' (vals.length + 1) c' := by
    rcases ho.2 with ⟨_, h0⟩ | ⟨g, cap, cur, e, _⟩
    · omega
    · exact ⟨_, cap, e⟩
  have hk3 : Keep (fun i => W3.heap.size ≤ i ∨ i = z + 4) W (w9.setCell ⟨z + 4, 0, none⟩ v') := (hk2.more (S' := fun i => W3.heap.size ≤ i ∨ i = z + 4) (fun i _ h => .inl h)).setCell _ _ (fun _ => .inr rfl)
  have hkq : Keep (fun i => i = z + 4) w9 (w9.setCell ⟨z + 4, 0, none⟩ v') := (Keep.refl _ _).setCell _ _ (fun _ => rfl)
  refine ⟨hb9.cell 0, hb9.frozen 0, A', c', hv', ⟨hk3.size, fun i o hB hi ho' => ?_⟩, ?_⟩
  · have hil : i < W.heap.size := (Array.getElem?_eq_some_iff.1 hi).1
    have hiq : i ≠ z + 4 := by omega
    refine (Below.heap_setCell w9 ⟨z + 4, 0, none⟩ v' i hiq).trans ?_
    have hir : some i ≠ (Value.slice A vals.length c).ownBlock := fun e => by
      rcases ho0.2 with ⟨e1, _⟩ | ⟨g', cap, cur, e1, _, hh, _⟩
      · rw [e1] at e
        simp [Value.ownBlock] at e
      · rw [e1] at e
        have : i = g' := by simpa [Value.ownBlock] using e
        subst this
        rw [hi] at hh
        injection hh with hh
        subst hh
        cases ho'
    exact ((hg.block i (by simp; omega) hir).trans (hal.block i hil)).trans hi
  · have el : (vals ++ [x]).length = vals.length + 1 := by simp
    have em : (vals ++ [x]).map iv = vals.map iv ++ [.int .i64 x] := by simp [iv]
    refine ⟨h.keep.trans hk3 (fun i hi h => h.elim (fun h => absurd hi (by omega)) (fun h => .inl h)), ⟨A', c', ?_, ?_⟩, hk3.blk h.ft (by omega)⟩
    · rw [el, ← hv']
      exact hb9.set_ 0 v'
    · rw [el, em, ← hv']
      exact hkq.own ho (fun g e => by have := (arown_lt ho g e).1; omega)
theorem fin_gen {w W W2 : World} {B rc D : Nat} {cs ds : Array Value} (hw : Below B w W) (hB : B ≤ rc) (hD : B ≤ D) (hr : Blk W rc 25 cs) (hK : W.heap[D]? = some (.deferred (some []))) (hk : Keep (fun k => k = rc) W W2) (hb : Blk W2 rc 25 ds) :
    W2.heap[D]? = some (.deferred (some [])) ∧ Blk (W2.putObj D (.deferred none)) rc 25 ds ∧ Below B w (W2.putObj D (.deferred none)) ∧
    (∀ (base n : Nat) (v : Value) (xs : List Value), W.ownsRow base 2 1 v n xs → (W2.putObj D (.deferred none)).ownsRow base 2 1 v n xs) := by
  have hne : rc ≠ D := by
    rintro rfl
    unfold Blk at hr
    rw [hr] at hK
    cases hK
  have hp : Keep (fun k => k = D) W2 (W2.putObj D (.deferred none)) := (Keep.refl _ _).grown (grownBy_putObj' _ D _) (fun k e _ => by injection e with e; exact e.symm)
  have hDl : D < W.heap.size := (Array.getElem?_eq_some_iff.1 hK).1
  have hs := hw.size
  have hKD := (hk.block D hDl (fun e => hne e.symm)).trans hK
  have hBW : B ≤ W.heap.size := by omega
  refine ⟨hKD, hp.blk hb (fun e => hne e), (hw.trans (hk.below hBW (fun i hi e => by omega))).trans (hp.below (by have := hk.size; omega) (fun i hi e => by omega)), fun base n v xs ho => ?_⟩
  have ho2 := hk.own ho (fun g e e2 => by
    subst e2
    rcases ho.2 with ⟨rfl, _⟩ | ⟨g', cap, cur, rfl, _, hh, _⟩
    · simp [Value.ownBlock] at e
    · have : g' = g := by simpa [Value.ownBlock] using e
      subst this
      exact Blk.ne_ (show Blk W g' 2 cur from hh) hr (by decide) rfl)
  exact own_turned (B := 0) ho2 (grownBy_putObj' W2 D (.deferred none)) (fun r e => by injection e with e; subst e; exact ⟨Nat.zero_le _, _, hKD, rfl⟩)

/-- What applied answers. -/
def ApA (gv ge : Nat → Int) (S : Option Addr) (n c N : Nat) (w : World) (e : Ending) (w' : World) : Prop :=
  ∃ v, e = .returned (.tuple #[v, .int .i64 (apE ge N)]) ∧ Below w.heap.size w w' ∧ (apE ge N ≠ 0 → v = .agg #[.int .i64 0, .slice none 0 0, .slice none 0 0]) ∧
    (apE ge N = 0 → ∃ A c', v = .agg #[.int .i64 1, .slice S n c, .slice A N c'] ∧ w'.ownsRow w.heap.size 2 1 (.slice A N c') N ((apL gv N).map iv))
end Go.Proofs.Ytkabdkblcgklmaa.sc

/-
  Layer 16 (fold): what its walks share: boxes, what is known of made values, room behind an array's lists.
-/
import Derived.Test.YtkabdkblcgklmaaFoMade
import Derived.Test.YtkabdkblcgklmaaArMake
namespace Go.Proofs.Ytkabdkblcgklmaa.fo
open Go.RowKit Go.Proofs.Ytkabdkblcgklmaa.arr Go.Proofs.Ytkabdkblcgklmaa.sc

/-- The boxes of one array, and of what is answered. -/
structure OnI (w : World) (a : AV) (p : AP) (W : World) : Prop where
  x : Blk W w.heap.size 25 (arC a p)
  r : Blk W (w.heap.size + 1) 25 #[.int .i64 0, .slice none 0 0, .slice none 0 0]
  fb : Below w.heap.size w W
  ea : AEl W a p
theorem OnI.below {w W W' : World} {a : AV} {p : AP} (h : OnI w a p W) (hb : Below W.heap.size W W') : OnI w a p W' :=
  ⟨h.x.below hb h.x.lt, h.r.below hb h.r.lt, below_on h.fb hb, h.ea.below hb⟩
theorem OnI.start {w : World} {a : AV} {p : AP} (ea : AEl w a p) : OnI w a p ((w.alloc (.cells (arC a p) 25)).alloc (.cells #[.int .i64 0, .slice none 0 0, .slice none 0 0] 25)) := by
  refine ⟨(Blk.new w _ _).alloc _, ?_, below_n2 _ _ _, ea.below (below_n2 _ _ _)⟩
  have h := Blk.new (w.alloc (.cells (arC a p) 25)) 25 #[.int .i64 0, .slice none 0 0, .slice none 0 0]
  simpa only [World.size_alloc] using h
theorem OnI.fin {w W : World} {a : AV} {p : AP} (h : OnI w a p W) (x y z : Value) : Below w.heap.size w (((W.setCell ⟨w.heap.size + 1, 0, none⟩ x).setCell ⟨w.heap.size + 1, 1, none⟩ y).setCell ⟨w.heap.size + 1, 2, none⟩ z) :=
  h.fb.trans ((arkeep_three W _ x y z).below h.fb.size (fun i hi e => by omega))
theorem OnI.give {w W W2 : World} {a X : AV} {p r : AP} (h : OnI w a p W) (hb : Below W.heap.size W W2) (o : AOwn W.heap.size W2 X r) :
    AOwn w.heap.size (((W2.setCell ⟨w.heap.size + 1, 0, none⟩ (.int .i64 X.kind)).setCell ⟨w.heap.size + 1, 1, none⟩ (.slice r.A0 X.sh.length r.c0)).setCell ⟨w.heap.size + 1, 2, none⟩ (.slice r.A1 X.el.length r.c1)) X r ∧
    Below w.heap.size w (((W2.setCell ⟨w.heap.size + 1, 0, none⟩ (.int .i64 X.kind)).setCell ⟨w.heap.size + 1, 1, none⟩ (.slice r.A0 X.sh.length r.c0)).setCell ⟨w.heap.size + 1, 2, none⟩ (.slice r.A1 X.el.length r.c1)) := by
  have hk := arkeep_three W2 (w.heap.size + 1) (.int .i64 X.kind) (.slice r.A0 X.sh.length r.c0) (.slice r.A1 X.el.length r.c1)
  have hl := h.r.lt
  refine ⟨⟨?_, ?_⟩, (h.below hb).fin _ _ _⟩
  · exact arown_mono (hk.own o.o0 (fun b hb e => by have := (arown_lt o.o0 b hb).1; omega)) (by omega)
  · exact arown_mono (hk.own o.o1 (fun b hb e => by have := (arown_lt o.o1 b hb).1; omega)) (by omega)
theorem OnI.cells {w W : World} {a : AV} {p : AP} (h : OnI w a p W) : (W.cell? ⟨w.heap.size, 0, none⟩ = some (.int .i64 a.kind) ∧ W.cell? ⟨w.heap.size, 1, none⟩ = some (.slice p.A0 a.sh.length p.c0) ∧ W.cell? ⟨w.heap.size, 2, none⟩ = some (.slice p.A1 a.el.length p.c1)) ∧
    (W.cell? ⟨w.heap.size + 1, 0, none⟩ = some (.int .i64 0) ∧ W.cell? ⟨w.heap.size + 1, 1, none⟩ = some (.slice none 0 0) ∧ W.cell? ⟨w.heap.size + 1, 2, none⟩ = some (.slice none 0 0)) ∧
    W.frozen? ⟨w.heap.size + 1, 0, none⟩ = false ∧ W.frozen? ⟨w.heap.size + 1, 1, none⟩ = false ∧ W.frozen? ⟨w.heap.size + 1, 2, none⟩ = false :=
  ⟨⟨h.x.cell 0, h.x.cell 1, h.x.cell 2⟩, ⟨h.r.cell 0, h.r.cell 1, h.r.cell 2⟩, h.r.frozen 0, h.r.frozen 1, h.r.frozen 2⟩

/-- An array that a call answers with an error: of its own. -/
def GiveE (X : AV) (E : Int) (w : World) (e : Ending) (w' : World) : Prop := ∃ p, e = .returned (.tuple #[.agg (arC X p), .int .i64 E]) ∧ AOwn w.heap.size w' X p ∧ Below w.heap.size w w'
theorem GiveE.no {X : AV} {E : Int} {w w' : World} (h : X = ⟨0, [], []⟩) (hb : Below w.heap.size w w') : GiveE X E w (.returned (.tuple #[.agg #[.int .i64 0, .slice none 0 0, .slice none 0 0], .int .i64 E])) w' := by
  subst h
  exact ⟨⟨none, 0, none, 0⟩, rfl, noA_own _ _, hb⟩
theorem blk_up {W W' : World} {g : Nat} {t : TypeId} {cs : Array Value} (h : Blk W g t cs) (hb : Below W.heap.size W W') : Blk W' g t cs := h.below hb h.lt
/-- What is known of each value that a region makes. -/
def lookU : List (Nat × (Value → World → Prop)) → Nat → Value → World → Prop
  | [], _, _, _ => True
  | (k, P) :: l, j, v, W => if j = k then P v W else lookU l j v W
def stk (P : Value → World → Prop) : Prop := ∀ v W W', Below W.heap.size W W' → P v W → P v W'
theorem lookU_stay : ∀ {l : List (Nat × (Value → World → Prop))}, (∀ x ∈ l, stk x.2) → GU (lookU l)
  | [], _ => fun _ _ _ _ _ h => h
  | (k, P) :: l, hl => fun j v W W' hb h => by
    unfold lookU at *
    by_cases hk : j = k
    · rw [if_pos hk] at h ⊢
      exact hl (k, P) (List.mem_cons_self ..) v W W' hb h
    · rw [if_neg hk] at h ⊢
      exact lookU_stay (fun x hx => hl x (List.mem_cons_of_mem _ hx)) j v W W' hb h
def stz (z : Nat) (P : Value → World → Prop) : Prop := stk P ∧ ∀ v W x y u, P v W → P v (((W.setCell ⟨z + 1, 0, none⟩ x).setCell ⟨z + 1, 1, none⟩ y).setCell ⟨z + 1, 2, none⟩ u)
theorem cpR_z (t : TypeId) (z : Nat) (l : List Int) : stz z (CpR t (z + 2) l) := ⟨fun v W W' hb h => by
    obtain ⟨A, c, rfl, h⟩ := h
    exact ⟨A, c, rfl, arown_stay h hb (fun g hg => (arown_lt h g hg).2)⟩, fun v W x y u h => by
    obtain ⟨A, c, rfl, h⟩ := h
    exact ⟨A, c, rfl, (arkeep_three W (z + 1) x y u).own h (fun g hg e => by have := (arown_lt h g hg).1; omega)⟩⟩
theorem cpA_z (z : Nat) (X : AV) : stz z (CpA (z + 2) X) := ⟨fun v W W' hb h => by
    obtain ⟨q, rfl, h⟩ := h
    exact ⟨q, rfl, h.stay hb (Nat.le_refl _)⟩, fun v W x y u h => by
    obtain ⟨q, rfl, h⟩ := h
    exact ⟨q, rfl, h.keep (arkeep_three W (z + 1) x y u) (fun k h1 _ _ e => by omega)⟩⟩
theorem lookU_z {z : Nat} : ∀ {l : List (Nat × (Value → World → Prop))}, (∀ x ∈ l, stz z x.2) → ∀ (W : World) (x y u : Value) (j : Nat) (v : Value), lookU l j v W → lookU l j v (((W.setCell ⟨z + 1, 0, none⟩ x).setCell ⟨z + 1, 1, none⟩ y).setCell ⟨z + 1, 2, none⟩ u)
  | [], _ => fun _ _ _ _ _ _ h => h
  | (k, P) :: l, hl => fun W x y u j v h => by
    unfold lookU at h ⊢
    by_cases hk : j = k
    · rw [if_pos hk] at h ⊢
      exact (hl (k, P) (List.mem_cons_self ..)).2 v W x y u h
    · rw [if_neg hk] at h ⊢
      exact lookU_z (fun x hx => hl x (List.mem_cons_of_mem _ hx)) W x y u j v h
/-- Room behind an array's lists. -/
structure Cap2 (a : AV) (p : AP) : Prop where
  l0 : a.sh.length ≤ p.c0
  l1 : a.el.length ≤ p.c1
  n0 : p.A0 = none → p.c0 = 0
  n1 : p.A1 = none → p.c1 = 0
theorem own_cap {W : World} {B n c : Nat} {t : TypeId} {A : Option Addr} {xs : List Value} (h : W.ownsRow B t 1 (.slice A n c) n xs) : n ≤ c ∧ (A = none → c = 0) := by
  rcases h.2 with ⟨e, h0⟩ | ⟨g, cap, cur, e, _, _, h1, _⟩
  · injection e with e1 e2 e3
    exact ⟨by omega, fun _ => e3⟩
  · injection e with e1 e2 e3
    exact ⟨by omega, fun h => by rw [h] at e1; cases e1⟩
theorem Cap2.of {W : World} {B : Nat} {a : AV} {p : AP} (h : AOwn B W a p) : Cap2 a p := ⟨(own_cap h.o0).1, (own_cap h.o1).1, (own_cap h.o0).2, (own_cap h.o1).2⟩
abbrev Fine (a : AV) : Prop := ∀ z ∈ a.el, -9223372036854775808 ≤ z ∧ z ≤ 9223372036854775807
/-- A box of a law that holds an array. -/
structure BoxF (W : World) (g : Nat) (X : AV) (p : AP) : Prop where
  k : Blk W g 25 (arC X p)
  e : AEl W X p
  c : Cap2 X p
theorem BoxF.up {W W' : World} {g : Nat} {X : AV} {p : AP} (h : BoxF W g X p) (hb : Below W.heap.size W W') : BoxF W' g X p := ⟨blk_up h.k hb, h.e.below hb, h.c⟩
theorem BoxF.new {W : World} {X : AV} {p : AP} (h : AEl W X p) (c : Cap2 X p) : BoxF (W.alloc (.cells (arC X p) 25)) W.heap.size X p := ⟨Blk.new _ _ _, h.below (alloc_below _ _), c⟩
theorem BoxF.cells {W : World} {g : Nat} {X : AV} {p : AP} (h : BoxF W g X p) : W.cell? ⟨g, 0, none⟩ = some (.int .i64 X.kind) ∧ W.cell? ⟨g, 1, none⟩ = some (.slice p.A0 X.sh.length p.c0) ∧ W.cell? ⟨g, 2, none⟩ = some (.slice p.A1 X.el.length p.c1) := ⟨h.k.cell 0, h.k.cell 1, h.k.cell 2⟩
/-- An array that a call answers, to be looked at from then on. -/
def GiveT (X : AV) (E : Int) (w : World) (e : Ending) (w' : World) : Prop := ∃ p, e = .returned (.tuple #[.agg (arC X p), .int .i64 E]) ∧ AEl w' X p ∧ Cap2 X p ∧ Below w.heap.size w w'
theorem GiveE.t {X : AV} {E : Int} {w w' : World} {e : Ending} (h : GiveE X E w e w') (h0 : X.sh.length ≤ 9223372036854775807) (h1 : X.el.length ≤ 9223372036854775807) (hf : Fine X) : GiveT X E w e w' := by
  obtain ⟨p, rfl, o, b⟩ := h
  exact ⟨p, rfl, o.el h0 h1 hf, Cap2.of o, b⟩
def GiveV (X : AV) (w : World) (e : Ending) (w' : World) : Prop := ∃ p, e = .returned (.agg (arC X p)) ∧ AEl w' X p ∧ Cap2 X p ∧ Below w.heap.size w w'
theorem vec_give (l : List Int) (hl : l.length ≤ 100000) (hf : ∀ z ∈ l, InR z) (A : Option Addr) (n c : Nat) (W : World) (hn : l.length = n) (hr : Reads W W.heap.size 1 A n (l.map iv)) : Calls Try.prog 27 #[.slice A n c] W (GiveV (vecF l) W) := by
  subst hn
  refine (arvector_any A l.length c l W rfl hr (by omega)).mono ?_
  rintro e w' ⟨v, rfl, r, rfl, o, b⟩
  exact ⟨r, rfl, o.el (show (1 : Nat) ≤ _ by omega) (show l.length ≤ _ by omega) hf, Cap2.of o, b⟩
end Go.Proofs.Ytkabdkblcgklmaa.fo

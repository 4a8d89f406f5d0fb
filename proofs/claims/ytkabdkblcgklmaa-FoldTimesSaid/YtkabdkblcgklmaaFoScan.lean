/-
  Layer 16 (fold): what its walks share: boxes, what is known of made values, room behind an array's lists.
  Layer 16 (fold): the calls that only look: check, others, product, Rows, rowsOf.
  Layer 16 (fold): rowsOf, beginning, Scan.
  Layer 16 (fold): the statements' own calls: is, row, alive.
-/
import Derived.Test.YtkabdkblcgklmaaFoRow
import Derived.Test.YtkabdkblcgklmaaArMake
import Derived.Test.YtkabdkblcgklmaaDone
namespace Go.Proofs.Ytkabdkblcgklmaa.fo
open Go.RowKit Go.Proofs.Ytkabdkblcgklmaa.arr Go.Proofs.Ytkabdkblcgklmaa.sc

/-- The boxes of one array, and of what is answered. -/
structure OnI (w : World) (a : AV) (p : AP) (W : World) : Prop where
  x : Blk W w.heap.size 25 (arC a p)
  r : Blk W (w.heap.size + 1) 25 #[.int .i64 0, .slice none 0 0, .slice none 0 0]
  fb : Below w.heap.size w W
  ea : AEl W a p
theorem OnI.below {w W W' : World} {a : AV} {p : AP} (h : OnI w a p W) (hb : Below W.heap.size W W') : OnI w a p W' :=
  ⟨h.x.below hb h.x.lt, h.r.below hb h.r.lt, below_on h.fb hb, h.ea.below hb⟩
theorem OnI.start {w : World} {a : AV} {p : AP} (ea : AEl w a p) : OnI w a p ((w.alloc (.cells (arC a p) 25)).alloc (.cells #[.int .i64 0, .slice none 0 0, .slice none 0 0] 25)) := by
  refine ⟨(Blk.new w _ _).alloc _, ?_, below_n2 _ _ _, ea.below (below_n2 _ _ _)⟩
  have h := Blk.new (w.alloc (.cells (arC a p) 25)) 25 #[.int .i64 0, .slice none 0 0, .slice none 0 0]
  simpa only [World.size_alloc] using h
theorem OnI.fin {w W : World} {a : AV} {p : AP} (h : OnI w a p W) (x y z : Value) : Below w.heap.size w (((W.setCell ⟨w.heap.size + 1, 0, none⟩ x).setCell ⟨w.heap.size + 1, 1, none⟩ y).setCell ⟨w.heap.size + 1, 2, none⟩ z) :=
  h.fb.trans ((arkeep_three W _ x y z).below h.fb.size (fun i hi e => by omega))
theorem OnI.give {w W W2 : World} {a X : AV} {p r : AP} (h : OnI w a p W) (hb : Below W.heap.size W W2) (o : AOwn W.heap.size W2 X r) :
    AOwn w.heap.size (((W2.setCell ⟨w.heap.size + 1, 0, none⟩ (.int .i64 X.kind)).setCell ⟨w.heap.size + 1, 1, none⟩ (.slice r.A0 X.sh.length r.c0)).setCell ⟨w.heap.size + 1, 2, none⟩ (.slice r.A1 X.el.length r.c1)) X r ∧
    Below w.heap.size w (((W2.setCell ⟨w.heap.size + 1, 0, none⟩ (.int .i64 X.kind)).setCell ⟨w.heap.size + 1, 1, none⟩ (.slice r.A0 X.sh.length r.c0)).setCell ⟨w.heap.size + 1, 2, none⟩ (.slice r.A1 X.el.length r.c1)) := by
  have hk := arkeep_three W2 (w.heap.size + 1) (.int .i64 X.kind) (.slice r.A0 X.sh.length r.c0) (.slice r.A1 X.el.length r.c1)
  have hl := h.r.lt
  refine ⟨⟨?_, ?_⟩, (h.below hb).fin _ _ _⟩
  · exact arown_mono (hk.own o.o0 (fun b hb e => by have := (arown_lt o.o0 b hb).1; omega)) (by omega)
  · exact arown_mono (hk.own o.o1 (fun b hb e => by have := (arown_lt o.o1 b hb).1; omega)) (by omega)
theorem OnI.cells {w W : World} {a : AV} {p : AP} (h : OnI w a p W) : (W.cell? ⟨w.heap.size, 0, none⟩ = some (.int .i64 a.kind) ∧ W.cell? ⟨w.heap.size, 1, none⟩ = some (.slice p.A0 a.sh.length p.c0) ∧ W.cell? ⟨w.heap.size, 2, none⟩ = some (.slice p.A1 a.el.length p.c1)) ∧
    (W.cell? ⟨w.heap.size + 1, 0, none⟩ = some (.int .i64 0) ∧ W.cell? ⟨w.heap.size + 1, 1, none⟩ = some (.slice none 0 0) ∧ W.cell? ⟨w.heap.size + 1, 2, none⟩ = some (.slice none 0 0)) ∧
    W.frozen? ⟨w.heap.size + 1, 0, none⟩ = false ∧ W.frozen? ⟨w.heap.size + 1, 1, none⟩ = false ∧ W.frozen? ⟨w.heap.size + 1, 2, none⟩ = false :=
  ⟨⟨h.x.cell 0, h.x.cell 1, h.x.cell 2⟩, ⟨h.r.cell 0, h.r.cell 1, h.r.cell 2⟩, h.r.frozen 0, h.r.frozen 1, h.r.frozen 2⟩

/-- An array that a call answers with an error: of its own. -/
def GiveE (X : AV) (E : Int) (w : World) (e : Ending) (w' : World) : Prop := ∃ p, e = .returned (.tuple #[.agg (arC X p), .int .i64 E]) ∧ AOwn w.heap.size w' X p ∧ Below w.heap.size w w'
theorem GiveE.no {X : AV} {E : Int} {w w' : World} (h : X = ⟨0, [], []⟩) (hb : Below w.heap.size w w') : GiveE X E w (.returned (.tuple #[.agg #[.int .i64 0, .slice none 0 0, .slice none 0 0], .int .i64 E])) w' := by
  subst h
  exact ⟨⟨none, 0, none, 0⟩, rfl, noA_own _ _, hb⟩
theorem blk_up {W W' : World} {g : Nat} {t : TypeId} {cs : Array Value} (h : Blk W g t cs) (hb : Below W.heap.size W W') : Blk W' g t cs := h.below hb h.lt
/-- What is known of each value that a region makes. -/
def lookU : List (Nat × (Value → World → Prop)) → Nat → Value → World → Prop
  | [], _, _, _ => True
  | (k, P) :: l, j, v, W => if j = k then P v W else lookU l j v W
def stk (P : Value → World → Prop) : Prop := ∀ v W W', Below W.heap.size W W' → P v W → P v W'
theorem lookU_stay : ∀ {l : List (Nat × (Value → World → Prop))}, (∀ x ∈ l, stk x.2) → GU (lookU l)
  | [], _ => fun _ _ _ _ _ h => h
  | (k, P) :: l, hl => fun j v W W' hb h => by
    unfold lookU at *
    by_cases hk : j = k
    · rw [if_pos hk] at h ⊢
      exact hl (k, P) (List.mem_cons_self ..) v W W' hb h
    · rw [if_neg hk] at h ⊢
      exact lookU_stay (fun x hx => hl x (List.mem_cons_of_mem _ hx)) j v W W' hb h
def stz (z : Nat) (P : Value → World → Prop) : Prop := stk P ∧ ∀ v W x y u, P v W → P v (((W.setCell ⟨z + 1, 0, none⟩ x).setCell ⟨z + 1, 1, none⟩ y).setCell ⟨z + 1, 2, none⟩ u)
theorem cpR_z (t : TypeId) (z : Nat) (l : List Int) : stz z (CpR t (z + 2) l) := ⟨fun v W W' hb h => by
    obtain ⟨A, c, rfl, h⟩ := h
    exact ⟨A, c, rfl, arown_stay h hb (fun g hg => (arown_lt h g hg).2)⟩, fun v W x y u h => by
    obtain ⟨A, c, rfl, h⟩ := h
    exact ⟨A, c, rfl, (arkeep_three W (z + 1) x y u).own h (fun g hg e => by have := (arown_lt h g hg).1; omega)⟩⟩
theorem cpA_z (z : Nat) (X : AV) : stz z (CpA (z + 2) X) := ⟨fun v W W' hb h => by
    obtain ⟨q, rfl, h⟩ := h
    exact ⟨q, rfl, h.stay hb (Nat.le_refl _)⟩, fun v W x y u h => by
    obtain ⟨q, rfl, h⟩ := h
    exact ⟨q, rfl, h.keep (arkeep_three W (z + 1) x y u) (fun k h1 _ _ e => by omega)⟩⟩
theorem lookU_z {z : Nat} : ∀ {l : List (Nat × (Value → World → Prop))}, (∀ x ∈ l, stz z x.2) → ∀ (W : World) (x y u : Value) (j : Nat) (v : Value), lookU l j v W → lookU l j v (((W.setCell ⟨z + 1, 0, none⟩ x).setCell ⟨z + 1, 1, none⟩ y).setCell ⟨z + 1, 2, none⟩ u)
  | [], _ => fun _ _ _ _ _ _ h => h
  | (k, P) :: l, hl => fun W x y u j v h => by
    unfold lookU at h ⊢
    by_cases hk : j = k
    · rw [if_pos hk] at h ⊢
      exact (hl (k, P) (List.mem_cons_self ..)).2 v W x y u h
    · rw [if_neg hk] at h ⊢
      exact lookU_z (fun x hx => hl x (List.mem_cons_of_mem _ hx)) W x y u j v h
/-- Room behind an array's lists. -/
structure Cap2 (a : AV) (p : AP) : Prop where
  l0 : a.sh.length ≤ p.c0
  l1 : a.el.length ≤ p.c1
  n0 : p.A0 = none → p.c0 = 0
  n1 : p.A1 = none → p.c1 = 0
theorem own_cap {W : World} {B n c : Nat} {t : TypeId} {A : Option Addr} {xs : List Value} (h : W.ownsRow B t 1 (.slice A n c) n xs) : n ≤ c ∧ (A = none → c = 0) := by
  rcases h.2 with ⟨e, h0⟩ | ⟨g, cap, cur, e, _, _, h1, _⟩
  · injection e with e1 e2 e3
    exact ⟨by omega, fun _ => e3⟩
  · injection e with e1 e2 e3
    exact ⟨by omega, fun h => by rw [h] at e1; cases e1⟩
theorem Cap2.of {W : World} {B : Nat} {a : AV} {p : AP} (h : AOwn B W a p) : Cap2 a p := ⟨(own_cap h.o0).1, (own_cap h.o1).1, (own_cap h.o0).2, (own_cap h.o1).2⟩
abbrev Fine (a : AV) : Prop := ∀ z ∈ a.el, -9223372036854775808 ≤ z ∧ z ≤ 9223372036854775807
/-- A box of a law that holds an array. -/
structure BoxF (W : World) (g : Nat) (X : AV) (p : AP) : Prop where
  k : Blk W g 25 (arC X p)
  e : AEl W X p
  c : Cap2 X p
theorem BoxF.up {W W' : World} {g : Nat} {X : AV} {p : AP} (h : BoxF W g X p) (hb : Below W.heap.size W W') : BoxF W' g X p := ⟨blk_up h.k hb, h.e.below hb, h.c⟩
theorem BoxF.new {W : World} {X : AV} {p : AP} (h : AEl W X p) (c : Cap2 X p) : BoxF (W.alloc (.cells (arC X p) 25)) W.heap.size X p := ⟨Blk.new _ _ _, h.below (alloc_below _ _), c⟩
theorem BoxF.cells {W : World} {g : Nat} {X : AV} {p : AP} (h : BoxF W g X p) : W.cell? ⟨g, 0, none⟩ = some (.int .i64 X.kind) ∧ W.cell? ⟨g, 1, none⟩ = some (.slice p.A0 X.sh.length p.c0) ∧ W.cell? ⟨g, 2, none⟩ = some (.slice p.A1 X.el.length p.c1) := ⟨h.k.cell 0, h.k.cell 1, h.k.cell 2⟩
/-- An array that a call answers, to be looked at from then on. -/
def GiveT (X : AV) (E : Int) (w : World) (e : Ending) (w' : World) : Prop := ∃ p, e = .returned (.tuple #[.agg (arC X p), .int .i64 E]) ∧ AEl w' X p ∧ Cap2 X p ∧ Below w.heap.size w w'
theorem GiveE.t {X : AV} {E : Int} {w w' : World} {e : Ending} (h : GiveE X E w e w') (h0 : X.sh.length ≤ 9223372036854775807) (h1 : X.el.length ≤ 9223372036854775807) (hf : Fine X) : GiveT X E w e w' := by
  obtain ⟨p, rfl, o, b⟩ := h
  exact ⟨p, rfl, o.el h0 h1 hf, Cap2.of o, b⟩
def GiveV (X : AV) (w : World) (e : Ending) (w' : World) : Prop := ∃ p, e = .returned (.agg (arC X p)) ∧ AEl w' X p ∧ Cap2 X p ∧ Below w.heap.size w w'
theorem vec_give (l : List Int) (hl : l.length ≤ 100000) (hf : ∀ z ∈ l, InR z) (A : Option Addr) (n c : Nat) (W : World) (hn : l.length = n) (hr : Reads W W.heap.size 1 A n (l.map iv)) : Calls Try.prog 27 #[.slice A n c] W (GiveV (vecF l) W) := by
  subst hn
  refine (arvector_any A l.length c l W rfl hr (by omega)).mono ?_
  rintro e w' ⟨v, rfl, r, rfl, o, b⟩
  exact ⟨r, rfl, o.el (show (1 : Nat) ≤ _ by omega) (show l.length ≤ _ by omega) hf, Cap2.of o, b⟩
end Go.Proofs.Ytkabdkblcgklmaa.fo

namespace Go.Proofs.Ytkabdkblcgklmaa.fo
open Go.RowKit Go.Proofs.Ytkabdkblcgklmaa.arr Go.Proofs.Ytkabdkblcgklmaa.sc

def chkE (fs : List Int) (ls : List AV) : Int := if fs.all binB = false then 2 else if ls.all okA = false then 110 else 0
theorem fochk1_any (f : Int) (w : World) : Calls Try.prog 155 #[.int .i64 f] w fun e w' => e = .returned (.bool (!binB f)) ∧ Below w.heap.size w w' := by
  have H := Lib.hid (scbin_any f w)
  generalize binB f = b at *
  go_enter Try.func155, Try.ntmps155
  go_wp2_with (go_at_call 52; refine H.out.mono ?_; rintro e w2 ⟨rfl, b2⟩)
  go_ret
  exact ⟨rfl, b2⟩
theorem fochk2_any (a : AV) (p : AP) (w : World) (h : AEl w a p) : Calls Try.prog 156 #[.agg (arC a p)] w fun e w' => e = .returned (.bool (!okA a)) ∧ Below w.heap.size w w' := by
  have hb := AEl.box h
  obtain ⟨w1, hw1⟩ : ∃ w1, w.alloc (.cells (arC a p) 25) = w1 := ⟨_, rfl⟩
  rw [hw1] at hb
  have H := Lib.hid (archeck_any a p w1 hb.el)
  have hLC : arC a p = #[.int .i64 a.kind, .slice p.A0 a.sh.length p.c0, .slice p.A1 a.el.length p.c1] := rfl
  have x0 := hb.blk.cell 0
  have x1 := hb.blk.cell 1
  have x2 := hb.blk.cell 2
  have HB := Lib.hid hb.b
  rw [hLC] at H hw1 x0 x1 x2
  rw [hLC]
  unfold checkE at H
  clear hb h hLC
  cases ho : okA a
  · rw [ho, if_neg (by decide)] at H
    clear ho
    go_enter Try.func156, Try.ntmps156
    go_wp2_with (go_at_call 21; refine H.out.mono ?_; rintro e w2 ⟨rfl, b2⟩)
    go_ret
    exact ⟨rfl, HB.out.trans (b2.mono HB.out.size)⟩
  · rw [ho, if_pos rfl] at H
    clear ho
    go_enter Try.func156, Try.ntmps156
    go_wp2_with (go_at_call 21; refine H.out.mono ?_; rintro e w2 ⟨rfl, b2⟩)
    go_ret
    exact ⟨rfl, HB.out.trans (b2.mono HB.out.size)⟩

set_option maxHeartbeats 1000000 in
theorem foidxf_any (A : Option Addr) (c n : Nat) (l : List Int) (w : World) (hl : l.length = n) (ha : Reads w w.heap.size 1 A n (l.map iv)) (hn : n ≤ 9223372036854775807) :
    Calls Try.prog 182 #[.slice A n c, .func (.func 155) #[] #[]] w fun e w' => ∃ k : Int, e = .returned (.int .i64 k) ∧ (decide (k ≥ 0) = !(l.all binB)) ∧ Below w.heap.size w w' := by
  have HA := Lib.hid ha
  have HL := Lib.hid hl
  clear ha hl
  go_enter Try.func182, Try.ntmps182
  go_wp2
  go_loopw [8] (fun i wr => ∃ j, j ≤ n ∧ i = .int .i64 ((j : Nat) : Int) ∧ (l.take j).all binB = true ∧ Below w.heap.size w wr) (fun i _ => n - (intOf i).toNat)
  case atStart => exact ⟨0, Nat.zero_le _, rfl, by simp, Below.refl _ _⟩
  case round =>
    obtain ⟨j, hj, rfl, hni, hb⟩ := hrel
    by_cases hlt : j < n
    · obtain ⟨adA, rfl, _, cA⟩ := (HA.out.below hb).int_at hlt HL.out
      have hjl : j < l.length := by have := HL.out; omega
      have hin : l[j] ∈ l := List.getElem_mem hjl
      have hstep : binB l[j] = true → (l.take (j + 1)).all binB = true := fun h => by
        rw [List.take_succ_eq_append_getElem hjl, List.all_append, hni]
        simpa using h
      have hno : binB l[j] = false → l.all binB = false := fun h => by
        rw [List.all_eq_false]
        exact ⟨_, hin, by rw [h]; decide⟩
      generalize l[j] = y at *
      have HST := Lib.hid hstep
      have HNO := Lib.hid hno
      have HB := Lib.hid hb
      have HC := Lib.hid (fochk1_any y wr)
      clear hin hstep hno hni hb
      cases hy : binB y
      · rw [hy] at HC
        have HY := Lib.hid hy
        clear hy
        go_wp2_with (go_at_call 155; refine HC.out.mono ?_; rintro e w2 ⟨rfl, b2⟩)
        go_ret
        refine ⟨_, rfl, ?_, HB.out.trans (b2.mono HB.out.size)⟩
        rw [HNO.out HY.out, decide_eq_true (by omega)]
        rfl
      · rw [hy] at HC
        have HY := Lib.hid hy
        clear hy
        go_wp2_with (go_at_call 155; refine HC.out.mono ?_; rintro e w2 ⟨rfl, b2⟩)
        exact ⟨⟨j + 1, by omega, by go_num, HST.out HY.out, HB.out.trans (b2.mono HB.out.size)⟩, by simp [intOf]; omega⟩
    · obtain rfl : j = n := by omega
      have hall : l.all binB = true := by
        rwa [List.take_of_length_le (by have := HL.out; omega)] at hni
      have HALL := Lib.hid hall
      have HB := Lib.hid hb
      clear hall hni hb
      go_wp2
      go_ret
      refine ⟨_, rfl, ?_, HB.out⟩
      rw [HALL.out]
      rfl
theorem fohasf_any (A : Option Addr) (c n : Nat) (l : List Int) (w : World) (hl : l.length = n) (ha : Reads w w.heap.size 1 A n (l.map iv)) (hn : n ≤ 9223372036854775807) :
    Calls Try.prog 112 #[.slice A n c, .func (.func 155) #[] #[]] w fun e w' => e = .returned (.bool (!(l.all binB))) ∧ Below w.heap.size w w' := by
  have H := Lib.hid (foidxf_any A c n l w hl ha hn)
  clear ha hl
  go_enter Try.func112, Try.ntmps112
  go_wp2_with (go_at_call 182; refine H.out.mono ?_; rintro e w2 ⟨k, rfl, hk, b2⟩)
  go_ret
  exact ⟨by rw [← hk]; rfl, b2⟩
/-- Arrays in a row at g. -/
structure Ars (W : World) (g : Nat) (ls : List AV) : Prop where
  lt : g < W.heap.size
  at_ : ∀ (i : Nat) (a : AV), ls[i]? = some a → ∃ p, AEl W a p ∧ W.cell? ⟨g, i * 3, none⟩ = some (.int .i64 a.kind) ∧ W.cell? ⟨g, i * 3 + 1, none⟩ = some (.slice p.A0 a.sh.length p.c0) ∧ W.cell? ⟨g, i * 3 + 2, none⟩ = some (.slice p.A1 a.el.length p.c1)
theorem Ars.below {W W' : World} {g : Nat} {ls : List AV} (h : Ars W g ls) (hb : Below W.heap.size W W') : Ars W' g ls :=
  ⟨Nat.lt_of_lt_of_le h.lt hb.size, fun i a ha => by
    obtain ⟨p, h1, h2, h3, h4⟩ := h.at_ i a ha
    exact ⟨p, h1.below hb, (hb.cell h.lt).trans h2, (hb.cell h.lt).trans h3, (hb.cell h.lt).trans h4⟩⟩
theorem Ars.one {W : World} {a : AV} {p : AP} (h : AEl W a p) : Ars (W.alloc (.cells (arC a p) 25)) W.heap.size [a] := by
  refine ⟨by simp, fun i x hx => ?_⟩
  rcases i with _ | i
  · injection hx with hx
    subst hx
    exact ⟨p, h.below (alloc_below _ _), (Blk.new W 25 (arC a p)).cell 0, (Blk.new W 25 (arC a p)).cell 1, (Blk.new W 25 (arC a p)).cell 2⟩
  · simp at hx
theorem Ars.two {W : World} {a b : AV} {p q : AP} (h : AEl W a p) (k : AEl W b q) : Ars (W.alloc (.cells #[.int .i64 a.kind, .slice p.A0 a.sh.length p.c0, .slice p.A1 a.el.length p.c1, .int .i64 b.kind, .slice q.A0 b.sh.length q.c0, .slice q.A1 b.el.length q.c1] 25)) W.heap.size [a, b] := by
  refine ⟨by simp, fun i x hx => ?_⟩
  rcases i with _ | i
  · injection hx with hx
    subst hx
    exact ⟨p, h.below (alloc_below _ _), (Blk.new W 25 _).cell 0, (Blk.new W 25 _).cell 1, (Blk.new W 25 _).cell 2⟩
  · rcases i with _ | i
    · injection hx with hx
      subst hx
      exact ⟨q, k.below (alloc_below _ _), (Blk.new W 25 _).cell 3, (Blk.new W 25 _).cell 4, (Blk.new W 25 _).cell 5⟩
    · simp at hx
set_option maxHeartbeats 1000000 in
theorem foidxa_any (g c n : Nat) (l : List AV) (w : World) (hl : l.length = n) (ha : Ars w g l) (hn : n ≤ 100) :
    Calls Try.prog 196 #[.slice (some ⟨g, 0, none⟩) n c, .func (.func 156) #[] #[]] w fun e w' => ∃ k : Int, e = .returned (.int .i64 k) ∧ (decide (k ≥ 0) = !(l.all okA)) ∧ Below w.heap.size w w' := by
  have HA := Lib.hid ha
  have HL := Lib.hid hl
  clear ha hl
  go_enter Try.func196, Try.ntmps196
  go_wp2
  go_loopw [8] (fun i wr => ∃ j, j ≤ n ∧ i = .int .i64 ((j : Nat) : Int) ∧ (l.take j).all okA = true ∧ Below w.heap.size w wr) (fun i _ => n - (intOf i).toNat)
  case atStart => exact ⟨0, Nat.zero_le _, rfl, by simp, Below.refl _ _⟩
  case round =>
    obtain ⟨j, hj, rfl, hni, hb⟩ := hrel
    by_cases hlt : j < n
    · have hjl : j < l.length := by have := HL.out; omega
      obtain ⟨p, hp, c0, c1, c2⟩ := (HA.out.below hb).at_ j l[j] (List.getElem?_eq_getElem hjl)
      have hin : l[j] ∈ l := List.getElem_mem hjl
      have hstep : okA l[j] = true → (l.take (j + 1)).all okA = true := fun h => by
        rw [List.take_succ_eq_append_getElem hjl, List.all_append, hni]
        simpa using h
      have hno : okA l[j] = false → l.all okA = false := fun h => by
        rw [List.all_eq_false]
        exact ⟨_, hin, by rw [h]; decide⟩
      generalize l[j] = y at *
      have HST := Lib.hid hstep
      have HNO := Lib.hid hno
      have HB := Lib.hid hb
      have HC := Lib.hid (fochk2_any y p wr hp)
      have hLC : arC y p = #[.int .i64 y.kind, .slice p.A0 y.sh.length p.c0, .slice p.A1 y.el.length p.c1] := rfl
      rw [hLC] at HC
      clear hin hstep hno hni hb hLC hp
      cases hy : okA y
      · rw [hy] at HC
        have HY := Lib.hid hy
        clear hy
        go_wp2_with (go_at_call 156; refine HC.out.mono ?_; rintro e w2 ⟨rfl, b2⟩)
        go_ret
        refine ⟨_, rfl, ?_, HB.out.trans (b2.mono HB.out.size)⟩
        rw [HNO.out HY.out, decide_eq_true (by omega)]
        rfl
      · rw [hy] at HC
        have HY := Lib.hid hy
        clear hy
        go_wp2_with (go_at_call 156; refine HC.out.mono ?_; rintro e w2 ⟨rfl, b2⟩)
        exact ⟨⟨j + 1, by omega, by go_num, HST.out HY.out, HB.out.trans (b2.mono HB.out.size)⟩, by simp [intOf]; omega⟩
    · obtain rfl : j = n := by omega
      have hall : l.all okA = true := by
        rwa [List.take_of_length_le (by have := HL.out; omega)] at hni
      have HALL := Lib.hid hall
      have HB := Lib.hid hb
      clear hall hni hb
      go_wp2
      go_ret
      refine ⟨_, rfl, ?_, HB.out⟩
      rw [HALL.out]
      rfl
theorem fohasa_any (g c n : Nat) (l : List AV) (w : World) (hl : l.length = n) (ha : Ars w g l) (hn : n ≤ 100) :
    Calls Try.prog 157 #[.slice (some ⟨g, 0, none⟩) n c, .func (.func 156) #[] #[]] w fun e w' => e = .returned (.bool (!(l.all okA))) ∧ Below w.heap.size w w' := by
  have H := Lib.hid (foidxa_any g c n l w hl ha hn)
  clear ha hl
  go_enter Try.func157, Try.ntmps157
  go_wp2_with (go_at_call 196; refine H.out.mono ?_; rintro e w2 ⟨k, rfl, hk, b2⟩)
  go_ret
  exact ⟨by rw [← hk]; rfl, b2⟩
theorem fochk_any (A : Option Addr) (c n : Nat) (fs : List Int) (g d m : Nat) (ls : List AV) (w : World) (hl : fs.length = n) (hr : Reads w w.heap.size 1 A n (fs.map iv)) (hn : n ≤ 100) (hm : ls.length = m) (ha : Ars w g ls) (hm1 : m ≤ 100) :
    Calls Try.prog 90 #[.slice A n c, .slice (some ⟨g, 0, none⟩) m d] w fun e w' => e = .returned (.int .i64 (chkE fs ls)) ∧ Below w.heap.size w w' := by
  have HF := Lib.hid (fohasf_any A c n fs w hl hr (by omega))
  have HG := Lib.hid (fun W (h : Below w.heap.size w W) => fohasa_any g d m ls W hm (ha.below h) hm1)
  unfold chkE
  clear hl hr hm ha
  cases h1 : fs.all binB
  · rw [h1] at HF
    rw [if_pos rfl]
    clear h1 HG
    go_enter Try.func90, Try.ntmps90
    go_wp2_with (go_at_call 112; refine HF.out.mono ?_; rintro e w2 ⟨rfl, b2⟩)
    go_ret
    exact ⟨rfl, b2⟩
  rw [h1] at HF
  rw [if_neg (by decide)]
  cases h2 : ls.all okA
  · rw [h2] at HG
    rw [if_pos rfl]
    clear h1 h2
    go_enter Try.func90, Try.ntmps90
    go_wp2_with (first
      | (go_at_call 157; refine (HG.out _ b2).mono ?_; rintro e w3 ⟨rfl, b3⟩)
      | (go_at_call 112; refine HF.out.mono ?_; rintro e w2 ⟨rfl, b2⟩))
    go_ret
    exact ⟨rfl, below_on b2 b3⟩
  · rw [h2] at HG
    rw [if_neg (by decide)]
    clear h1 h2
    go_enter Try.func90, Try.ntmps90
    go_wp2_with (first
      | (go_at_call 157; refine (HG.out _ b2).mono ?_; rintro e w3 ⟨rfl, b3⟩)
      | (go_at_call 112; refine HF.out.mono ?_; rintro e w2 ⟨rfl, b2⟩))
    go_ret
    exact ⟨rfl, below_on b2 b3⟩

/-! ### Rows -/
theorem reads_pre {W : World} {B n k : Nat} {A : Option Addr} {l : List Int} (h : Reads W B 1 A n (l.map iv)) (hk : k ≤ n) : Reads W B 1 A k ((l.take k).map iv) := by
  refine ⟨by rw [List.length_map, List.length_take]; have := h.1; rw [List.length_map] at this; omega, fun h0 => ?_⟩
  obtain ⟨ad, e, hb, hc⟩ := h.2 (by omega)
  refine ⟨ad, e, hb, fun j u hu => hc j u ?_⟩
  rw [List.getElem?_map] at hu ⊢
  by_cases hj : j < k
  · rwa [List.getElem?_take_of_lt hj] at hu
  · rw [List.getElem?_eq_none (by rw [List.length_take]; omega)] at hu
    cases hu
theorem reads_win {W : World} {B n i k cap : Nat} {A : Option Addr} {l : List Int} (h : Reads W B 1 A n (l.map iv)) (hk : i + k ≤ n) (hc : n ≤ cap) : Reads W B 1 (if cap = i then A else A.map (·.add i)) k (((l.drop i).take k).map iv) := by
  have h1 := h.cut (k := i) (cap := cap) (by omega) hc
  rw [Nat.mul_one] at h1
  rw [← List.map_drop] at h1
  exact reads_pre h1 (by omega)
theorem foprod_any (A : Option Addr) (c n : Nat) (l : List Int) (w : World) (hl : l.length = n) (ha : Reads w w.heap.size 1 A n (l.map iv)) (h4 : n ≤ 4) (hall : l.all lenOk = true) :
    Calls Try.prog 74 #[.slice A n c] w fun e w' => e = .returned (.int .i64 (prodI l)) ∧ w = w' := by
  have HA := Lib.hid ha
  have HL := Lib.hid hl
  have HALL := Lib.hid hall
  clear ha hl hall
  go_enter Try.func74, Try.ntmps74
  go_wp2
  go_loopw [8, 3] (fun i p wr => ∃ j, j ≤ n ∧ i = .int .i64 ((j : Nat) : Int) ∧ p = .int .i64 (prodI (l.take j)) ∧ wr = w) (fun i _ _ => n - (intOf i).toNat)
  case atStart => exact ⟨0, Nat.zero_le _, rfl, rfl, rfl⟩
  case round =>
    obtain ⟨j, hj, rfl, rfl, rfl⟩ := hrel
    by_cases hlt : j < n
    · obtain ⟨adA, rfl, _, cA⟩ := HA.out.int_at hlt HL.out
      have hjl : j < l.length := by have := HL.out; omega
      have hq := prodI_snoc l hjl
      have hb := prodI_four (all_take HALL.out (j + 1)) (by rw [List.length_take]; omega)
      generalize l[j] = x at *
      generalize prodI (l.take j) = p at *
      generalize hQ : prodI (l.take (j + 1)) = q at *
      have HQ := Lib.hid hQ
      obtain ⟨hb1, hb2⟩ := hb
      have hq' : p * x = q := hq.symm
      clear hq hQ
      go_wp2
      exact ⟨⟨j + 1, by omega, by go_num, by rw [HQ.out], trivial⟩, by simp [intOf]; omega⟩
    · obtain rfl : j = n := by omega
      rw [List.take_of_length_le (by have := HL.out; omega)]
      go_wp2
      go_ret
      exact ⟨rfl, rfl⟩
theorem foother_any (A : Option Addr) (n c : Nat) (w : World) (h0 : A = none → n = 0 ∧ c = 0) (hc : n ≤ c) (hn : n ≤ 100) :
    Calls Try.prog 75 #[.slice A n c] w fun e w' => e = .returned (.slice A (n - 1) c) ∧ w = w' := by
  cases A with
  | none =>
    obtain ⟨rfl, rfl⟩ := h0 rfl
    go_enter Try.func75, Try.ntmps75
    go_wp2
    go_ret
    exact ⟨rfl, rfl⟩
  | some ad =>
    rcases n with _ | n
    · go_enter Try.func75, Try.ntmps75
      go_wp2
      go_ret
      exact ⟨rfl, rfl⟩
    · have h1 : ((n + 1 : Nat) : Int) = (n : Int) + 1 := by omega
      have h2 : max ((n : Int) + 1) 1 = (n : Int) + 1 := by omega
      go_enter Try.func75, Try.ntmps75
      go_wp2
      go_ret
      exact ⟨rfl, rfl⟩
/-- Rows. -/
def rowsV (sh : List Int) : Int × Int := if okShape sh = false then (0, 0) else (prodI (othL sh), longI sh)
theorem long_ok {sh : List Int} (h : okShape sh = true) : 0 ≤ longI sh ∧ longI sh ≤ 4096 := by
  unfold longI
  split
  · omega
  · rename_i h0
    have hm : sh.length - 1 < sh.length := by omega
    rw [List.getD_eq_getElem?_getD, List.getElem?_eq_getElem hm]
    exact lenOk_iff.1 (List.all_eq_true.1 (okShape_iff.1 h).2.1 _ (List.getElem_mem hm))
set_option maxRecDepth 100000 in
set_option maxHeartbeats 4000000 in
theorem forows_any (A : Option Addr) (n c : Nat) (sh : List Int) (w : World) (hl : sh.length = n) (ha : Reads w w.heap.size 1 A n (sh.map iv)) (hn : n ≤ 9223372036854775807) (hc : n ≤ c) :
    Calls Try.prog 32 #[.slice A n c] w fun e w' => e = .returned (.tuple #[.int .i64 (rowsV sh).1, .int .i64 (rowsV sh).2]) ∧ Below w.heap.size w w' := by
  have HC := Lib.hid (arcount_any A c n sh w hl ha hn)
  cases hok : okShape sh
  · obtain ⟨e1, e2⟩ := cnt_no hok
    rw [e1, e2] at HC
    have hv : rowsV sh = (0, 0) := by unfold rowsV; rw [hok, if_pos rfl]
    rw [hv]
    clear ha hok e1 e2 hv hc hl
    go_enter Try.func32, Try.ntmps32
    go_wp2_with (go_at_call 63; refine HC.out.mono ?_; rintro e _ ⟨rfl, rfl⟩)
    go_ret2
    exact ⟨rfl, Below.refl _ _⟩
  obtain ⟨e1, e2⟩ := cnt_ok hok
  rw [e1, e2] at HC
  have hv : rowsV sh = (prodI (othL sh), longI sh) := by unfold rowsV; rw [hok, if_neg (by decide)]
  rw [hv]
  obtain ⟨Z, hZ⟩ : ∃ Z, prodI sh = Z := ⟨_, rfl⟩
  rw [hZ] at HC
  rcases n with _ | m
  · have hs : sh = [] := List.eq_nil_of_length_eq_zero hl
    subst hs
    rw [show prodI (othL []) = 1 from rfl, show longI [] = 1 from rfl]
    clear ha hok e1 e2 hv hc hl hZ
    go_enter Try.func32, Try.ntmps32
    go_wp2_with (go_at_call 63; refine HC.out.mono ?_; rintro e _ ⟨rfl, rfl⟩)
    go_ret2
    exact ⟨rfl, Below.refl _ _⟩
  · have hm : m < sh.length := by omega
    have hm4 : m + 1 ≤ 4 := by have := (okShape_iff.1 hok).1; omega
    obtain ⟨ad, rfl, hla, _⟩ := ha.int_at (k := m) (by omega) hl
    have hot : othL sh = sh.take m := by unfold othL; rw [hl]; rfl
    have hlg : longI sh = sh[m] := by
      unfold longI
      rw [if_neg (by omega), hl, Nat.add_sub_cancel, List.getD_eq_getElem?_getD, List.getElem?_eq_getElem hm]
      rfl
    have hpb := prodI_four (all_take (okShape_iff.1 hok).2.1 m) (by rw [List.length_take]; omega)
    have hxb := long_ok hok
    rw [hot]
    rw [hlg] at hxb ⊢
    have HCX : Hid (∀ W, Below w.heap.size w W → W.cell? (ad.add m) = some (.int .i64 sh[m])) := Lib.hid (fun W hb => by
      obtain ⟨ad', e, _, h⟩ := (ha.below hb).int_at (k := m) (by omega) hl
      injection e with e
      subst e
      exact h)
    have HPR : Hid (∀ W, Below w.heap.size w W → Calls Try.prog 74 #[.slice (some ad) m c] W fun e w' => e = .returned (.int .i64 (prodI (sh.take m))) ∧ W = w') := Lib.hid (fun W hb => by
      refine foprod_any (some ad) c m (sh.take m) W (by rw [List.length_take]; omega) ?_ (by omega) (all_take (okShape_iff.1 hok).2.1 m)
      have h := (ha.below hb).more hb.size
      exact reads_pre h (by omega))
    have HOT : Hid (∀ W, Calls Try.prog 75 #[.slice (some ad) (m + 1) c] W fun e w' => e = .returned (.slice (some ad) m c) ∧ W = w') := Lib.hid (fun W => foother_any (some ad) (m + 1) c W (fun h => by cases h) hc (by omega))
    generalize sh[m] = x at *
    generalize prodI (sh.take m) = P at *
    have hi1 : ((m + 1 : Nat) : Int) = (m : Int) + 1 := by omega
    have hwm : IntKind.i64.wrap (m : Int) = (m : Int) := by rw [IntKind.wrap_i64]; omega
    have hd1 : (m : Int) < (m : Int) + 1 := by omega
    have hd2 : ¬ ((m : Int) + 1 ≤ (m : Int)) := by omega
    clear ha hok e1 e2 hv hc hl hZ hla hot hlg hn hm
    go_enter Try.func32, Try.ntmps32
    go_upto_region 6 with (go_at_call 63; refine HC.out.mono ?_; rintro e _ ⟨rfl, rfl⟩)
    refine wp_region_done_on (GS w) (GR [1, 2] (fun (i : Nat) (v : Value) (_ : World) => v = if i = 1 then .slice (some ad) m c else .int .i64 P) [.slice (some ad) (m + 1) c, undef, undef, .slice (some ad) (m + 1) c, .slice (some ad) (m + 1) c, .int .i64 ((m : Int) + 1), .int .i64 (m : Int), .pointer (some (ad.add m)), .int .i64 x, .int .i64 P, .int .i64 x]) (by kernel_rfl) 25 rfl (by kernel_rfl) ((Below.refl _ _).drew) ?_ ?_
    · intro i hi
      have hi2 : i < 11 := hi
      clear hi
      rcases i with _ | i
      · refine gr_value rfl (by decide) (.slice (some ad) (m + 1) c) rfl ?_
        intro a8 w8 hb8 ho hn
        have o0 : a8.tmps[0]? = some _ := (ho 0 (by kernel_rfl)).trans rfl
        clear ho hn
        refine ⟨wanted_free rfl, ?_⟩
        go_simp
      rcases i with _ | i
      · refine gr_call (fun _ _ _ _ _ h => h) 75 rfl (by decide) ?_
        intro a8 w8 hb8 ho hn
        obtain ⟨v16, n16, hq16⟩ := hn 0 16 (by kernel_rfl) rfl
        obtain rfl := hq16.1 (by decide)
        clear ho hn
        refine ⟨wanted_free rfl, ?_⟩
        refine ⟨#[.slice (some ad) (m + 1) c], (by go_simp), (HOT.out w8).mono ?_⟩
        rintro e _ ⟨rfl, rfl⟩
        exact ⟨_, rfl, Below.refl _ _, rfl⟩
      rcases i with _ | i
      · refine gr_call (fun _ _ _ _ _ h => h) 74 rfl (by decide) ?_
        intro a8 w8 hb8 ho hn
        obtain ⟨v17, n17, hq17⟩ := hn 1 17 (by kernel_rfl) rfl
        have hv17 := hq17.2 (by decide)
        clear ho hn
        refine ⟨wanted_free rfl, ?_⟩
        obtain rfl : v17 = .slice (some ad) m c := hv17
        clear hq17
        refine ⟨#[.slice (some ad) m c], (by go_simp), (HPR.out w8 hb8).mono ?_⟩
        rintro e _ ⟨rfl, rfl⟩
        exact ⟨_, rfl, Below.refl _ _, rfl⟩
      rcases i with _ | i
      · refine gr_value rfl (by decide) (.slice (some ad) (m + 1) c) rfl ?_
        intro a8 w8 hb8 ho hn
        have o0 : a8.tmps[0]? = some _ := (ho 0 (by kernel_rfl)).trans rfl
        clear ho hn
        refine ⟨wanted_free rfl, ?_⟩
        go_simp
      rcases i with _ | i
      · refine gr_value rfl (by decide) (.slice (some ad) (m + 1) c) rfl ?_
        intro a8 w8 hb8 ho hn
        have o0 : a8.tmps[0]? = some _ := (ho 0 (by kernel_rfl)).trans rfl
        clear ho hn
        refine ⟨wanted_free rfl, ?_⟩
        go_simp
      rcases i with _ | i
      · refine gr_value rfl (by decide) (.int .i64 ((m : Int) + 1)) rfl ?_
        intro a8 w8 hb8 ho hn
        obtain ⟨v20, n20, hq20⟩ := hn 4 20 (by kernel_rfl) rfl
        obtain rfl := hq20.1 (by decide)
        clear ho hn
        refine ⟨wanted_free rfl, ?_⟩
        go_simp
      rcases i with _ | i
      · refine gr_value rfl (by decide) (.int .i64 (m : Int)) rfl ?_
        intro a8 w8 hb8 ho hn
        obtain ⟨v21, n21, hq21⟩ := hn 5 21 (by kernel_rfl) rfl
        obtain rfl := hq21.1 (by decide)
        clear ho hn
        refine ⟨wanted_free rfl, ?_⟩
        go_simp
      rcases i with _ | i
      · refine gr_value rfl (by decide) (.pointer (some (ad.add m))) rfl ?_
        intro a8 w8 hb8 ho hn
        obtain ⟨v19, n19, hq19⟩ := hn 3 19 (by kernel_rfl) rfl
        obtain rfl := hq19.1 (by decide)
        obtain ⟨v22, n22, hq22⟩ := hn 6 22 (by kernel_rfl) rfl
        obtain rfl := hq22.1 (by decide)
        clear ho hn
        refine ⟨wanted_free rfl, ?_⟩
        go_simp
      rcases i with _ | i
      · refine gr_value rfl (by decide) (.int .i64 x) rfl ?_
        intro a8 w8 hb8 ho hn
        obtain ⟨v23, n23, hq23⟩ := hn 7 23 (by kernel_rfl) rfl
        obtain rfl := hq23.1 (by decide)
        clear ho hn
        refine ⟨wanted_free rfl, ?_⟩
        have y3 := HCX.out w8 hb8
        go_simp
      rcases i with _ | i
      · refine gr_value rfl (by decide) (.int .i64 P) rfl ?_
        intro a8 w8 hb8 ho hn
        obtain ⟨v18, n18, hq18⟩ := hn 2 18 (by kernel_rfl) rfl
        have hv18 := hq18.2 (by decide)
        clear ho hn
        refine ⟨wanted_free rfl, ?_⟩
        obtain rfl : v18 = .int .i64 P := hv18
        clear hq18
        go_simp
      rcases i with _ | i
      · refine gr_value rfl (by decide) (.int .i64 x) rfl ?_
        intro a8 w8 hb8 ho hn
        obtain ⟨v24, n24, hq24⟩ := hn 8 24 (by kernel_rfl) rfl
        obtain rfl := hq24.1 (by decide)
        clear ho hn
        refine ⟨wanted_free rfl, ?_⟩
        go_simp
      omega
    · intro dn fv w5 hb5 hR5 hall
      have h2 : fv 2 = _ := (hR5 9 2 rfl).1 (by decide)
      have h3 : fv 3 = _ := (hR5 10 3 rfl).1 (by decide)
      simp only [putAll, List.foldl_cons, List.foldl_nil, Act.put, List.setIfInBounds_toArray, List.set_cons_succ, List.set_cons_zero, h2, h3, List.getD_cons_zero, List.getD_cons_succ]
      clear hR5 hall
      go_wp2
      go_ret2
      exact ⟨rfl, hb5⟩
end Go.Proofs.Ytkabdkblcgklmaa.fo

namespace Go.Proofs.Ytkabdkblcgklmaa.fo
open Go.RowKit Go.Proofs.Ytkabdkblcgklmaa.arr Go.Proofs.Ytkabdkblcgklmaa.sc

theorem load_rows (w : World) (g : Nat) (x y z : Value) (hb : Blk w g 110 #[x, y, z]) : (loadVar 110 ⟨g, 0, none⟩).run Try.prog w = .ok (.agg #[x, y, z]) w := by
  have h1 : w.rangeAt g 0 [x, y, z] := fun j v hv => by
    rw [Nat.zero_add, hb.cell]
    simpa using hv
  exact run_loadVar_mid w g 0 110 [x, y, z] _ h1 Try.underlying110 rfl (by kernel_rfl)
theorem results_rows2 {fn : Func} {t i : Tmp} {tmps : Array Value} {w : World} {g : Nat} {x y z v : Value} (h : fn.results = #[.cell t 110, .tmp i]) (ht : tmps.getD t undef = .pointer (some ⟨g, 0, none⟩)) (hv : tmps.getD i undef = v) (hb : Blk w g 110 #[x, y, z]) : (results fn tmps).run Try.prog w = .ok (.tuple #[.agg #[x, y, z], v]) w := by
  have h1 := load_rows w g x y z hb
  rw [Array.getD_eq_getD_getElem?] at ht hv
  simp [results, h, ht, h1, hv, asAddr]
def rowsC (f : Int) (a : AV) (p : AP) : Array Value := if rowsE f a = 0 then #[.int .i64 f, .slice p.A1 a.el.length p.c1, .int .i64 (longI a.sh)] else #[.int .i64 0, .slice none 0 0, .int .i64 0]
theorem chk_rows (f : Int) (a : AV) : (chkE [f] [a] ≠ 0 → rowsE f a = chkE [f] [a]) ∧ (chkE [f] [a] = 0 → binB f = true ∧ okA a = true ∧ rowsE f a = if a.kind = 2 then 5 else 0) := by
  unfold chkE rowsE
  rw [List.all_cons, List.all_cons, List.all_nil, List.all_nil, Bool.and_true, Bool.and_true]
  cases binB f
  · exact ⟨fun _ => rfl, fun h => by cases h⟩
  · cases okA a
    · exact ⟨fun _ => rfl, fun h => by cases h⟩
    · exact ⟨fun h => absurd rfl h, fun _ => ⟨rfl, rfl, rfl⟩⟩
set_option maxRecDepth 100000 in
set_option maxHeartbeats 4000000 in
theorem forowsof_any (f : Int) (a : AV) (p : AP) (w : World) (ea : AEl w a p) (hc : a.sh.length ≤ p.c0) :
    Calls Try.prog 77 #[.int .i64 f, .agg (arC a p)] w fun e w' => e = .returned (.tuple #[.agg (rowsC f a p), .int .i64 (rowsE f a)]) ∧ Below w.heap.size w w' := by
  obtain ⟨w1, hw1⟩ : ∃ w1, (w.alloc (.cells (arC a p) 25)).alloc (.cells #[.int .i64 0, .slice none 0 0, .int .i64 0] 110) = w1 := ⟨_, rfl⟩
  have hx : Blk w1 w.heap.size 25 (arC a p) := by rw [← hw1]; exact (Blk.new w _ _).alloc _
  have hr : Blk w1 (w.heap.size + 1) 110 #[.int .i64 0, .slice none 0 0, .int .i64 0] := by rw [← hw1]; exact blk_n2 w _ _ _
  have hb1 : Below w.heap.size w w1 := by rw [← hw1]; exact below_n2 w _ _
  have hs1 : w1.heap.size = w.heap.size + 1 + 1 := by rw [← hw1]; simp
  have he1 : AEl w1 a p := ea.below hb1
  have hLC : arC a p = #[.int .i64 a.kind, .slice p.A0 a.sh.length p.c0, .slice p.A1 a.el.length p.c1] := rfl
  have HCK : Hid (∀ W, Below w1.heap.size w1 W → Calls Try.prog 90 #[.slice (some ⟨W.heap.size, 0, none⟩) 1 1, .slice (some ⟨W.heap.size + 1, 0, none⟩) 1 1] ((W.alloc (.cells #[.int .i64 f] 3)).alloc (.cells #[.int .i64 a.kind, .slice p.A0 a.sh.length p.c0, .slice p.A1 a.el.length p.c1] 25)) fun e w' => e = .returned (.int .i64 (chkE [f] [a])) ∧ Below W.heap.size W w') := Lib.hid (fun W hb => by
    have h1 : AEl (W.alloc (.cells #[.int .i64 f] 3)) a p := (he1.below hb).below (alloc_below _ _)
    have h2 := Ars.one h1
    rw [World.size_alloc] at h2
    have hal := below_n2 W (.cells #[.int .i64 f] 3) (.cells (arC a p) 25)
    refine (fochk_any (some ⟨W.heap.size, 0, none⟩) 1 1 [f] (W.heap.size + 1) 1 1 [a] _ rfl ?_ (by omega) rfl h2 (by omega)).mono ?_
    · refine ⟨rfl, fun _ => ⟨_, rfl, by simp; omega, fun j u hu => ?_⟩⟩
      rw [Addr.add_mid, Nat.zero_add, ((Blk.new W 3 #[.int .i64 f]).alloc (.cells (arC a p) 25)).cell j, List.getElem?_toArray]
      exact hu
    · rintro e w' ⟨rfl, b⟩
      exact ⟨rfl, hal.trans (b.mono hal.size)⟩)
  have HS := Lib.hid hs1
  have HB1 := Lib.hid hb1
  have HX : Hid (Blk w1 w.heap.size 25 #[.int .i64 a.kind, .slice p.A0 a.sh.length p.c0, .slice p.A1 a.el.length p.c1]) := Lib.hid hx
  have HR := Lib.hid hr
  have HE1 := Lib.hid he1
  obtain ⟨hch1, hch2⟩ := chk_rows f a
  have hrc : rowsC f a p = if rowsE f a = 0 then #[.int .i64 f, .slice p.A1 a.el.length p.c1, .int .i64 (longI a.sh)] else #[.int .i64 0, .slice none 0 0, .int .i64 0] := rfl
  obtain ⟨E, hE⟩ : ∃ E, chkE [f] [a] = E := ⟨_, rfl⟩
  rw [hE] at HCK hch1 hch2
  have x0 := hx.cell 0
  have x1 := hx.cell 1
  have x2 := hx.cell 2
  rw [hLC] at hw1 x0 x1 x2
  rw [hLC]
  by_cases h0 : E = 0
  · subst h0
    obtain ⟨hbin, hok, hre⟩ := hch2 rfl
    have hko : okShape a.sh = true := (okA_iff.1 hok).1
    have HRW : Hid (∀ W, Below w1.heap.size w1 W → Calls Try.prog 32 #[.slice p.A0 a.sh.length p.c0] W fun e w' => ∃ x, e = .returned (.tuple #[.int .i64 x, .int .i64 (longI a.sh)]) ∧ Below W.heap.size W w') := Lib.hid (fun W hb => by
      have h := (he1.below hb)
      refine (forows_any p.A0 a.sh.length p.c0 a.sh W rfl h.r0 h.b0 hc).mono ?_
      rintro e w' ⟨rfl, b⟩
      unfold rowsV
      rw [hko, if_neg (by decide)]
      exact ⟨_, rfl, b⟩)
    by_cases hk : a.kind = 2
    · rw [if_pos hk] at hre
      rw [hre, if_neg (by decide)] at hrc
      rw [hrc, hre]
      rw [hk] at hw1 x0 HCK HX
      rw [hk]
      clear ea he1 hb1 hch1 hch2 hE hLC hrc hre hbin hok hko hk hx hr
      go_enter Try.func77, Try.ntmps77
      go_wp2_with (go_at_call 90; (try simp only [HS.out.symm]); refine (HCK.out w1 (Below.refl _ _)).mono ?_; rintro e w4 ⟨rfl, b4⟩; have r4 := HR.out.below b4 HR.out.lt; have y0 := (HX.out.below b4 HX.out.lt).cell 0; have f0 := r4.cell 0; have f1 := r4.cell 1; have f2 := r4.cell 2; have q0 := r4.frozen 0; have q1 := r4.frozen 1; have q2 := r4.frozen 2; have R4 := Lib.hid r4; have B4 := Lib.hid b4; clear r4 b4)
      refine bodyPost_ret (results_rows2 rfl rfl rfl (arblk_three _ _ _ R4.out)) rfl ?_
      exact ⟨rfl, (HB1.out.trans (B4.out.mono HB1.out.size)).trans ((arkeep_three w4 (w.heap.size + 1) _ _ _).below (HB1.out.trans (B4.out.mono HB1.out.size)).size (fun i hi e => by omega))⟩
    · rw [if_neg hk] at hre
      rw [hre, if_pos rfl] at hrc
      rw [hrc, hre]
      have hk2 : (a.kind == 2) = false := by simp [hk]
      generalize longI a.sh = LL at *
      generalize a.kind = ka at *
      clear ea he1 hb1 hch1 hch2 hE hLC hrc hre hbin hok hko hk hr
      go_enter Try.func77, Try.ntmps77
      go_wp2_with (first
        | (go_at_call 32; refine (HRW.out _ B4.out).mono ?_; rintro e w5 ⟨zz, rfl, b5⟩; have b5' := B4.out.trans (b5.mono B4.out.size); have r4 := HR.out.below b5' HR.out.lt; have y0 := (HX.out.below b5' HX.out.lt).cell 0; have y1 := (HX.out.below b5' HX.out.lt).cell 1; have y2 := (HX.out.below b5' HX.out.lt).cell 2; have f0 := r4.cell 0; have f1 := r4.cell 1; have f2 := r4.cell 2; have q0 := r4.frozen 0; have q1 := r4.frozen 1; have q2 := r4.frozen 2; have R4 := Lib.hid r4; have B5 := Lib.hid b5'; clear r4 b5 b5')
        | (go_at_call 90; (try simp only [HS.out.symm]); refine (HCK.out w1 (Below.refl _ _)).mono ?_; rintro e w4 ⟨rfl, b4⟩; have y0 := (HX.out.below b4 HX.out.lt).cell 0; have y1 := (HX.out.below b4 HX.out.lt).cell 1; have B4 := Lib.hid b4; clear b4))
      refine bodyPost_ret (results_rows2 rfl rfl rfl (arblk_three _ _ _ R4.out)) rfl ?_
      exact ⟨rfl, (HB1.out.trans (B5.out.mono HB1.out.size)).trans ((arkeep_three w5 (w.heap.size + 1) _ _ _).below (HB1.out.trans (B5.out.mono HB1.out.size)).size (fun i hi e => by omega))⟩
  · have hre := hch1 h0
    rw [hre, if_neg h0] at hrc
    rw [hrc, hre]
    have hne : (E != 0) = true := by simp [h0]
    clear ea he1 hb1 hch1 hch2 hE hLC hrc hre hx hr h0
    go_enter Try.func77, Try.ntmps77
    go_wp2_with (go_at_call 90; (try simp only [HS.out.symm]); refine (HCK.out w1 (Below.refl _ _)).mono ?_; rintro e w4 ⟨rfl, b4⟩; have r4 := HR.out.below b4 HR.out.lt; have f0 := r4.cell 0; have f1 := r4.cell 1; have f2 := r4.cell 2; have q0 := r4.frozen 0; have q1 := r4.frozen 1; have q2 := r4.frozen 2; have R4 := Lib.hid r4; have B4 := Lib.hid b4; clear r4 b4)
    refine bodyPost_ret (results_rows2 rfl rfl rfl (arblk_three _ _ _ R4.out)) rfl ?_
    exact ⟨rfl, (HB1.out.trans (B4.out.mono HB1.out.size)).trans ((arkeep_three w4 (w.heap.size + 1) _ _ _).below (HB1.out.trans (B4.out.mono HB1.out.size)).size (fun i hi e => by omega))⟩

/-! ### A beginning of a row -/
set_option maxRecDepth 100000 in
set_option maxHeartbeats 4000000 in
theorem fobeg_any (f : Int) (A : Option Addr) (n c L : Nat) (l : List Int) (i : Nat) (w : World) (hl : l.length = n) (hr : Reads w w.heap.size 1 A n (l.map iv)) (hn : n ≤ 100000) (hL : 0 < L) (hL1 : L ≤ 100000) (hi : i < n) (hc : n ≤ c) (hin : ∀ x ∈ l, InR x) :
    Calls Try.prog 83 #[.agg #[.int .i64 f, .slice A n c, .int .i64 (L : Int)], .int .i64 (i : Int)] w fun e w' => e = .returned (.tuple #[.int .i64 (rowV f ((l.drop (i - i % L)).take (i % L + 1))), .int .i64 (rowE f ((l.drop (i - i % L)).take (i % L + 1)))]) ∧ Below w.heap.size w w' := by
  obtain ⟨ad, rfl, hla, hca⟩ := hr.int_at hi hl
  clear hca
  obtain ⟨m, hm⟩ : ∃ m, i % L = m := ⟨_, rfl⟩
  have hmi : m ≤ i := by rw [← hm]; exact Nat.mod_le _ _
  obtain ⟨lo, hlo⟩ : ∃ lo, i - m = lo := ⟨_, rfl⟩
  rw [hm, hlo]
  have et : (i : Int).tmod (L : Int) = (m : Int) := by rw [← hm]; exact (Int.ofNat_tmod i L).symm
  obtain ⟨w1, hw1⟩ : ∃ w1, w.alloc (.cells #[.int .i64 f, .slice (some ad) n c, .int .i64 (L : Int)] 110) = w1 := ⟨_, rfl⟩
  have hb1 : Below w.heap.size w w1 := by rw [← hw1]; exact alloc_below _ _
  have hx : Blk w1 w.heap.size 110 #[.int .i64 f, .slice (some ad) n c, .int .i64 (L : Int)] := by rw [← hw1]; exact Blk.new w _ _
  have HBX : Hid (∀ W, Below w1.heap.size w1 W → W.cell? ⟨w.heap.size, 0, none⟩ = some (.int .i64 f) ∧ W.cell? ⟨w.heap.size, 1, none⟩ = some (.slice (some ad) n c) ∧ W.cell? ⟨w.heap.size, 2, none⟩ = some (.int .i64 (L : Int))) := Lib.hid (fun W hb => by
    have h := hx.below hb hx.lt
    exact ⟨h.cell 0, h.cell 1, h.cell 2⟩)
  have hwl : ((l.drop lo).take (m + 1)).length = m + 1 := by rw [List.length_take, List.length_drop]; omega
  have HRW : Hid (∀ W, Below w1.heap.size w1 W → Calls Try.prog 30 #[.int .i64 f, .slice (some (ad.add lo)) (m + 1) (c - lo)] W fun e w' => e = .returned (.tuple #[.int .i64 (rowV f ((l.drop lo).take (m + 1))), .int .i64 (rowE f ((l.drop lo).take (m + 1)))]) ∧ Below W.heap.size W w') := Lib.hid (fun W hb => by
    have hbb := hb1.trans (hb.mono hb1.size)
    have h := reads_win (i := lo) (k := m + 1) (cap := c) ((hr.below hbb).more hbb.size) (by omega) hc
    rw [if_neg (by omega)] at h
    exact forow_any f (some (ad.add lo)) (m + 1) (c - lo) _ W hwl h (by omega) (fun x hx => hin x (List.mem_of_mem_drop (List.mem_of_mem_take hx))))
  obtain ⟨V, hV⟩ : ∃ V, rowV f ((l.drop lo).take (m + 1)) = V := ⟨_, rfl⟩
  obtain ⟨E, hE⟩ : ∃ E, rowE f ((l.drop lo).take (m + 1)) = E := ⟨_, rfl⟩
  rw [hV, hE] at HRW
  rw [hV, hE]
  have HB1 := Lib.hid hb1
  have hL0 : ¬ L = 0 := by omega
  have hL0' : ¬ (L : Int) = 0 := by omega
  have e1 : (i : Int) - (m : Int) = (lo : Int) := by omega
  have w1' : IntKind.i64.wrap ((i : Int) + 1) = (i : Int) + 1 := by rw [IntKind.wrap_i64]; omega
  have w2' : IntKind.i64.wrap (lo : Int) = (lo : Int) := by rw [IntKind.wrap_i64]; omega
  have w3' : IntKind.i64.wrap (m : Int) = (m : Int) := by rw [IntKind.wrap_i64]; omega
  have g1 : (lo : Int) ≤ (i : Int) + 1 := by omega
  have g2 : (i : Int) + 1 ≤ (c : Int) := by omega
  have g3 : i + 1 - lo = m + 1 := by omega
  have g4 : ¬ c = lo := by omega
  have g5 : i + 1 ≤ c := by omega
  have g6 : lo ≤ i + 1 := by omega
  clear hla hm hlo hb1 hx hwl hV hE hl hr hin
  go_enter Try.func83, Try.ntmps83
  go_wp2
  refine wp_region_done_on (GS w1) (GR [13] (fun (_ : Nat) (v : Value) (_ : World) => v = .tuple #[.int .i64 V, .int .i64 E]) [.pointer (some ⟨w.heap.size, 0, none⟩), .int .i64 f, .pointer (some ⟨w.heap.size, 1, none⟩), .slice (some ad) n c, .int .i64 (i : Int), .int .i64 (i : Int), .pointer (some ⟨w.heap.size, 2, none⟩), .int .i64 (L : Int), .int .i64 (m : Int), .int .i64 (lo : Int), .int .i64 (i : Int), .int .i64 ((i : Int) + 1), .slice (some (ad.add lo)) (m + 1) (c - lo), undef, .int .i64 V, .int .i64 E, .int .i64 V, .int .i64 E]) (by kernel_rfl) 22 rfl (by kernel_rfl) ((Below.refl _ _).drew) ?_ ?_
  · intro i hi
    have hi2 : i < 18 := hi
    clear hi
    rcases i with _ | i
    · refine gr_value rfl (by decide) (.pointer (some ⟨w.heap.size, 0, none⟩)) rfl ?_
      intro a8 w8 hb8 ho hn
      have o2 : a8.tmps[2]? = some _ := (ho 2 (by kernel_rfl)).trans rfl
      clear ho hn
      refine ⟨wanted_free rfl, ?_⟩
      go_simp
    rcases i with _ | i
    · refine gr_value rfl (by decide) (.int .i64 f) rfl ?_
      intro a8 w8 hb8 ho hn
      obtain ⟨v6, n6, hq6⟩ := hn 0 6 (by kernel_rfl) rfl
      obtain rfl := hq6.1 (by decide)
      clear ho hn
      refine ⟨wanted_free rfl, ?_⟩
      obtain ⟨y0, y1, y2⟩ := HBX.out w8 hb8
      go_simp
    rcases i with _ | i
    · refine gr_value rfl (by decide) (.pointer (some ⟨w.heap.size, 1, none⟩)) rfl ?_
      intro a8 w8 hb8 ho hn
      have o2 : a8.tmps[2]? = some _ := (ho 2 (by kernel_rfl)).trans rfl
      clear ho hn
      refine ⟨wanted_free rfl, ?_⟩
      go_simp
    rcases i with _ | i
    · refine gr_value rfl (by decide) (.slice (some ad) n c) rfl ?_
      intro a8 w8 hb8 ho hn
      obtain ⟨v8, n8, hq8⟩ := hn 2 8 (by kernel_rfl) rfl
      obtain rfl := hq8.1 (by decide)
      clear ho hn
      refine ⟨wanted_free rfl, ?_⟩
      obtain ⟨y0, y1, y2⟩ := HBX.out w8 hb8
      go_simp
    rcases i with _ | i
    · refine gr_value rfl (by decide) (.int .i64 (i : Int)) rfl ?_
      intro a8 w8 hb8 ho hn
      have o1 : a8.tmps[1]? = some _ := (ho 1 (by kernel_rfl)).trans rfl
      clear ho hn
      refine ⟨wanted_free rfl, ?_⟩
      go_simp
    rcases i with _ | i
    · refine gr_value rfl (by decide) (.int .i64 (i : Int)) rfl ?_
      intro a8 w8 hb8 ho hn
      have o1 : a8.tmps[1]? = some _ := (ho 1 (by kernel_rfl)).trans rfl
      clear ho hn
      refine ⟨wanted_free rfl, ?_⟩
      go_simp
    rcases i with _ | i
    · refine gr_value rfl (by decide) (.pointer (some ⟨w.heap.size, 2, none⟩)) rfl ?_
      intro a8 w8 hb8 ho hn
      have o2 : a8.tmps[2]? = some _ := (ho 2 (by kernel_rfl)).trans rfl
      clear ho hn
      refine ⟨wanted_free rfl, ?_⟩
      go_simp
    rcases i with _ | i
    · refine gr_value rfl (by decide) (.int .i64 (L : Int)) rfl ?_
      intro a8 w8 hb8 ho hn
      obtain ⟨v12, n12, hq12⟩ := hn 6 12 (by kernel_rfl) rfl
      obtain rfl := hq12.1 (by decide)
      clear ho hn
      refine ⟨wanted_free rfl, ?_⟩
      obtain ⟨y0, y1, y2⟩ := HBX.out w8 hb8
      go_simp
    rcases i with _ | i
    · refine gr_value rfl (by decide) (.int .i64 (m : Int)) rfl ?_
      intro a8 w8 hb8 ho hn
      obtain ⟨v11, n11, hq11⟩ := hn 5 11 (by kernel_rfl) rfl
      obtain rfl := hq11.1 (by decide)
      obtain ⟨v13, n13, hq13⟩ := hn 7 13 (by kernel_rfl) rfl
      obtain rfl := hq13.1 (by decide)
      clear ho hn
      refine ⟨wanted_free rfl, ?_⟩
      go_simp
    rcases i with _ | i
    · refine gr_value rfl (by decide) (.int .i64 (lo : Int)) rfl ?_
      intro a8 w8 hb8 ho hn
      obtain ⟨v10, n10, hq10⟩ := hn 4 10 (by kernel_rfl) rfl
      obtain rfl := hq10.1 (by decide)
      obtain ⟨v14, n14, hq14⟩ := hn 8 14 (by kernel_rfl) rfl
      obtain rfl := hq14.1 (by decide)
      clear ho hn
      refine ⟨wanted_free rfl, ?_⟩
      go_simp
    rcases i with _ | i
    · refine gr_value rfl (by decide) (.int .i64 (i : Int)) rfl ?_
      intro a8 w8 hb8 ho hn
      have o1 : a8.tmps[1]? = some _ := (ho 1 (by kernel_rfl)).trans rfl
      clear ho hn
      refine ⟨wanted_free rfl, ?_⟩
      go_simp
    rcases i with _ | i
    · refine gr_value rfl (by decide) (.int .i64 ((i : Int) + 1)) rfl ?_
      intro a8 w8 hb8 ho hn
      obtain ⟨v16, n16, hq16⟩ := hn 10 16 (by kernel_rfl) rfl
      obtain rfl := hq16.1 (by decide)
      clear ho hn
      refine ⟨wanted_free rfl, ?_⟩
      go_simp
    rcases i with _ | i
    · refine gr_value rfl (by decide) (.slice (some (ad.add lo)) (m + 1) (c - lo)) rfl ?_
      intro a8 w8 hb8 ho hn
      obtain ⟨v9, n9, hq9⟩ := hn 3 9 (by kernel_rfl) rfl
      obtain rfl := hq9.1 (by decide)
      obtain ⟨v15, n15, hq15⟩ := hn 9 15 (by kernel_rfl) rfl
      obtain rfl := hq15.1 (by decide)
      obtain ⟨v17, n17, hq17⟩ := hn 11 17 (by kernel_rfl) rfl
      obtain rfl := hq17.1 (by decide)
      clear ho hn
      refine ⟨wanted_free rfl, ?_⟩
      go_simp
    rcases i with _ | i
    · refine gr_call (fun _ _ _ _ _ h => h) 30 rfl (by decide) ?_
      intro a8 w8 hb8 ho hn
      obtain ⟨v7, n7, hq7⟩ := hn 1 7 (by kernel_rfl) rfl
      obtain rfl := hq7.1 (by decide)
      obtain ⟨v18, n18, hq18⟩ := hn 12 18 (by kernel_rfl) rfl
      obtain rfl := hq18.1 (by decide)
      clear ho hn
      refine ⟨wanted_free rfl, ?_⟩
      refine ⟨#[.int .i64 f, .slice (some (ad.add lo)) (m + 1) (c - lo)], (by go_simp), (HRW.out w8 hb8).mono ?_⟩
      rintro e w9 ⟨rfl, b9⟩
      exact ⟨_, rfl, b9, rfl⟩
    rcases i with _ | i
    · refine gr_value rfl (by decide) (.int .i64 V) rfl ?_
      intro a8 w8 hb8 ho hn
      obtain ⟨v19, n19, hq19⟩ := hn 13 19 (by kernel_rfl) rfl
      have hv19 := hq19.2 (by decide)
      clear ho hn
      refine ⟨wanted_free rfl, ?_⟩
      obtain rfl : v19 = .tuple #[.int .i64 V, .int .i64 E] := hv19
      clear hq19
      go_simp
    rcases i with _ | i
    · refine gr_value rfl (by decide) (.int .i64 E) rfl ?_
      intro a8 w8 hb8 ho hn
      obtain ⟨v19, n19, hq19⟩ := hn 13 19 (by kernel_rfl) rfl
      have hv19 := hq19.2 (by decide)
      clear ho hn
      refine ⟨wanted_free rfl, ?_⟩
      obtain rfl : v19 = .tuple #[.int .i64 V, .int .i64 E] := hv19
      clear hq19
      go_simp
    rcases i with _ | i
    · refine gr_value rfl (by decide) (.int .i64 V) rfl ?_
      intro a8 w8 hb8 ho hn
      obtain ⟨v20, n20, hq20⟩ := hn 14 20 (by kernel_rfl) rfl
      obtain rfl := hq20.1 (by decide)
      clear ho hn
      refine ⟨wanted_free rfl, ?_⟩
      go_simp
    rcases i with _ | i
    · refine gr_value rfl (by decide) (.int .i64 E) rfl ?_
      intro a8 w8 hb8 ho hn
      obtain ⟨v21, n21, hq21⟩ := hn 15 21 (by kernel_rfl) rfl
      obtain rfl := hq21.1 (by decide)
      clear ho hn
      refine ⟨wanted_free rfl, ?_⟩
      go_simp
    omega
  · intro dn fv w5 hb5 hR5 hall
    have h4 : fv 4 = _ := (hR5 16 4 rfl).1 (by decide)
    have h5 : fv 5 = _ := (hR5 17 5 rfl).1 (by decide)
    simp only [putAll, List.foldl_cons, List.foldl_nil, Act.put, List.setIfInBounds_toArray, List.set_cons_succ, List.set_cons_zero, h4, h5, List.getD_cons_zero, List.getD_cons_succ]
    clear hR5 hall
    go_wp2
    go_ret2
    exact ⟨rfl, HB1.out.trans (hb5.mono HB1.out.size)⟩

/-! ### Scan -/
def ScT (w : World) (a : AV) (p : AP) (g : Nat) (cs : Array Value) (W : World) : Prop := CpT w a p W ∧ Blk W g 110 cs
def ScU (X : AV) (E : Int) (B : Nat) (v : Value) (W : World) : Prop := ∃ q, v = .tuple #[.agg (arC X q), .int .i64 E] ∧ AOwn B W X q
theorem scU_z (X : AV) (E : Int) (z : Nat) : stz z (ScU X E (z + 2)) := ⟨fun v W W' hb h => by
    obtain ⟨q, rfl, h⟩ := h
    exact ⟨q, rfl, h.stay hb (Nat.le_refl _)⟩, fun v W x y u h => by
    obtain ⟨q, rfl, h⟩ := h
    exact ⟨q, rfl, h.keep (arkeep_three W (z + 1) x y u) (fun k h1 _ _ e => by omega)⟩⟩
theorem scCT {w : World} {a X : AV} {p : AP} {g : Nat} {cs : Array Value} {l : List (Nat × (Value → World → Prop))} (hl : ∀ x ∈ l, stz w.heap.size x.2) : CT (ScT w a p g cs) (CpF w.heap.size X) (lookU l) :=
  ⟨fun W W' hb h => ⟨(cpCT w a p).t W W' hb h.1, h.2.below hb h.2.lt⟩, (cpCT w X p).f, lookU_stay (fun x hx => (hl x hx).1)⟩
/-- What made answers, its shape a list of the call's own. -/
theorem apA_scU {gv ge : Nat → Int} {S : Option Addr} {c N B : Nat} {sh : List Int} {W w' : World} {e : Ending} (h : ApA gv ge S sh.length c N W e w') (o : W.ownsRow B 3 1 (.slice S sh.length c) sh.length (sh.map iv)) (hB : B ≤ W.heap.size) :
    ∃ v, e = .returned v ∧ Below W.heap.size W w' ∧ ScU (if apE ge N = 0 then ⟨1, sh, apL gv N⟩ else ⟨0, [], []⟩) (apE ge N) B v w' := by
  obtain ⟨v, rfl, b, n0, n1⟩ := h
  refine ⟨_, rfl, b, ?_⟩
  by_cases h0 : apE ge N = 0
  · obtain ⟨A, c', rfl, o1⟩ := n1 h0
    rw [if_pos h0]
    refine ⟨⟨S, c, A, c'⟩, ?_, arown_stay o b (fun g hg => (arown_lt o g hg).2), ?_⟩
    · unfold arC
      simp only [apL_length]
    · show World.ownsRow _ B 2 1 (.slice A (apL gv N).length c') (apL gv N).length ((apL gv N).map iv)
      rw [apL_length]
      exact arown_mono o1 hB
  · obtain rfl := n0 h0
    rw [if_neg h0]
    exact ⟨⟨none, 0, none, 0⟩, rfl, noA_own _ _⟩
theorem long_pos {a : AV} (ho : okA a = true) (h : 0 < a.el.length) : 0 < longN a.sh ∧ longN a.sh ≤ 4096 ∧ longI a.sh = (longN a.sh : Int) := by
  obtain ⟨h1, h2, _⟩ := okA_iff.1 ho
  obtain ⟨k1, k2⟩ := long_ok h1
  have e : longI a.sh = (longN a.sh : Int) := by unfold longN; omega
  refine ⟨?_, by omega, e⟩
  by_cases h0 : longN a.sh = 0
  · exfalso
    rw [h0] at e
    unfold longI at e
    by_cases hs : a.sh.length = 0
    · rw [if_pos hs] at e
      omega
    · rw [if_neg hs] at e
      have hm : a.sh.length - 1 < a.sh.length := by omega
      rw [List.getD_eq_getElem?_getD, List.getElem?_eq_getElem hm] at e
      have e2 : a.sh[a.sh.length - 1] = 0 := e
      have hp := prodI_snoc a.sh hm
      rw [e2, Int.mul_zero, List.take_of_length_le (by omega)] at hp
      omega
  · omega
theorem beg_in {a : AV} (h : ∀ z ∈ a.el, InR z) (n : Nat) : ∀ z ∈ begL a n, InR z := fun z hz => h z (List.mem_of_mem_drop (List.mem_of_mem_take hz))
theorem md_len {a : AV} (ho : okA a = true) : mdN a.sh = a.el.length := by
  have := (okA_iff.1 ho).2.1
  unfold mdN
  omega
set_option maxRecDepth 100000 in
set_option maxHeartbeats 4000000 in
theorem foscan_any (f : Int) (a : AV) (p : AP) (w : World) (ea : AEl w a p) (hc : a.sh.length ≤ p.c0) (hc1 : a.el.length ≤ p.c1) :
    Calls Try.prog 36 #[.int .i64 f, .agg (arC a p)] w (GiveE (scnA f a) (scnE f a) w) := by
  have hI := OnI.start ea
  have hs : CpT w a p ((w.alloc (.cells (arC a p) 25)).alloc (.cells #[.int .i64 0, .slice none 0 0, .slice none 0 0] 25)) := ⟨hI.x, ea, hI.fb, by simp, _, _, _, hI.r⟩
  obtain ⟨w1, hw1⟩ : ∃ w1, (w.alloc (.cells (arC a p) 25)).alloc (.cells #[.int .i64 0, .slice none 0 0, .slice none 0 0] 25) = w1 := ⟨_, rfl⟩
  rw [hw1] at hI hs
  have HRO := Lib.hid (fun W (h : OnI w a p W) => forowsof_any f a p W h.ea hc)
  have hLC : arC a p = #[.int .i64 a.kind, .slice p.A0 a.sh.length p.c0, .slice p.A1 a.el.length p.c1] := rfl
  have hrc : rowsC f a p = if rowsE f a = 0 then #[.int .i64 f, .slice p.A1 a.el.length p.c1, .int .i64 (longI a.sh)] else #[.int .i64 0, .slice none 0 0, .int .i64 0] := rfl
  have hsE : scnE f a = if rowsE f a ≠ 0 then rowsE f a else apE (fun n => rowE f (begL a n)) (mdN a.sh) := rfl
  have hsA : scnA f a = if scnE f a = 0 then ⟨1, a.sh, apL (fun n => rowV f (begL a n)) (mdN a.sh)⟩ else ⟨0, [], []⟩ := rfl
  have HI := Lib.hid hI
  have HS := Lib.hid hs
  have HC := Lib.hid (fun W (h : OnI w a p W) => h.cells)
  obtain ⟨⟨x0, x1, x2⟩, ⟨r0, r1, r2⟩, f0, f1, f2⟩ := HC.out w1 hI
  by_cases h0 : rowsE f a = 0
  · rw [if_pos h0] at hrc
    rw [if_neg (by rw [h0]; decide)] at hsE
    have hok : okA a = true := by
      obtain ⟨h1, h2⟩ := chk_rows f a
      by_cases hk : chkE [f] [a] = 0
      · exact (h2 hk).2.1
      · exact absurd ((h1 hk).symm.trans h0) hk
    have hX : scnA f a = if apE (fun n => rowE f (begL a n)) (mdN a.sh) = 0 then ⟨1, a.sh, apL (fun n => rowV f (begL a n)) (mdN a.sh)⟩ else ⟨0, [], []⟩ := by
      unfold scnA
      rw [hsE]
    obtain ⟨X, hXX⟩ : ∃ X, scnA f a = X := ⟨_, rfl⟩
    obtain ⟨E, hEE⟩ : ∃ E, scnE f a = E := ⟨_, rfl⟩
    rw [hXX, hEE]
    rw [hXX] at hX
    rw [hEE] at hsE
    have hsh := (okA_iff.1 hok).1
    have HMD : Hid (∀ (W : World) (A9 : Option Addr) (c9 : Nat), CpT w a p W → W.ownsRow (w.heap.size + 2) 3 1 (.slice A9 a.sh.length c9) a.sh.length (a.sh.map iv) →
        Calls Try.prog 79 #[.slice A9 a.sh.length c9, .func (.func 83) #[.agg #[.int .i64 f, .slice p.A1 a.el.length p.c1, .int .i64 (longI a.sh)]] #[]] W fun e w' => ∃ v, e = .returned v ∧ Below W.heap.size W w' ∧ ScU X E (w.heap.size + 2) v w') := Lib.hid (fun W A9 c9 hT o => by
      have h := fomade_any A9 a.sh.length c9 a.sh 83 #[.agg #[.int .i64 f, .slice p.A1 a.el.length p.c1, .int .i64 (longI a.sh)]] #[] (enters_of Try.func83 (by kernel_rfl) rfl) (fun n => rowV f (begL a n)) (fun n => rowE f (begL a n)) W hsh rfl (Reads.of_own o) (fun i W2 hi hb => by
        rw [md_len hok] at hi
        obtain ⟨l1, l2, l3⟩ := long_pos hok (by omega)
        have e : (#[(.agg #[.int .i64 f, .slice p.A1 a.el.length p.c1, .int .i64 (longI a.sh)] : Value)].push (.int .i64 (i : Int)) ++ #[]) = #[.agg #[.int .i64 f, .slice p.A1 a.el.length p.c1, .int .i64 (longN a.sh : Int)], .int .i64 (i : Int)] := by rw [l3]; simp
        rw [e]
        have h2 := (hT.el.below hb)
        exact fobeg_any f p.A1 a.el.length p.c1 (longN a.sh) a.el i W2 rfl h2.r1 (by have := (okA_len hok).1; omega) l1 (by omega) hi hc1 h2.f1)
      refine h.mono ?_
      intro e w' hA
      have h3 := apA_scU hA o hT.s
      rwa [← hX, ← hsE] at h3)
    have HCL : Hid (∀ W, CpT w a p W → Calls Try.prog 82 #[.slice p.A0 a.sh.length p.c0] W fun e w' => ∃ A' c', e = .returned (.slice A' a.sh.length c') ∧ w'.ownsRow (w.heap.size + 2) 3 1 (.slice A' a.sh.length c') a.sh.length (a.sh.map iv) ∧ Below W.heap.size W w') := Lib.hid (fun W h => by
      refine (arcloneI_any p.A0 a.sh.length p.c0 a.sh W rfl h.el.r0 (by have := (okA_len hok).2; omega)).mono ?_
      rintro e w' ⟨A', c', rfl, o, b⟩
      exact ⟨A', c', rfl, arown_mono o h.s, b⟩)
    rw [hLC] at HRO hw1
    rw [hLC]
    rw [hrc, h0] at HRO
    generalize hLL : longI a.sh = LL at *
    have HZ : ∀ x ∈ [(2, CpR 3 (w.heap.size + 2) a.sh), (5, ScU X E (w.heap.size + 2)), (6, CpA (w.heap.size + 2) X)], stz w.heap.size x.2 := by
      intro x hx
      simp only [List.mem_cons, List.not_mem_nil, or_false] at hx
      rcases hx with rfl | rfl | rfl
      · exact cpR_z _ _ _
      · exact scU_z _ _ _
      · exact cpA_z _ _
    clear ea hI hs hLC hrc hsE hsA hX hXX hEE hok hsh h0 hLL
    go_enter Try.func36, Try.ntmps36
    go_upto_region 4 with (go_at_call 77; (try rw [hw1]); refine (HRO.out _ HI.out).mono ?_; rintro e w2 ⟨rfl, b2⟩; have hT2 := (cpCT w a p).t _ _ b2 HS.out; have hGZ : Hid (w.heap.size + 2 ≤ w2.heap.size) := Lib.hid hT2.s; have HT2 := Lib.hid ((cpCT w a p).t _ _ (alloc_below w2 (.cells #[.int .i64 f, .slice p.A1 a.el.length p.c1, .int .i64 LL] 110)) hT2); have HG2 := Lib.hid (Blk.new w2 110 #[.int .i64 f, .slice p.A1 a.el.length p.c1, .int .i64 LL]); clear b2 hT2)
    obtain ⟨g, hg⟩ : ∃ g, w2.heap.size = g := ⟨_, rfl⟩
    have HGZ : Hid (w.heap.size + 2 ≤ g) := Lib.hid (by have := hGZ.out; omega)
    have HS2 : Hid (ScT w a p g #[.int .i64 f, .slice p.A1 a.el.length p.c1, .int .i64 LL] ((w2.alloc (.cells #[.int .i64 f, .slice p.A1 a.el.length p.c1, .int .i64 LL] 110)).drew)) := Lib.hid ⟨(cpCT w a p).t _ _ ((Below.refl _ _).drew) HT2.out, by rw [← hg]; exact HG2.out⟩
    have HCT : CT (ScT w a p g #[.int .i64 f, .slice p.A1 a.el.length p.c1, .int .i64 LL]) (CpF w.heap.size X) (lookU [(2, CpR 3 (w.heap.size + 2) a.sh), (5, ScU X E (w.heap.size + 2)), (6, CpA (w.heap.size + 2) X)]) := scCT HZ
    simp only [hg]
    clear x0 x1 x2 r0 r1 r2 f0 f1 f2 HT2 HG2 hGZ HRO hw1 hg
    refine wp_region_done_on (CS (ScT w a p g #[.int .i64 f, .slice p.A1 a.el.length p.c1, .int .i64 LL]) (CpF w.heap.size X) 8) (GR [2, 5, 6] (lookU [(2, CpR 3 (w.heap.size + 2) a.sh), (5, ScU X E (w.heap.size + 2)), (6, CpA (w.heap.size + 2) X)]) [.pointer (some ⟨w.heap.size, 1, none⟩), .slice p.A0 a.sh.length p.c0, undef, .agg #[.int .i64 f, .slice p.A1 a.el.length p.c1, .int .i64 LL], .func (.func 83) #[.agg #[.int .i64 f, .slice p.A1 a.el.length p.c1, .int .i64 LL]] #[], undef, undef, .int .i64 E, undef, .int .i64 E]) (by kernel_rfl) 26 rfl (by kernel_rfl) ⟨HS2.out, fun e => by cases e⟩ ?_ ?_
    · intro i hi
      have hi2 : i < 10 := hi
      clear hi
      rcases i with _ | i
      · refine cs_value (by decide) rfl (by decide) (.pointer (some ⟨w.heap.size, 1, none⟩)) rfl ?_
        intro a8 w8 hb8 ho hn
        have o3 : a8.tmps[3]? = some _ := (ho 3 (by kernel_rfl)).trans rfl
        clear ho hn
        refine ⟨wanted_free rfl, ?_⟩
        go_simp
      rcases i with _ | i
      · refine cs_value (by decide) rfl (by decide) (.slice p.A0 a.sh.length p.c0) rfl ?_
        intro a8 w8 hb8 ho hn
        obtain ⟨v18, n18, hq18⟩ := hn 0 18 (by kernel_rfl) rfl
        obtain rfl := hq18.1 (by decide)
        clear ho hn
        refine ⟨wanted_free rfl, ?_⟩
        obtain ⟨x0, x1, x2⟩ := hb8.1.cells
        go_simp
      rcases i with _ | i
      · refine cs_call HCT 82 (by decide) rfl (by decide) ?_
        intro a8 w8 hb8 ho hn
        obtain ⟨v19, n19, hq19⟩ := hn 1 19 (by kernel_rfl) rfl
        obtain rfl := hq19.1 (by decide)
        clear ho hn
        refine ⟨wanted_free rfl, ?_⟩
        refine ⟨#[.slice p.A0 a.sh.length p.c0], (by go_simp), (HCL.out w8 hb8.1).mono ?_⟩
        rintro e w9 ⟨A9, c9, rfl, o9, b9⟩
        exact ⟨_, rfl, b9, A9, c9, rfl, o9⟩
      rcases i with _ | i
      · refine cs_value (by decide) rfl (by decide) (.agg #[.int .i64 f, .slice p.A1 a.el.length p.c1, .int .i64 LL]) rfl ?_
        intro a8 w8 hb8 ho hn
        have o6 : a8.tmps[6]? = some _ := (ho 6 (by kernel_rfl)).trans rfl
        clear ho hn
        refine ⟨wanted_free rfl, ?_⟩
        have z0 := hb8.2.cell 0
        have z1 := hb8.2.cell 1
        have z2 := hb8.2.cell 2
        go_simp
      rcases i with _ | i
      · refine cs_value (by decide) rfl (by decide) (.func (.func 83) #[.agg #[.int .i64 f, .slice p.A1 a.el.length p.c1, .int .i64 LL]] #[]) rfl ?_
        intro a8 w8 hb8 ho hn
        obtain ⟨v21, n21, hq21⟩ := hn 3 21 (by kernel_rfl) rfl
        obtain rfl := hq21.1 (by decide)
        clear ho hn
        refine ⟨wanted_free rfl, ?_⟩
        go_simp
      rcases i with _ | i
      · refine cs_call HCT 79 (by decide) rfl (by decide) ?_
        intro a8 w8 hb8 ho hn
        obtain ⟨v20, n20, hq20⟩ := hn 2 20 (by kernel_rfl) rfl
        have hv20 : CpR 3 (w.heap.size + 2) a.sh v20 w8 := hq20.2 (by decide)
        obtain ⟨v22, n22, hq22⟩ := hn 4 22 (by kernel_rfl) rfl
        obtain rfl := hq22.1 (by decide)
        clear ho hn
        refine ⟨wanted_free rfl, ?_⟩
        obtain ⟨A9, c9, rfl, o9⟩ := hv20
        refine ⟨#[.slice A9 a.sh.length c9, .func (.func 83) #[.agg #[.int .i64 f, .slice p.A1 a.el.length p.c1, .int .i64 LL]] #[]], (by go_simp), (HMD.out w8 A9 c9 hb8.1 o9).mono ?_⟩
        rintro e w9 ⟨v, rfl, b9, h9⟩
        exact ⟨_, rfl, b9, h9⟩
      rcases i with _ | i
      · refine cs_make HCT (by decide) rfl (by decide) ?_
        intro a8 w8 hb8 ho hn
        obtain ⟨v23, n23, hq23⟩ := hn 5 23 (by kernel_rfl) rfl
        have hv23 := hq23.2 (by decide)
        clear ho hn
        refine ⟨wanted_free rfl, ?_⟩
        obtain ⟨q9, rfl, ow9⟩ : ScU X E (w.heap.size + 2) v23 w8 := hv23
        exact ⟨.agg (arC X q9), w8, (by go_simp), Below.refl _ _, q9, rfl, ow9⟩
      rcases i with _ | i
      · refine cs_value (by decide) rfl (by decide) (.int .i64 E) rfl ?_
        intro a8 w8 hb8 ho hn
        obtain ⟨v23, n23, hq23⟩ := hn 5 23 (by kernel_rfl) rfl
        have hv23 := hq23.2 (by decide)
        clear ho hn
        refine ⟨wanted_free rfl, ?_⟩
        obtain ⟨q9, rfl, ow9⟩ : ScU X E (w.heap.size + 2) v23 w8 := hv23
        go_simp
      rcases i with _ | i
      · refine cs_store rfl rfl (by decide) rfl ?_
        intro a8 w8 hb8 ho hn
        have o4 : a8.tmps[4]? = some _ := (ho 4 (by kernel_rfl)).trans rfl
        obtain ⟨v24, n24, hq24⟩ := hn 6 24 (by kernel_rfl) rfl
        have hv24 : CpA (w.heap.size + 2) X v24 w8 := hq24.2 (by decide)
        clear ho hn
        refine ⟨wanted_free rfl, ?_⟩
        obtain ⟨q9, rfl, ow9⟩ := hv24
        obtain ⟨y0, y1, y2, r9⟩ := hb8.1.r
        have x0 := r9.cell 0
        have x1 := r9.cell 1
        have x2 := r9.cell 2
        have f0 := r9.frozen 0
        have f1 := r9.frozen 1
        have f2 := r9.frozen 2
        refine ⟨((w8.setCell ⟨w.heap.size + 1, 0, none⟩ (.int .i64 X.kind)).setCell ⟨w.heap.size + 1, 1, none⟩ (.slice q9.A0 X.sh.length q9.c0)).setCell ⟨w.heap.size + 1, 2, none⟩ (.slice q9.A1 X.el.length q9.c1), ?_, ⟨hb8.1.store r9 _ _ _, (arkeep_three w8 (w.heap.size + 1) _ _ _).blk hb8.2 (by have := HGZ.out; omega)⟩, cpF_store r9 ow9, fun j v h => lookU_z HZ w8 _ _ _ j v h⟩
        clear hb8 r9 ow9
        unfold arC at *
        go_simp
      rcases i with _ | i
      · refine cs_value (by decide) rfl (by decide) (.int .i64 E) rfl ?_
        intro a8 w8 hb8 ho hn
        obtain ⟨v25, n25, hq25⟩ := hn 7 25 (by kernel_rfl) rfl
        obtain rfl := hq25.1 (by decide)
        clear ho hn
        refine ⟨wanted_free rfl, ?_⟩
        go_simp
      omega
    · intro dn fv w5 hb5 hR5 hall
      have h5 : fv 5 = _ := (hR5 9 5 rfl).1 (by decide)
      simp only [putAll, List.foldl_cons, List.foldl_nil, Act.put, List.setIfInBounds_toArray, List.set_cons_succ, List.set_cons_zero, h5, List.getD_cons_zero, List.getD_cons_succ]
      have hfin := hb5.2 (hall 8 (by decide))
      have hfb := hb5.1.1.b
      clear hR5 hall hb5
      obtain ⟨q, hq, ho⟩ := hfin
      go_wp2
      refine bodyPost_ret (results_arr2 rfl rfl rfl hq) rfl ?_
      exact ⟨q, rfl, ⟨arown_mono ho.o0 (by omega), arown_mono ho.o1 (by omega)⟩, hfb⟩
  · rw [if_neg h0] at hrc
    rw [if_pos h0] at hsE
    rw [hsE, if_neg h0] at hsA
    rw [hsA, hsE]
    obtain ⟨E, hE⟩ : ∃ E, rowsE f a = E := ⟨_, rfl⟩
    rw [hE] at h0 HRO
    rw [hE]
    rw [hrc] at HRO
    rw [hLC] at HRO hw1
    rw [hLC]
    have hne : (E != 0) = true := by simp [h0]
    clear ea hI hs hLC hrc hsE hsA h0 hE
    go_enter Try.func36, Try.ntmps36
    go_wp2_with (go_at_call 77; (try rw [hw1]); refine (HRO.out _ HI.out).mono ?_; rintro e w2 ⟨rfl, b2⟩; have hI2 := (HI.out.below b2).below (alloc_below w2 (.cells #[.int .i64 0, .slice none 0 0, .int .i64 0] 110)); obtain ⟨⟨x0, x1, x2⟩, ⟨r0, r1, r2⟩, f0, f1, f2⟩ := HC.out _ hI2; have HI2 := Lib.hid hI2; clear b2 hI2)
    refine bodyPost_ret (results_arr2 rfl rfl rfl (arblk_three _ _ _ HI2.out.r)) rfl ?_
    exact GiveE.no rfl (HI2.out.fin _ _ _)
end Go.Proofs.Ytkabdkblcgklmaa.fo

namespace Go.Proofs.Ytkabdkblcgklmaa.fo
open Go.RowKit Go.Proofs.Ytkabdkblcgklmaa.arr Go.Proofs.Ytkabdkblcgklmaa.sc

def sl (n : Nat) (xs : Array Value) : Value → World → Prop := fun v W => ∃ g, v = .slice (some ⟨g, 0, none⟩) n n ∧ Blk W g 2 xs
def xw (a : AV) : Value → World → Prop := fun v W => ∃ p, v = .agg (arC a p) ∧ AEl W a p
def xv (x : Value) : Value → World → Prop := fun v _ => v = x
theorem sl_stk (n : Nat) (xs : Array Value) : stk (sl n xs) := fun v W W' hb h => by
  obtain ⟨g, h1, h2⟩ := h
  exact ⟨g, h1, blk_up h2 hb⟩
theorem xw_stk (a : AV) : stk (xw a) := fun v W W' hb h => by
  obtain ⟨p, h1, h2⟩ := h
  exact ⟨p, h1, h2.below hb⟩
theorem xv_stk (x : Value) : stk (xv x) := fun _ _ _ _ h => h
theorem lit_rd {W : World} {g : Nat} {t : TypeId} {l : List Int} (h : Blk W g t (l.map iv).toArray) : Reads W W.heap.size 1 (some ⟨g, 0, none⟩) l.length (l.map iv) := by
  refine ⟨by rw [List.length_map, Nat.mul_one], fun _ => ⟨_, rfl, h.lt, fun j u hu => ?_⟩⟩
  rw [Addr.add_mid, Nat.zero_add, h.cell j, List.getElem?_toArray]
  exact hu
theorem l16is_any (a b : AV) (p q : AP) (e : Int) (w : World) (ha : AEl w a p) (hb : AEl w b q) :
    Calls Try.prog 44 #[.agg (arC a p), .int .i64 e, .agg (arC b q)] w fun r w' => r = .returned (.bool (decide (e = 0) && sameA a b)) ∧ Below w.heap.size w w' := by
  have hx := (Blk.new w 25 (arC a p)).alloc (.cells (arC b q) 25)
  have hy := Blk.new (w.alloc (.cells (arC a p) 25)) 25 (arC b q)
  have hb2 := below_n2 w (.cells (arC a p) 25) (.cells (arC b q) 25)
  have hS := arsame_any a b p q _ (ha.below hb2) (hb.below hb2)
  rw [World.size_alloc] at hy
  have hLC : arC a p = #[.int .i64 a.kind, .slice p.A0 a.sh.length p.c0, .slice p.A1 a.el.length p.c1] := rfl
  have hAC : arC b q = #[.int .i64 b.kind, .slice q.A0 b.sh.length q.c0, .slice q.A1 b.el.length q.c1] := rfl
  obtain ⟨w1, hw1⟩ : ∃ w1, (w.alloc (.cells (arC a p) 25)).alloc (.cells (arC b q) 25) = w1 := ⟨_, rfl⟩
  rw [hw1] at hx hy hb2 hS
  rw [hLC] at hx hS hw1
  rw [hAC] at hy hS hw1
  have x0 := hx.cell 0
  have x1 := hx.cell 1
  have x2 := hx.cell 2
  have y0 := hy.cell 0
  have y1 := hy.cell 1
  have y2 := hy.cell 2
  have HS := Lib.hid hS
  have HB := Lib.hid hb2
  generalize sameA a b = s at *
  rw [hLC, hAC]
  clear ha hb hx hy hb2 hS hLC hAC
  by_cases h0 : e = 0
  · subst h0
    go_enter Try.func44, Try.ntmps44
    go_wp2_with (go_at_call 68; (try rw [hw1]); refine HS.out.mono ?_; rintro e w2 ⟨rfl, b2⟩)
    go_ret
    exact ⟨rfl, below_on HB.out b2⟩
  · have h1 : (e == 0) = false := by simp [h0]
    rw [decide_eq_false h0, Bool.false_and]
    clear HS h0
    go_enter Try.func44, Try.ntmps44
    go_wp2
    go_ret
    exact ⟨rfl, HB.out⟩
theorem l16is_yes (a : AV) (p q : AP) (w : World) (ha : AEl w a p) (hb : AEl w a q) :
    Calls Try.prog 44 #[.agg (arC a p), .int .i64 0, .agg (arC a q)] w fun r w' => r = .returned (.bool true) ∧ Below w.heap.size w w' := by
  have h := l16is_any a a p q 0 w ha hb
  rw [show (decide ((0 : Int) = 0) && sameA a a) = true by rw [sameA_iff.2 rfl]; rfl] at h
  exact h
theorem l16row_yes (f v : Int) (l : List Int) (hin : ∀ z ∈ l, InR z) (h : l.length ≤ 1000 ∧ rowV f l = v ∧ rowE f l = 0) (g : Nat) (w : World) (hb : Blk w g 2 (l.map iv).toArray) :
    Calls Try.prog 46 #[.int .i64 f, .int .i64 v, .slice (some ⟨g, 0, none⟩) l.length l.length] w fun e w' => e = .returned (.bool true) ∧ Below w.heap.size w w' := by
  obtain ⟨hl, h1, h2⟩ := h
  have H := Lib.hid (forow_any f (some ⟨g, 0, none⟩) l.length l.length l w rfl (lit_rd hb) (by omega) hin)
  rw [h1, h2] at H
  generalize l.length = n at *
  clear h1 h2 hb
  go_enter Try.func46, Try.ntmps46
  go_wp2_with (go_at_call 30; refine H.out.mono ?_; rintro e w2 ⟨rfl, b2⟩)
  go_ret
  exact ⟨rfl, b2⟩
set_option maxRecDepth 100000 in
set_option maxHeartbeats 4000000 in
theorem l16alive (w : World) : Calls Try.prog 45 #[] w fun e w' => e = .returned (.bool true) ∧ Below w.heap.size w w' := by
  have HR : Hid (∀ W, Calls Try.prog 30 #[.int .i64 1, .slice (some ⟨W.heap.size, 0, none⟩) 3 3] (W.alloc (.cells #[.int .i64 (-1), .int .i64 1, .int .i64 9223372036854775807] 2)) fun e w' => e = .returned (.tuple #[.int .i64 0, .int .i64 7]) ∧ Below W.heap.size W w') := Lib.hid (fun W => by
    have h := forow_any 1 (some ⟨W.heap.size, 0, none⟩) 3 3 [-1, 1, 9223372036854775807] _ rfl (lit_rd (Blk.new W 2 _)) (by omega) (by decide +kernel)
    rw [show rowV 1 [-1, 1, 9223372036854775807] = 0 by decide +kernel, show rowE 1 [-1, 1, 9223372036854775807] = 7 by decide +kernel] at h
    refine h.mono ?_
    rintro e w' ⟨rfl, b⟩
    exact ⟨rfl, below_on (alloc_below _ _) b⟩)
  have HV : Hid (∀ W, Calls Try.prog 27 #[.slice (some ⟨W.heap.size, 0, none⟩) 3 3] (W.alloc (.cells #[.int .i64 1, .int .i64 2, .int .i64 3] 2)) fun e w' => ∃ p : AP, e = .returned (.agg #[.int .i64 1, .slice p.A0 1 p.c0, .slice p.A1 3 p.c1]) ∧ AEl w' (vecF [1, 2, 3]) p ∧ Cap2 (vecF [1, 2, 3]) p ∧ Below W.heap.size W w') := Lib.hid (fun W => by
    refine (vec_give [1, 2, 3] (by decide) (by decide +kernel) _ _ _ _ rfl (lit_rd (Blk.new W 2 _))).mono ?_
    rintro e w' ⟨p, rfl, h, c, b⟩
    exact ⟨p, rfl, h, c, below_on (alloc_below _ _) b⟩)
  have HSC : Hid (∀ W (p : AP), AEl W (vecF [1, 2, 3]) p → Cap2 (vecF [1, 2, 3]) p → Calls Try.prog 36 #[.int .i64 2, .agg #[.int .i64 1, .slice p.A0 1 p.c0, .slice p.A1 3 p.c1]] W fun e w' => ∃ p : AP, e = .returned (.tuple #[.agg #[.int .i64 1, .slice p.A0 1 p.c0, .slice p.A1 3 p.c1], .int .i64 0]) ∧ AEl w' (vecF [1, -1, 2]) p ∧ Below W.heap.size W w') := Lib.hid (fun W p h c => by
    have h1 := foscan_any 2 (vecF [1, 2, 3]) p W h c.l0 c.l1
    rw [show scnE 2 (vecF [1, 2, 3]) = 0 by kernel_rfl, show scnA 2 (vecF [1, 2, 3]) = vecF [1, -1, 2] by kernel_rfl] at h1
    refine h1.mono ?_
    rintro e w' ⟨q, rfl, o, b⟩
    exact ⟨q, rfl, o.el (by decide) (by decide) (by decide +kernel), b⟩)
  go_enter Try.func45, Try.ntmps45
  go_upto_region 3 with (first
    | (go_at_call 36; refine (HSC.out _ _ E2.out C2.out).mono ?_; rintro e w3 ⟨r, rfl, e3, b3⟩; have E3 := Lib.hid e3; have B3 := Lib.hid (B2.out.trans (b3.mono B2.out.size)); clear e3 b3)
    | (go_at_call 27; refine (HV.out _).mono ?_; rintro e w2 ⟨q, rfl, e2, c2, b2⟩; have E2 := Lib.hid e2; have C2 := Lib.hid c2; have B2 := Lib.hid (B1.out.trans (b2.mono B1.out.size)); clear e2 c2 b2)
    | (go_at_call 30; refine (HR.out _).mono ?_; rintro e w1 ⟨rfl, b1⟩; have B1 := Lib.hid b1; clear b1))
  obtain ⟨w4, hw4⟩ : ∃ w4, w3.alloc (.cells #[.int .i64 1, .slice r.A0 1 r.c0, .slice r.A1 3 r.c1] 25) = w4 := ⟨_, rfl⟩
  obtain ⟨g, hg⟩ : ∃ g, w3.heap.size = g := ⟨_, rfl⟩
  have hal := alloc_below w3 (.cells #[.int .i64 1, .slice r.A0 1 r.c0, .slice r.A1 3 r.c1] 25)
  have hbx := Blk.new w3 25 #[.int .i64 1, .slice r.A0 1 r.c0, .slice r.A1 3 r.c1]
  rw [hw4] at hal hbx
  rw [hg] at hbx
  have HBX : Hid (∀ W, Below w4.heap.size w4 W → W.cell? ⟨g, 0, none⟩ = some (.int .i64 1) ∧ W.cell? ⟨g, 1, none⟩ = some (.slice r.A0 1 r.c0) ∧ W.cell? ⟨g, 2, none⟩ = some (.slice r.A1 3 r.c1)) := Lib.hid (fun W hb => by
    have h := hbx.below hb hbx.lt
    exact ⟨h.cell 0, h.cell 1, h.cell 2⟩)
  have HEX : Hid (∀ W, Below w4.heap.size w4 W → AEl W (vecF [1, -1, 2]) r) := Lib.hid (fun W hb => (E3.out.below hal).below hb)
  have HFB := Lib.hid (B3.out.trans (hal.mono B3.out.size))
  have HU : GU (lookU [(0, sl 3 #[.int .i64 1, .int .i64 2, .int .i64 3]), (1, xv (.bool true)), (3, sl 3 #[.int .i64 9223372036854775807, .int .i64 1, .int .i64 (-1)]), (4, xv (.bool true)), (13, sl 3 #[.int .i64 1, .int .i64 (-1), .int .i64 2]), (14, xw (vecF [1, -1, 2])), (15, xv (.bool true))]) := lookU_stay (by
    intro x hx
    simp only [List.mem_cons, List.not_mem_nil, or_false] at hx
    rcases hx with rfl | rfl | rfl | rfl | rfl | rfl | rfl <;> first | exact sl_stk _ _ | exact xw_stk _ | exact xv_stk _)
  rw [hw4, hg]
  clear HR HV HSC hal hbx hg hw4
  refine wp_region_done_on (GS w4) (GR [0, 1, 3, 4, 13, 14, 15] (lookU [(0, sl 3 #[.int .i64 1, .int .i64 2, .int .i64 3]), (1, xv (.bool true)), (3, sl 3 #[.int .i64 9223372036854775807, .int .i64 1, .int .i64 (-1)]), (4, xv (.bool true)), (13, sl 3 #[.int .i64 1, .int .i64 (-1), .int .i64 2]), (14, xw (vecF [1, -1, 2])), (15, xv (.bool true))]) [undef, undef, .bool true, undef, undef, .bool true, .bool true, .int .i64 7, .bool true, .bool true, .bool true, .agg #[.int .i64 1, .slice r.A0 1 r.c0, .slice r.A1 3 r.c1], .int .i64 0, undef, undef, undef, .bool true, .bool true]) (by kernel_rfl) 33 rfl (by kernel_rfl) ((Below.refl _ _).drew) ?_ ?_
  · intro i hi
    have hi2 : i < 18 := hi
    clear hi
    rcases i with _ | i
    · refine gr_make HU rfl (by decide) ?_
      intro a8 w8 hb8 ho hn
      clear ho hn
      refine ⟨wanted_free rfl, ?_⟩
      exact ⟨.slice (some ⟨w8.heap.size, 0, none⟩) 3 3, w8.alloc (.cells #[.int .i64 1, .int .i64 2, .int .i64 3] 2), (by go_simp), alloc_below _ _, w8.heap.size, rfl, Blk.new w8 _ _⟩
    rcases i with _ | i
    · refine gr_call HU 46 rfl (by decide) ?_
      intro a8 w8 hb8 ho hn
      obtain ⟨v16, n16, hq16⟩ := hn 0 16 (by kernel_rfl) rfl
      have hv16 := hq16.2 (by decide)
      clear ho hn
      refine ⟨wanted_free rfl, ?_⟩
      obtain ⟨g9, rfl, h9⟩ : sl 3 #[.int .i64 1, .int .i64 2, .int .i64 3] v16 w8 := hv16
      refine ⟨#[.int .i64 2, .int .i64 2, .slice (some ⟨g9, 0, none⟩) 3 3], (by go_simp), (l16row_yes 2 2 [1, 2, 3] (by decide +kernel) (by decide +kernel) g9 w8 h9).mono ?_⟩
      rintro e w9 ⟨rfl, b9⟩
      exact ⟨_, rfl, b9, rfl⟩
    rcases i with _ | i
    · refine gr_value rfl (by decide) (.bool true) rfl ?_
      intro a8 w8 hb8 ho hn
      obtain ⟨v17, n17, hq17⟩ := hn 1 17 (by kernel_rfl) rfl
      have hv17 := hq17.2 (by decide)
      clear ho hn
      refine ⟨wanted_free rfl, ?_⟩
      obtain rfl : v17 = .bool true := hv17
      clear hq17
      go_simp
    rcases i with _ | i
    · refine gr_make HU rfl (by decide) ?_
      intro a8 w8 hb8 ho hn
      obtain ⟨v18, n18, hq18⟩ := hn 2 18 (by kernel_rfl) rfl
      obtain rfl := hq18.1 (by decide)
      clear ho hn
      refine ⟨wanted_of 2 18 rfl rfl n18, ?_⟩
      exact ⟨.slice (some ⟨w8.heap.size, 0, none⟩) 3 3, w8.alloc (.cells #[.int .i64 9223372036854775807, .int .i64 1, .int .i64 (-1)] 2), (by go_simp), alloc_below _ _, w8.heap.size, rfl, Blk.new w8 _ _⟩
    rcases i with _ | i
    · refine gr_call HU 46 rfl (by decide) ?_
      intro a8 w8 hb8 ho hn
      obtain ⟨v19, n19, hq19⟩ := hn 3 19 (by kernel_rfl) rfl
      have hv19 := hq19.2 (by decide)
      obtain ⟨v18, n18, hq18⟩ := hn 2 18 (by kernel_rfl) rfl
      obtain rfl := hq18.1 (by decide)
      clear ho hn
      refine ⟨wanted_of 2 18 rfl rfl n18, ?_⟩
      obtain ⟨g9, rfl, h9⟩ : sl 3 #[.int .i64 9223372036854775807, .int .i64 1, .int .i64 (-1)] v19 w8 := hv19
      refine ⟨#[.int .i64 1, .int .i64 9223372036854775807, .slice (some ⟨g9, 0, none⟩) 3 3], (by go_simp), (l16row_yes 1 9223372036854775807 [9223372036854775807, 1, -1] (by decide +kernel) (by decide +kernel) g9 w8 h9).mono ?_⟩
      rintro e w9 ⟨rfl, b9⟩
      exact ⟨_, rfl, b9, rfl⟩
    rcases i with _ | i
    · refine gr_value rfl (by decide) (.bool true) rfl ?_
      intro a8 w8 hb8 ho hn
      obtain ⟨v18, n18, hq18⟩ := hn 2 18 (by kernel_rfl) rfl
      obtain rfl := hq18.1 (by decide)
      obtain ⟨v20, n20, hq20⟩ := hn 4 20 (by kernel_rfl) rfl
      have hv20 := hq20.2 (by decide)
      clear ho hn
      refine ⟨wanted_free rfl, ?_⟩
      obtain rfl : v20 = .bool true := hv20
      clear hq20
      go_simp
    rcases i with _ | i
    · refine gr_value rfl (by decide) (.bool true) rfl ?_
      intro a8 w8 hb8 ho hn
      obtain ⟨v21, n21, hq21⟩ := hn 5 21 (by kernel_rfl) rfl
      obtain rfl := hq21.1 (by decide)
      clear ho hn
      refine ⟨wanted_free rfl, ?_⟩
      go_simp
    rcases i with _ | i
    · refine gr_value rfl (by decide) (.int .i64 7) rfl ?_
      intro a8 w8 hb8 ho hn
      have o2 : a8.tmps[2]? = some _ := (ho 2 (by kernel_rfl)).trans rfl
      obtain ⟨v22, n22, hq22⟩ := hn 6 22 (by kernel_rfl) rfl
      obtain rfl := hq22.1 (by decide)
      clear ho hn
      refine ⟨wanted_of 6 22 rfl rfl n22, ?_⟩
      go_simp
    rcases i with _ | i
    · refine gr_value rfl (by decide) (.bool true) rfl ?_
      intro a8 w8 hb8 ho hn
      obtain ⟨v23, n23, hq23⟩ := hn 7 23 (by kernel_rfl) rfl
      obtain rfl := hq23.1 (by decide)
      obtain ⟨v22, n22, hq22⟩ := hn 6 22 (by kernel_rfl) rfl
      obtain rfl := hq22.1 (by decide)
      clear ho hn
      refine ⟨wanted_of 6 22 rfl rfl n22, ?_⟩
      go_simp
    rcases i with _ | i
    · refine gr_value rfl (by decide) (.bool true) rfl ?_
      intro a8 w8 hb8 ho hn
      obtain ⟨v22, n22, hq22⟩ := hn 6 22 (by kernel_rfl) rfl
      obtain rfl := hq22.1 (by decide)
      obtain ⟨v24, n24, hq24⟩ := hn 8 24 (by kernel_rfl) rfl
      obtain rfl := hq24.1 (by decide)
      clear ho hn
      refine ⟨wanted_free rfl, ?_⟩
      go_simp
    rcases i with _ | i
    · refine gr_value rfl (by decide) (.bool true) rfl ?_
      intro a8 w8 hb8 ho hn
      obtain ⟨v25, n25, hq25⟩ := hn 9 25 (by kernel_rfl) rfl
      obtain rfl := hq25.1 (by decide)
      clear ho hn
      refine ⟨wanted_free rfl, ?_⟩
      go_simp
    rcases i with _ | i
    · refine gr_value rfl (by decide) (.agg #[.int .i64 1, .slice r.A0 1 r.c0, .slice r.A1 3 r.c1]) rfl ?_
      intro a8 w8 hb8 ho hn
      have o3 : a8.tmps[3]? = some _ := (ho 3 (by kernel_rfl)).trans rfl
      obtain ⟨v26, n26, hq26⟩ := hn 10 26 (by kernel_rfl) rfl
      obtain rfl := hq26.1 (by decide)
      clear ho hn
      refine ⟨wanted_of 10 26 rfl rfl n26, ?_⟩
      obtain ⟨x0, x1, x2⟩ := HBX.out w8 hb8
      go_simp
    rcases i with _ | i
    · refine gr_value rfl (by decide) (.int .i64 0) rfl ?_
      intro a8 w8 hb8 ho hn
      have o4 : a8.tmps[4]? = some _ := (ho 4 (by kernel_rfl)).trans rfl
      obtain ⟨v26, n26, hq26⟩ := hn 10 26 (by kernel_rfl) rfl
      obtain rfl := hq26.1 (by decide)
      clear ho hn
      refine ⟨wanted_of 10 26 rfl rfl n26, ?_⟩
      go_simp
    rcases i with _ | i
    · refine gr_make HU rfl (by decide) ?_
      intro a8 w8 hb8 ho hn
      obtain ⟨v26, n26, hq26⟩ := hn 10 26 (by kernel_rfl) rfl
      obtain rfl := hq26.1 (by decide)
      clear ho hn
      refine ⟨wanted_of 10 26 rfl rfl n26, ?_⟩
      exact ⟨.slice (some ⟨w8.heap.size, 0, none⟩) 3 3, w8.alloc (.cells #[.int .i64 1, .int .i64 (-1), .int .i64 2] 2), (by go_simp), alloc_below _ _, w8.heap.size, rfl, Blk.new w8 _ _⟩
    rcases i with _ | i
    · refine gr_call HU 27 rfl (by decide) ?_
      intro a8 w8 hb8 ho hn
      obtain ⟨v29, n29, hq29⟩ := hn 13 29 (by kernel_rfl) rfl
      have hv29 := hq29.2 (by decide)
      obtain ⟨v26, n26, hq26⟩ := hn 10 26 (by kernel_rfl) rfl
      obtain rfl := hq26.1 (by decide)
      clear ho hn
      refine ⟨wanted_of 10 26 rfl rfl n26, ?_⟩
      obtain ⟨g9, rfl, h9⟩ : sl 3 #[.int .i64 1, .int .i64 (-1), .int .i64 2] v29 w8 := hv29
      refine ⟨#[.slice (some ⟨g9, 0, none⟩) 3 3], (by go_simp), (vec_give [1, -1, 2] (by decide) (by decide +kernel) _ _ _ w8 rfl (lit_rd h9)).mono ?_⟩
      rintro e w9 ⟨p9, rfl, e9, c9, b9⟩
      exact ⟨_, rfl, b9, p9, rfl, e9⟩
    rcases i with _ | i
    · refine gr_call HU 44 rfl (by decide) ?_
      intro a8 w8 hb8 ho hn
      obtain ⟨v27, n27, hq27⟩ := hn 11 27 (by kernel_rfl) rfl
      obtain rfl := hq27.1 (by decide)
      obtain ⟨v28, n28, hq28⟩ := hn 12 28 (by kernel_rfl) rfl
      obtain rfl := hq28.1 (by decide)
      obtain ⟨v30, n30, hq30⟩ := hn 14 30 (by kernel_rfl) rfl
      have hv30 := hq30.2 (by decide)
      obtain ⟨v26, n26, hq26⟩ := hn 10 26 (by kernel_rfl) rfl
      obtain rfl := hq26.1 (by decide)
      clear ho hn
      refine ⟨wanted_of 10 26 rfl rfl n26, ?_⟩
      obtain ⟨p9, rfl, h9⟩ : xw (vecF [1, -1, 2]) v30 w8 := hv30
      refine ⟨#[.agg #[.int .i64 1, .slice r.A0 1 r.c0, .slice r.A1 3 r.c1], .int .i64 0, .agg (arC (vecF [1, -1, 2]) p9)], (by go_simp), (l16is_yes (vecF [1, -1, 2]) r p9 w8 (HEX.out w8 hb8) h9).mono ?_⟩
      rintro e w9 ⟨rfl, b9⟩
      exact ⟨_, rfl, b9, rfl⟩
    rcases i with _ | i
    · refine gr_value rfl (by decide) (.bool true) rfl ?_
      intro a8 w8 hb8 ho hn
      obtain ⟨v26, n26, hq26⟩ := hn 10 26 (by kernel_rfl) rfl
      obtain rfl := hq26.1 (by decide)
      obtain ⟨v31, n31, hq31⟩ := hn 15 31 (by kernel_rfl) rfl
      have hv31 := hq31.2 (by decide)
      clear ho hn
      refine ⟨wanted_free rfl, ?_⟩
      obtain rfl : v31 = .bool true := hv31
      clear hq31
      go_simp
    rcases i with _ | i
    · refine gr_value rfl (by decide) (.bool true) rfl ?_
      intro a8 w8 hb8 ho hn
      obtain ⟨v32, n32, hq32⟩ := hn 16 32 (by kernel_rfl) rfl
      obtain rfl := hq32.1 (by decide)
      clear ho hn
      refine ⟨wanted_free rfl, ?_⟩
      go_simp
    omega
  · intro dn fv w5 hb5 hR5 hall
    have h0 : fv 0 = _ := (hR5 17 0 rfl).1 (by decide)
    simp only [putAll, List.foldl_cons, List.foldl_nil, Act.put, List.setIfInBounds_toArray, List.set_cons_succ, List.set_cons_zero, h0, List.getD_cons_zero, List.getD_cons_succ]
    clear hR5 hall
    go_wp2
    go_ret
    exact ⟨rfl, HFB.out.trans (hb5.mono HFB.out.size)⟩
end Go.Proofs.Ytkabdkblcgklmaa.fo

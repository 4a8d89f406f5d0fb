/-
  A range over an iterator that itself ranges over another: what it turns lies in blocks of its own.
  A region that draws its order, in a loop's round, one of whose operations may call a round of another loop.
  Layer 14 (turn): mathematics: what an index tuple has for one axis, where elements come from.
  Layer 14 (turn): the iterators of a shape's axes from the last one back, and of an index tuple's numbers; number.
  Layer 14 (turn): what the index tuple at a position has for one axis.
  Layer 14 (turn): slices.Clone, Equal of axes; Contains of numbers; the length of a row.
  Layer 14 (turn): gather: a gather map to an array of a shape, by a rule of positions.
  Layer 14 (turn): gather maps within rows: withinRows, reversed, rotated.
  Layer 14 (turn): withinRows; reversed.
-/
import Derived.Test.YtkabdkblcgklmaaBase
import Derived.Test.YtkabdkblcgklmaaDoneIn
import Derived.Test.YtkabdkblcgklmaaArRnd
import Derived.Test.YtkabdkblcgklmaaArLook
import Derived.Test.YtkabdkblcgklmaaMoReW
import Derived.Test.YtkabdkblcgklmaaMoSrc
import Derived.Test.YtkabdkblcgklmaaArSame
import Derived.Test.YtkabdkblcgklmaaDone
namespace Go.Proofs.Ytkabdkblcgklmaa
open Go.RowKit

/-- What lies from B on stays as it lies; new blocks may come. -/
structure Above (B : Nat) (W W' : World) : Prop where
  size : W.heap.size ≤ W'.heap.size
  block : ∀ i, B ≤ i → i < W.heap.size → W'.heap[i]? = W.heap[i]?
theorem Above.refl (B : Nat) (W : World) : Above B W W := ⟨Nat.le_refl _, fun _ _ _ => rfl⟩
theorem Above.trans {B : Nat} {X Y Z : World} (h : Above B X Y) (k : Above B Y Z) : Above B X Z :=
  ⟨Nat.le_trans h.size k.size, fun i hi hl => (k.block i hi (Nat.lt_of_lt_of_le hl h.size)).trans (h.block i hi hl)⟩
theorem Above.more {B C : Nat} {X Y : World} (h : Above B X Y) (hC : B ≤ C) : Above C X Y := ⟨h.size, fun i hi hl => h.block i (Nat.le_trans hC hi) hl⟩
theorem Above.of_below {B : Nat} {W W' : World} (h : Below W.heap.size W W') : Above B W W' := ⟨h.size, fun i _ hl => h.block i hl⟩
theorem Above.setCell (B : Nat) (W : World) {p : Addr} (hp : p.block < B) (v : Value) : Above B W (W.setCell p v) :=
  ⟨by simp [World.setCell], fun i hi _ => Below.heap_setCell _ _ _ _ (by omega)⟩
theorem Above.putObj (B : Nat) (W : World) {l : Nat} (hl : l < B) (o : Obj) : Above B W (W.putObj l o) := by
  have hg := grownBy_putObj' W l o
  exact ⟨hg.size, fun i hi h => hg.block i h (fun e => by injection e with e; omega)⟩
theorem Above.keep {B : Nat} {S : Nat → Prop} {W W' : World} (h : Keep S W W') (hS : ∀ i, B ≤ i → ¬ S i) : Above B W W' := ⟨h.size, fun i hi hl => h.block i hl (hS i hi)⟩
theorem below_putObj {B : Nat} {W : World} {l : Nat} (hl : B ≤ l) (o : Obj) : Below B W (W.putObj l o) := by
  have hg := grownBy_putObj' W l o
  exact ⟨hg.os, hg.tape, hg.output, hg.size, fun i hi => by
    by_cases h : i < W.heap.size
    · exact hg.block i h (fun e => by injection e with e; omega)
    · exact World.putObj_heap_other (by omega)⟩

/-- What such an iterator answers to: its k-th element is 'at_ k', of N; Pre: what it needs at each round. -/
def SeqTurns (F : Fence) (n : Nat) (P : Program) (g : Nat) (lb : Array Value) (at_ : Nat → Array Value) (N : Nat) (Pre : World → Prop) (w : World) : Prop :=
  ∀ (l : Nat) (J : Nat → World → Prop) (Jx : World → Prop) (W : World), Below w.heap.size w W →
    (∀ k W1, J k W1 → Pre W1) → (∀ k W1 W2, J k W1 → Below W.heap.size W1 W2 → J k W2) → (∀ W1 W2, Jx W1 → Below W.heap.size W1 W2 → Jx W2) →
    (∀ k W1, k < N → J k W1 → YieldAt F (n - 1) P l (at_ k) W1 fun e W' => ((e = .returned (.bool true) ∧ J (k + 1) W') ∨ (e = .returned (.bool false) ∧ Jx W')) ∧ Above W.heap.size W1 W') →
    J 0 W → CallsIn F n P g (#[.func (.yield l) #[] #[]] ++ lb) W fun e W' => (∃ v, e = .returned v) ∧ (J N W' ∨ Jx W')

/-- How a round may be left. -/
def turnPost (B : Nat) (I : Nat → World → Prop) (Ix : Code → World → Prop) (k : Nat) (W : World) : Exit → Act → World → Prop
  | .normal, _, W' => Above B W W' ∧ I k W'
  | .ret, _, W' => Above B W W' ∧ Ix .ret W'
  | .exit id, _, W' => Above B W W' ∧ Ix (.exit id) W'
  | .goto t, _, W' => Above B W W' ∧ Ix (.goto t) W'
  | .panic _, _, _ => False
  | .outgrown, _, _ => False

theorem wpIn_rangeFunc_turns {F : Fence} {n : Nat} {P : Program} {g : Operand} {ps : Array Tmp} {assign body : Code} {Q : Exit → Act → World → Prop} {a : Act} {w : World}
    (hro : F.round = none) (h1 : 1 ≤ n) {gf : Nat} {lb : Array Value} (hg : a.eval g = .func (.func gf) #[] lb) (hFg : F.fn gf) (eg : ∀ args w, (callFunc gf args).run P w = .ok (.enter gf args) w)
    {at_ : Nat → Array Value} {N : Nat} {Pre : World → Prop} {w0 : World} (hseq : SeqTurns F (n - 1) P gf lb at_ N Pre w0) (hb0 : Below w0.heap.size w0 w) (hps : ∀ k, (at_ k).size = ps.size)
    (I : Nat → World → Prop) (Ix : Code → World → Prop) (hI : ∀ k W W', I k W → Below w.heap.size W W' → I k W') (hIx : ∀ c W W', Ix c W → Below w.heap.size W W' → Ix c W')
    (hIP : ∀ k W, I k W → Pre W) (h0 : I 0 w) (Ax : Nat → Act → World → Prop) (hAx : ∀ (k : Nat) (a' : Act) (W : World) (l : Nat) (r r' : Loop), w.heap.size ≤ l → W.heap[l]? = some (.loop r) → Ax k a' W → Ax k a' (W.putObj l (.loop r')))
    (hassign : ∀ (l k : Nat) (W : World) (K : Act → World → Prop), k < N → I k W → (∀ a' W', Above w.heap.size W W' → Ax k a' W' → K a' W') →
      assign.wpIn (F.inRound l) (n - 1 - 1) P (Exit.then K (fun _ _ _ => False)) { tmps := (ps.zip (at_ k)).foldl (fun t (p, v) => t.setIfInBounds p v) a.tmps, defers := [] } W)
    (hbody : ∀ (l k : Nat) (a' : Act) (W : World), k < N → Ax k a' W → body.wpIn (F.inRound l) (n - 1 - 1) P (turnPost w.heap.size I Ix (k + 1) W) a' W)
    (hdone : ∀ (D : Nat) (W : World), w.heap.size ≤ D → I N W → W.heap[D]? = some (.deferred (some [])) → Q .normal { a with defers := { target := .collected D, args := #[] } :: a.defers } W)
    (hstop : ∀ (D : Nat) (c : Code) (W : World), w.heap.size ≤ D → Ix c W → W.heap[D]? = some (.deferred (some [])) → c.wpIn F n P Q { a with defers := { target := .collected D, args := #[] } :: a.defers } W) :
    (Code.rangeFunc g ps assign body).wpIn F n P Q a w := by
  refine wpIn_rangeFunc ?_
  intro fn hfn
  rw [hro]
  obtain ⟨rec, hrec⟩ : ∃ rec : LoopState → Option Code → Loop, rec = fun st pe => { state := st, pending := pe, fn, tmps := a.tmps, params := ps, assign, body, defers := w.heap.size } := ⟨_, rfl⟩
  obtain ⟨W1, hW1⟩ : ∃ W1, (w.alloc (.deferred (some []))).alloc (.loop (rec .ready none)) = W1 := ⟨_, rfl⟩
  have hL1 : W1.heap[w.heap.size + 1]? = some (.loop (rec .ready none)) := by
    rw [← hW1]; have := World.alloc_heap_new (w.alloc (.deferred (some []))) (.loop (rec .ready none)); rwa [World.size_alloc] at this
  have hK1 : W1.heap[w.heap.size]? = some (.deferred (some [])) := by
    rw [← hW1]; exact (Below.heap_alloc _ _ _ (by simp)).trans (World.alloc_heap_new w _)
  have hS1 : W1.heap.size = w.heap.size + 2 := by rw [← hW1]; simp
  have hbw : Below w.heap.size w W1 := by rw [← hW1]; exact ((Below.refl _ w).alloc (Nat.le_refl _) _).alloc (by simp) _
  have hI1 : I 0 W1 := hI 0 _ _ h0 hbw
  have hb1 : Below w0.heap.size w0 W1 := hb0.trans (hbw.mono hb0.size)
  refine ⟨w.heap.size + 1, [{ target := .collected w.heap.size, args := #[] }], W1, { target := .fn (.func gf) lb, args := #[.func (.yield (w.heap.size + 1)) #[] #[]] }, W1, gf,
    #[.func (.yield (w.heap.size + 1)) #[] #[]] ++ lb, W1, ?_, ?_, ?_, ?_, fun _ => h1, ?_⟩
  · rw [← hW1, hrec]; exact run_enterLoop_outer _ _ _ _ _
  · simp only [resolve, hg]
    simp [go_sem]
  · intro f' hf'; simp [Target.leads] at hf'; subst hf'; exact hFg
  · simp [invoke, go_sem, eg]
  · refine (hseq (w.heap.size + 1)
      (fun k W => I k W ∧ W.heap[w.heap.size + 1]? = some (.loop (rec .ready none)) ∧ W.heap[w.heap.size]? = some (.deferred (some [])))
      (fun W => ∃ c, Ix c W ∧ W.heap[w.heap.size + 1]? = some (.loop (rec .done (some c))) ∧ W.heap[w.heap.size]? = some (.deferred (some [])))
      W1 hb1 (fun k W h => hIP k W h.1)
      (fun k W W' h hx => ⟨hI k _ _ h.1 (hx.mono (by omega)), (hx.block _ (by omega)).trans h.2.1, (hx.block _ (by omega)).trans h.2.2⟩)
      (fun W W' h hx => by
        obtain ⟨c, hc, hl, hk⟩ := h
        exact ⟨c, hIx c _ _ hc (hx.mono (by omega)), (hx.block _ (by omega)).trans hl, (hx.block _ (by omega)).trans hk⟩)
      ?_ ⟨hI1, hL1, hK1⟩).mono ?_
    · -- ONE ROUND
      rintro k W0 hkN ⟨hi, hl0, hk0⟩
      have hlt0 : w.heap.size + 1 < W0.heap.size := (Array.getElem?_eq_some_iff.1 hl0).1
      have hy := run_yield (P := P) (args := at_ k) hl0 (by rw [hrec]; exact hps k)
      rw [hrec] at hy
      refine ⟨fn, _, assign, body, hy, roundIn_of_wpIn hfn (hassign _ k W0 _ hkN hi (fun a' W hkf hax => ?_))⟩
      clear hy
      have hl : W.heap[w.heap.size + 1]? = some (.loop (rec .ready none)) := (hkf.block _ (by omega) hlt0).trans hl0
      have hk : W.heap[w.heap.size]? = some (.deferred (some [])) := (hkf.block _ (Nat.le_refl _) (by omega)).trans hk0
      have hlt : w.heap.size + 1 < W.heap.size := (Array.getElem?_eq_some_iff.1 hl).1
      refine ⟨_, run_beginRound hl (by rw [hrec]), ?_⟩
      obtain ⟨Wb, hWb⟩ : ∃ Wb, W.putObj (w.heap.size + 1) (.loop { rec .ready none with state := .busy }) = Wb := ⟨_, rfl⟩
      have hl2 : Wb.heap[w.heap.size + 1]? = some (.loop { rec .ready none with state := .busy }) := by rw [← hWb]; exact World.putObj_heap_same hlt
      have hk2 : Wb.heap[w.heap.size]? = some (.deferred (some [])) := by rw [← hWb]; exact (World.putObj_heap_other (by omega)).trans hk
      have hab : Above (w.heap.size + 2) W Wb := by rw [← hWb]; exact Above.putObj _ _ (by omega) _
      have hltb : w.heap.size + 1 < Wb.heap.size := (Array.getElem?_eq_some_iff.1 hl2).1
      rw [hWb]
      refine wpIn_mono (hbody _ k a' Wb hkN (by rw [← hWb]; exact hAx k a' W _ _ _ (by omega) hl hax)) ?_
      have fin : ∀ (jump : Option Code) (W3 : World), Above w.heap.size Wb W3 →
          (Instr.endRound (w.heap.size + 1) jump).run P W3 = .ok (.bool jump.isNone) (W3.putObj (w.heap.size + 1) (.loop (rec (if jump.isNone then .ready else .done) jump))) ∧
          Above (w.heap.size + 2) W0 (W3.putObj (w.heap.size + 1) (.loop (rec (if jump.isNone then .ready else .done) jump))) ∧
          Below w.heap.size W3 (W3.putObj (w.heap.size + 1) (.loop (rec (if jump.isNone then .ready else .done) jump))) ∧
          (W3.putObj (w.heap.size + 1) (.loop (rec (if jump.isNone then .ready else .done) jump))).heap[w.heap.size + 1]? = some (.loop (rec (if jump.isNone then .ready else .done) jump)) ∧
          (W3.putObj (w.heap.size + 1) (.loop (rec (if jump.isNone then .ready else .done) jump))).heap[w.heap.size]? = some (.deferred (some [])) := fun jump W3 hk3 => by
        have hl3 := (hk3.block (w.heap.size + 1) (by omega) hltb).trans hl2
        have := run_endRound (P := P) jump hl3
        rw [hrec] at this ⊢
        exact ⟨this, (((hkf.more (by omega)).trans hab).trans (hk3.more (by omega))).trans (Above.putObj _ _ (by omega) _), below_putObj (by omega) _, World.putObj_heap_same (Array.getElem?_eq_some_iff.1 hl3).1,
          (World.putObj_heap_other (by omega)).trans ((hk3.block _ (Nat.le_refl _) (by omega)).trans hk2)⟩
      rw [hS1]
      rintro e a3 W3 hp
      cases e with
      | normal =>
        obtain ⟨hk3, hi3⟩ := hp
        obtain ⟨hr, hab3, hbl3, hl4, hk4⟩ := fin none W3 hk3
        exact ⟨_, _, hr, .inl ⟨rfl, hI _ _ _ hi3 hbl3, hl4, hk4⟩, hab3⟩
      | ret =>
        obtain ⟨hk3, hi3⟩ := hp
        obtain ⟨hr, hab3, hbl3, hl4, hk4⟩ := fin (some .ret) W3 hk3
        exact ⟨_, _, hr, .inr ⟨rfl, .ret, hIx _ _ _ hi3 hbl3, hl4, hk4⟩, hab3⟩
      | exit id =>
        obtain ⟨hk3, hi3⟩ := hp
        obtain ⟨hr, hab3, hbl3, hl4, hk4⟩ := fin (some (.exit id)) W3 hk3
        exact ⟨_, _, hr, .inr ⟨rfl, .exit id, hIx _ _ _ hi3 hbl3, hl4, hk4⟩, hab3⟩
      | goto t =>
        obtain ⟨hk3, hi3⟩ := hp
        obtain ⟨hr, hab3, hbl3, hl4, hk4⟩ := fin (some (.goto t)) W3 hk3
        exact ⟨_, _, hr, .inr ⟨rfl, .goto t, hIx _ _ _ hi3 hbl3, hl4, hk4⟩, hab3⟩
      | panic ch => exact hp.elim
      | outgrown => exact hp.elim
    · -- BEHIND THE ITERATOR
      rintro e W2 ⟨⟨v, rfl⟩, (⟨hi, hl, hk⟩ | ⟨c, hi, hl, hk⟩)⟩
      · exact ⟨none, _, by have := run_endLoop (P := P) hl (by rw [hrec]; simp); rw [hrec] at this; exact this, hdone _ _ (Nat.le_refl _) (hI _ _ _ hi (below_putObj (by omega) _)) ((World.putObj_heap_other (by omega)).trans hk)⟩
      · exact ⟨some c, _, by have := run_endLoop (P := P) hl (by rw [hrec]; simp); rw [hrec] at this; exact this, hstop _ c _ (Nat.le_refl _) (hIx _ _ _ hi (below_putObj (by omega) _)) ((World.putObj_heap_other (by omega)).trans hk)⟩
end Go.Proofs.Ytkabdkblcgklmaa

namespace Go.Proofs.Ytkabdkblcgklmaa
open Go.RowKit

section
variable {P : Program} {n l : Nat} {ops : Array Oper} {Q : Exit → Act → World → Prop} {md : Region.Mode}
theorem uponIn_in_round {o : Oper} {a : Act} {K : Act → World → Prop} {r : Result Next} (h : o.uponIn Fence.wide n P a K Q r) : o.uponIn (Fence.wide.inRound l) n P a K Q r := h
theorem wpIn_in_round {o : Oper} (hd : ∀ c, o.op ≠ .defer c) {a : Act} {w : World} {K : Act → World → Prop} (h : o.wpIn Fence.wide n P a w K Q) : o.wpIn (Fence.wide.inRound l) n P a w K Q := by
  obtain ⟨h1, h2⟩ := h
  refine ⟨fun _ _ => trivial, ?_⟩
  rw [Oper.semAt_eq _ _ _ hd] at h2 ⊢
  exact uponIn_in_round h2
theorem wpOpIn_in_round (hd : ∀ o ∈ ops, ∀ c, o.op ≠ .defer c) {i : Nat} {a : Act} {w : World} {K : Act → World → Prop} (h : wpOpIn Fence.wide n P ops Q i K a w) : wpOpIn (Fence.wide.inRound l) n P ops Q i K a w := by
  unfold wpOpIn at h ⊢
  cases hi : ops[i]? with
  | none => simp only [hi] at h ⊢; exact h
  | some o =>
    simp only [hi] at h ⊢
    split
    · rename_i hw
      rw [if_pos hw] at h
      exact wpIn_in_round (hd o (Array.mem_of_getElem? hi)) h
    · rename_i hw
      rw [if_neg hw] at h
      exact ⟨fun _ _ => trivial, h.2⟩
theorem wpAnyIn_in_round (hd : ∀ o ∈ ops, ∀ c, o.op ≠ .defer c) : ∀ (fuel : Nat) (listed : Array Bool) (a : Act) (w : World), wpAnyIn Fence.wide n P md ops Q fuel listed a w → wpAnyIn (Fence.wide.inRound l) n P md ops Q fuel listed a w
  | 0, _, _, _, h => h
  | fuel + 1, _, _, _, h => ⟨h.1, fun i hi => wpOpIn_in_round hd (wpOpIn_mono (fun a' w' h' => wpAnyIn_in_round hd fuel _ a' w' h') (h.2 i hi))⟩
/-- In a loop's round: a region that draws its order, rounds of other loops among its operations. -/
theorem wpIn_region_done_in_round (hnd : noDefer ops = true) {id : Nat} {a0 : Act} {w : World} (S : (Nat → Bool) → World → Prop) (R : (Nat → Bool) → Nat → Value → World → Prop) (hm : P.follows .mixedOrders = true) (m : Nat) (hz : a0.tmps.size = m) (ht : anyText .any ops m = true) (h0 : S (fun _ => false) w.drew)
    (hs : ∀ i, i < ops.size → DoneStepIn n P .any ops Q S R a0 i)
    (he : ∀ done a w, S done w → a.tmps.size = m → a.defers = a0.defers → (∀ t, outer ops t = true → a.tmps[t]? = a0.tmps[t]?) → (∀ j d, dstOf ops j = some d → ∃ v, a.tmps[d]? = some v ∧ R done j v w) → (∀ i, i < ops.size → done i = true) → Q .normal a w) :
    (Code.region id ops true).wpIn (Fence.wide.inRound l) n P Q a0 w := by
  refine wpIn_region_any hm (wpAnyIn_in_round (noDefer_out hnd) _ _ _ _ ?_)
  subst hz
  have hz0 : (fun k => (Array.replicate ops.size false).getD k false) = fun _ => false := by
    funext k
    by_cases hk : k < ops.size <;> simp [hk]
  refine wpDoneIn_steps ht hs he ops.size _ a0 _ (by simp) (by simp) ⟨by rw [hz0]; exact h0, rfl, rfl, fun _ _ => rfl, fun j hl => ?_, fun j d _ hl => ?_⟩
  · exfalso
    have : (Array.replicate ops.size false).getD j false = false := by
      by_cases hj : j < ops.size <;> simp [hj]
    rw [this] at hl
    cases hl
  exfalso
  have : (Array.replicate ops.size false).getD j false = false := by
    by_cases hj : j < ops.size <;> simp [hj]
  rw [this] at hl
  cases hl

/-- .. and what stands behind it goes on over a frame that is written out. -/
theorem wpIn_region_done_in_round_on (hnd : noDefer ops = true) {id : Nat} {a0 : Act} {w : World} (S : (Nat → Bool) → World → Prop) (R : (Nat → Bool) → Nat → Value → World → Prop) (hm : P.follows .mixedOrders = true) (m : Nat) (hz : a0.tmps.size = m) (ht : anyText .any ops m = true) (h0 : S (fun _ => false) w.drew)
    (hs : ∀ i, i < ops.size → DoneStepIn n P .any ops Q S R a0 i)
    (he : ∀ (done : Nat → Bool) (f : Tmp → Value) (w : World), S done w → (∀ j d, dstOf ops j = some d → R done j (f d) w) → (∀ i, i < ops.size → done i = true) → Q .normal (putAll ops.toList f a0) w) :
    (Code.region id ops true).wpIn (Fence.wide.inRound l) n P Q a0 w := by
  refine wpIn_region_done_in_round hnd S R hm m hz ht h0 hs fun done a w hS hsz hd ho hn hall => ?_
  have h1 := he done (fun d => a.tmps.getD d undef) w hS (fun j d hj => by
    obtain ⟨v, hv, hR⟩ := hn j d hj
    have : a.tmps.getD d undef = v := by simp [hv]
    rw [this]
    exact hR) hall
  have h2 : putAll ops.toList (fun d => a.tmps.getD d undef) a0 = a := by
    have hsz' : (putAll ops.toList (fun d => a.tmps.getD d undef) a0).tmps.size = a.tmps.size := by rw [putAll_size, hsz, hz]
    have ht' : (putAll ops.toList (fun d => a.tmps.getD d undef) a0).tmps = a.tmps := by
      apply Array.ext_getElem?
      intro t
      by_cases hlt : t < m
      · have hlt' : t < a0.tmps.size := by rw [hz]; exact hlt
        rw [putAll_at ops.toList _ a0 t hlt']
        cases hany : ops.toList.any fun o => o.dst == some t with
        | true =>
          have : t < a.tmps.size := by omega
          simp [this]
        | false =>
          rw [if_neg (by simp), ← ho t ?_]
          unfold outer
          rw [← Array.all_toList, List.all_eq_true]
          intro o hm'
          have := List.any_eq_false.1 hany o hm'
          simpa [bne] using this
      · rw [Array.getElem?_eq_none (by rw [hsz', hsz]; omega), Array.getElem?_eq_none (by rw [hsz]; omega)]
    have hd' : (putAll ops.toList (fun d => a.tmps.getD d undef) a0).defers = a.defers := by rw [putAll_defers, hd]
    cases a
    cases hh : putAll ops.toList _ a0
    rw [hh] at ht' hd'
    simp only at ht' hd'
    rw [ht', hd']
  rw [h2] at h1
  exact h1
end
end Go.Proofs.Ytkabdkblcgklmaa

namespace Go.Proofs.Ytkabdkblcgklmaa.tu
open Go.RowKit Go.Proofs.Ytkabdkblcgklmaa.arr

/-- What the index tuple at position n has for axis k. -/
def numN (L : List Nat) (n k : Nat) : Nat := n / prodN (L.drop (k + 1)) % L.getD k 1
theorem numN_at : ∀ (L : List Nat) (n k : Nat), k < L.length → n < prodN L → (dig L n)[k]? = some (numN L n k)
  | [], _, _, h, _ => by simp at h
  | x :: L, n, 0, _, hn => by
    have hn : n < x * prodN L := hn
    show some (n / prodN L) = some (n / prodN (List.drop 1 (x :: L)) % x)
    have hP : 0 < prodN L := by
      rcases Nat.eq_zero_or_pos (prodN L) with h0 | h0
      · rw [h0] at hn; omega
      · exact h0
    rw [Nat.mod_eq_of_lt]
    · rfl
    · show n / prodN L < x
      rw [Nat.div_lt_iff_lt_mul hP]; exact hn
  | x :: L, n, k + 1, h, hn => by
    have hn : n < x * prodN L := hn
    have hP : 0 < prodN L := by
      rcases Nat.eq_zero_or_pos (prodN L) with h0 | h0
      · rw [h0] at hn; omega
      · exact h0
    have hk : k < L.length := by simpa using h
    show (dig L (n % prodN L))[k]? = some (n / prodN (L.drop (k + 1)) % L.getD k 1)
    rw [numN_at L _ k hk (Nat.mod_lt _ hP)]
    unfold numN
    have hs : prodN L = prodN (L.drop (k + 1)) * (L.getD k 1 * prodN (L.take k)) := by
      have h1 := prod_iL L
      have h2 := prodI_append (iL (L.take k)) (iL (L.drop k))
      have h3 : iL (L.take k) ++ iL (L.drop k) = iL L := by unfold iL; rw [← List.map_append, List.take_append_drop]
      have h4 : L.drop k = L.getD k 1 :: L.drop (k + 1) := by rw [List.drop_eq_getElem_cons hk, List.getD_eq_getElem?_getD, List.getElem?_eq_getElem hk]; rfl
      rw [h3, prod_iL, prod_iL, prod_iL, h4] at h2
      have h5 : prodN L = prodN (L.take k) * (L.getD k 1 * prodN (L.drop (k + 1))) := by exact_mod_cast h2
      rw [h5, Nat.mul_comm, Nat.mul_comm (L.getD k 1), Nat.mul_assoc]
    rw [hs, Nat.mod_mul_right_div_self, Nat.mod_mul_right_mod]
/-- What is left of n once the last k axes are gone by. -/
def leftN (L : List Nat) (n k : Nat) : Nat := n / prodN (L.drop (L.length - k))
theorem leftN_zero (L : List Nat) (n : Nat) : leftN L n 0 = n := by
  unfold leftN
  rw [Nat.sub_zero, List.drop_length]
  exact Nat.div_one n
theorem leftN_succ (L : List Nat) (n k : Nat) (hk : k < L.length) : leftN L n (k + 1) = leftN L n k / L.getD (L.length - 1 - k) 1 := by
  unfold leftN
  have hk2 : L.length - 1 - k < L.length := by omega
  have h4 : L.drop (L.length - (k + 1)) = L.getD (L.length - 1 - k) 1 :: L.drop (L.length - k) := by
    rw [show L.length - (k + 1) = L.length - 1 - k by omega, List.drop_eq_getElem_cons hk2, List.getD_eq_getElem?_getD, List.getElem?_eq_getElem hk2, show L.length - 1 - k + 1 = L.length - k by omega]
    rfl
  rw [h4]
  show n / (L.getD (L.length - 1 - k) 1 * prodN (L.drop (L.length - k))) = _
  rw [Nat.mul_comm, Nat.div_div_eq_div_mul]
theorem numN_left (L : List Nat) (n k : Nat) (hk : k < L.length) : numN L n (L.length - 1 - k) = leftN L n k % L.getD (L.length - 1 - k) 1 := by
  unfold numN leftN
  rw [show L.length - 1 - k + 1 = L.length - k by omega]
theorem leftN_le (L : List Nat) (n k : Nat) : leftN L n k ≤ n := Nat.div_le_self _ _
theorem numN_le (L : List Nat) (n k : Nat) : numN L n k ≤ n := Nat.le_trans (Nat.mod_le _ _) (Nat.div_le_self _ _)
/-- As the program asks for it: by an axis that may be none. -/
def numV (L : List Nat) (n : Nat) (k : Int) : Int := if 0 ≤ k ∧ k < (L.length : Int) then (numN L n k.toNat : Int) else 0
theorem pos_all {L : List Nat} (h : 0 < prodN L) : ∀ x ∈ L, 0 < x := by
  induction L with
  | nil => intro x hx; cases hx
  | cons y L ih =>
    have h : 0 < y * prodN L := h
    have h1 : 0 < y := Nat.pos_of_ne_zero (fun e => by rw [e, Nat.zero_mul] at h; omega)
    have h2 : 0 < prodN L := Nat.pos_of_ne_zero (fun e => by rw [e, Nat.mul_zero] at h; omega)
    intro x hx
    rcases List.mem_cons.1 hx with rfl | hx
    · exact h1
    · exact ih h2 x hx
end Go.Proofs.Ytkabdkblcgklmaa.tu

namespace Go.Proofs.Ytkabdkblcgklmaa.tu
open Go.RowKit Go.Proofs.Ytkabdkblcgklmaa.arr Go.Proofs.Ytkabdkblcgklmaa.mo

theorem slback_any (A : Option Addr) (c m : Nat) (w : World) : Calls Try.prog 218 #[.slice A m c] w fun e w' => e = .returned (.func (.func 219) #[] #[.pointer (some ⟨w.heap.size, 0, none⟩)]) ∧ w.alloc (.cells #[.slice A m c] 130) = w' := by
  go_enter Try.func218, Try.ntmps218
  go_wp2
  go_ret
  exact ⟨rfl, rfl⟩
theorem tunumbers_any (A : Option Addr) (c m : Nat) (x : Int) (w : World) : Calls Try.prog 215 #[.slice A m c, .int .i64 x] w fun e w' => e = .returned (.func (.func 217) #[] #[.pointer (some ⟨w.heap.size + 1, 0, none⟩), .pointer (some ⟨w.heap.size, 0, none⟩)]) ∧ (w.alloc (.cells #[.slice A m c] 130)).alloc (.cells #[.int .i64 x] 3) = w' := by
  go_enter Try.func215, Try.ntmps215
  go_wp2
  go_ret
  exact ⟨rfl, rfl⟩

/-- The axes from the last one back, each with its length. -/
def bkAt (L : List Nat) (k : Nat) : Array Value := #[.int .i64 ((L.length : Int) - 1 - (k : Int)), .int .i64 ((L.getD (L.length - 1 - k) 1 : Nat) : Int)]
structure BkPre (C : Nat) (A : Option Addr) (c : Nat) (L : List Nat) (W : World) : Prop where
  c0 : W.cell? ⟨C, 0, none⟩ = some (.slice A L.length c)
  ra : Reads W W.heap.size 1 A L.length ((iL L).map iv)

section
attribute [local go_sem] Oper.semAt_some
set_option maxRecDepth 100000 in
set_option maxHeartbeats 4000000 in
theorem back_turns (f : Nat) (h1 : 1 ≤ f) (C : Nat) (A : Option Addr) (c : Nat) (L : List Nat) (hn : L.length ≤ 100) (w : World) :
    SeqTurns Fence.wide f Try.prog 219 #[.pointer (some ⟨C, 0, none⟩)] (bkAt L) L.length (BkPre C A c L) w := by
  intro lp J Jx W hW hP _ _ hY h0
  have x0 := (hP 0 W h0).c0
  have HP := Lib.hid hP
  have HY := Lib.hid hY
  have H0 := Lib.hid h0
  obtain ⟨n, hnn⟩ : ∃ n, L.length = n := ⟨_, rfl⟩
  rw [hnn] at x0 hn HY
  have HN := Lib.hid hnn
  have en : (n : Int) - 1 = ((n : Int) - 1) - ((0 : Nat) : Int) := by omega
  clear hP hY h0 hW hnn
  rw [HN.out]
  refine callsIn_of_wp Try.func219 rfl trivial ?_ rfl
  simp only [Try.ntmps219, List.size_toArray, List.length_cons, List.length_nil, Nat.reduceAdd, Nat.reduceSub, Array.replicate_succ, Array.replicate_zero, List.push_toArray, List.append_toArray, List.nil_append, List.cons_append]
  clear en
  gi_wp2
  gi_loopw [3] (fun q wr => ∃ (k : Nat) (i : Int), q = .int .i64 i ∧ i = (n : Int) - 1 - (k : Int) ∧ k ≤ n ∧ J k wr) (fun i _ => ((RowKit.intOf i) + 1).toNat)
  case atStart => exact ⟨0, _, rfl, by omega, Nat.zero_le _, H0.out⟩
  case round =>
    obtain ⟨k, i, rfl, hi, hkM, hJ⟩ := hrel
    have hpre := HP.out k wr hJ
    have HJ := Lib.hid hJ
    by_cases hk : k < n
    · have hi0 : 0 ≤ i := by omega
      obtain ⟨j, rfl⟩ := Int.eq_ofNat_of_zero_le hi0
      have hjn : j < n := by omega
      have hjL : j < (iL L).length := by rw [iL_length, HN.out]; exact hjn
      have hjl : j < L.length := by rw [HN.out]; exact hjn
      obtain ⟨adA, rfl, hla, hca⟩ := hpre.ra.int_at hjl (iL_length L)
      have x0 := hpre.c0
      rw [HN.out] at x0
      have HAT : Hid (bkAt L k = #[.int .i64 (j : Int), .int .i64 ((iL L)[j])]) := Lib.hid (by
        unfold bkAt
        rw [HN.out, ← hi, show n - 1 - k = j by omega, List.getD_eq_getElem?_getD, List.getElem?_eq_getElem hjl]
        have : (iL L)[j] = ((L[j] : Nat) : Int) := List.getElem_map ..
        rw [this]
        rfl)
      have HK := Lib.hid (And.intro hk hi)
      generalize (iL L)[j] = x at *
      obtain ⟨fn, tmps, assign, body, hy, hR⟩ := HY.out k wr hk hJ
      have HRO := Lib.hid hR
      rw [HAT.out] at hy
      have hb63 : (j : Int) ≤ 100 := by omega
      have hd : (j : Int) < (n : Int) := by omega
      clear hpre hk hkM hJ hR hjL hjl hla hjn hi hn
      gi_wp2
      refine HRO.out.mono ?_
      rintro e W3 ⟨(⟨rfl, hJ3⟩ | ⟨rfl, hJx3⟩), _⟩
      · gi_wp2
        go_roundw
        case rel => exact ⟨k + 1, _, rfl, by have := HK.out; omega, by have := HK.out; omega, hJ3⟩
        case measure =>
          simp [RowKit.intOf]
          try omega
      · gi_wp2
        refine bodyPost_ret (results_none rfl _ _ _) rfl ?_
        exact ⟨⟨_, rfl⟩, .inr hJx3⟩
    · obtain rfl : k = n := by omega
      obtain rfl : i = -1 := by omega
      clear hk hkM hpre hJ hi
      gi_wp2
      go_end0
      exact ⟨⟨_, rfl⟩, .inl HJ.out⟩

theorem tu_room (k : Nat) : Fence.wide.room k := fun d h => by cases h
theorem tu_round {m m' : Nat} {P : Program} {l : Nat} {f : FuncId} {tmps : Array Value} {assign body : Code} {w : World} {R : Ending → World → Prop} (h : RoundIn Fence.wide m P l f tmps assign body w R) : RoundIn Fence.wide m' P l f tmps assign body w R := ⟨h.1, fun c cs _ => h.2 c cs (tu_room _)⟩

/-- The numbers of the index tuple at n, from the last axis back. -/
def nmAt (L : List Nat) (n k : Nat) : Array Value := #[.int .i64 ((L.length : Int) - 1 - (k : Int)), .int .i64 ((numN L n (L.length - 1 - k) : Nat) : Int)]
structure NmPre (C0 C1 : Nat) (A : Option Addr) (c : Nat) (L : List Nat) (n : Nat) (W : World) : Prop where
  c0 : W.cell? ⟨C0, 0, none⟩ = some (.slice A L.length c)
  c1 : W.cell? ⟨C1, 0, none⟩ = some (.int .i64 (n : Int))
  ra : Reads W W.heap.size 1 A L.length ((iL L).map iv)
/-- What stands in numbers' own loop. -/
structure NmI (J : Nat → World → Prop) (z lp : Nat) (A : Option Addr) (c : Nat) (L : List Nat) (n k : Nat) (W : World) : Prop where
  j : J k W
  y : Blk W z 228 #[.func (.yield lp) #[] #[]]
  r : Blk W (z + 1) 3 #[.int .i64 ((leftN L n k : Nat) : Int)]
  s : Blk W (z + 2) 130 #[.slice A L.length c]
theorem Blk.low {B g : Nat} {W W' : World} {t : TypeId} {cs : Array Value} (h : Blk W g t cs) (hb : Below B W W') (hg : g < B) : Blk W' g t cs := (hb.block g hg).trans h
theorem Blk.above {B g : Nat} {W W' : World} {t : TypeId} {cs : Array Value} (h : Blk W g t cs) (hb : Above B W W') (hg : B ≤ g) : Blk W' g t cs := (hb.block g hg h.lt).trans h

set_option maxRecDepth 100000 in
set_option maxHeartbeats 4000000 in
theorem numbers_turns (f : Nat) (h1 : 8 ≤ f) (h11 : 1 ≤ f) (C0 C1 : Nat) (A : Option Addr) (c : Nat) (L : List Nat) (n : Nat) (hL : L.length ≤ 100) (hpos : ∀ x ∈ L, 0 < x) (hx : ∀ x ∈ L, x ≤ 4096) (hn : n ≤ 4096) (w : World) :
    SeqTurns Fence.wide f Try.prog 217 #[.pointer (some ⟨C1, 0, none⟩), .pointer (some ⟨C0, 0, none⟩)] (nmAt L n) L.length (NmPre C0 C1 A c L n) w := by
  intro lp J Jx W hW hP hJ hJx hY h0
  have hp0 := hP 0 W h0
  obtain ⟨z, hz⟩ : ∃ z, W.heap.size = z := ⟨_, rfl⟩
  obtain ⟨Wb, hWb⟩ : ∃ Wb, ((W.alloc (.cells #[.func (.yield lp) #[] #[]] 228)).alloc (.cells #[.int .i64 0] 3)).setCell ⟨z + 1, 0, none⟩ (.int .i64 (n : Int)) = Wb := ⟨_, rfl⟩
  obtain ⟨W3, hW3⟩ : ∃ W3, Wb.alloc (.cells #[.slice A L.length c] 130) = W3 := ⟨_, rfl⟩
  have hb2 : Below z W Wb := by
    rw [← hWb]
    have h := mobelow2 (w := W) (.cells #[.func (.yield lp) #[] #[]] 228) (.cells #[.int .i64 0] 3)
    rw [hz] at h
    exact h.trans (((Keep.refl (fun k => k = z + 1) _).setCell ⟨z + 1, 0, none⟩ (.int .i64 (n : Int)) (fun _ => rfl)).below (by simp; omega) (fun i hi e => by omega))
  have hsb : Wb.heap.size = z + 2 := by rw [← hWb]; simp [World.setCell, hz]
  have hb3 : Below z W W3 := by rw [← hW3]; exact hb2.trans ((albel _ _).mono (by omega))
  have hs3 : W3.heap.size = z + 3 := by rw [← hW3]; simp [hsb]
  have k0 : Blk W3 z 228 #[.func (.yield lp) #[] #[]] := by
    rw [← hW3, ← hWb, ← hz]
    exact (((Blk.new W _ _).alloc _).far (by simp) _).alloc _
  have k1 : Blk W3 (z + 1) 3 #[.int .i64 (n : Int)] := by
    rw [← hW3, ← hWb]
    have h := (Blk.new (W.alloc (.cells #[.func (.yield lp) #[] #[]] 228)) 3 #[.int .i64 0]).set_ 0 (.int .i64 (n : Int))
    rw [World.size_alloc, hz] at h
    exact h.alloc _
  have k2 : Blk W3 (z + 2) 130 #[.slice A L.length c] := by
    rw [← hW3, ← hsb]
    exact Blk.new _ _ _
  have hwl : (W.alloc (.cells #[.func (.yield lp) #[] #[]] 228)).heap.size = z + 1 := by simp [hz]
  have HI0 : Hid (NmI J z lp A c L n 0 W3) := Lib.hid ⟨hJ 0 W W3 h0 (hz ▸ hb3), k0, by rw [leftN_zero]; exact k1, k2⟩
  have x0 := hp0.c0
  have x1 := hp0.c1
  have hbk := back_turns (f - 1) (by omega) (z + 2) A c L hL W3
  have HRA : Hid (∀ k W', J k W' → Reads W' W'.heap.size 1 A L.length ((iL L).map iv)) := Lib.hid (fun k W' h => (hP k W' h).ra)
  have HJ : Hid (∀ (k : Nat) (W1 W2 : World), J k W1 → Below z W1 W2 → J k W2) := Lib.hid (fun k W1 W2 h hb => hJ k W1 W2 h (hz ▸ hb))
  have HJX : Hid (∀ (W1 W2 : World), Jx W1 → Below z W1 W2 → Jx W2) := Lib.hid (fun W1 W2 h hb => hJx W1 W2 h (hz ▸ hb))
  rw [hz] at hY
  have HY := Lib.hid hY
  have HS3 := Lib.hid hs3
  have HPOS := Lib.hid hpos
  have HX := Lib.hid hx
  have HZ := Lib.hid hz
  have HW3 := Lib.hid hW3
  have HBK := Lib.hid hbk
  have y0 : (W.alloc (.cells #[.func (.yield lp) #[] #[]] 228)).cell? ⟨C1, 0, none⟩ = some (.int .i64 (n : Int)) := ((albel W _).cell (block_lt_of_cell x1)).trans x1
  have y1 : Wb.cell? ⟨C0, 0, none⟩ = some (.slice A L.length c) := by
    have := block_lt_of_cell x0
    exact ((hb2.mono (show C0 + 1 ≤ z by have : C0 < W.heap.size := this; omega)).cell (show C0 < C0 + 1 by omega)).trans x0
  obtain ⟨N, hN⟩ : ∃ N, L.length = N := ⟨_, rfl⟩
  have HN := Lib.hid hN
  clear hP hJ hJx hY h0 hW hp0 k0 k1 k2 hb3 hbk hpos hx hs3 hb2
  have hfp : Fence.wide.fn 218 := trivial
  refine callsIn_of_wp_marks Try.func217 rfl trivial ?_
  simp only [Try.ntmps217, List.size_toArray, List.length_cons, List.length_nil, Nat.reduceAdd, Nat.reduceSub, Array.replicate_succ, Array.replicate_zero, List.push_toArray, List.append_toArray, List.nil_append, List.cons_append]
  gi_wp2_with (gi_at_call 218; refine (callsIn_wide.2 (slback_any _ _ _ _)).mono ?_; rintro e w7 ⟨rfl, hw7⟩)
  obtain rfl : W3 = w7 := by rw [← HW3.out, ← hw7, HN.out]
  clear hw7 hW3 hWb y0 y1 hwl x0 x1
  rw [hN] at HY HBK HRA
  refine wpIn_rangeFunc_turns rfl (by omega) (gf := 219) (lb := #[.pointer (some ⟨z + 2, 0, none⟩)]) rfl trivial (enters_of Try.func219 (by kernel_rfl) rfl)
    HBK.out (Below.refl _ _) (fun _ => rfl)
    (NmI J z lp A c L n)
    (fun cc W' => cc = .ret ∧ Jx W')
    (fun k W1 W2 h hb => ⟨HJ.out k W1 W2 h.j (hb.mono (by have := HS3.out; omega)), Blk.low h.y hb (by have := HS3.out; omega), Blk.low h.r hb (by have := HS3.out; omega), Blk.low h.s hb (by have := HS3.out; omega)⟩)
    (fun cc W1 W2 h hb => ⟨h.1, HJX.out W1 W2 h.2 (hb.mono (by have := HS3.out; omega))⟩)
    (fun k W' h => ⟨h.s.cell 0, by have := HRA.out k W' h.j; rwa [HN.out]⟩)
    HI0.out
    (fun k a' W' => a' = { tmps := #[.func (.yield lp) #[] #[], .pointer (some ⟨C1, 0, none⟩), .pointer (some ⟨C0, 0, none⟩), .pointer (some ⟨z, 0, none⟩), .pointer (some ⟨z + 1, 0, none⟩), .int .i64 ((N : Int) - 1 - (k : Int)), .int .i64 ((L.getD (N - 1 - k) 1 : Nat) : Int), .int .i64 (n : Int), .slice A N c, .func (.func 219) #[] #[.pointer (some ⟨z + 2, 0, none⟩)], .int .i64 ((N : Int) - 1 - (k : Int)), .int .i64 ((L.getD (N - 1 - k) 1 : Nat) : Int), undef, undef, undef, undef, undef, undef, undef, undef, undef, undef], defers := [] } ∧ NmI J z lp A c L n k W')
    (fun k a' W' l r r' hl _ h => by
      have hb := below_putObj hl (.loop r') (W := W')
      have hs := HS3.out
      exact ⟨h.1, HJ.out k _ _ h.2.j (hb.mono (by omega)), Blk.low h.2.y hb (by omega), Blk.low h.2.r hb (by omega), Blk.low h.2.s hb (by omega)⟩)
    ?assign ?body ?done ?stop
  case assign =>
    intro l k W' K hk hI hK
    have HK := Lib.hid hK
    have HI := Lib.hid hI
    have e : bkAt L k = #[.int .i64 ((N : Int) - 1 - (k : Int)), .int .i64 ((L.getD (N - 1 - k) 1 : Nat) : Int)] := by
      unfold bkAt
      rw [HN.out]
    rw [e]
    generalize (N : Int) - 1 - (k : Int) = ax at *
    generalize ((L.getD (N - 1 - k) 1 : Nat) : Int) = ln at *
    clear hK hI e
    gi_wp2
    exact HK.out _ _ (Above.refl _ _) ⟨rfl, HI.out⟩
  case body =>
    rintro l k a' Wq hk ⟨rfl, hI⟩
    have hkL : k < L.length := by have := HN.out; omega
    have hnl := numN_left L n k hkL
    have hls := leftN_succ L n k hkL
    have hlp := HPOS.out (L.getD (L.length - 1 - k) 1) (by rw [List.getD_eq_getElem?_getD, List.getElem?_eq_getElem (by omega)]; exact List.getElem_mem _)
    have hlx := HX.out (L.getD (L.length - 1 - k) 1) (by rw [List.getD_eq_getElem?_getD, List.getElem?_eq_getElem (by omega)]; exact List.getElem_mem _)
    have hrl := leftN_le L n k
    have HAT : Hid (nmAt L n k = #[.int .i64 ((N : Int) - 1 - (k : Int)), .int .i64 ((numN L n (N - 1 - k) : Nat) : Int)]) := Lib.hid (by unfold nmAt; rw [HN.out])
    rw [HN.out] at hnl hls hlp hlx
    have HI := Lib.hid hI
    have HK := Lib.hid hk
    have y1 := hI.r.cell 0
    have f1 := hI.r.frozen 0
    generalize numN L n (N - 1 - k) = q at *
    obtain ⟨r, hr⟩ : ∃ r, leftN L n k = r := ⟨_, rfl⟩
    obtain ⟨r2, hr2⟩ : ∃ r, leftN L n (k + 1) = r := ⟨_, rfl⟩
    rw [hr] at hnl hls hrl y1
    rw [hr2] at hls
    generalize L.getD (N - 1 - k) 1 = ln at *
    have et : (r : Int).tmod (ln : Int) = (q : Int) := by rw [hnl]; exact (Int.ofNat_tmod r ln).symm
    have eq : (r : Int).tdiv (ln : Int) = (r2 : Int) := by rw [hls]; exact (Int.ofNat_tdiv r ln).symm
    have hln0 : ¬ (ln : Int) = 0 := by omega
    have hln2 : ¬ ln = 0 := by omega
    have hln1 : ((ln : Int) == 0) = false := by rw [beq_eq_false_iff_ne]; exact hln0
    have hq4 : (q : Int) ≤ 4096 := by rw [hnl]; have := Nat.mod_le r ln; omega
    have hr24 : (r2 : Int) ≤ 4096 := by rw [hls]; have := Nat.div_le_self r ln; omega
    have HR2 := Lib.hid hr2
    have HR1 := Lib.hid hr
    have eq2 : (r : Int) / (ln : Int) = (r2 : Int) := by rw [hls]; rfl
    obtain ⟨ax, hax⟩ : ∃ ax, (N : Int) - 1 - (k : Int) = ax := ⟨_, rfl⟩
    rw [hax] at HAT ⊢
    have hax1 : -9223372036854775808 ≤ ax := by omega
    have hax2 : ax ≤ 9223372036854775807 := by have := HN.out; omega
    have HCL : Hid (∀ W2, Below Wq.heap.size Wq W2 → W2.cell? ⟨z, 0, none⟩ = some (.func (.yield lp) #[] #[]) ∧ W2.cell? ⟨z + 1, 0, none⟩ = some (.int .i64 (r : Int))) := Lib.hid (fun W2 h2 => by
      have e0 := (HI.out.y.below h2 HI.out.y.lt).cell 0
      have e1 := (HI.out.r.below h2 HI.out.r.lt).cell 0
      rw [hr] at e1
      exact ⟨e0, e1⟩)
    have HYK : Hid (∀ W2, Below Wq.heap.size Wq W2 → YieldAt Fence.wide (f - 1) Try.prog lp #[.int .i64 ax, .int .i64 (q : Int)] W2 fun e W' => (e = .returned (.bool true) ∧ J (k + 1) W' ∧ Above z Wq W') ∨ (e = .returned (.bool false) ∧ Jx W' ∧ Above z Wq W')) := Lib.hid (fun W2 h2 => by
      have h := HY.out k W2 HK.out (HJ.out k Wq W2 HI.out.j (h2.mono (by have := HI.out.y.lt; omega)))
      rw [HAT.out] at h
      refine YieldAt.mono h ?_
      rintro e W' ⟨(⟨rfl, h3⟩ | ⟨rfl, h3⟩), h4⟩
      · exact .inl ⟨rfl, h3, (Above.of_below h2).trans h4⟩
      · exact .inr ⟨rfl, h3, (Above.of_below h2).trans h4⟩)
    clear hnl hls hlp hr hr2 hax hI hk y1 f1
    gi_wp2
    refine wpIn_region_done_in_round_on (by kernel_rfl) (YS 5 Wq) (YR 5 [.func (.yield lp) #[] #[], .int .i64 ax, .int .i64 (r : Int), .int .i64 (ln : Int), .int .i64 (q : Int)] [[0], [1], [2], [3], [2, 3, 4], [0, 1, 2, 3, 4, 5], [0, 1, 2, 3, 4, 5, 6]] (fun W' => J (k + 1) W' ∧ Above z Wq W') (fun W' => Jx W' ∧ Above z Wq W')) (by kernel_rfl) 22 rfl (by kernel_rfl) (YS.start 5 _) ?_ ?_
    · intro i hi
      have hi2 : i < 7 := hi
      clear hi
      rcases i with _ | i
      · refine y_value rfl (fun _ => rfl) (by decide) (.func (.yield lp) #[] #[]) rfl (by kernel_rfl) ?_
        intro a8 w8 hb8 ho hn
        have o3 : a8.tmps[3]? = some _ := (ho 3 (by kernel_rfl)).trans rfl
        clear ho hn
        refine ⟨wanted_free rfl, ?_⟩
        obtain ⟨y0, _⟩ := HCL.out w8 hb8
        go_simp
      rcases i with _ | i
      · refine y_value rfl (fun _ => rfl) (by decide) (.int .i64 ax) rfl (by kernel_rfl) ?_
        intro a8 w8 hb8 ho hn
        have o5 : a8.tmps[5]? = some _ := (ho 5 (by kernel_rfl)).trans rfl
        clear ho hn
        refine ⟨wanted_free rfl, ?_⟩
        go_simp
      rcases i with _ | i
      · refine y_value rfl (fun _ => rfl) (by decide) (.int .i64 (r : Int)) rfl (by kernel_rfl) ?_
        intro a8 w8 hb8 ho hn
        have o4 : a8.tmps[4]? = some _ := (ho 4 (by kernel_rfl)).trans rfl
        clear ho hn
        refine ⟨wanted_free rfl, ?_⟩
        obtain ⟨_, y0⟩ := HCL.out w8 hb8
        go_simp
      rcases i with _ | i
      · refine y_value rfl (fun _ => rfl) (by decide) (.int .i64 (ln : Int)) rfl (by kernel_rfl) ?_
        intro a8 w8 hb8 ho hn
        have o6 : a8.tmps[6]? = some _ := (ho 6 (by kernel_rfl)).trans rfl
        clear ho hn
        refine ⟨wanted_free rfl, ?_⟩
        go_simp
      rcases i with _ | i
      · refine y_value rfl (fun _ => rfl) (by decide) (.int .i64 (q : Int)) rfl (by kernel_rfl) ?_
        intro a8 w8 hb8 ho hn
        obtain ⟨v14, n14, hq14⟩ := hn 2 14 (by kernel_rfl) rfl
        obtain rfl := hq14 (by decide)
        obtain ⟨v15, n15, hq15⟩ := hn 3 15 (by kernel_rfl) rfl
        obtain rfl := hq15 (by decide)
        clear ho hn
        refine ⟨wanted_free rfl, ?_⟩
        go_simp
      rcases i with _ | i
      · refine y_yield rfl (fun _ => rfl) (by kernel_rfl) (by kernel_rfl) ?_
        intro a8 w8 hb8 ho hn
        obtain ⟨v12, n12, hq12⟩ := hn 0 12 (by kernel_rfl) rfl
        obtain rfl := hq12 (by decide)
        obtain ⟨v13, n13, hq13⟩ := hn 1 13 (by kernel_rfl) rfl
        obtain rfl := hq13 (by decide)
        obtain ⟨v16, n16, hq16⟩ := hn 4 16 (by kernel_rfl) rfl
        obtain rfl := hq16 (by decide)
        clear ho hn
        refine ⟨wanted_free rfl, ?_⟩
        obtain ⟨fn, tmps, assign, body, hy, hR⟩ := HYK.out w8 hb8
        exact ⟨lp, fn, tmps, assign, body, by go_simp, (tu_round hR).mono (by
          rintro e W' (⟨rfl, h3⟩ | ⟨rfl, h3⟩)
          · exact .inl ⟨rfl, h3⟩
          · exact .inr ⟨rfl, h3⟩)⟩
      rcases i with _ | i
      · refine y_not rfl (fun _ => rfl) (by kernel_rfl) (by decide) 17 (by kernel_rfl) rfl ?_
        intro a8 w8 bb n17
        refine ⟨wanted_free rfl, ?_⟩
        go_simp
      omega
    · intro dn fv w5 hS5 hR5 hall
      obtain ⟨_, bb, h18, hbb⟩ := (hR5 6 18 rfl).an (by decide)
      simp only [putAll, List.foldl_cons, List.foldl_nil, Act.put, List.setIfInBounds_toArray, List.set_cons_succ, List.set_cons_zero, h18]
      have HBB := Lib.hid hbb
      clear hR5 hS5 hall hbb
      generalize fv 12 = uv12
      generalize fv 13 = uv13
      generalize fv 14 = uv14
      generalize fv 15 = uv15
      generalize fv 16 = uv16
      generalize fv 17 = uv17
      have hs3 := HS3.out
      cases bb
      · obtain ⟨hj, ha⟩ := HBB.out.2 rfl
        have HJX2 := Lib.hid hj
        have HA2 := Lib.hid ha
        clear hj ha
        gi_wp2
        exact ⟨HA2.out.more (by omega), rfl, HJX2.out⟩
      · obtain ⟨hj, ha⟩ := HBB.out.1 rfl
        have HJ2 := Lib.hid hj
        have HA2 := Lib.hid ha
        have hr5 := Blk.above HI.out.r ha (by omega)
        rw [HR1.out] at hr5
        have y1 := hr5.cell 0
        have f1 := hr5.frozen 0
        have HR5 := Lib.hid hr5
        clear hj ha hr5
        gi_wp2
        have hk2 : Keep (fun i => i = z + 1) w5 (w5.setCell ⟨z + 1, 0, none⟩ (.int .i64 (r2 : Int))) := (Keep.refl _ _).setCell _ _ (fun _ => rfl)
        refine ⟨(HA2.out.more (by omega)).trans (Above.setCell _ _ (by show z + 1 < _; omega) _), HJ.out _ _ _ HJ2.out (hk2.below (B := z) (by have := HR5.out.lt; omega) (fun i hi e => by omega)), ?_, ?_, ?_⟩
        · exact hk2.blk (Blk.above HI.out.y HA2.out (Nat.le_refl _)) (by omega)
        · rw [HR2.out]
          exact HR5.out.set_ 0 _
        · exact hk2.blk (Blk.above HI.out.s HA2.out (by omega)) (by omega)
  case done =>
    rintro D W' hD hI hK
    have HI := Lib.hid hI.j
    have HKK := Lib.hid hK
    have hs3 := HS3.out
    clear hI hK
    gi_wp2
    refine ⟨by simp, .inl ⟨_, _, rfl, run_takeDeferred HKK.out, ⟨_, results_none rfl _ _ _, ⟨_, rfl⟩, .inl ?_⟩⟩⟩
    rw [HN.out]
    exact HJ.out _ _ _ HI.out (below_putObj (by omega) _)
  case stop =>
    rintro D c' W' hD ⟨rfl, hx⟩ hK
    have HX2 := Lib.hid hx
    have HKK := Lib.hid hK
    have hs3 := HS3.out
    clear hx hK
    gi_wp2
    exact ⟨by simp, .inl ⟨_, _, rfl, run_takeDeferred HKK.out, ⟨_, results_none rfl _ _ _, ⟨_, rfl⟩, .inr (HJX.out _ _ HX2.out (below_putObj (by omega) _))⟩⟩⟩
end
end Go.Proofs.Ytkabdkblcgklmaa.tu

namespace Go.Proofs.Ytkabdkblcgklmaa.tu
open Go.RowKit Go.Proofs.Ytkabdkblcgklmaa.arr Go.Proofs.Ytkabdkblcgklmaa.mo

theorem results_int1 {fn : Func} {t : Tmp} {tmps : Array Value} {w : World} {g : Nat} {x : Value} (hr : fn.results = #[.cell t 3]) (ht : tmps.getD t undef = .pointer (some ⟨g, 0, none⟩)) (hb : Blk w g 3 #[x]) : (results fn tmps).run Try.prog w = .ok x w := by
  have h1 : (loadVar 3 ⟨g, 0, none⟩).run Try.prog w = .ok x w := mo_load1 (hb.cell 0) Try.isAgg3
  rw [Array.getD_eq_getD_getElem?] at ht
  simp [results, hr, ht, h1, asAddr]
/-- What stands while the numbers are walked. -/
structure NbI (w : World) (z : Nat) (A : Option Addr) (c : Nat) (L : List Nat) (n : Nat) (ax : Int) (k : Nat) (W : World) : Prop where
  b : Below z w W
  x : Blk W z 3 #[.int .i64 ax]
  r : Blk W (z + 1) 3 #[.int .i64 0]
  s : Blk W (z + 2) 130 #[.slice A L.length c]
  p : Blk W (z + 3) 3 #[.int .i64 (n : Int)]
  no : ∀ j, j < k → ((L.length - 1 - j : Nat) : Int) ≠ ax
theorem NbI.low {w : World} {z : Nat} {A : Option Addr} {c : Nat} {L : List Nat} {n : Nat} {ax : Int} {k : Nat} {W W' : World} (h : NbI w z A c L n ax k W) (hb : Below (z + 4) W W') : NbI w z A c L n ax k W' :=
  ⟨h.b.trans (hb.mono (by omega)), Blk.low h.x hb (by omega), Blk.low h.r hb (by omega), Blk.low h.s hb (by omega), Blk.low h.p hb (by omega), h.no⟩

section
attribute [local go_sem] Oper.semAt_some
set_option maxRecDepth 100000 in
set_option maxHeartbeats 4000000 in
theorem tunumber_any (A : Option Addr) (c : Nat) (L : List Nat) (n : Nat) (ax : Int) (w : World) (ha : Reads w w.heap.size 1 A L.length ((iL L).map iv)) (hL : L.length ≤ 100) (hpos : ∀ x ∈ L, 0 < x) (hx : ∀ x ∈ L, x ≤ 4096) (hn : n ≤ 4096) (hax : -1 ≤ ax) (hax2 : ax ≤ 100) :
    Calls Try.prog 202 #[.slice A L.length c, .int .i64 (n : Int), .int .i64 ax] w fun e w' => e = .returned (.int .i64 (numV L n ax)) ∧ Below w.heap.size w w' := by
  obtain ⟨z, hz⟩ : ∃ z, w.heap.size = z := ⟨_, rfl⟩
  obtain ⟨W2, hW2⟩ : ∃ W2, (w.alloc (.cells #[.int .i64 ax] 3)).alloc (.cells #[.int .i64 0] 3) = W2 := ⟨_, rfl⟩
  have hs2 : W2.heap.size = z + 2 := by rw [← hW2]; simp [hz]
  obtain ⟨W3, hW3⟩ : ∃ W3, (W2.alloc (.cells #[.slice A L.length c] 130)).alloc (.cells #[.int .i64 (n : Int)] 3) = W3 := ⟨_, rfl⟩
  have hs3 : W3.heap.size = z + 4 := by rw [← hW3]; simp [hs2]
  have hb2 : Below z w W2 := by
    rw [← hW2, ← hz]
    exact mobelow2 _ _
  have hb23 : Below (z + 2) W2 W3 := by
    rw [← hW3, ← hs2]
    exact mobelow2 _ _
  have j0 : Blk W2 z 3 #[.int .i64 ax] := by
    rw [← hW2, ← hz]
    exact (Blk.new w _ _).alloc _
  have j1 : Blk W2 (z + 1) 3 #[.int .i64 0] := by
    have h := Blk.new (w.alloc (.cells #[.int .i64 ax] 3)) 3 #[.int .i64 0]
    rw [World.size_alloc, hz, hW2] at h
    exact h
  have k2 : Blk W3 (z + 2) 130 #[.slice A L.length c] := by
    rw [← hW3, ← hs2]
    exact (Blk.new W2 _ _).alloc _
  have k3 : Blk W3 (z + 3) 3 #[.int .i64 (n : Int)] := by
    have h := Blk.new (W2.alloc (.cells #[.slice A L.length c] 130)) 3 #[.int .i64 (n : Int)]
    rw [World.size_alloc, hs2, hW3] at h
    exact h
  have HI0 : Hid (NbI w z A c L n ax 0 W3) := Lib.hid ⟨hb2.trans (hb23.mono (by omega)), Blk.low j0 hb23 (by omega), Blk.low j1 hb23 (by omega), k2, k3, fun j hj => by omega⟩
  have hNT := numbers_turns 8 (by omega) (by omega) (z + 2) (z + 3) A c L n hL hpos hx hn W3
  have HNT := Lib.hid hNT
  have HRA : Hid (∀ k W, NbI w z A c L n ax k W → NmPre (z + 2) (z + 3) A c L n W) := Lib.hid (fun k W h => ⟨h.s.cell 0, h.p.cell 0, by
    have h2 := h.b
    rw [← hz] at h2
    exact (ha.below h2).more h2.size⟩)
  have HNV : Hid (∀ k, k < L.length → ((L.length - 1 - k : Nat) : Int) = ax → numV L n ax = ((numN L n (L.length - 1 - k) : Nat) : Int)) := Lib.hid (fun k hk e => by
    unfold numV
    rw [← e, if_pos ⟨by omega, by omega⟩, Int.toNat_natCast])
  have HNO : Hid ((∀ j, j < L.length → ((L.length - 1 - j : Nat) : Int) ≠ ax) → numV L n ax = 0) := Lib.hid (fun h => by
    unfold numV
    rw [if_neg]
    rintro ⟨h1, h2⟩
    exact h (L.length - 1 - ax.toNat) (by omega) (by omega))
  have HNB := Lib.hid (fun k => numN_le L n k)
  obtain ⟨R, hR⟩ : ∃ R, numV L n ax = R := ⟨_, rfl⟩
  rw [hR] at HNV HNO
  rw [hR]
  have HS3 := Lib.hid hs3
  have HZ := Lib.hid hz
  have HW3 := Lib.hid hW3
  have HN4 := Lib.hid hn
  obtain ⟨N, hN⟩ : ∃ N, L.length = N := ⟨_, rfl⟩
  have HN := Lib.hid hN
  rw [hN] at hL HNV HNO HNT
  rw [hN]
  clear hs3 hb2 hb23 j0 j1 k2 k3 hNT ha hpos hx hR hW3 hn hN
  have hfp : Fence.wide.fn 215 := trivial
  refine (callsIn_wide (n := 9)).1 ?_
  refine callsIn_of_wp_marks Try.func202 rfl trivial ?_
  simp only [Try.ntmps202, List.size_toArray, List.length_cons, List.length_nil, Nat.reduceAdd, Nat.reduceSub, Array.replicate_succ, Array.replicate_zero, List.push_toArray, List.append_toArray, List.nil_append, List.cons_append]
  gi_wp2
  refine wpIn_scope_wide ?_
  gi_wp2
  refine wpIn_label ?_
  gi_wp2_with (gi_at_call 215; refine (callsIn_wide.2 (tunumbers_any _ _ _ _ _)).mono ?_; rintro e w7 ⟨rfl, hw7⟩)
  obtain rfl : W3 = w7 := by rw [← HW3.out, ← hw7, HN.out]
  clear hw7 hW2 hs2
  simp only [Nat.add_assoc, Nat.reduceAdd]
  refine wpIn_rangeFunc_turns rfl (by omega) (gf := 217) (lb := #[.pointer (some ⟨z + 3, 0, none⟩), .pointer (some ⟨z + 2, 0, none⟩)]) rfl trivial (enters_of Try.func217 (by kernel_rfl) rfl)
    HNT.out (Below.refl _ _) (fun _ => rfl)
    (NbI w z A c L n ax)
    (fun cc W' => cc = .exit 0 ∧ Below z w W' ∧ Blk W' (z + 1) 3 #[.int .i64 R])
    (fun k W1 W2 h hb => h.low (hb.mono (by have := HS3.out; omega)))
    (fun cc W1 W2 h hb => ⟨h.1, h.2.1.trans (hb.mono (by have := HS3.out; omega)), Blk.low h.2.2 hb (by have := HS3.out; omega)⟩)
    (fun k W' h => HRA.out k W' h)
    HI0.out
    (fun k a' W' => a' = { tmps := #[.slice A N c, .int .i64 (n : Int), .int .i64 ax, undef, undef, .pointer (some ⟨z, 0, none⟩), .pointer (some ⟨z + 1, 0, none⟩), .int .i64 ((N : Int) - 1 - (k : Int)), .int .i64 ((numN L n (N - 1 - k) : Nat) : Int), .slice A N c, .int .i64 (n : Int), .func (.func 217) #[] #[.pointer (some ⟨z + 3, 0, none⟩), .pointer (some ⟨z + 2, 0, none⟩)], .int .i64 ((N : Int) - 1 - (k : Int)), .int .i64 ((numN L n (N - 1 - k) : Nat) : Int), undef, undef, undef, undef, undef], defers := [] } ∧ NbI w z A c L n ax k W')
    (fun k a' W' l r r' hl _ h => ⟨h.1, h.2.low (below_putObj (by have := HS3.out; omega) _)⟩)
    ?assign ?body ?done ?stop
  case assign =>
    intro l k W' K hk hI hK
    have HK := Lib.hid hK
    have HI := Lib.hid hI
    have e : nmAt L n k = #[.int .i64 ((N : Int) - 1 - (k : Int)), .int .i64 ((numN L n (N - 1 - k) : Nat) : Int)] := by
      unfold nmAt
      rw [HN.out]
    rw [e]
    generalize (N : Int) - 1 - (k : Int) = ax at *
    generalize ((numN L n (N - 1 - k) : Nat) : Int) = ln at *
    clear hK hI e
    gi_wp2
    exact HK.out _ _ (Above.refl _ _) ⟨rfl, HI.out⟩
  case body =>
    rintro l k a' Wq hk ⟨rfl, hI⟩
    have y0 := hI.x.cell 0
    have y1 := hI.r.cell 0
    have f1 := hI.r.frozen 0
    have HI := Lib.hid hI
    have HK := Lib.hid hk
    have e1 : (N : Int) - 1 - (k : Int) = ((N - 1 - k : Nat) : Int) := by omega
    have hnv := HNV.out k hk
    have hs3 := HS3.out
    rw [e1]
    obtain ⟨at_, hat⟩ : ∃ a, N - 1 - k = a := ⟨_, rfl⟩
    rw [hat] at hnv ⊢
    have HAT := Lib.hid hat
    have hq4 := HNB.out at_
    have hn4 := HN4.out
    generalize numN L n at_ = q at *
    clear e1 hI hk hat
    by_cases hc : ((at_ : Nat) : Int) = ax
    · have hR := hnv hc
      subst hR
      subst hc
      have hb : ((at_ : Int) == (at_ : Int)) = true := by simp
      clear hnv
      gi_wp2
      have hz := HZ.out
      have hk2 : Keep (fun i => i = z + 1) Wq (Wq.setCell ⟨z + 1, 0, none⟩ (.int .i64 (q : Int))) := (Keep.refl _ _).setCell _ _ (fun _ => rfl)
      exact ⟨Above.setCell _ _ (by show z + 1 < _; omega) _, rfl, HI.out.b.trans (hk2.below (B := z) (by have := HI.out.x.lt; omega) (fun i hi e => by omega)), HI.out.r.set_ 0 _⟩
    · have hb : ((at_ : Int) == ax) = false := by rw [beq_eq_false_iff_ne]; exact hc
      have HC := Lib.hid hc
      clear hnv hc
      gi_wp2
      refine ⟨Above.refl _ _, HI.out.b, HI.out.x, HI.out.r, HI.out.s, HI.out.p, fun j hj => ?_⟩
      rcases Nat.lt_or_ge j k with h | h
      · exact HI.out.no j h
      · obtain rfl : j = k := by omega
        rw [HN.out, HAT.out]
        exact HC.out
  case done =>
    rintro D W' hD hI hK
    have hR := HNO.out (by have := hI.no; rwa [HN.out] at this)
    subst hR
    have y1 := hI.r.cell 0
    have f1 := hI.r.frozen 0
    have HI := Lib.hid hI
    have HKK := Lib.hid hK
    have hs3 := HS3.out
    clear hI hK
    gi_wp2
    have hz := HZ.out
    have hl : z + 1 < W'.heap.size := HI.out.r.lt
    have hk2 : Keep (fun i => i = z + 1) W' (W'.setCell ⟨z + 1, 0, none⟩ (.int .i64 0)) := (Keep.refl _ _).setCell _ _ (fun _ => rfl)
    have hKD := (hk2.block D (Array.getElem?_eq_some_iff.1 HKK.out).1 (by omega)).trans HKK.out
    have hp : Keep (fun k => k = D) (W'.setCell ⟨z + 1, 0, none⟩ (.int .i64 0)) ((W'.setCell ⟨z + 1, 0, none⟩ (.int .i64 0)).putObj D (.deferred none)) := (Keep.refl _ _).grown (grownBy_putObj' _ D _) (fun k e _ => by injection e with e; exact e.symm)
    refine ⟨by simp, .inl ⟨_, _, rfl, run_takeDeferred hKD, ⟨_, results_int1 rfl rfl (hp.blk (HI.out.r.set_ 0 _) (by omega)), rfl, ?_⟩⟩⟩
    rw [hz]
    exact (HI.out.b.trans (hk2.below (B := z) (by omega) (fun i hi e => by omega))).trans (hp.below (B := z) (by have := hk2.size; omega) (fun i hi e => by omega))
  case stop =>
    rintro D c' W' hD ⟨rfl, hb, hr⟩ hK
    have y1 := hr.cell 0
    have f1 := hr.frozen 0
    have HB := Lib.hid hb
    have HR := Lib.hid hr
    have HKK := Lib.hid hK
    have hs3 := HS3.out
    clear hb hr hK
    gi_wp2
    rw [Exit.noGoto_ret]
    have hz := HZ.out
    have hl : z + 1 < W'.heap.size := HR.out.lt
    have hk2 : Keep (fun i => i = z + 1) W' (W'.setCell ⟨z + 1, 0, none⟩ (.int .i64 R)) := (Keep.refl _ _).setCell _ _ (fun _ => rfl)
    have hKD := (hk2.block D (Array.getElem?_eq_some_iff.1 HKK.out).1 (by omega)).trans HKK.out
    have hp : Keep (fun k => k = D) (W'.setCell ⟨z + 1, 0, none⟩ (.int .i64 R)) ((W'.setCell ⟨z + 1, 0, none⟩ (.int .i64 R)).putObj D (.deferred none)) := (Keep.refl _ _).grown (grownBy_putObj' _ D _) (fun k e _ => by injection e with e; exact e.symm)
    refine ⟨by simp, .inl ⟨_, _, rfl, run_takeDeferred hKD, ⟨_, results_int1 rfl rfl (hp.blk (HR.out.set_ 0 _) (by omega)), rfl, ?_⟩⟩⟩
    rw [hz]
    exact (HB.out.trans (hk2.below (B := z) (by omega) (fun i hi e => by omega))).trans (hp.below (B := z) (by have := hk2.size; omega) (fun i hi e => by omega))
end
end Go.Proofs.Ytkabdkblcgklmaa.tu

namespace Go.Proofs.Ytkabdkblcgklmaa.tu
open Go.RowKit Go.Proofs.Ytkabdkblcgklmaa.arr Go.Proofs.Ytkabdkblcgklmaa.mo

set_option maxHeartbeats 1000000 in
theorem tuclone_any (A : Option Addr) (n c : Nat) (l : List Int) (w : World) (hl : l.length = n) (hr : Reads w w.heap.size 1 A n (l.map iv)) (hn : n ≤ 1000000) :
    Calls Try.prog 199 #[.slice A n c] w fun e w' => ∃ A' c', e = .returned (.slice A' n c') ∧ w'.ownsRow w.heap.size 3 1 (.slice A' n c') n (l.map iv) ∧ Below w.heap.size w w' := by
  obtain ⟨i0, hi, hz0, hz1, hz2⟩ := info_parts arInfoInt
  have q : ∀ (w : World) (a : Option Addr) (n c n' c' : Nat), (binOp .eql 130 (.slice a n c) (.slice none n' c')).run Try.prog w = .ok (.bool a.isNone) w := fun w a n c n' c' => Lib.run_eql_slice_nil w _ _ a n c n' c' Try.underlying130
  have z5 : ∀ w, Sem.run Try.prog (Go.sizeOf 3) w = .ok 1 w := fun w => by simp [Go.sizeOf, typeInfo, hi, hz1]
  rcases A with _ | ad
  · have h0 : n = 0 := by
      rcases Nat.eq_zero_or_pos n with h0 | h0
      · exact h0
      · obtain ⟨ad, h, _⟩ := hr.2 h0
        cases h
    subst h0
    obtain rfl : l = [] := List.eq_nil_of_length_eq_zero hl
    clear hr
    go_enter Try.func199, Try.ntmps199
    go_wp2
    go_ret
    exact ⟨none, 0, rfl, World.ownsRow_nil _ _ _ _, Below.refl _ _⟩
  · go_enter Try.func199, Try.ntmps199
    go_wp2_with (at_builtin; refine wpList_append_any _ rfl _ _ 130 rfl w.heap.size 3 i0 (.int .i64 0) 1 8 Try.underlying130 hi hz0 hz1 hz2 rfl (by decide) _ _ _ rfl (World.ownsRow_made w #[] 0 (Nat.le_refl _) (Nat.zero_le _) rfl) w.heap.size (some ad) n c (l.map iv) rfl (hr.alloc (Nat.le_refl _) _) (iv_one l) (by unfold maxLen; omega) (by omega) (by simp) ?_)
    intro v' w1 hown hgrow hat
    have hB : Below w.heap.size w w1 := ((Below.refl _ w).alloc (Nat.le_refl _) _).grown hgrow (by simp) (by intro k hk; simp [Value.ownBlock] at hk; omega)
    have hO : w1.ownsRow w.heap.size 3 1 v' n (l.map iv) := by simpa using hown
    obtain ⟨A', c', rfl⟩ : ∃ A' c', v' = .slice A' n c' := by
      rcases hO.2 with ⟨rfl, h0⟩ | ⟨g, cap, cur, e, hb, _⟩
      · exact ⟨none, 0, by rw [h0]⟩
      · exact ⟨_, cap, e⟩
    have HB := Lib.hid hB
    have HO := Lib.hid hO
    clear hat hB hO hown hgrow hr
    go_wp2
    go_ret
    exact ⟨_, _, rfl, HO.out, HB.out⟩

/-- How many elements a row has. -/
def rowN (L : List Nat) : Nat := if L.length = 0 then 1 else L.getD (L.length - 1) 1
end Go.Proofs.Ytkabdkblcgklmaa.tu

namespace Go.Proofs.Ytkabdkblcgklmaa.tu
open Go.RowKit Go.Proofs.Ytkabdkblcgklmaa.arr Go.Proofs.Ytkabdkblcgklmaa.mo

theorem tugather1_any (n : Nat) (N : Int) (b6 b3 rg : Nat) (rcap : Array Value) (hrg : ∀ args w, (callFunc rg args).run Try.prog w = .ok (.enter rg args) w) (V : Int) (w : World) (hn : (n : Int) < N)
    (x6 : Blk w b6 3 #[.int .i64 N]) (x3 : Blk w b3 210 #[.func (.func rg) #[] rcap])
    (hc : Calls Try.prog rg (#[.int .i64 (n : Int)] ++ rcap) w fun e w' => e = .returned (.int .i64 V) ∧ Below w.heap.size w w') :
    Calls Try.prog 214 #[.int .i64 (n : Int), .pointer (some ⟨b6, 0, none⟩), .pointer (some ⟨b3, 0, none⟩)] w fun e w' => e = .returned (.tuple #[.int .i64 0, .int .i64 V]) ∧ Below w.heap.size w w' := by
  have c6 := x6.cell 0
  have c3 := x3.cell 0
  have h1 : ¬ N ≤ (n : Int) := by omega
  have HC := Lib.hid hc
  clear hc x6 x3
  go_enter Try.func214, Try.ntmps214
  go_wp2_with ((with_reducible refine HC.out.mono ?_); rintro e w2 ⟨rfl, b2⟩)
  go_ret2
  exact ⟨rfl, b2⟩

/-- The blocks of S, where they are cells, are as they were. -/
structure SinP (S : Nat → Prop) (w w' : World) : Prop where
  size : w.heap.size ≤ w'.heap.size
  block : ∀ (k : Nat) (cs : Array Value) (t : TypeId) (fr : Nat × Nat), S k → w.heap[k]? = some (.cells cs t fr) → w'.heap[k]? = some (.cells cs t fr)
theorem SinP.of {S : Nat → Prop} {w w' : World} (h : Below w.heap.size w w') : SinP S w w' := ⟨h.size, fun k _ _ _ _ hk => (h.block k (Array.getElem?_eq_some_iff.1 hk).1).trans hk⟩
theorem SinP.on {S : Nat → Prop} {w w1 w2 : World} (h : SinP S w w1) (k : SinP S w1 w2) : SinP S w w2 := ⟨Nat.le_trans h.size k.size, fun i cs t fr hi hk => k.block i cs t fr hi (h.block i cs t fr hi hk)⟩
theorem SinP.less {S T : Nat → Prop} {w w' : World} (h : SinP T w w') (hS : ∀ k, S k → T k) : SinP S w w' := ⟨h.size, fun i cs t fr hi hk => h.block i cs t fr (hS i hi) hk⟩
theorem SinP.keep {S T : Nat → Prop} {w w' : World} (h : Keep T w w') (hS : ∀ i, S i → ¬ T i) : SinP S w w' := ⟨h.size, fun k _ _ _ hk hc => (h.block k (Array.getElem?_eq_some_iff.1 hc).1 (hS k hk)).trans hc⟩
theorem SinP.sin {S : Nat → Prop} {B : Nat} {w w' : World} (h : Sin B w w') (hS : ∀ k, S k → B ≤ k) : SinP S w w' := ⟨h.size, fun k cs t fr hk hc => h.block k cs t fr (hS k hk) hc⟩
theorem SinP.blk_ {S : Nat → Prop} {g : Nat} {w w' : World} {t : TypeId} {cs : Array Value} (h : SinP S w w') (hb : Blk w g t cs) (hg : S g) : Blk w' g t cs := h.block g cs t _ hg hb
theorem SinP.own_ {S : Nat → Prop} {base size n : Nat} {w w' : World} {e : TypeId} {v : Value} {xs : List Value} (h : SinP S w w') (ho : w.ownsRow base e size v n xs) (hg : ∀ k, v.ownBlock = some k → S k) : w'.ownsRow base e size v n xs := by
  refine ⟨ho.1, ?_⟩
  rcases ho.2 with hv | ⟨g, cap, cur, rfl, hb, hh, h1, h2, h3, h4⟩
  · exact .inl hv
  · exact .inr ⟨g, cap, cur, rfl, hb, h.block g _ _ _ (hg g (by simp [Value.ownBlock])) hh, h1, h2, h3, h4⟩
theorem own_base {B base size n : Nat} {w : World} {e : TypeId} {v : Value} {xs : List Value} (ho : w.ownsRow base e size v n xs) (hg : ∀ k, v.ownBlock = some k → B ≤ k) : w.ownsRow B e size v n xs := by
  refine ⟨ho.1, ?_⟩
  rcases ho.2 with hv | ⟨g, cap, cur, rfl, hb, hh, h1, h2, h3, h4⟩
  · exact .inl hv
  · exact .inr ⟨g, cap, cur, rfl, hg g (by simp [Value.ownBlock]), hh, h1, h2, h3, h4⟩
/-- v is a gather map that stands on the blocks of S. -/
def WayP (S : Nat → Prop) (W : World) (v : Value) (sh : List Int) (f : Nat → Int × Int) : Prop :=
  ∃ (A : Option Addr) (c gf : Nat) (cap : Array Value), v = .agg #[.slice A sh.length c, .func (.func gf) #[] cap] ∧ W.ownsRow 0 3 1 (.slice A sh.length c) sh.length (sh.map iv) ∧ (∀ k, (Value.slice A sh.length c).ownBlock = some k → S k) ∧
    (∀ args w, (callFunc gf args).run Try.prog w = .ok (.enter gf args) w) ∧
    ∀ W', SinP S W W' → ∀ n : Nat, (n : Int) < prodI sh → Calls Try.prog gf (#[.int .i64 (n : Int)] ++ cap) W' fun e w' => e = .returned (.tuple #[.int .i64 (f n).1, .int .i64 (f n).2]) ∧ Below W'.heap.size W' w'
theorem WayP.sin {S : Nat → Prop} {W W' : World} {v : Value} {sh : List Int} {f : Nat → Int × Int} (h : WayP S W v sh f) (hs : SinP S W W') : WayP S W' v sh f := by
  obtain ⟨A, c, gf, cap, h1, h2, h3, h4, h5⟩ := h
  exact ⟨A, c, gf, cap, h1, hs.own_ h2 h3, h3, h4, fun W2 h6 => h5 W2 (hs.on h6)⟩
theorem WayP.more {S T : Nat → Prop} {W : World} {v : Value} {sh : List Int} {f : Nat → Int × Int} (h : WayP S W v sh f) (hs : ∀ k, S k → T k) : WayP T W v sh f := by
  obtain ⟨A, c, gf, cap, h1, h2, h3, h4, h5⟩ := h
  exact ⟨A, c, gf, cap, h1, h2, fun k hk => hs k (h3 k hk), h4, fun W2 h6 => h5 W2 (h6.less hs)⟩
theorem WayP.at_ {S : Nat → Prop} {B : Nat} {W : World} {v : Value} {sh : List Int} {f : Nat → Int × Int} (h : WayP S W v sh f) (hs : ∀ k, S k → B ≤ k) (hB : B ≤ W.heap.size) : WayAt B W v sh f := by
  obtain ⟨A, c, gf, cap, h1, h2, h3, h4, h5⟩ := h
  exact ⟨A, c, gf, cap, h1, own_base h2 (fun k hk => hs k (h3 k hk)), hB, h4, fun W2 h6 => h5 W2 (SinP.sin h6 hs)⟩
/-- What a call for a gather map answers. -/
def GiveP (S : Nat → Prop) (sh : List Int) (f : Nat → Int × Int) (E : Int) (w : World) (e : Ending) (w' : World) : Prop :=
  ∃ v, e = .returned (.tuple #[v, .int .i64 E]) ∧ Below w.heap.size w w' ∧ (E = 0 → okShape sh = true ∧ WayP S w' v sh f) ∧ (E ≠ 0 → v = noW)
theorem GiveP.no {S : Nat → Prop} {sh : List Int} {f : Nat → Int × Int} {E : Int} {w w' : World} (h : E ≠ 0) (hb : Below w.heap.size w w') : GiveP S sh f E w (.returned (.tuple #[noW, .int .i64 E])) w' := ⟨_, rfl, hb, fun e => absurd e h, fun _ => rfl⟩

set_option maxRecDepth 100000 in
set_option maxHeartbeats 4000000 in
theorem tugather_any (S : Nat → Prop) (A : Option Addr) (c : Nat) (sh : List Int) (rg : Nat) (rcap : Array Value) (hrg : ∀ args w, (callFunc rg args).run Try.prog w = .ok (.enter rg args) w) (g : Nat → Int) (w : World)
    (ha : Reads w w.heap.size 1 A sh.length (sh.map iv)) (hs : sh.length ≤ 9223372036854775807)
    (hr : okShape sh = true → ∀ W', SinP S w W' → ∀ n : Nat, (n : Int) < prodI sh → Calls Try.prog rg (#[.int .i64 (n : Int)] ++ rcap) W' fun e w' => e = .returned (.int .i64 (g n)) ∧ Below W'.heap.size W' w') :
    Calls Try.prog 200 #[.slice A sh.length c, .func (.func rg) #[] rcap] w (GiveP (fun k => S k ∨ (w.heap.size ≤ k ∧ k ≠ w.heap.size + 1)) sh (fun n => (0, g n)) (if okShape sh = true then 0 else 110) w) := by
  have hb2 := mobelow2 (w := w) (.cells #[.func (.func rg) #[] rcap] 210) (.cells #[.slice none 0 0, .nilFunc] 87)
  have h3 := (Blk.new w 210 #[.func (.func rg) #[] rcap]).alloc (.cells #[.slice none 0 0, .nilFunc] 87)
  have h4 := Blk.new (w.alloc (.cells #[.func (.func rg) #[] rcap] 210)) 87 #[.slice none 0 0, .nilFunc]
  rw [World.size_alloc] at h4
  have HC := Lib.hid (arcount_any A c sh.length sh _ rfl ((ha.below hb2).more hb2.size) hs)
  obtain ⟨w1, hw1⟩ : ∃ w1, (w.alloc (.cells #[.func (.func rg) #[] rcap] 210)).alloc (.cells #[.slice none 0 0, .nilFunc] 87) = w1 := ⟨_, rfl⟩
  rw [hw1] at HC hb2 h3 h4
  have hsz : w1.heap.size = w.heap.size + 2 := by rw [← hw1]; simp
  cases hok : okShape sh
  · obtain ⟨e1, e2⟩ := cnt_no hok
    rw [e1, e2] at HC
    rw [if_neg (by decide)]
    have h5 := h4.alloc (.cells #[.int .i64 0] 3)
    have hb3 := bon hb2 (albel w1 (.cells #[.int .i64 0] 3))
    have x0 := h5.cell 0
    have x1 := h5.cell 1
    have f0 := h5.frozen 0
    have f1 := h5.frozen 1
    have H5 := Lib.hid h5
    have HB3 := Lib.hid hb3
    clear hr ha h3 h4 h5 hb2 hb3 hok e1 e2 hsz
    go_enter Try.func200, Try.ntmps200
    go_wp2_with (go_at_call 63; (try rw [hw1]); refine HC.out.mono ?_; rintro e _ ⟨rfl, rfl⟩)
    refine bodyPost_ret (results_way2 rfl rfl rfl (moblk_two _ _ H5.out)) rfl ?_
    exact GiveP.no (by decide) (HB3.out.trans ((mokeep_two _ _ _ _).below HB3.out.size (fun i hi e => by omega)))
  · obtain ⟨e1, e2⟩ := cnt_ok hok
    rw [e1, e2] at HC
    rw [if_pos rfl]
    have HR := Lib.hid (hr hok)
    have hs4 := (okShape_iff.1 hok).1
    generalize hq : prodI sh = q at *
    have h5 := h4.alloc (.cells #[.int .i64 q] 3)
    have h53 := h3.alloc (.cells #[.int .i64 q] 3)
    have h55 := Blk.new w1 3 #[.int .i64 q]
    have hb3 := bon hb2 (albel w1 (.cells #[.int .i64 q] 3))
    have HCL := Lib.hid (tuclone_any A sh.length c sh _ rfl ((ha.below hb3).more hb3.size) (by omega))
    obtain ⟨w2, hw2⟩ : ∃ w2, w1.alloc (.cells #[.int .i64 q] 3) = w2 := ⟨_, rfl⟩
    rw [hw2] at HCL h5 h53 h55 hb3
    have hsz2 : w2.heap.size = w.heap.size + 3 := by rw [← hw2]; simp [hsz]
    have H5 := Lib.hid h5
    have H53 := Lib.hid h53
    have H55 := Lib.hid h55
    have HB3 := Lib.hid hb3
    have HS := Lib.hid hsz
    have HS2 := Lib.hid hsz2
    have HQ := Lib.hid hq
    have HW2 := Lib.hid hw2
    clear hr ha h3 h4 h5 h53 h55 hb2 hb3 e1 e2 hsz hq hsz2
    go_enter Try.func200, Try.ntmps200
    go_wp2_with (first
      | (go_at_call 63; (try rw [hw1]); refine HC.out.mono ?_; rintro e _ ⟨rfl, rfl⟩)
      | (go_at_call 199; (try rw [hw2]); refine HCL.out.mono ?_; rintro e w3 ⟨A', c', rfl, o3, b3⟩
         have O3 := Lib.hid o3
         have B3 := Lib.hid b3
         have h6 := H5.out.below b3 H5.out.lt
         have x0 := h6.cell 0
         have x1 := h6.cell 1
         have f0 := h6.frozen 0
         have f1 := h6.frozen 1
         have H6 := Lib.hid h6
         clear o3 b3 h6))
    refine bodyPost_ret (results_way2 rfl rfl rfl (moblk_two _ _ H6.out)) rfl ?_
    have hk := mokeep_two w3 (w.heap.size + 1) (.slice A' sh.length c') (.func (.func 214) #[] #[.pointer (some ⟨w1.heap.size, 0, none⟩), .pointer (some ⟨w.heap.size, 0, none⟩)])
    have hb5 := bon HB3.out B3.out
    have hb4 := hb5.trans (hk.below hb5.size (fun i hi e => by omega))
    have hsz := HS.out
    have hsz2 := HS2.out
    have hq := HQ.out
    subst hq
    have hnew : ∀ k, (Value.slice A' sh.length c').ownBlock = some k → w.heap.size + 3 ≤ k := fun k hk9 => by have := (arown_lt O3.out k hk9).1; omega
    refine ⟨_, rfl, hb4, fun _ => ⟨hok, A', c', 214, _, rfl, arown_mono (hk.own O3.out (fun b hb e => by have := hnew b hb; omega)) (Nat.zero_le _), fun k hk9 => .inr (by have := hnew k hk9; omega), enters_of Try.func214 (by kernel_rfl) rfl, fun W' hs' n hn => ?_⟩, fun h => absurd rfl h⟩
    have k3 := hs'.blk_ (hk.blk (H53.out.below B3.out H53.out.lt) (by omega)) (.inr (by omega))
    have k6 := hs'.blk_ (hk.blk (H55.out.below B3.out H55.out.lt) (by omega)) (.inr (by omega))
    exact tugather1_any n (prodI sh) w1.heap.size w.heap.size rg rcap hrg _ W' hn k6 k3 (HR.out W' ((SinP.of hb4).on (hs'.less (fun k h => .inl h))) n hn)
end Go.Proofs.Ytkabdkblcgklmaa.tu

namespace Go.Proofs.Ytkabdkblcgklmaa.tu
open Go.RowKit Go.Proofs.Ytkabdkblcgklmaa.arr Go.Proofs.Ytkabdkblcgklmaa.mo

theorem prodN_nil : prodN [] = 1 := rfl
theorem numV_last (L : List Nat) (n : Nat) : numV L n ((L.length : Int) - 1) = ((n % rowN L : Nat) : Int) := by
  unfold numV rowN
  rcases Nat.eq_zero_or_pos L.length with h0 | h0
  · rw [h0, if_pos rfl, if_neg (by omega), Nat.mod_one]
    rfl
  · rw [if_pos (by omega), if_neg (by omega)]
    unfold numN
    rw [show ((L.length : Int) - 1).toNat = L.length - 1 by omega, show L.length - 1 + 1 = L.length by omega, List.drop_length, prodN_nil, Nat.div_one]
theorem rowN_pos {L : List Nat} (h : ∀ x ∈ L, 0 < x) : 0 < rowN L := by
  unfold rowN
  split
  · omega
  · rename_i h0
    rw [List.getD_eq_getElem?_getD, List.getElem?_eq_getElem (by omega)]
    exact h _ (List.getElem_mem _)
theorem rowN_le {L : List Nat} (h : ∀ x ∈ L, x ≤ 4096) : rowN L ≤ 4096 := by
  unfold rowN
  split
  · omega
  · rename_i h0
    rw [List.getD_eq_getElem?_getD, List.getElem?_eq_getElem (by omega)]
    exact h _ (List.getElem_mem _)
theorem rowI_iL (L : List Nat) : (if (iL L).length = 0 then 1 else (iL L).getD ((iL L).length - 1) 1) = ((rowN L : Nat) : Int) := by
  unfold rowN
  rw [iL_length]
  split
  · rfl
  · rename_i h0
    rw [List.getD_eq_getElem?_getD, List.getD_eq_getElem?_getD, List.getElem?_eq_getElem (show L.length - 1 < (iL L).length by rw [iL_length]; omega), List.getElem?_eq_getElem (show L.length - 1 < L.length by omega)]
    exact List.getElem_map (f := fun n : Nat => (n : Int)) ..

end Go.Proofs.Ytkabdkblcgklmaa.tu

namespace Go.Proofs.Ytkabdkblcgklmaa.tu
open Go.RowKit Go.Proofs.Ytkabdkblcgklmaa.arr Go.Proofs.Ytkabdkblcgklmaa.mo

def rowS (sh : List Int) : Nat := rowN (sh.map Int.toNat)
theorem shape_nat {sh : List Int} (h : okShape sh = true) : ∃ L, sh = iL L ∧ sh.map Int.toNat = L ∧ (∀ x ∈ L, x ≤ 4096) ∧ L.length ≤ 4 ∧ prodI sh = (prodN L : Int) ∧ prodN L ≤ 4096 := by
  obtain ⟨L, rfl, hL⟩ := nat_of (okShape_iff.1 h).2.1
  have h1 := (okShape_iff.1 h).1
  have h2 := (okShape_iff.1 h).2.2
  rw [iL_length] at h1
  rw [prod_iL] at h2
  exact ⟨L, rfl, map_toNat L, hL, h1, prod_iL L, by omega⟩
theorem shape_pos {L : List Nat} {n : Nat} (hn : n < prodN L) : ∀ x ∈ L, 0 < x := pos_all (by omega)
def withF (sh : List Int) (V : Nat → Nat) (n : Nat) : Int × Int := (0, ((n - n % rowS sh : Nat) : Int) + (V n : Int))

end Go.Proofs.Ytkabdkblcgklmaa.tu

/-
  Layer 13 (mold): the laws' is and matrix.
  Layer 13 (mold): the laws' alive.
-/
import Derived.Test.YtkabdkblcgklmaaMoCatE
import Derived.Test.YtkabdkblcgklmaaArSame
import Derived.Test.YtkabdkblcgklmaaMoTake
import Derived.Test.YtkabdkblcgklmaaArAlive
import Derived.Test.YtkabdkblcgklmaaDone
namespace Go.Proofs.Ytkabdkblcgklmaa.mo
open Go.RowKit Go.Proofs.Ytkabdkblcgklmaa.arr

theorem reads_blk {W : World} {g n : Nat} {t : TypeId} {xs : List Value} (h : Blk W g t xs.toArray) (hn : xs.length = n) : Reads W W.heap.size 1 (some ⟨g, 0, none⟩) n xs := by
  subst hn
  refine ⟨by rw [Nat.mul_one], fun _ => ⟨_, rfl, h.lt, fun j u hu => ?_⟩⟩
  rw [Addr.add_mid, Nat.zero_add, h.cell j, List.getElem?_toArray]
  exact hu
/-- An array that a call answers. -/
def GiveX (a : AV) (w : World) (e : Ending) (w' : World) : Prop := ∃ p, e = .returned (.agg (arC a p)) ∧ AEl w' a p ∧ Cap a p ∧ Below w.heap.size w w'
theorem l13scalar (n : Int) (h0 : -9223372036854775808 ≤ n) (h1 : n ≤ 9223372036854775807) (w : World) : Calls Try.prog 24 #[.int .i64 n] w (GiveX ⟨1, [], [n]⟩ w) :=
  (arscalar_any n w).mono (by
    rintro e w' ⟨v, rfl, p, rfl, o, b⟩
    exact ⟨p, rfl, o.el (by simp) (by simp) (fun z hz => by rw [List.mem_singleton] at hz; omega), Cap.of o, b⟩)
theorem l13vector (l : List Int) (hl : l.length ≤ 1000000) (hf : ∀ z ∈ l, -9223372036854775808 ≤ z ∧ z ≤ 9223372036854775807) (A : Option Addr) (n c : Nat) (w : World) (hn : l.length = n) (hr : Reads w w.heap.size 1 A n (l.map iv)) : Calls Try.prog 27 #[.slice A n c] w (GiveX ⟨1, [(l.length : Int)], l⟩ w) := by
  subst hn
  refine (arvector_any A l.length c l w rfl hr hl).mono ?_
  rintro e w' ⟨v, rfl, p, rfl, o, b⟩
  exact ⟨p, rfl, o.el (by simp) (by show l.length ≤ _; omega) hf, Cap.of o, b⟩
/-- An array that a call answers with an error. -/
def GiveT (X : AV) (E : Int) (w : World) (e : Ending) (w' : World) : Prop := ∃ p, e = .returned (.tuple #[.agg (arC X p), .int .i64 E]) ∧ AEl w' X p ∧ Cap X p ∧ Below w.heap.size w w'
def fineA (X : AV) : Bool := decide (X.sh.length ≤ 1000000) && (decide (X.el.length ≤ 1000000) && X.el.all (fun z => decide (-9223372036854775808 ≤ z) && decide (z ≤ 9223372036854775807)))
theorem GiveE.t {X Y : AV} {E F : Int} {w w' : World} {e : Ending} (h : GiveE X E w e w') (hX : X = Y) (hE : E = F) (hf : fineA Y = true) : GiveT Y F w e w' := by
  subst hX
  subst hE
  unfold fineA at hf
  rw [Bool.and_eq_true, Bool.and_eq_true, decide_eq_true_eq, decide_eq_true_eq, List.all_eq_true] at hf
  obtain ⟨f1, f2, f3⟩ := hf
  obtain ⟨p, rfl, o, b⟩ := h
  exact ⟨p, rfl, o.el (by omega) (by omega) (fun z hz => by
    have := f3 z hz
    rw [Bool.and_eq_true, decide_eq_true_eq, decide_eq_true_eq] at this
    exact this), Cap.of o, b⟩
theorem blk_up {W W' : World} {g : Nat} {t : TypeId} {cs : Array Value} (h : Blk W g t cs) (hb : Below W.heap.size W W') : Blk W' g t cs := h.below hb h.lt
/-- What is known of each value that a region makes. -/
def lookU : List (Nat × (Value → World → Prop)) → Nat → Value → World → Prop
  | [], _, _, _ => True
  | (k, P) :: l, j, v, W => if j = k then P v W else lookU l j v W
def stk (P : Value → World → Prop) : Prop := ∀ v W W', Below W.heap.size W W' → P v W → P v W'
theorem lookU_stay : ∀ {l : List (Nat × (Value → World → Prop))}, (∀ x ∈ l, stk x.2) → GU (lookU l)
  | [], _ => fun _ _ _ _ _ h => h
  | (k, P) :: l, hl => fun j v W W' hb h => by
    unfold lookU at *
    by_cases hk : j = k
    · rw [if_pos hk] at h ⊢
      exact hl (k, P) (List.mem_cons_self ..) v W W' hb h
    · rw [if_neg hk] at h ⊢
      exact lookU_stay (fun x hx => hl x (List.mem_cons_of_mem _ hx)) j v W W' hb h
def sl (n : Nat) (xs : Array Value) : Value → World → Prop := fun v W => ∃ g, v = .slice (some ⟨g, 0, none⟩) n n ∧ Blk W g 2 xs
def xa (a : AV) : Value → World → Prop := fun v W => ∃ p, v = .agg (arC a p) ∧ AEl W a p ∧ Cap a p
def xt (a : AV) (E : Int) : Value → World → Prop := fun v W => ∃ p, v = .tuple #[.agg (arC a p), .int .i64 E] ∧ AEl W a p ∧ Cap a p
def xv (x : Value) : Value → World → Prop := fun v _ => v = x
theorem sl_stk (n : Nat) (xs : Array Value) : stk (sl n xs) := fun v W W' hb h => by
  obtain ⟨g, h1, h2⟩ := h
  exact ⟨g, h1, blk_up h2 hb⟩
theorem xa_stk (a : AV) : stk (xa a) := fun v W W' hb h => by
  obtain ⟨p, h1, h2, h3⟩ := h
  exact ⟨p, h1, h2.below hb, h3⟩
theorem xt_stk (a : AV) (E : Int) : stk (xt a E) := fun v W W' hb h => by
  obtain ⟨p, h1, h2, h3⟩ := h
  exact ⟨p, h1, h2.below hb, h3⟩
theorem xv_stk (x : Value) : stk (xv x) := fun _ _ _ _ h => h
end Go.Proofs.Ytkabdkblcgklmaa.mo

namespace Go.Proofs.Ytkabdkblcgklmaa.mo
open Go.RowKit Go.Proofs.Ytkabdkblcgklmaa.arr

theorem lit_at {w W : World} {g : Nat} {t : TypeId} {xs : List Value} (hW : W = w.alloc (.cells xs.toArray t)) (hg : g = w.heap.size) : Reads W W.heap.size 1 (some ⟨g, 0, none⟩) xs.length xs := by
  subst hW
  subst hg
  exact lit_reads w t xs
end Go.Proofs.Ytkabdkblcgklmaa.mo

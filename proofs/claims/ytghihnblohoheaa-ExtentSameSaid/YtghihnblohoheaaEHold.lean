/-
  What stands taken behind takes, and is given back in order or in reverse; the walk's bundle for ExtentBack.
-/
import Derived.Test.YtghihnblohoheaaEFirst
namespace Go.Proofs.Ytghihnblohoheaa
open Go.RowKit

def inW (k : Nat) (r : Nat × Nat) : Bool := decide (r.1 ≤ k ∧ k < r.1 + r.2)
def holdR (L : List Bool) (xs : List (Nat × Nat)) : List Bool := L.mapIdx (fun k x => x || xs.any (inW k))
def hold (s : ESt) (xs : List (Nat × Nat)) : ESt := ⟨s.f, holdR s.L xs⟩
theorem holdR_at (L : List Bool) (xs : List (Nat × Nat)) (k : Nat) : (holdR L xs)[k]? = L[k]?.map (fun x => x || xs.any (inW k)) := by
  unfold holdR
  rw [List.getElem?_mapIdx]
theorem holdR_length (L : List Bool) (xs : List (Nat × Nat)) : (holdR L xs).length = L.length := List.length_mapIdx
theorem hold_nil (s : ESt) : hold s [] = s := by
  unfold hold
  have : holdR s.L [] = s.L := by
    apply List.ext_getElem?
    intro k
    rw [holdR_at]
    cases s.L[k]? <;> simp
  rw [this]
theorem Is300.hold {s : ESt} (h : Is300 s) (xs : List (Nat × Nat)) : Is300 (hold s xs) := ⟨h.f, (holdR_length ..).trans h.l⟩
def Apart (a b : Nat × Nat) : Prop := a.1 + a.2 ≤ b.1 ∨ b.1 + b.2 ≤ a.1
structure Frees (L : List Bool) (xs : List (Nat × Nat)) : Prop where
  free : ∀ r ∈ xs, 1 ≤ r.2 ∧ AllAre L r.1 r.2 false
  apart : xs.Pairwise Apart
theorem Frees.nil (L : List Bool) : Frees L [] := ⟨by simp, List.Pairwise.nil⟩

theorem any_at {L : List Bool} {xs : List (Nat × Nat)} {k : Nat} (h : (holdR L xs)[k]? = some false) : L[k]? = some false ∧ xs.any (inW k) = false := by
  rw [holdR_at] at h
  cases hl : L[k]? with
  | none => rw [hl] at h; simp at h
  | some x =>
    rw [hl] at h
    injection h with h
    cases x
    · exact ⟨rfl, by simpa using h⟩
    · simp at h

theorem hold_take {L : List Bool} {xs : List (Nat × Nat)} {q m : Nat} (h : Frees L xs) (hA : AllAre (holdR L xs) q m false) (hm : 1 ≤ m) : Frees L (xs ++ [(q, m)]) ∧ setR (holdR L xs) q m true = holdR L (xs ++ [(q, m)]) := by
  refine ⟨⟨fun r hr => ?_, List.pairwise_append.2 ⟨h.apart, List.pairwise_singleton .., fun a ha b hb => ?_⟩⟩, ?_⟩
  · rcases List.mem_append.1 hr with hr | hr
    · exact h.free r hr
    · rw [List.mem_singleton.1 hr]
      exact ⟨hm, fun k hk => (any_at (hA k hk)).1⟩
  · rw [List.mem_singleton.1 hb]
    unfold Apart
    apply Classical.byContradiction
    intro hn
    have ha2 := (h.free a ha).1
    have hk : max a.1 q - q < m := by omega
    have h1 := (any_at (hA _ hk)).2
    rw [List.any_eq_false] at h1
    have h2 := h1 a ha
    unfold inW at h2
    rw [decide_eq_true (by omega)] at h2
    exact h2 rfl
  · apply List.ext_getElem?
    intro k
    rw [setR_at, holdR_at, holdR_at, List.any_append]
    by_cases hk : q ≤ k ∧ k < q + m
    · rw [if_pos hk]
      cases L[k]? with
      | none => rfl
      | some x =>
        have : inW k (q, m) = true := decide_eq_true hk
        simp [this]
    · rw [if_neg hk]
      have : inW k (q, m) = false := decide_eq_false hk
      simp [this]

theorem hold_give {L : List Bool} {a b : List (Nat × Nat)} {r : Nat × Nat} (h : Frees L (a ++ r :: b)) : AllAre (holdR L (a ++ r :: b)) r.1 r.2 true ∧ setR (holdR L (a ++ r :: b)) r.1 r.2 false = holdR L (a ++ b) ∧ Frees L (a ++ b) := by
  have hr := h.free r (by simp)
  have hp := List.pairwise_append.1 h.apart
  have hp2 := List.pairwise_cons.1 hp.2.1
  have hfar : ∀ x ∈ a ++ b, ∀ k, r.1 ≤ k → k < r.1 + r.2 → inW k x = false := fun x hx k h1 h2 => by
    have hap : Apart x r ∨ Apart r x := by
      rcases List.mem_append.1 hx with hx | hx
      · exact .inl (hp.2.2 x hx r (by simp))
      · exact .inr (hp2.1 x hx)
    unfold Apart at hap
    unfold inW
    exact decide_eq_false (by omega)
  refine ⟨fun k hk => ?_, ?_, ⟨fun x hx => h.free x (by simp at hx ⊢; exact hx.elim .inl (fun e => .inr (.inr e))), ?_⟩⟩
  · rw [holdR_at, hr.2 k hk]
    have : inW (r.1 + k) r = true := decide_eq_true (by omega)
    simp [this]
  · apply List.ext_getElem?
    intro k
    rw [setR_at, holdR_at, holdR_at]
    by_cases hk : r.1 ≤ k ∧ k < r.1 + r.2
    · have h1 := hr.2.at_ hk.1 hk.2
      have h2 : (a ++ b).any (inW k) = false := by
        rw [List.any_eq_false]
        intro x hx
        rw [hfar x hx k hk.1 hk.2]
        simp
      rw [if_pos hk, h1, h2]
      rfl
    · have : inW k r = false := decide_eq_false hk
      rw [if_neg hk]
      simp [this]
  · exact List.pairwise_append.2 ⟨hp.1, hp2.2, fun x hx y hy => hp.2.2 x hx y (by simp [hy])⟩

/-- What is left behind j gives. -/
def remR (bk : Bool) (xs : List (Nat × Nat)) (j : Nat) : List (Nat × Nat) := if bk = true then xs.take (xs.length - j) else xs.drop j
def idxR (bk : Bool) (n j : Nat) : Nat := if bk = true then n - 1 - j else j
theorem idx_lt {bk : Bool} {n j : Nat} (h : j < n) : idxR bk n j < n := by
  unfold idxR
  split <;> omega
theorem rem_zero (bk : Bool) (xs : List (Nat × Nat)) : remR bk xs 0 = xs := by
  unfold remR
  cases bk <;> simp
theorem rem_all (bk : Bool) (xs : List (Nat × Nat)) : remR bk xs xs.length = [] := by
  unfold remR
  cases bk <;> simp
theorem rem_step (bk : Bool) (xs : List (Nat × Nat)) {j : Nat} (h : j < xs.length) : ∃ a b, remR bk xs j = a ++ xs[idxR bk xs.length j]'(idx_lt h) :: b ∧ remR bk xs (j + 1) = a ++ b := by
  cases bk
  · exact ⟨[], xs.drop (j + 1), List.drop_eq_getElem_cons h, rfl⟩
  · refine ⟨xs.take (xs.length - 1 - j), [], ?_, ?_⟩
    · show xs.take (xs.length - j) = _
      have e : xs.length - j = (xs.length - 1 - j) + 1 := by omega
      rw [e, List.take_succ_eq_append_getElem (by omega)]
      rfl
    · rw [List.append_nil]
      show xs.take (xs.length - (j + 1)) = _
      congr 1
      omega

def extsP (xs : List (Nat × Nat)) : List (Int × Int) := xs.map (fun r => (5 + (r.1 : Int), (r.2 : Int)))
theorem extsP_snoc (xs : List (Nat × Nat)) (q m : Nat) : extsC (extsP (xs ++ [(q, m)])) = extsC (extsP xs) ++ [.int .i64 (5 + (q : Int)), .int .i64 (m : Int)] := by
  unfold extsP
  rw [List.map_append, List.map_singleton]
  generalize xs.map (fun r => (5 + (r.1 : Int), (r.2 : Int))) = l
  induction l with
  | nil => rfl
  | cons x l ih =>
    rw [List.cons_append]
    unfold extsC
    rw [ih]
    rfl

/-- Give of what stands taken. -/
theorem turn_give {s : ESt} {a b : List (Nat × Nat)} {r : Nat × Nat} (h3 : Is300 s) (h : Frees s.L (a ++ r :: b)) : turnE (hold s (a ++ r :: b)) (5 + (r.1 : Int)) (r.2 : Int) false = 0 ∧ turnS (hold s (a ++ r :: b)) (5 + (r.1 : Int)) (r.2 : Int) false = hold s (a ++ b) := by
  obtain ⟨hA, hS, _⟩ := hold_give h
  have hr := (h.free r (by simp))
  have hle := hr.2.le hr.1
  have h3' := h3.hold (a ++ r :: b)
  have e1 : ((5 : Int) + (r.1 : Int) - ((hold s (a ++ r :: b)).f : Int)).toNat = r.1 := by rw [h3'.f]; omega
  have hok : turnOk (hold s (a ++ r :: b)) (5 + (r.1 : Int)) (r.2 : Int) false = true := by
    have hto : (hold s (a ++ r :: b)).to = 305 := by
      show (hold s (a ++ r :: b)).f + (hold s (a ++ r :: b)).L.length = 305
      rw [h3'.f, h3'.l]
    have := h3.l
    unfold turnOk coversE
    rw [e1, Int.toNat_natCast, h3'.f, hto, decide_eq_true (by omega)]
    exact (Bool.true_and _).trans (decide_eq_true hA)
  unfold turnE turnS
  rw [if_pos hok, if_pos hok, e1, Int.toNat_natCast]
  refine ⟨rfl, ?_⟩
  show ESt.mk _ _ = ESt.mk _ _
  congr 1

theorem take_hold {s : ESt} {xs : List (Nat × Nat)} {nn : Nat} (h3 : Is300 s) (h : Frees s.L xs) (h1 : 1 ≤ nn) :
    (takeP (hold s xs).L nn = none ∧ takeX (hold s xs) (nn : Int) = (0, 0) ∧ takeE (hold s xs) (nn : Int) = 41 ∧ takeS (hold s xs) (nn : Int) = hold s xs ∧ mostOf (runsAt (hold s xs).L false 0) < nn) ∨
    (∃ q, AllAre (hold s xs).L q nn false ∧ q + nn ≤ 300 ∧ takeX (hold s xs) (nn : Int) = (5 + (q : Int), (nn : Int)) ∧ takeE (hold s xs) (nn : Int) = 0 ∧ takeS (hold s xs) (nn : Int) = hold s (xs ++ [(q, nn)]) ∧ nn ≤ mostOf (runsAt (hold s xs).L false 0) ∧
      Frees s.L (xs ++ [(q, nn)]) ∧ (hold s (xs ++ [(q, nn)])).L.count false + nn = (hold s xs).L.count false ∧ AllAre (hold s (xs ++ [(q, nn)])).L q nn true) := by
  have h3' := h3.hold xs
  have hlg := longest_iff (L := (hold s xs).L) h1
  have hnl : ¬ (nn : Int) < 1 := by omega
  cases hp : takeP (hold s xs).L nn with
  | none =>
    rw [hp] at hlg
    have hlt := of_decide_eq_false hlg.symm
    refine .inl ⟨rfl, ?_, ?_, ?_, by omega⟩
    · unfold takeX firstE; rw [if_neg hnl, Int.toNat_natCast, hp]
    · unfold takeE; rw [if_neg hnl, Int.toNat_natCast, hp]; rfl
    · unfold takeS; rw [if_neg hnl, Int.toNat_natCast, hp]
  | some q =>
    rw [hp] at hlg
    have hlt := of_decide_eq_true hlg.symm
    obtain ⟨hA, _⟩ := takeP_some h1 hp
    have hle := hA.le h1
    have hl := h3'.l
    obtain ⟨hf, hs⟩ := hold_take h hA h1
    refine .inr ⟨q, hA, by omega, ?_, ?_, ?_, hlt, hf, ?_, ?_⟩
    · unfold takeX firstE; rw [if_neg hnl, Int.toNat_natCast, hp, h3'.f]; rfl
    · unfold takeE; rw [if_neg hnl, Int.toNat_natCast, hp]; rfl
    · unfold takeS; rw [if_neg hnl, Int.toNat_natCast, hp]
      show ESt.mk _ _ = ESt.mk _ _
      congr 1
    · have := setR_count hA
      show (holdR s.L (xs ++ [(q, nn)])).count false + nn = (holdR s.L xs).count false
      rw [← hs]
      exact this
    · show AllAre (holdR s.L (xs ++ [(q, nn)])) q nn true
      rw [← hs]
      exact setR_all _ _ hle

/-- The bundle. -/
structure BS (N : Nat) (w0 wM wr : World) (d : SpAt) (s : ESt) (A : Option Addr) (n c : Nat) (ys : List Value) : Prop where
  l : ELives N w0 wr d s
  k : Keep (fun k => k = d.g ∨ wM.heap.size ≤ k) wM wr
  o : wr.ownsRow wM.heap.size 33 2 (.slice A n c) n ys
  h : ∀ k, d.foot k → k < wM.heap.size
  m : N ≤ wM.heap.size
section
variable {N : Nat} {w0 wM wr w' : World} {d : SpAt} {s s' : ESt} {A : Option Addr} {n c : Nat} {ys : List Value}
theorem BS.next (h : BS N w0 wM wr d s A n c ys) (hb : Below wr.heap.size wr w') : BS N w0 wM w' d s A n c ys :=
  ⟨h.l.next hb, h.k.trans (Keep.of_below (S := fun _ => False) hb) (fun _ _ e => e.elim), (Keep.of_below (S := fun _ => False) hb).own h.o (fun _ _ e => e), h.h, h.m⟩
theorem BS.call (h : BS N w0 wM wr d s A n c ys) (hl : ELives N w0 w' d s') (hk : Keep (fun k => k = d.g) wr w') : BS N w0 wM w' d s' A n c ys :=
  ⟨hl, h.k.trans hk (fun _ _ e => .inl e), hk.own h.o (fun g hg e => by have := (own_in h.o g hg).1; have := h.h d.g (.inr rfl); omega), h.h, h.m⟩
theorem BS.grow (h : BS N w0 wM wr d s A n c ys) {v : Value} {m : Nat} {zs : List Value} (ho : w'.ownsRow wM.heap.size 33 2 v m zs) (hg : wr.grownBy w' (Value.slice A n c).ownBlock) : ∃ A' c', v = .slice A' m c' ∧ BS N w0 wM w' d s A' m c' zs := by
  obtain ⟨A', c', rfl⟩ : ∃ A' c', v = .slice A' m c' := by
    rcases ho.2 with ⟨rfl, h0⟩ | ⟨g, cap, cur, e, _⟩
    · exact ⟨none, 0, by rw [h0]⟩
    · exact ⟨_, cap, e⟩
  have hk : Keep (fun k => wM.heap.size ≤ k) wr w' := (Keep.refl _ _).grown hg (fun g e _ => (own_in h.o g e).1)
  refine ⟨A', c', rfl, ⟨h.l.below.trans (hk.below h.l.lt (fun i hi e => by have := h.m; omega)), h.l.foot, h.l.ek.keep hk (fun k hf e => by have := h.h k hf; omega)⟩, h.k.trans hk (fun _ _ e => .inr e), ho, h.h, h.m⟩
theorem BS.was (h : BS N w0 wM wr d s A n c ys) {B : Nat} {A' : Option Addr} {n' c' : Nat} {zs : List Value} (hM : wM.ownsRow B 33 2 (.slice A' n' c') n' zs) (hB : ∀ k, d.foot k → k < B) : Reads wr wM.heap.size 2 A' n' zs := by
  refine (Reads.of_own hM).keepS h.k (Nat.le_refl _) (fun ad e => ?_)
  rcases hM.2 with ⟨e1, _⟩ | ⟨g, cap, cur, e1, hb, hh, _⟩
  · injection e1 with e1
    rw [e1] at e
    cases e
  · injection e1 with e1
    rw [e1] at e
    injection e with e
    subst e
    have h1 : g < wM.heap.size := (Array.getElem?_eq_some_iff.1 hh).1
    have h2 := hB d.g (.inr rfl)
    rintro (e | e)
    · have e : g = d.g := e
      omega
    · have e : wM.heap.size ≤ g := e
      omega
end
end Go.Proofs.Ytghihnblohoheaa

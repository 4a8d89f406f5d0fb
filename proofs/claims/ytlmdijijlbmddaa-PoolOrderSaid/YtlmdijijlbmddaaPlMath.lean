/-
  The pool of layer 10: what each call makes of its state.
-/
import Derived.Test.YtlmdijijlbmddaaPlWr
namespace Go.Proofs.Ytlmdijijlbmddaa.pool
open Go.RowKit

/-- The first frame that passes, and what stands ahead of it and behind it. -/
def takeF (P : FV → Bool) : List FV → Option (List FV × FV × List FV)
  | [] => none
  | y :: l => if P y = true then some ([], y, l) else match takeF P l with
    | some (a, x, b) => some (y :: a, x, b)
    | none => none
theorem takeF_hit {P : FV → Bool} {x : FV} {b : List FV} : ∀ {a : List FV}, (∀ y ∈ a, P y = false) → P x = true → takeF P (a ++ x :: b) = some (a, x, b)
  | [], _, hx => by unfold takeF; simp [hx]
  | y :: a, ha, hx => by
    have hy := ha y (List.mem_cons_self ..)
    have ih := takeF_hit (fun z hz => ha z (List.mem_cons_of_mem _ hz)) hx (a := a) (b := b)
    show takeF P (y :: (a ++ x :: b)) = _
    unfold takeF
    rw [ih]
    simp [hy]
theorem takeF_no {P : FV → Bool} : ∀ {l : List FV}, (∀ y ∈ l, P y = false) → takeF P l = none
  | [], _ => rfl
  | y :: l, h => by
    have hy := h y (List.mem_cons_self ..)
    unfold takeF
    rw [takeF_no (fun z hz => h z (List.mem_cons_of_mem _ hz))]
    simp [hy]
theorem takeF_some {P : FV → Bool} {x : FV} {b : List FV} : ∀ {l a : List FV}, takeF P l = some (a, x, b) → l = a ++ x :: b ∧ P x = true ∧ ∀ y ∈ a, P y = false
  | [], _, h => by cases h
  | y :: l, a, h => by
    unfold takeF at h
    by_cases hy : P y = true
    · rw [if_pos hy] at h
      injection h with h
      injection h with h1 h
      injection h with h2 h3
      subst h1 h2 h3
      exact ⟨rfl, hy, fun z hz => by cases hz⟩
    · rw [if_neg hy] at h
      cases ht : takeF P l with
      | none => rw [ht] at h; cases h
      | some r =>
        obtain ⟨a', x', b'⟩ := r
        rw [ht] at h
        injection h with h
        injection h with h1 h
        injection h with h2 h3
        subst h1 h2 h3
        obtain ⟨e, h4, h5⟩ := takeF_some ht
        refine ⟨by rw [e]; rfl, h4, fun z hz => ?_⟩
        rcases List.mem_cons.1 hz with rfl | hz
        · simpa using hy
        · exact h5 z hz
theorem takeF_none {P : FV → Bool} : ∀ {l : List FV}, takeF P l = none → ∀ y ∈ l, P y = false
  | [], _, y, hy => by cases hy
  | z :: l, h, y, hy => by
    unfold takeF at h
    by_cases hz : P z = true
    · rw [if_pos hz] at h; cases h
    · rw [if_neg hz] at h
      cases ht : takeF P l with
      | none =>
        rcases List.mem_cons.1 hy with rfl | hy
        · simpa using hz
        · exact takeF_none ht y hy
      | some r => rw [ht] at h; cases h

/-- Where a key's tile stands. -/
def idxT (f n : Int) : List TV → Option Nat
  | [] => none
  | t :: l => if t.is f n = true then some 0 else match idxT f n l with
    | some j => some (j + 1)
    | none => none
theorem idxT_some {f n : Int} : ∀ {l : List TV} {j : Nat}, idxT f n l = some j → ∃ t, l[j]? = some t ∧ t.is f n = true ∧ ∀ (i : Nat) (u : TV), i < j → l[i]? = some u → u.is f n = false
  | [], _, h => by cases h
  | t :: l, j, h => by
    unfold idxT at h
    by_cases ht : t.is f n = true
    · rw [if_pos ht] at h
      injection h with h
      subst h
      exact ⟨t, rfl, ht, fun i u hi => by omega⟩
    · rw [if_neg ht] at h
      cases hl : idxT f n l with
      | none => rw [hl] at h; cases h
      | some k =>
        rw [hl] at h
        injection h with h
        subst h
        obtain ⟨t', h1, h2, h3⟩ := idxT_some hl
        refine ⟨t', by rw [List.getElem?_cons_succ]; exact h1, h2, fun i u hi hu => ?_⟩
        cases i with
        | zero =>
          simp only [List.getElem?_cons_zero, Option.some.injEq] at hu
          subst hu
          simpa using ht
        | succ i => rw [List.getElem?_cons_succ] at hu; exact h3 i u (by omega) hu
theorem idxT_none {f n : Int} : ∀ {l : List TV}, idxT f n l = none → ∀ t ∈ l, t.is f n = false
  | [], _, t, ht => by cases ht
  | u :: l, h, t, ht => by
    unfold idxT at h
    by_cases hu : u.is f n = true
    · rw [if_pos hu] at h; cases h
    · rw [if_neg hu] at h
      cases hl : idxT f n l with
      | none =>
        rcases List.mem_cons.1 ht with rfl | ht
        · simpa using hu
        · exact idxT_none hl t ht
      | some k => rw [hl] at h; cases h
def storeL (L : List TV) (t : TV) : List TV := match idxT t.file t.no L with
  | some j => L.set j t
  | none => L

/-- What is written back of a frame. -/
def PS.wr (s : PS) (v : FV) : PS := if v.dirty = true then { s with L := storeL s.L v.t, log := s.log ++ [⟨2, v.num, 0⟩, ⟨3, v.t.no, v.t.file⟩] } else s
def PS.free (s : PS) : Option PS := if s.fr.length < s.size then some s else match takeF (fun v => decide (v.pins = 0)) s.fr with
  | some (a, x, b) => some { s.wr x with fr := a ++ b }
  | none => none
def PS.pin (s : PS) (f n : Int) : Int × PS := match takeF (fun v => v.is f n) s.fr with
  | some (a, x, b) => (0, { s with fr := a ++ b ++ [{ x with pins := x.pins + 1 }] })
  | none => match s.free with
    | none => (101, s)
    | some s1 => match idxT f n s1.L with
      | none => (50, { s1 with log := s1.log ++ [⟨1, n, f⟩] })
      | some j => (0, { s1 with log := s1.log ++ [⟨1, n, f⟩], fr := s1.fr ++ [⟨s1.L.getD j ⟨0, 0, 0, []⟩, 1, false, 0⟩] })
def PS.unpin (s : PS) (f n : Int) : Int × PS := match takeF (fun v => v.pinned f n) s.fr with
  | some (a, x, b) => (0, { s with fr := a ++ b ++ [{ x with pins := x.pins - 1 }] })
  | none => (100, s)
def PS.get (s : PS) (f n i : Int) : Int × Int := match takeF (fun v => v.pinned f n) s.fr with
  | some (_, x, _) => if 0 ≤ i ∧ i < 4 then (x.t.el.getD i.toNat 0, 0) else (0, 100)
  | none => (0, 100)
def FV.set_ (x : FV) (i : Nat) (v num : Int) : FV := { x with t := { x.t with el := x.t.el.set i v }, dirty := true, num := max x.num num }
def PS.set_ (s : PS) (f n i v num : Int) : Int × PS := match takeF (fun v => v.pinned f n) s.fr with
  | some (a, x, b) => if 0 ≤ i ∧ i < 4 then (0, { s with fr := a ++ x.set_ i.toNat v num :: b }) else (100, s)
  | none => (100, s)
def PS.clean (s : PS) (f n : Int) : Int × PS := match takeF (fun v => v.is f n) s.fr with
  | some (a, x, b) => if x.dirty = true then (0, { s.wr x with fr := a ++ x.clean :: b }) else (0, s)
  | none => (100, s)
def PS.drop (s : PS) (f n : Int) : Int × PS := match takeF (fun v => v.is f n) s.fr with
  | some (a, x, b) => if 0 < x.pins then (100, s) else (0, { s with fr := a ++ b })
  | none => (100, s)
def PS.pins (s : PS) : Nat := (s.fr.map (·.pins)).sum

/-- What a state must be, so that no number passes its bounds, and each frame has a tile in the memory. -/
structure Ok (s : PS) : Prop where
  log : s.log.length ≤ 900000
  L : s.L.length ≤ 1000000
  keys : ∀ v ∈ s.fr, ∃ j, idxT v.t.file v.t.no s.L = some j
  pins : ∀ v ∈ s.fr, v.pins ≤ 1000000
  room : s.fr.length ≤ s.size

/-- A pool and its memory, made since N, in state s. -/
def PB (N : Nat) (w : World) (p m : Nat) (s : PS) : Prop := ∃ q ml, PL N w p m false q ml s
theorem PB.below {N p m : Nat} {w w' : World} {s : PS} (h : PB N w p m s) (hb : Below w.heap.size w w') : PB N w' p m s := by
  obtain ⟨q, ml, h⟩ := h
  exact ⟨q, ml, h.below hb⟩

/-- What is found, as takeF says it. -/
theorem found_take {P : FV → Bool} {q : QL} {x : Value} (h : foundQ P q x) :
    (∃ pre y post, q = pre ++ y :: post ∧ P y.2 = true ∧ x = pv y.1.b ∧ takeF P (q.map (·.2)) = some (pre.map (·.2), y.2, post.map (·.2))) ∨ (x = .pointer none ∧ takeF P (q.map (·.2)) = none) := by
  rcases h with ⟨pre, y, post, rfl, hy, hn, rfl⟩ | ⟨hn, rfl⟩
  · refine .inl ⟨pre, y, post, rfl, hy, rfl, ?_⟩
    rw [List.map_append, List.map_cons]
    exact takeF_hit (fun z hz => by obtain ⟨u, hu, rfl⟩ := List.mem_map.1 hz; exact hn u hu) hy
  · exact .inr ⟨rfl, takeF_no (fun z hz => by obtain ⟨u, hu, rfl⟩ := List.mem_map.1 hz; exact hn u hu)⟩
end Go.Proofs.Ytlmdijijlbmddaa.pool

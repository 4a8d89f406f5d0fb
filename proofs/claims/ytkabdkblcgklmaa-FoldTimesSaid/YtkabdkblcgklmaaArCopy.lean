/-
  Layer 11 (array): Copy: an equal array in new memory.
-/
import Derived.Test.YtkabdkblcgklmaaArNew
import Derived.Test.YtkabdkblcgklmaaDone
namespace Go.Proofs.Ytkabdkblcgklmaa.arr
open Go.RowKit

/-- A clone, and an array of clones, as values that a region made. -/
def CpR (t : TypeId) (B : Nat) (l : List Int) (v : Value) (W : World) : Prop := ∃ A c, v = .slice A l.length c ∧ W.ownsRow B t 1 (.slice A l.length c) l.length (l.map iv)
theorem CpR.mk {t : TypeId} {B : Nat} {l : List Int} {A : Option Addr} {c : Nat} {W : World} (h : W.ownsRow B t 1 (.slice A l.length c) l.length (l.map iv)) : CpR t B l (.slice A l.length c) W := ⟨_, _, rfl, h⟩
def CpA (B : Nat) (a : AV) (v : Value) (W : World) : Prop := ∃ q, v = .agg (arC a q) ∧ AOwn B W a q
theorem CpA.mk {B : Nat} {a : AV} {q : AP} {W : World} (h : AOwn B W a q) : CpA B a (.agg (arC a q)) W := ⟨_, rfl, h⟩
def CpU (a : AV) (z : Nat) (i : Nat) (v : Value) (W : World) : Prop := if i = 4 then CpR 3 (z + 2) a.sh v W else if i = 7 then CpR 2 (z + 2) a.el v W else CpA (z + 2) a v W
structure CpT (w : World) (a : AV) (p : AP) (W : World) : Prop where
  xa : Blk W w.heap.size 25 (arC a p)
  e0 : AEl w a p
  b : Below w.heap.size w W
  s : w.heap.size + 2 ≤ W.heap.size
  r : ∃ x y u, Blk W (w.heap.size + 1) 25 #[x, y, u]
def CpF (z : Nat) (a : AV) (W : World) : Prop := ∃ q, Blk W (z + 1) 25 (arC a q) ∧ AOwn (z + 2) W a q
theorem CpT.el {w W : World} {a : AV} {p : AP} (h : CpT w a p W) : AEl W a p := h.e0.below h.b
theorem CpT.cells {w W : World} {a : AV} {p : AP} (h : CpT w a p W) : W.cell? ⟨w.heap.size, 0, none⟩ = some (.int .i64 a.kind) ∧ W.cell? ⟨w.heap.size, 1, none⟩ = some (.slice p.A0 a.sh.length p.c0) ∧ W.cell? ⟨w.heap.size, 2, none⟩ = some (.slice p.A1 a.el.length p.c1) :=
  ⟨h.xa.cell 0, h.xa.cell 1, h.xa.cell 2⟩
theorem CpT.store {w W : World} {a : AV} {p : AP} (h : CpT w a p W) {x y u : Value} (r : Blk W (w.heap.size + 1) 25 #[x, y, u]) (x' y' u' : Value) : CpT w a p (((W.setCell ⟨w.heap.size + 1, 0, none⟩ x').setCell ⟨w.heap.size + 1, 1, none⟩ y').setCell ⟨w.heap.size + 1, 2, none⟩ u') := by
  have hk := arkeep_three W (w.heap.size + 1) x' y' u'
  have hb := hk.below h.b.size (fun i hi e => by omega)
  exact ⟨hk.blk h.xa (by omega), h.e0, h.b.trans hb, Nat.le_trans h.s hk.size, _, _, _, arblk_three x' y' u' r⟩
theorem cpF_store {z : Nat} {W : World} {a : AV} {q : AP} {x y u : Value} (r : Blk W (z + 1) 25 #[x, y, u]) (h : AOwn (z + 2) W a q) : CpF z a (((W.setCell ⟨z + 1, 0, none⟩ (.int .i64 a.kind)).setCell ⟨z + 1, 1, none⟩ (.slice q.A0 a.sh.length q.c0)).setCell ⟨z + 1, 2, none⟩ (.slice q.A1 a.el.length q.c1)) :=
  ⟨q, arblk_three _ _ _ r, h.keep (arkeep_three W (z + 1) _ _ _) (fun k h1 _ _ e => by omega)⟩
theorem cpU_store (a : AV) (z : Nat) (W : World) (x y u : Value) (j : Nat) (v : Value) (h : CpU a z j v W) : CpU a z j v (((W.setCell ⟨z + 1, 0, none⟩ x).setCell ⟨z + 1, 1, none⟩ y).setCell ⟨z + 1, 2, none⟩ u) := by
  have hk := arkeep_three W (z + 1) x y u
  unfold CpU at h ⊢
  split
  · rename_i e
    rw [if_pos e] at h
    obtain ⟨A, c, rfl, h⟩ := h
    exact ⟨A, c, rfl, hk.own h (fun g hg e => by have := (arown_lt h g hg).1; omega)⟩
  · rename_i e
    rw [if_neg e] at h
    split
    · rename_i e
      rw [if_pos e] at h
      obtain ⟨A, c, rfl, h⟩ := h
      exact ⟨A, c, rfl, hk.own h (fun g hg e => by have := (arown_lt h g hg).1; omega)⟩
    · rename_i e
      rw [if_neg e] at h
      obtain ⟨q, rfl, h⟩ := h
      exact ⟨q, rfl, h.keep hk (fun k h1 _ _ e => by omega)⟩
theorem cpCT (w : World) (a : AV) (p : AP) : CT (CpT w a p) (CpF w.heap.size a) (CpU a w.heap.size) := by
  refine ⟨fun W W' hb h => ?_, fun W W' hb h => ?_, fun i v W W' hb h => ?_⟩
  · obtain ⟨x, y, u, r⟩ := h.r
    exact ⟨h.xa.below hb h.xa.lt, h.e0, h.b.trans (hb.mono h.b.size), Nat.le_trans h.s hb.size, x, y, u, r.below hb r.lt⟩
  · obtain ⟨q, r, o⟩ := h
    exact ⟨q, r.below hb r.lt, o.stay hb (Nat.le_refl _)⟩
  · unfold CpU at h ⊢
    split
    · rename_i e
      rw [if_pos e] at h
      obtain ⟨A, c, rfl, h⟩ := h
      exact ⟨A, c, rfl, arown_stay h hb (fun g hg => (arown_lt h g hg).2)⟩
    · rename_i e
      rw [if_neg e] at h
      split
      · rename_i e
        rw [if_pos e] at h
        obtain ⟨A, c, rfl, h⟩ := h
        exact ⟨A, c, rfl, arown_stay h hb (fun g hg => (arown_lt h g hg).2)⟩
      · rename_i e
        rw [if_neg e] at h
        obtain ⟨q, rfl, h⟩ := h
        exact ⟨q, rfl, h.stay hb (Nat.le_refl _)⟩

end Go.Proofs.Ytkabdkblcgklmaa.arr

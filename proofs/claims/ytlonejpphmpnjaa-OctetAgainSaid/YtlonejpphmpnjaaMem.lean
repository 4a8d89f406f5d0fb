/-
  Bytes in a block that may be written: the laws' loops that turn what they were handed.
-/
import Derived.Test.YtlonejpphmpnjaaRText
namespace Go.Proofs.Ytlonejpphmpnjaa
open Go.RowKit

/-- The first n cells of block g are bytes that may be written. -/
def Bys (W : World) (g n : Nat) : Prop := ∀ j, j < n → ∃ x : Int, W.cell? ⟨g, j, none⟩ = some (.int .u8 x) ∧ W.frozen? ⟨g, j, none⟩ = false
theorem Bys.set_ {W : World} {g n j : Nat} {x : Int} (h : Bys W g n) (hj : j < n) : Bys (W.setCell ⟨g, j, none⟩ (.int .u8 x)) g n := by
  intro i hi
  obtain ⟨y, c, f⟩ := h i hi
  obtain ⟨y0, c0, _⟩ := h j hj
  by_cases e : i = j
  · subst e
    exact ⟨x, World.cell?_setCell_same' _ _ _ (by rw [c0]; rfl), by rw [World.frozen?_setCell]; exact f⟩
  · exact ⟨y, (World.cell?_setCell_other _ _ _ _ (by intro e'; injection e' with _ e' _; exact e e'.symm)).trans c, by rw [World.frozen?_setCell]; exact f⟩
theorem Bys.keep {W W' : World} {S : Nat → Prop} {g n : Nat} (h : Bys W g n) (hk : Keep S W W') (hg : ¬ S g) (hlt : g < W.heap.size) : Bys W' g n := by
  intro i hi
  obtain ⟨y, c, f⟩ := h i hi
  have hb := hk.block g hlt hg
  refine ⟨y, (World.cell?_of_block (a := ⟨g, i, none⟩) hb).trans c, ?_⟩
  unfold World.frozen? at f ⊢
  rw [show W'.heap[(⟨g, i, none⟩ : Addr).block]? = W.heap[(⟨g, i, none⟩ : Addr).block]? from hb]
  exact f
theorem bytesWorld_bys (W : World) (s : ByteArray) : Bys (Lib.bytesWorld W 5 s) W.heap.size s.size := by
  intro j hj
  refine ⟨_, Lib.bytesWorld_cell W 5 s j hj, ?_⟩
  have hs : s.size ≤ (Lib.bytesCells W 5 s).size := by
    unfold Lib.bytesCells
    rw [Array.size_append, Array.size_map]
    exact Nat.le_add_right _ _
  unfold World.frozen?
  rw [show (Lib.bytesWorld W 5 s).heap[(⟨W.heap.size, j, none⟩ : Addr).block]? = _ from Lib.bytesWorld_at_new W 5 s]
  simp
  omega

theorem own_bys {W : World} {base g n c : Nat} {l : List UInt8} (h : W.ownsRow base 5 1 (.slice (some ⟨g, 0, none⟩) n c) n (l.map bv)) : Bys W g n := by
  intro j hj
  have hl : l.length = n := by simpa using h.1
  have hc := h.cells (g := g) rfl j (bv (l[j]'(by omega))) (by rw [List.getElem?_map, List.getElem?_eq_getElem (by omega)]; rfl)
  have hp : (⟨g, 0, none⟩ : Addr).add j = ⟨g, j, none⟩ := by unfold Addr.add; split <;> simp_all
  rw [hp] at hc
  refine ⟨_, hc, ?_⟩
  rcases h.2 with ⟨e, _⟩ | ⟨g', cap, cur, e, _, hh, _⟩
  · cases e
  · injection e with e
    injection e with e
    injection e with e
    subst e
    unfold World.frozen?
    rw [show W.heap[(⟨g, j, none⟩ : Addr).block]? = _ from hh]
    simp


end Go.Proofs.Ytlonejpphmpnjaa

/-
  What the walk of ScalarEach keeps.
-/
import Derived.Test.YtkdnaebmifjmcaaScMapT
import Derived.Test.YtkdnaebmifjmcaaArRSame
import Derived.Test.YtkdnaebmifjmcaaGrowReg
import Derived.Test.YtkdnaebmifjmcaaHeads
namespace Go.Proofs.Ytkdnaebmifjmcaa.scalarEach
open Go.RowKit Go.Proofs.Ytkdnaebmifjmcaa.sc Go.Proofs.Ytkdnaebmifjmcaa.arr

theorem twoME_no {f : Int} {a b : AV} (h : okA a = false ∨ okA b = false ∨ togE a.sh b.sh ≠ 0 ∨ kindsE f a.kind b.kind ≠ 0) : twoME f a b ≠ 0 := by
  unfold twoME
  by_cases h1 : binB f = false
  · rw [if_pos h1]; decide
  rw [if_neg h1]
  by_cases h2 : (okA a && okA b) = false
  · rw [if_pos h2]; decide
  rw [if_neg h2]
  by_cases h3 : togE a.sh b.sh ≠ 0
  · rw [if_pos h3]; exact h3
  rw [if_neg h3]
  by_cases h4 : kindsE f a.kind b.kind ≠ 0
  · rw [if_pos h4]; exact h4
  rcases h with h | h | h | h
  · rw [h] at h2; exact absurd rfl h2
  · rw [h, Bool.and_false] at h2; exact absurd rfl h2
  · exact absurd h h3
  · exact absurd h h4
theorem twoME_yes {f : Int} {a b : AV} (h1 : okA a = true) (h2 : okA b = true) (h3 : togE a.sh b.sh = 0) (h4 : kindsE f a.kind b.kind = 0) : twoME f a b = apE (mixG f a b) (twoN a b) := by
  have hb : binB f = true := by
    cases hb : binB f
    · unfold kindsE at h4
      rw [hb, Bool.false_and, Bool.false_and, if_pos rfl] at h4
      cases h4
    · rfl
  unfold twoME
  rw [hb, h1, h2, h3, h4]
  rfl
theorem twoMA_no {f : Int} {a b : AV} (h : twoME f a b ≠ 0) : twoMA f a b = ⟨0, [], []⟩ := by unfold twoMA; rw [if_pos h]
theorem twoMA_yes {f : Int} {a b : AV} (h : twoME f a b = 0) : twoMA f a b = ⟨1, togL a.sh b.sh, apL (mixW f a b) (twoN a b)⟩ := by unfold twoMA; rw [h, if_neg (by decide)]
theorem elA_at {W : World} {k : Int} {sh el : List Int} {A0 A1 : Option Addr} {c0 c1 i : Nat} (h : AEl W ⟨k, sh, el⟩ ⟨A0, c0, A1, c1⟩) (ho : elOk ⟨k, sh, el⟩ i) : (if sh.length = 0 then 0 else i) < el.length ∧ ∃ ad, A1 = some ad ∧ W.cell? (ad.add (if sh.length = 0 then 0 else i)) = some (.int .i64 (elA ⟨k, sh, el⟩ i)) := by
  unfold elOk at ho
  unfold elA
  simp only at ho ⊢
  split
  · rename_i h0
    rw [if_pos h0] at ho
    obtain ⟨ad, hA, _, hc⟩ := h.r1.int_at ho rfl
    refine ⟨ho, ad, hA, ?_⟩
    rw [List.getD_eq_getElem?_getD, List.getElem?_eq_getElem ho, Option.getD_some]
    exact hc
  · rename_i h0
    rw [if_neg h0] at ho
    obtain ⟨ad, hA, _, hc⟩ := h.r1.int_at ho rfl
    refine ⟨ho, ad, hA, ?_⟩
    rw [List.getD_eq_getElem?_getD, List.getElem?_eq_getElem ho, Option.getD_some]
    exact hc

theorem apL_at {g : Nat → Int} {n j : Nat} (h : j < n) : (apL g n)[j]? = some (g j) := by
  unfold apL
  rw [List.getElem?_map, List.getElem?_range h]
  rfl

/-- The boxes of both arrays. -/
structure EaI (w : World) (a b : AV) (p q : AP) (W : World) : Prop where
  x : Blk W w.heap.size 25 (arC a p)
  y : Blk W (w.heap.size + 1) 25 (arC b q)
  fb : Below w.heap.size w W
  ea : AEl W a p
  eb : AEl W b q
theorem EaI.below {w W W' : World} {a b : AV} {p q : AP} (h : EaI w a b p q W) (hb : Below W.heap.size W W') : EaI w a b p q W' :=
  ⟨h.x.below hb h.x.lt, h.y.below hb h.y.lt, h.fb.trans (hb.mono h.fb.size), h.ea.below hb, h.eb.below hb⟩
theorem EaI.start {w : World} {a b : AV} {p q : AP} (ea : AEl w a p) (eb : AEl w b q) : EaI w a b p q ((w.alloc (.cells (arC a p) 25)).alloc (.cells (arC b q) 25)) :=
  ⟨(Blk.new w _ _).alloc _, blk_n2 w _ _ _, below_n2 _ _ _, ea.below (below_n2 _ _ _), eb.below (below_n2 _ _ _)⟩
theorem EaI.cells {w W : World} {k k2 : Int} {sh el sh2 el2 : List Int} {A0 A1 B0 B1 : Option Addr} {c0 c1 d0 d1 : Nat} (h : EaI w ⟨k, sh, el⟩ ⟨k2, sh2, el2⟩ ⟨A0, c0, A1, c1⟩ ⟨B0, d0, B1, d1⟩ W) :
    (W.cell? ⟨w.heap.size, 0, none⟩ = some (.int .i64 k) ∧ W.cell? ⟨w.heap.size, 1, none⟩ = some (.slice A0 sh.length c0) ∧ W.cell? ⟨w.heap.size, 2, none⟩ = some (.slice A1 el.length c1)) ∧
    (W.cell? ⟨w.heap.size + 1, 0, none⟩ = some (.int .i64 k2) ∧ W.cell? ⟨w.heap.size + 1, 1, none⟩ = some (.slice B0 sh2.length d0) ∧ W.cell? ⟨w.heap.size + 1, 2, none⟩ = some (.slice B1 el2.length d1)) :=
  ⟨⟨h.x.cell 0, h.x.cell 1, h.x.cell 2⟩, ⟨h.y.cell 0, h.y.cell 1, h.y.cell 2⟩⟩
/-- .. and of the array that came. -/
structure EcI (w : World) (a b r : AV) (p q s : AP) (cs : Array Value) (B g : Nat) (W : World) : Prop where
  e : EaI w a b p q W
  c : Blk W g 25 cs
  o : AOwn B W r s
theorem EcI.below {w W W' : World} {a b r : AV} {p q s : AP} {cs : Array Value} {B g : Nat} (h : EcI w a b r p q s cs B g W) (hb : Below W.heap.size W W') : EcI w a b r p q s cs B g W' :=
  ⟨h.e.below hb, h.c.below hb h.c.lt, h.o.stay hb (Nat.le_refl _)⟩

end Go.Proofs.Ytkdnaebmifjmcaa.scalarEach

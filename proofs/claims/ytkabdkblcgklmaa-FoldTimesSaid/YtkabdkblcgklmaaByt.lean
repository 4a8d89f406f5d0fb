/-
  Bytes as cells, strings and slices of them: the words that every layer's walks need.
-/
import Derived.Test.YtkabdkblcgklmaaBase
import Derived.Test.YtkabdkblcgklmaaRows
import Derived.Lib.Hide
import Derived.Lib.ConvBytes
import Derived.Laws.IdiomStrings
import Derived.Laws.BytesArg
import Derived.WalkSpells
import Derived.BigQuiet
import Derived.Deep.QuietTactic
import Derived.Outline
import Derived.Deep.DeepFit
namespace Go.Proofs.Ytkabdkblcgklmaa
open Go.RowKit

/-- A byte as a cell. -/
def bv (b : UInt8) : Value := .int .u8 (b.toNat : Int)

theorem bv_one : ∀ (l : List UInt8), ∀ u ∈ l.map bv, u.oneCell' = true := by
  intro l u hu
  simp only [List.mem_map] at hu
  obtain ⟨b, _, rfl⟩ := hu
  rfl

theorem infoU8 : (Try.prog.info? 5).map (fun i => (i.zero, i.size, i.bytes)) = some (some (.int .u8 0), 1, 1) := by kernel_rfl

/-- 'string(b)' of a slice that reads as l. -/
theorem conv_reads {W : World} {B n : Nat} {A : Option Addr} {l : List UInt8} (c : Nat) (h : Reads W B 1 A n (l.map bv)) : (convert 45 9 (.slice A n c)).run Try.prog W = .ok (.string ⟨l.toArray⟩) W := by
  have hl : l.length = n := by simpa using h.1
  subst hl
  rcases A with _ | ad
  · have h0 : l = [] := by
      rcases l with _ | ⟨x, l⟩
      · rfl
      · obtain ⟨ad, h, _⟩ := h.2 (by simp)
        cases h
    subst h0
    exact run_convert_bytes_nil W 45 5 Try.underlying45 Try.underlying5 _ _ _ Try.underlying9
  · refine run_convert_bytes_back W 45 9 5 ad c l Try.underlying45 Try.underlying5 Try.underlying9 (fun j hj => ?_)
    obtain ⟨ad', e, _, hc⟩ := h.2 (by omega)
    injection e with e
    subst e
    exact hc j _ (by rw [List.getElem?_map, List.getElem?_eq_getElem hj]; rfl)

theorem Reads.front {w : World} {B n k : Nat} {A : Option Addr} {l : List UInt8} (h : Reads w B 1 A n (l.map bv)) (hk : k ≤ n) : Reads w B 1 A k ((l.take k).map bv) := by
  have hl : l.length = n := by simpa using h.1
  refine ⟨by rw [List.length_map, List.length_take]; omega, fun h0 => ?_⟩
  obtain ⟨ad, e, hb, hc⟩ := h.2 (by omega)
  refine ⟨ad, e, hb, fun j u hu => hc j u ?_⟩
  have hj : j < k := by
    have := (List.getElem?_eq_some_iff.1 hu).1
    simp at this
    omega
  rw [List.getElem?_map] at hu ⊢
  rw [← hu, List.getElem?_take_of_lt hj]

theorem size_list (s : ByteArray) : s.data.toList.length = s.size := by rw [Array.length_toList]; rfl

theorem bytesWorld_below (w : World) (e : TypeId) (s : ByteArray) : Below w.heap.size w (Lib.bytesWorld w e s) :=
  ⟨rfl, rfl, rfl, by rw [Lib.bytesWorld_size]; omega, fun k hk => Lib.bytesWorld_at_old w e s k hk⟩

theorem bytesWorld_reads (w : World) (e : TypeId) (s : ByteArray) : Reads (Lib.bytesWorld w e s) (Lib.bytesWorld w e s).heap.size 1 (some ⟨w.heap.size, 0, none⟩) s.size (s.data.toList.map bv) := by
  refine ⟨by rw [List.length_map, size_list]; omega, fun h0 => ⟨_, rfl, by rw [Lib.bytesWorld_size]; simp, fun j u hu => ?_⟩⟩
  have hj : j < s.size := by
    have := (List.getElem?_eq_some_iff.1 hu).1
    rwa [List.length_map, size_list] at this
  have hp : (⟨w.heap.size, 0, none⟩ : Addr).add j = ⟨w.heap.size, j, none⟩ := by unfold Addr.add; split <;> simp_all
  rw [hp, Lib.bytesWorld_cell w e s j hj]
  rw [List.getElem?_map] at hu
  have hj' : j < s.data.toList.length := by rw [size_list]; exact hj
  rw [List.getElem?_eq_getElem hj', Option.map_some] at hu
  rw [← hu]
  unfold bv List.getD
  rw [List.getElem?_eq_getElem hj']
  rfl

/-- v is a slice of the call's own that holds l; what lay there lies. -/
def Gives (w w' : World) (v : Value) (l : List UInt8) : Prop :=
  ∃ A c, v = .slice A l.length c ∧ w'.ownsRow w.heap.size 5 1 (.slice A l.length c) l.length (l.map bv) ∧ Below w.heap.size w w'

theorem Gives.nil (w : World) : Gives w w (.slice none 0 0) [] := ⟨none, 0, rfl, World.ownsRow_nil _ _ _ _, Below.refl _ _⟩

theorem Gives.of {w w2 : World} {v : Value} {n : Nat} {l : List UInt8} (hown : w2.ownsRow w.heap.size 5 1 v n (l.map bv)) (hn : l.length = n) (hB : Below w.heap.size w w2) : Gives w w2 v l := by
  subst hn
  rcases hown.2 with ⟨e, h0⟩ | ⟨g, cap, cur, e, _⟩
  · refine ⟨none, 0, by rw [h0]; exact e, ?_, hB⟩
    rw [h0, ← e]
    rw [h0] at hown
    exact hown
  · refine ⟨some ⟨g, 0, none⟩, cap, e, ?_, hB⟩
    rw [← e]
    exact hown

theorem own_one (w : World) (base : Nat) (hb : base ≤ w.heap.size) (x : Value) : (w.alloc (.cells #[x] 5)).ownsRow base 5 1 (.slice (some ⟨w.heap.size, 0, none⟩) 1 1) 1 [x] :=
  ⟨rfl, .inr ⟨w.heap.size, 1, #[x], rfl, hb, heap_alloc_new w _, Nat.le_refl _, by unfold maxLen; omega, rfl, rfl⟩⟩

/-- A slice of bytes as an argument. -/
structure Arg (w : World) (A : Option Addr) (c : Nat) (l : List UInt8) : Prop where
  reads : Reads w w.heap.size 1 A l.length (l.map bv)
  cap : l.length ≤ c
  big : c ≤ 140737488355328

theorem Arg.below {w w' : World} {A : Option Addr} {c : Nat} {l : List UInt8} (h : Arg w A c l) (hb : Below w.heap.size w w') : Arg w' A c l := ⟨(h.reads.below hb).more hb.size, h.cap, h.big⟩

/-- The first n cells of block g are bytes that may be written. -/
def Bys (W : World) (g n : Nat) : Prop := ∀ j, j < n → ∃ x : Int, W.cell? ⟨g, j, none⟩ = some (.int .u8 x) ∧ W.frozen? ⟨g, j, none⟩ = false

theorem Bys.set_ {W : World} {g n j : Nat} {x : Int} (h : Bys W g n) (hj : j < n) : Bys (W.setCell ⟨g, j, none⟩ (.int .u8 x)) g n := by
  intro i hi
  obtain ⟨y, c, f⟩ := h i hi
  obtain ⟨y0, c0, _⟩ := h j hj
  by_cases e : i = j
  · subst e
    exact ⟨x, World.cell?_setCell_same' _ _ _ (by rw [c0]; rfl), by rw [World.frozen?_setCell]; exact f⟩
  · exact ⟨y, (World.cell?_setCell_other _ _ _ _ (by intro e'; injection e' with _ e' _; exact e e'.symm)).trans c, by rw [World.frozen?_setCell]; exact f⟩

theorem Bys.keep {W W' : World} {S : Nat → Prop} {g n : Nat} (h : Bys W g n) (hk : Keep S W W') (hg : ¬ S g) (hlt : g < W.heap.size) : Bys W' g n := by
  intro i hi
  obtain ⟨y, c, f⟩ := h i hi
  have hb := hk.block g hlt hg
  refine ⟨y, (World.cell?_of_block (a := ⟨g, i, none⟩) hb).trans c, ?_⟩
  unfold World.frozen? at f ⊢
  rw [show W'.heap[(⟨g, i, none⟩ : Addr).block]? = W.heap[(⟨g, i, none⟩ : Addr).block]? from hb]
  exact f

theorem bytesWorld_bys (W : World) (s : ByteArray) : Bys (Lib.bytesWorld W 5 s) W.heap.size s.size := by
  intro j hj
  refine ⟨_, Lib.bytesWorld_cell W 5 s j hj, ?_⟩
  have hs : s.size ≤ (Lib.bytesCells W 5 s).size := by
    unfold Lib.bytesCells
    rw [Array.size_append, Array.size_map]
    exact Nat.le_add_right _ _
  unfold World.frozen?
  rw [show (Lib.bytesWorld W 5 s).heap[(⟨W.heap.size, j, none⟩ : Addr).block]? = _ from Lib.bytesWorld_at_new W 5 s]
  simp
  omega

theorem own_bys {W : World} {base g n c : Nat} {l : List UInt8} (h : W.ownsRow base 5 1 (.slice (some ⟨g, 0, none⟩) n c) n (l.map bv)) : Bys W g n := by
  intro j hj
  have hl : l.length = n := by simpa using h.1
  have hc := h.cells (g := g) rfl j (bv (l[j]'(by omega))) (by rw [List.getElem?_map, List.getElem?_eq_getElem (by omega)]; rfl)
  have hp : (⟨g, 0, none⟩ : Addr).add j = ⟨g, j, none⟩ := by unfold Addr.add; split <;> simp_all
  rw [hp] at hc
  refine ⟨_, hc, ?_⟩
  rcases h.2 with ⟨e, _⟩ | ⟨g', cap, cur, e, _, hh, _⟩
  · cases e
  · injection e with e
    injection e with e
    injection e with e
    subst e
    unfold World.frozen?
    rw [show W.heap[(⟨g, j, none⟩ : Addr).block]? = _ from hh]
    simp

end Go.Proofs.Ytkabdkblcgklmaa

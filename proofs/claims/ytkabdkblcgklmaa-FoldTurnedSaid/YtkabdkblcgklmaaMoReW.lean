/-
  Layer 13 (mold): gather maps as values; gather, ReshapeWay.
  Layer 13 (mold): ReshapeWay.
-/
import Derived.Test.YtkabdkblcgklmaaMoList
import Derived.Test.YtkabdkblcgklmaaWriter
import Derived.Laws.EntriesVeiled
namespace Go.Proofs.Ytkabdkblcgklmaa.mo
open Go.RowKit Go.Proofs.Ytkabdkblcgklmaa.arr

/-- Blocks of cells from B on are as they were. -/
structure Sin (B : Nat) (w w' : World) : Prop where
  size : w.heap.size ≤ w'.heap.size
  block : ∀ (k : Nat) (cs : Array Value) (t : TypeId) (fr : Nat × Nat), B ≤ k → w.heap[k]? = some (.cells cs t fr) → w'.heap[k]? = some (.cells cs t fr)
theorem Sin.of {B : Nat} {w w' : World} (h : Below w.heap.size w w') : Sin B w w' := ⟨h.size, fun k _ _ _ _ hk => (h.block k (Array.getElem?_eq_some_iff.1 hk).1).trans hk⟩
theorem Sin.on {B : Nat} {w w1 w2 : World} (h : Sin B w w1) (k : Sin B w1 w2) : Sin B w w2 := ⟨Nat.le_trans h.size k.size, fun i cs t fr hi hk => k.block i cs t fr hi (h.block i cs t fr hi hk)⟩
theorem Sin.less {B C : Nat} {w w' : World} (h : Sin C w w') (hC : C ≤ B) : Sin B w w' := ⟨h.size, fun i cs t fr hi hk => h.block i cs t fr (by omega) hk⟩
theorem Sin.keep {B : Nat} {S : Nat → Prop} {w w' : World} (h : Keep S w w') (hS : ∀ i, B ≤ i → ¬ S i) : Sin B w w' := ⟨h.size, fun k _ _ _ hk hc => (h.block k (Array.getElem?_eq_some_iff.1 hc).1 (hS k hk)).trans hc⟩
theorem Sin.put {B D : Nat} {w : World} {o : Obj} (hD : ∀ cs t fr, w.heap[D]? ≠ some (.cells cs t fr)) : Sin B w (w.putObj D o) := by
  have hg := grownBy_putObj' w D o
  exact ⟨hg.size, fun k cs t fr _ hc => (hg.block k (Array.getElem?_eq_some_iff.1 hc).1 (fun e => by injection e with e; subst e; exact hD cs t fr hc)).trans hc⟩
theorem Sin.blk_ {B g : Nat} {w w' : World} {t : TypeId} {cs : Array Value} (h : Sin B w w') (hb : Blk w g t cs) (hg : B ≤ g) : Blk w' g t cs := h.block g cs t _ hg hb
theorem Sin.own_ {B base size n : Nat} {w w' : World} {e : TypeId} {v : Value} {xs : List Value} (h : Sin B w w') (ho : w.ownsRow base e size v n xs) (hg : B ≤ base) : w'.ownsRow base e size v n xs := by
  refine ⟨ho.1, ?_⟩
  rcases ho.2 with hv | ⟨g, cap, cur, rfl, hb, hh, h1, h2, h3, h4⟩
  · exact .inl hv
  · exact .inr ⟨g, cap, cur, rfl, hb, h.block g _ _ _ (by omega) hh, h1, h2, h3, h4⟩

/-- v is a gather map, all of it made since B: its shape, and where its elements come from. -/
def WayAt (B : Nat) (W : World) (v : Value) (sh : List Int) (f : Nat → Int × Int) : Prop :=
  ∃ (A : Option Addr) (c gf : Nat) (cap : Array Value), v = .agg #[.slice A sh.length c, .func (.func gf) #[] cap] ∧ W.ownsRow B 3 1 (.slice A sh.length c) sh.length (sh.map iv) ∧ B ≤ W.heap.size ∧
    (∀ args w, (callFunc gf args).run Try.prog w = .ok (.enter gf args) w) ∧
    ∀ W', Sin B W W' → ∀ n : Nat, (n : Int) < prodI sh → Calls Try.prog gf (#[.int .i64 (n : Int)] ++ cap) W' fun e w' => e = .returned (.tuple #[.int .i64 (f n).1, .int .i64 (f n).2]) ∧ Below W'.heap.size W' w'
theorem WayAt.sin {B : Nat} {W W' : World} {v : Value} {sh : List Int} {f : Nat → Int × Int} (h : WayAt B W v sh f) (hs : Sin B W W') : WayAt B W' v sh f := by
  obtain ⟨A, c, gf, cap, h1, h2, h3, h4, h5⟩ := h
  exact ⟨A, c, gf, cap, h1, hs.own_ h2 (Nat.le_refl _), Nat.le_trans h3 hs.size, h4, fun W2 h6 => h5 W2 (hs.on h6)⟩
theorem WayAt.below {B : Nat} {W W' : World} {v : Value} {sh : List Int} {f : Nat → Int × Int} (h : WayAt B W v sh f) (hb : Below W.heap.size W W') : WayAt B W' v sh f := h.sin (Sin.of hb)
theorem WayAt.base {B C : Nat} {W : World} {v : Value} {sh : List Int} {f : Nat → Int × Int} (h : WayAt B W v sh f) (hC : C ≤ B) : WayAt C W v sh f := by
  obtain ⟨A, c, gf, cap, h1, h2, h3, h4, h5⟩ := h
  exact ⟨A, c, gf, cap, h1, arown_mono h2 hC, by omega, h4, fun W2 h6 => h5 W2 (h6.less hC)⟩
theorem WayAt.to {B : Nat} {W : World} {v : Value} {sh : List Int} {f g : Nat → Int × Int} (h : WayAt B W v sh f) (hg : ∀ n : Nat, (n : Int) < prodI sh → g n = f n) : WayAt B W v sh g := by
  obtain ⟨A, c, gf, cap, h1, h2, h3, h4, h5⟩ := h
  exact ⟨A, c, gf, cap, h1, h2, h3, h4, fun W2 h6 n hn => by rw [hg n hn]; exact h5 W2 h6 n hn⟩
abbrev noW : Value := .agg #[.slice none 0 0, .nilFunc]
/-- What a call for a gather map answers. -/
def GiveW (B : Nat) (sh : List Int) (f : Nat → Int × Int) (E : Int) (w : World) (e : Ending) (w' : World) : Prop :=
  ∃ v, e = .returned (.tuple #[v, .int .i64 E]) ∧ Below w.heap.size w w' ∧ (E = 0 → okShape sh = true ∧ WayAt B w' v sh f) ∧ (E ≠ 0 → v = noW)
theorem GiveW.no {B : Nat} {sh : List Int} {f : Nat → Int × Int} {E : Int} {w w' : World} (h : E ≠ 0) (hb : Below w.heap.size w w') : GiveW B sh f E w (.returned (.tuple #[noW, .int .i64 E])) w' := ⟨_, rfl, hb, fun e => absurd e h, fun _ => rfl⟩

/-! ### A gather map as a result -/
theorem load_way (w : World) (g : Nat) (x y : Value) (hb : Blk w g 87 #[x, y]) : (loadVar 87 ⟨g, 0, none⟩).run Try.prog w = .ok (.agg #[x, y]) w := by
  have h1 : w.rangeAt g 0 [x, y] := fun j v hv => by
    rw [Nat.zero_add, hb.cell]
    simpa using hv
  exact run_loadVar_mid w g 0 87 [x, y] _ h1 Try.underlying87 rfl (by kernel_rfl)
theorem results_way2 {fn : Func} {t i : Tmp} {tmps : Array Value} {w : World} {g : Nat} {x y v : Value} (h : fn.results = #[.cell t 87, .tmp i]) (ht : tmps.getD t undef = .pointer (some ⟨g, 0, none⟩)) (hv : tmps.getD i undef = v) (hb : Blk w g 87 #[x, y]) : (results fn tmps).run Try.prog w = .ok (.tuple #[.agg #[x, y], v]) w := by
  have h1 := load_way w g x y hb
  rw [Array.getD_eq_getD_getElem?] at ht hv
  simp [results, h, ht, h1, hv, asAddr]
theorem mokeep_two (W : World) (g : Nat) (x y : Value) : Keep (fun k => k = g) W ((W.setCell ⟨g, 0, none⟩ x).setCell ⟨g, 1, none⟩ y) := by
  have h1 : Keep (fun k => k = g) W (W.setCell ⟨g, 0, none⟩ x) := (Keep.refl _ _).setCell _ _ (fun _ => rfl)
  exact h1.setCell _ _ (fun _ => rfl)
theorem moblk_two {W : World} {g : Nat} {t : TypeId} {a b : Value} (x y : Value) (h : Blk W g t #[a, b]) : Blk ((W.setCell ⟨g, 0, none⟩ x).setCell ⟨g, 1, none⟩ y) g t #[x, y] :=
  (h.set_ 0 x).set_ 1 y

/-! ### ReshapeWay -/
def rshF (N : Int) (n : Nat) : Int × Int := if N = 0 then (-1, 0) else (0, (n : Int) % N)
end Go.Proofs.Ytkabdkblcgklmaa.mo

namespace Go.Proofs.Ytkabdkblcgklmaa.mo
open Go.RowKit Go.Proofs.Ytkabdkblcgklmaa.arr

def negB (x : Int) : Bool := decide (x < 0)
/-- ReshapeWay's error. -/
def rwE (a : AV) (sh : List Int) : Int := if axE a sh ≠ 0 then axE a sh else if (axL a sh).any negB = true then 5 else if okShape (axL a sh) = true then 0 else 9
theorem axE_ok {a : AV} {sh : List Int} (h : axE a sh = 0) : okShape sh = true ∧ listE a = 0 := by
  unfold axE at h
  split at h
  · exact ⟨by assumption, h⟩
  · omega
theorem axL_len (a : AV) (sh : List Int) : (axL a sh).length ≤ 4096 := by
  unfold axL
  split
  · rename_i h
    rw [List.length_map]
    exact (okA_len (listE_ok (axE_ok h).2)).1
  · simp

end Go.Proofs.Ytkabdkblcgklmaa.mo

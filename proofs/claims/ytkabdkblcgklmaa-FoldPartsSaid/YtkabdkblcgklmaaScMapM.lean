/-
  Layer 12 (scalar): MapTwo.
-/
import Derived.Test.YtkabdkblcgklmaaScApply
namespace Go.Proofs.Ytkabdkblcgklmaa.sc
open Go.RowKit Go.Proofs.Ytkabdkblcgklmaa.arr

def mixG (f : Int) (a b : AV) (i : Nat) : Int := mixE f a.kind b.kind (elA a i) (elA b i)
def mixW (f : Int) (a b : AV) (i : Nat) : Int := mixV f a.kind b.kind (elA a i) (elA b i)
def twoN (a b : AV) : Nat := (prodI (togL a.sh b.sh)).toNat
def twoME (f : Int) (a b : AV) : Int := if binB f = false then 2 else if (okA a && okA b) = false then 110 else if togE a.sh b.sh ≠ 0 then togE a.sh b.sh else if kindsE f a.kind b.kind ≠ 0 then kindsE f a.kind b.kind else apE (mixG f a b) (twoN a b)
def twoMA (f : Int) (a b : AV) : AV := if twoME f a b ≠ 0 then ⟨0, [], []⟩ else ⟨1, togL a.sh b.sh, apL (mixW f a b) (twoN a b)⟩
/-- What a map answers. -/
def MapA (E : Int) (x : AV) (w : World) (e : Ending) (w' : World) : Prop := ∃ v, e = .returned (.tuple #[v, .int .i64 E]) ∧ GiveA w w' v x
theorem noAV_own (B : Nat) (W : World) : AOwn B W ⟨0, [], []⟩ ⟨none, 0, none, 0⟩ := ⟨World.ownsRow_nil _ _ _ _, World.ownsRow_nil _ _ _ _⟩
theorem twoMA.no {f : Int} {a b : AV} {E : Int} {w w' : World} (h : twoME f a b = E) (h0 : E ≠ 0) (hb : Below w.heap.size w w') : MapA (twoME f a b) (twoMA f a b) w (.returned (.tuple #[.agg #[.int .i64 0, .slice none 0 0, .slice none 0 0], .int .i64 E])) w' := by
  unfold twoMA MapA
  rw [h, if_pos h0]
  exact ⟨_, rfl, ⟨none, 0, none, 0⟩, rfl, noAV_own _ _, hb⟩
theorem okA_parts {a : AV} (h : okA a = true) : okShape a.sh = true ∧ (a.el.length : Int) = prodI a.sh := by
  unfold okA at h
  rw [Bool.and_eq_true, Bool.and_eq_true, decide_eq_true_eq] at h
  exact ⟨h.1, h.2.1⟩
theorem tog_ok {a b : AV} (ha : okA a = true) (hb : okA b = true) (h : togE a.sh b.sh = 0) : okShape (togL a.sh b.sh) = true ∧ prodI (togL a.sh b.sh) = (twoN a b : Int) ∧ ∀ i, i < twoN a b → elOk a i ∧ elOk b i := by
  obtain ⟨a1, a2⟩ := okA_parts ha
  obtain ⟨b1, b2⟩ := okA_parts hb
  have hl : togL a.sh b.sh = if a.sh.length = 0 then b.sh else a.sh := by unfold togL; rw [h, if_neg (by decide)]
  have hok : okShape (togL a.sh b.sh) = true := by rw [hl]; split <;> assumption
  have hN : prodI (togL a.sh b.sh) = (twoN a b : Int) := by
    unfold twoN
    have := (prodI_four (okShape_iff.1 hok).2.1 (okShape_iff.1 hok).1).1
    omega
  refine ⟨hok, hN, fun i hi => ?_⟩
  have hE := h
  unfold togE at hE
  rw [a1, b1] at hE
  rw [if_neg (by decide)] at hE
  have hiN : (i : Int) < prodI (togL a.sh b.sh) := by rw [hN]; omega
  rw [hl] at hiN
  unfold elOk
  by_cases ha0 : a.sh.length = 0
  · have ea : a.sh = [] := List.eq_nil_of_length_eq_zero ha0
    rw [if_pos ha0] at hiN ⊢
    rw [ea] at a2
    have a3 : prodI [] = 1 := rfl
    refine ⟨by omega, ?_⟩
    split
    · rename_i hb0
      have eb : b.sh = [] := List.eq_nil_of_length_eq_zero hb0
      rw [eb] at b2
      omega
    · omega
  · rw [if_neg ha0] at hiN ⊢
    refine ⟨by omega, ?_⟩
    split
    · rename_i hb0
      have eb : b.sh = [] := List.eq_nil_of_length_eq_zero hb0
      rw [eb] at b2
      have a3 : prodI [] = 1 := rfl
      omega
    · rename_i hb0
      rw [if_neg (fun h => h.elim ha0 hb0)] at hE
      have hab : a.sh = b.sh := by
        by_cases hlen : a.sh.length = b.sh.length
        · rw [if_neg (by simp [hlen])] at hE
          by_cases he : a.sh = b.sh
          · exact he
          · rw [if_pos he] at hE
            omega
        · rw [if_pos hlen] at hE
          omega
      rw [hab] at hiN
      omega

theorem blk_n2 (w : World) (a : Obj) (t : TypeId) (cs : Array Value) : Blk ((w.alloc a).alloc (.cells cs t)) (w.heap.size + 1) t cs := by
  have := Blk.new (w.alloc a) t cs
  rwa [World.size_alloc] at this
theorem blk_n3 (w : World) (a b : Obj) (t : TypeId) (cs : Array Value) : Blk (((w.alloc a).alloc b).alloc (.cells cs t)) (w.heap.size + 1 + 1) t cs := by
  have := Blk.new ((w.alloc a).alloc b) t cs
  rwa [World.size_alloc, World.size_alloc] at this
theorem below_n2 (w : World) (a b : Obj) : Below w.heap.size w ((w.alloc a).alloc b) := (alloc_below w a).alloc (by simp) _
theorem below_n3 (w : World) (a b c : Obj) : Below w.heap.size w (((w.alloc a).alloc b).alloc c) := (below_n2 w a b).alloc (by simp; omega) _
/-- MapTwo's boxes: both arrays, and the result. -/
structure MtI (w : World) (a b : AV) (p q : AP) (W : World) : Prop where
  x : Blk W w.heap.size 25 (arC a p)
  y : Blk W (w.heap.size + 1) 25 (arC b q)
  r : Blk W (w.heap.size + 1 + 1) 25 #[.int .i64 0, .slice none 0 0, .slice none 0 0]
  fb : Below w.heap.size w W
  ea : AEl W a p
  eb : AEl W b q
theorem MtI.below {w W W' : World} {a b : AV} {p q : AP} (h : MtI w a b p q W) (hb : Below W.heap.size W W') : MtI w a b p q W' :=
  ⟨h.x.below hb h.x.lt, h.y.below hb h.y.lt, h.r.below hb h.r.lt, h.fb.trans (hb.mono h.fb.size), h.ea.below hb, h.eb.below hb⟩
theorem MtI.start {w : World} {a b : AV} {p q : AP} (ea : AEl w a p) (eb : AEl w b q) : MtI w a b p q (((w.alloc (.cells (arC a p) 25)).alloc (.cells (arC b q) 25)).alloc (.cells #[.int .i64 0, .slice none 0 0, .slice none 0 0] 25)) :=
  ⟨((Blk.new w _ _).alloc _).alloc _, (blk_n2 w _ _ _).alloc _, blk_n3 w _ _ _ _, below_n3 _ _ _ _, ea.below (below_n3 _ _ _ _), eb.below (below_n3 _ _ _ _)⟩
theorem MtI.cells {w W : World} {k k2 : Int} {sh el sh2 el2 : List Int} {A0 A1 B0 B1 : Option Addr} {c0 c1 d0 d1 : Nat} (h : MtI w ⟨k, sh, el⟩ ⟨k2, sh2, el2⟩ ⟨A0, c0, A1, c1⟩ ⟨B0, d0, B1, d1⟩ W) :
    (W.cell? ⟨w.heap.size, 0, none⟩ = some (.int .i64 k) ∧ W.cell? ⟨w.heap.size, 1, none⟩ = some (.slice A0 sh.length c0) ∧ W.cell? ⟨w.heap.size, 2, none⟩ = some (.slice A1 el.length c1)) ∧
    (W.cell? ⟨w.heap.size + 1, 0, none⟩ = some (.int .i64 k2) ∧ W.cell? ⟨w.heap.size + 1, 1, none⟩ = some (.slice B0 sh2.length d0) ∧ W.cell? ⟨w.heap.size + 1, 2, none⟩ = some (.slice B1 el2.length d1)) ∧
    (W.cell? ⟨w.heap.size + 1 + 1, 0, none⟩ = some (.int .i64 0) ∧ W.cell? ⟨w.heap.size + 1 + 1, 1, none⟩ = some (.slice none 0 0) ∧ W.cell? ⟨w.heap.size + 1 + 1, 2, none⟩ = some (.slice none 0 0)) ∧
    (W.frozen? ⟨w.heap.size + 1 + 1, 0, none⟩ = false ∧ W.frozen? ⟨w.heap.size + 1 + 1, 1, none⟩ = false ∧ W.frozen? ⟨w.heap.size + 1 + 1, 2, none⟩ = false) :=
  ⟨⟨h.x.cell 0, h.x.cell 1, h.x.cell 2⟩, ⟨h.y.cell 0, h.y.cell 1, h.y.cell 2⟩, ⟨h.r.cell 0, h.r.cell 1, h.r.cell 2⟩, h.r.frozen 0, h.r.frozen 1, h.r.frozen 2⟩
theorem MtI.fin {w W : World} {a b : AV} {p q : AP} (h : MtI w a b p q W) (x y z : Value) : Below w.heap.size w (((W.setCell ⟨w.heap.size + 1 + 1, 0, none⟩ x).setCell ⟨w.heap.size + 1 + 1, 1, none⟩ y).setCell ⟨w.heap.size + 1 + 1, 2, none⟩ z) :=
  h.fb.trans ((arkeep_three W _ x y z).below h.fb.size (fun i hi e => by omega))

theorem maptwo1_any (gv : Nat) (cap : Array Value) (hgf : ∀ args w, (callFunc gv args).run Try.prog w = .ok (.enter gv args) w) (x y V E : Int) (g : Nat) (w : World) (hx : Blk w g 72 #[.func (.func gv) #[] cap])
    (h : ∀ W, Below w.heap.size w W → Calls Try.prog gv (#[.int .i64 x, .int .i64 y] ++ cap) W fun e w' => e = .returned (.tuple #[.int .i64 V, .int .i64 E]) ∧ Below W.heap.size W w') :
    Calls Try.prog 97 #[pv x y, .pointer (some ⟨g, 0, none⟩)] w fun e w' => e = .returned (.tuple #[.int .i64 V, .int .i64 E]) ∧ Below w.heap.size w w' := by
  have c0 := (hx.alloc (.cells #[.int .i64 x, .int .i64 y] 123)).cell 0
  have H := Lib.hid (h (w.alloc (.cells #[.int .i64 x, .int .i64 y] 123)) (alloc_below _ _))
  clear hx h
  go_enter Try.func97, Try.ntmps97
  go_wp2_with ((with_reducible refine H.out.mono ?_); rintro e w2 ⟨rfl, b2⟩)
  go_ret2
  exact ⟨rfl, below_on (alloc_below _ _) b2⟩
end Go.Proofs.Ytkabdkblcgklmaa.sc

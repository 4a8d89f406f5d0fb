/-
  The space of layer 4: what a loop over its runs needs: a cell of its own, a run in a box, runs' bounds.
-/
import Derived.Test.YtjndbibbfcmgiaaEIter
namespace Go.Proofs.Ytjndbibbfcmgiaa
open Go.RowKit

/-- Since w nothing has turned but block q, which holds cs. -/
structure EI (w : World) (q : Nat) (t : TypeId) (cs : Array Value) (W : World) : Prop where
  keep : Keep (fun k => k = q) w W
  box : Blk W q t cs
section
variable {w W W' : World} {q B : Nat} {t : TypeId} {cs : Array Value}
theorem EI.turn (h : EI w q t cs W) (hk : Keep (fun k => B ≤ k) W W') (hq : q < B) (hB : w.heap.size ≤ B) : EI w q t cs W' :=
  ⟨h.keep.trans hk (fun i hi e => by omega), hk.blk h.box (by omega)⟩
theorem EI.alloc (h : EI w q t cs W) (o : Obj) : EI w q t cs (W.alloc o) := ⟨h.keep.alloc o, h.box.alloc o⟩
theorem EI.drew (h : EI w q t cs W) : EI w q t cs W.drew := ⟨h.keep.drew, h.box⟩
theorem EI.set_ (h : EI w q t cs W) (i : Nat) (v : Value) : EI w q t (cs.setIfInBounds i v) (W.setCell ⟨q, i, none⟩ v) := ⟨h.keep.setCell _ _ (fun _ => rfl), h.box.set_ i v⟩
theorem keepE {row : Option Nat} (hg : W.grownBy W' row) (h : ∀ k, row = some k → B ≤ k) : Keep (fun k => B ≤ k) W W' := (Keep.refl _ W).grown hg (fun g e _ => h g e)
theorem keepsFrom_keep (h : Keep (fun k => k = q) W W') (hq : q < B) : KeepsFrom B W W' :=
  ⟨h.size, fun k o hB hk _ => (h.block k (Array.getElem?_eq_some_iff.1 hk).1 (by omega)).trans hk⟩
theorem keepsFrom_alloc (B : Nat) (W : World) (o : Obj) : KeepsFrom B W (W.alloc o) := KeepsFrom.of_grownBy (World.grownBy_alloc W o none) (fun j e => by cases e)
theorem kpE_alloc (q : Nat) (W : World) (o : Obj) : KpE q W (W.alloc o) := KpE.of_below ((Below.refl _ _).alloc (Nat.le_refl _) _)
theorem blk_grown {row : Option Nat} {g : Nat} (h : Blk W g t cs) (hg : W.grownBy W' row) (hr : ∀ r, row = some r → B ≤ r ∧ ∃ o : Obj, W.heap[r]? = some o ∧ o.isCells = false) : Blk W' g t cs := by
  refine h.grown hg (fun e => ?_)
  obtain ⟨_, o, ho, hc⟩ := hr g e.symm
  unfold Blk at h
  rw [h] at ho
  injection ho with ho
  subst ho
  cases hc
end

theorem Run.bnd {s : ESt} {a : Bool} (x : Run s a) (h : s.Ok) : 1 ≤ x.1.2 ∧ s.f + x.1.1 + x.1.2 ≤ 4096 := by
  obtain ⟨_, hr⟩ := runs_are 0 x.1 x.2
  have := hr.all.le hr.pos
  have := h.few
  exact ⟨hr.pos, by omega⟩
def sumN {s : ESt} {a : Bool} : List (Run s a) → Nat
  | [] => 0
  | x :: pre => x.1.2 + sumN pre
theorem sumN_snoc {s : ESt} {a : Bool} (x : Run s a) : ∀ pre : List (Run s a), sumN (pre ++ [x]) = sumN pre + x.1.2
  | [] => by simp [sumN]
  | y :: pre => by
    rw [List.cons_append]
    unfold sumN
    rw [sumN_snoc x pre]
    omega
theorem sumN_eq {s : ESt} {a : Bool} : ∀ pre : List (Run s a), sumN pre = ((pre.map (·.1)).map (·.2)).sum
  | [] => rfl
  | x :: pre => by
    unfold sumN
    rw [sumN_eq pre, List.map_cons, List.map_cons, List.sum_cons]
theorem sum_le {s : ESt} {a : Bool} (h : s.Ok) : ∀ pre : List (Run s a), sumN pre ≤ 4096 * pre.length
  | [] => Nat.le_refl _
  | x :: pre => by
    have := sum_le h pre
    have := (x.bnd h).2
    unfold sumN
    rw [List.length_cons]
    omega
/-- The run of a round, in its box. -/
def BoxX (B f : Nat) (fr : Nat → Act) (r : Nat × Nat) (a' : Act) (W : World) : Prop := ∃ rb, B ≤ rb ∧ a' = fr rb ∧ Blk W rb 33 #[.int .i64 ((f : Int) + (r.1 : Int)), .int .i64 (r.2 : Int)]
theorem BoxX.own {B f : Nat} {fr : Nat → Act} {r : Nat × Nat} {a' : Act} : OwnFrom B (fun (_ : Unit) W => BoxX B f fr r a' W) := by
  rintro _ W W' row ⟨rb, h1, h2, h3⟩ hg hr
  exact ⟨rb, h1, h2, blk_grown h3 hg hr⟩

section
variable {w : World} {d : SpAt} {s : ESt}
attribute [local go_sem] Oper.semAt_some
set_option maxRecDepth 100000 in
set_option maxHeartbeats 4000000 in
theorem eleft_any (h : EK w d s) : Calls Try.prog 7 #[.pointer (some ⟨d.b, 0, none⟩)] w fun e w' => e = .returned (.int .i64 (s.L.count false : Nat)) ∧ Below w.heap.size w w' := by
  have HV := Lib.hid (evalid_any h)
  have hfv : Fence.wide.fn 23 := trivial
  have hfr : Fence.wide.fn 24 := trivial
  have hlt := h.lt
  have H := Lib.hid h
  clear h
  refine (callsIn_wide (n := 7)).1 ?_
  refine callsIn_of_wp_marks Try.func7 rfl trivial ?_
  simp only [Try.ntmps7, List.size_toArray, List.length_cons, List.length_nil, Nat.reduceAdd, Nat.reduceSub, Array.replicate_succ, Array.replicate_zero, List.push_toArray, List.append_toArray, List.nil_append, List.cons_append]
  gi_wp2_with (first
    | (gi_at_call 23; refine (callsIn_wide.2 HV.out).mono ?_; rintro e _ ⟨rfl, rfl⟩)
    | (gi_at_call 24; refine (callsIn_wide.2 (eruns_any _ _ _)).mono ?_; rintro e w2 ⟨rfl, hw2⟩))
  rw [← hw2]
  obtain ⟨q, hq⟩ : ∃ q, w.heap.size = q := ⟨_, rfl⟩
  obtain ⟨W1, hW1⟩ : ∃ W1, w.alloc (.cells #[.int .i64 0] 3) = W1 := ⟨_, rfl⟩
  have hB1 : Below w.heap.size w W1 := by rw [← hW1]; exact (Below.refl _ _).alloc (Nat.le_refl _) _
  have hx1 : Blk W1 q 3 #[.int .i64 0] := by rw [← hW1, ← hq]; exact Blk.new w _ _
  have hs1 : W1.heap.size = q + 1 := by rw [← hW1, ← hq]; simp
  have H1 := Lib.hid (H.out.below hB1)
  have HB1 := Lib.hid hB1
  have HX1 := Lib.hid hx1
  clear hB1 hx1
  rw [hW1] at hw2
  rw [hq]
  have hb2 : Below W1.heap.size W1 w2 := by rw [hw2]; exact ((Below.refl _ _).alloc (Nat.le_refl _) _).alloc (by simp) _
  have hsz2 : w2.heap.size = q + 3 := by rw [hw2]; simp [hs1]
  have hEK2 := H1.out.below hb2
  have hRA : RunsAt w2 (q + 1) (q + 1 + 1) d false := by
    rw [hw2]
    refine ⟨by rw [← hs1]; exact (Blk.new W1 _ _).alloc _, ?_⟩
    have := Blk.new (W1.alloc (.cells #[.pointer (some ⟨d.b, 0, none⟩)] 23)) 4 #[.bool false]
    rwa [World.size_alloc, hs1] at this
  have hdb := hlt d.b (.inl rfl)
  have hdg := hlt d.g (.inr rfl)
  have hne : q + 1 ≠ q ∧ q + 1 + 1 ≠ q ∧ d.b ≠ q ∧ d.g ≠ q := by omega
  have hEI0 : EI w2 q 3 #[.int .i64 ((sumN ([] : List (Run s false)) : Nat) : Int)] w2 := ⟨Keep.refl _ _, HX1.out.below hb2 (by omega)⟩
  have HOK := Lib.hid hEK2.ok
  have HBW : Hid (Below w.heap.size w w2) := Lib.hid (HB1.out.trans (hb2.mono HB1.out.size))
  refine wpIn_rangeFunc_ownH rfl (by omega) (gf := 33) (lb := #[.pointer (some ⟨q + 1, 0, none⟩), .pointer (some ⟨q + 1 + 1, 0, none⟩)]) rfl trivial (enters_of Try.func33 (by kernel_rfl) rfl)
    (runs_stops 6 (by omega) q (q + 1) (q + 1 + 1) d s false w2 hEK2 hRA hne) (fun h k => h.trans k) (fun W l o o' _ hl ho _ => KpE.putObj W l o o' hl ho) (Below.refl _ _) (fun _ => rfl)
    (fun (pre : List (Run s false)) W => EI w2 q 3 #[.int .i64 ((sumN pre : Nat) : Int)] W) (fun _ _ _ => False)
    (fun pre W W' row hs hg hr => hs.turn (keepE hg (fun k e => (hr k e).1)) (by omega) (by omega))
    (fun _ _ _ _ _ hs _ _ => hs)
    hEI0
    (fun (x : Run s false) a' W => BoxX w2.heap.size s.f (fun rb => { tmps := #[.pointer (some ⟨d.b, 0, none⟩), undef, .int .i64 0, .pointer (some ⟨q, 0, none⟩), .pointer (some ⟨rb, 0, none⟩), .pointer (some ⟨d.b, 0, none⟩), .bool true, .bool false, .pointer (some ⟨d.b, 0, none⟩), .func (.func 33) #[] #[.pointer (some ⟨q + 1, 0, none⟩), .pointer (some ⟨q + 1 + 1, 0, none⟩)], (.agg #[.int .i64 ((s.f : Int) + (x.1.1 : Int)), .int .i64 (x.1.2 : Int)]), undef, undef, undef, undef, undef], defers := [] }) x.1 a' W)
    (fun _ _ => BoxX.own) ?assign ?body ?done ?stop
  case assign =>
    intro l pre x W K hI hK
    have HK := Lib.hid hK
    have HI := Lib.hid hI
    clear hK hI
    unfold runV
    gi_wp2
    exact HK.out _ _ (keepsFrom_alloc _ _ _) (kpE_alloc _ _ _) (HI.out.alloc _) ⟨W.heap.size, HI.out.keep.size, rfl, Blk.new W _ _⟩
  case body =>
    rintro l pre x a' W _ _ hI ⟨rb, hrb, rfl, hbx⟩ hpl
    have cq := hI.box.cell 0
    have fq := hI.box.frozen 0
    have r1 := hbx.cell 1
    have hb := (x.bnd HOK.out).2
    have hsum := sum_le HOK.out pre
    have hsn := sumN_snoc x pre
    obtain ⟨T, hT⟩ : ∃ T, sumN pre = T := ⟨_, rfl⟩
    obtain ⟨N, hN⟩ : ∃ N, x.1.2 = N := ⟨_, rfl⟩
    have hk : Keep (fun k => k = q) W (W.setCell ⟨q, 0, none⟩ (.int .i64 ((T : Int) + (N : Int)))) := (Keep.refl _ _).setCell _ _ (fun _ => rfl)
    have hI2 := hI.set_ 0 (.int .i64 ((T : Int) + (N : Int)))
    rw [hT, hN] at hsn
    rw [hT] at cq hsum hI2
    rw [hN] at r1 hb
    have HF := Lib.hid (And.intro (keepsFrom_keep (B := w2.heap.size) hk (by omega)) (And.intro (KpE.of_keep hk) (show EI w2 q 3 #[.int .i64 ((sumN (pre ++ [x]) : Nat) : Int)] _ by rw [hsn]; exact hI2)))
    have hT2 : T ≤ 16777216 := by omega
    clear hk hI2 hI hbx hsn hT
    gi_wp2
    exact HF.out
  case done =>
    intro D xs W hD hS hI hK
    have cq := hI.box.cell 0
    have hsum : sumN xs = s.L.count false := by
      rw [sumN_eq, hS, count_runs, List.drop_zero]
    rw [hsum] at cq
    have hbw : Below w.heap.size w (W.putObj D (.deferred none)) := by
      have h1 : Below w.heap.size w W := HBW.out.trans (hI.keep.below (by omega) (fun i hi e => by omega))
      exact h1.trans (((Keep.refl (fun k => k = D) W).grown (grownBy_putObj' W D _) (fun k e _ => by injection e with e; exact e.symm)).below h1.size (fun i hi e => by omega))
    have HB := Lib.hid hbw
    clear hS hI hbw
    gi_wp2
    refine ⟨by simp, .inl ⟨_, _, rfl, run_takeDeferred hK, ?_⟩⟩
    exact ⟨_, results_tmp rfl _ _ _, rfl, HB.out⟩
  case stop =>
    rintro D c pre W hD _ hf
    exact hf.elim
end
end Go.Proofs.Ytjndbibbfcmgiaa

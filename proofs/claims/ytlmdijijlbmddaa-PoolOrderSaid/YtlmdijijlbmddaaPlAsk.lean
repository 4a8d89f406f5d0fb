/-
  The pool of layer 10: the backing store is asked something: a call that defers.
-/
import Derived.Test.YtlmdijijlbmddaaPlWr1
import Derived.Defers
import Derived.Recover
namespace Go.Proofs.Ytlmdijijlbmddaa.pool
open Go.RowKit

set_option maxHeartbeats 1000000 in
theorem ask1_idle (C1 C2 p : Nat) (u : Value) (w : World) (h1 : w.cell? ⟨C1, 0, none⟩ = some (pv p)) (h4 : w.cell? ⟨p, 4, none⟩ = some u) (f4 : w.frozen? ⟨p, 4, none⟩ = false) :
    CallsD Try.prog 121 #[.pointer (some ⟨C1, 0, none⟩), .pointer (some ⟨C2, 0, none⟩)] .returning w fun e u' w' => e = .returned (.tuple #[]) ∧ u' = .returning ∧ w' = w.setCell ⟨p, 4, none⟩ (.bool false) := by
  refine callsD_of_wpS Try.func121 rfl fun c₀ cs hu => ?_
  apply wpS_seq
  apply wpS_region
  simp [wpOpsS, go_sem, h1, h4, f4, Try.ntmps121, Exit.thenS]
  apply wpS_seq
  apply wpS_region
  simp [wpOpsS, go_sem, recoverD, hu, Exit.thenS]
  refine wpS_cond (t := false) (by simp [Act.eval, Array.replicate]) ?_
  simp only [Bool.false_eq_true, if_false]
  refine wpS_of_wp (wp_skip ?_)
  cases c₀
  simp_all [bodyPostS, results, Try.results121]

section
variable {p gf : Nat} {w : World} {cap : Array Value} {E : Int} {X : World → Prop}
set_option maxHeartbeats 1000000 in
/-- 'ask', whatever is asked: in the world W1 the closure is called; behind it the answer is kept, and the mark is taken back. -/
theorem ask_any (hgf : ∀ args w, (callFunc gf args).run Try.prog w = .ok (.enter gf args) w) (cs : Array Value) (hp : Blk w p 54 cs) (h4 : cs.size = 5)
    (hcall : ∀ W1, W1 = ((w.setCell ⟨p, 4, none⟩ (.bool true)).alloc (.cells #[pv p] 24)).alloc (.cells #[.int .i64 0] 25) → Calls Try.prog gf cap W1 fun e w' => e = .returned (.int .i64 E) ∧ X w')
    (hX : ∀ w', X w' → Blk w' w.heap.size 24 #[pv p] ∧ Blk w' (w.heap.size + 1) 25 #[.int .i64 0] ∧ ∃ cs', Blk w' p 54 cs' ∧ cs'.size = 5) :
    Calls Try.prog 84 #[pv p, .func (.func gf) #[] cap] w fun e w' => e = .returned (.int .i64 E) ∧ ∃ w3, X w3 ∧ w' = (w3.setCell ⟨w.heap.size + 1, 0, none⟩ (.int .i64 E)).setCell ⟨p, 4, none⟩ (.bool false) := by
  have hpl := hp.lt
  have hp2 := (hp.alloc (.cells #[pv p] 24)).alloc (.cells #[.int .i64 0] 25)
  have c4 : ∃ u, ((w.alloc (.cells #[pv p] 24)).alloc (.cells #[.int .i64 0] 25)).cell? ⟨p, 4, none⟩ = some u := ⟨_, (hp2.cell 4).trans (Array.getElem?_eq_getElem (by omega))⟩
  obtain ⟨u4, c4⟩ := c4
  have f4 := hp2.frozen 4
  have hx := (Blk.new w 24 #[pv p]).alloc (.cells #[.int .i64 0] 25)
  have x0 := hx.cell 0
  have HC := Lib.hid (hcall _ rfl)
  have HX := Lib.hid hX
  have hmf := hmfT
  clear hcall hX hp hp2 hx
  go_enter_defers Try.func84, Try.ntmps84
  go_wp2_with (with_reducible refine HC.out.mono ?_; rintro e w3 ⟨rfl, hx3⟩; obtain ⟨b1, b2, cs3, b3, hs3⟩ := HX.out w3 hx3; have e0 := b2.cell 0; have g0 := b2.frozen 0; have HX3 := Lib.hid hx3; have H1 := Lib.hid b1; have H2 := Lib.hid b2; have H3 := Lib.hid b3; clear hx3 b1 b2 b3)
  refine leaves_cons (f := 121) (args := #[.pointer (some ⟨w.heap.size, 0, none⟩), .pointer (some ⟨w.heap.size + 1, 0, none⟩)]) (by simp) (by simp [go_sem]) ?_
  have hne : p ≠ w.heap.size + 1 := by omega
  have H3' := H3.out.far (p := ⟨w.heap.size + 1, 0, none⟩) hne (.int .i64 E)
  have H1' := H1.out.far (p := ⟨w.heap.size + 1, 0, none⟩) (by simp) (.int .i64 E)
  have H2' := (H2.out.set_ 0 (.int .i64 E)).far (p := ⟨p, 4, none⟩) (by simp; omega) (.bool false)
  have hu : ∃ u, (w3.setCell ⟨w.heap.size + 1, 0, none⟩ (.int .i64 E)).cell? ⟨p, 4, none⟩ = some u := ⟨_, (H3'.cell 4).trans (Array.getElem?_eq_getElem (by omega))⟩
  obtain ⟨u, hu⟩ := hu
  have e5 := H2'.cell 0
  refine (ask1_idle w.heap.size (w.heap.size + 1) p u _ (H1'.cell 0) hu (H3'.frozen 4)).mono ?_
  rintro e u' w'' ⟨rfl, rfl, rfl⟩
  have HE := Lib.hid (show ∃ w4, X w4 ∧ (w3.setCell ⟨w.heap.size + 1, 0, none⟩ (.int .i64 E)).setCell ⟨p, 4, none⟩ (.bool false) = (w4.setCell ⟨w.heap.size + 1, 0, none⟩ (.int .i64 E)).setCell ⟨p, 4, none⟩ (.bool false) from ⟨w3, HX3.out, rfl⟩)
  generalize (w3.setCell ⟨w.heap.size + 1, 0, none⟩ (.int .i64 E)).setCell ⟨p, 4, none⟩ (.bool false) = wz at *
  refine ⟨.int .i64 E, ?_, rfl, HE.out⟩
  simp [results, Try.results84, go_sem, e5]
end
end Go.Proofs.Ytlmdijijlbmddaa.pool

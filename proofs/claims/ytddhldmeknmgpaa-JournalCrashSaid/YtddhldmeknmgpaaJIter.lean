/-
  The journal of layer 8: the test of the valid prefix, and the iterator of a journal's sectors.
-/
import Derived.Test.YtddhldmeknmgpaaJLies
import Derived.Test.YtddhldmeknmgpaaRtSlot
import Derived.Test.YtddhldmeknmgpaaDoneIn
namespace Go.Proofs.Ytddhldmeknmgpaa
open Go.RowKit

section
variable {P : Program} {n : Nat} {ops : Array Oper} {Q : Exit → Act → World → Prop} {md : Region.Mode} {S : (Nat → Bool) → World → Prop} {R : (Nat → Bool) → Nat → Value → World → Prop} {a0 : Act} {i : Nat} {o : Oper}
theorem doneIn_call (f : FuncId) (args : Array Value) (hi : ops[i]? = some o) (hsem : ∀ ρ, o.semAt none ρ = execOp ρ o)
    (h : ∀ (done : Nat → Bool) (a : Act) (w : World), S done w → done i = false → (∀ t, free md ops i t = true → a.tmps[t]? = a0.tmps[t]?) → (∀ j d, behind md ops i j = true → dstOf ops j = some d → ∃ v, a.tmps[d]? = some v ∧ R done j v w) →
      Region.wanted o (yielded ops a.tmps) = true ∧ (execOp a.eval o).run P w = .ok (.enter f args) w ∧
      Calls P f args w fun e w' => ∃ v, e = .returned v ∧ S (upd done i) w' ∧ R (upd done i) i v w' ∧ ∀ j u, j ≠ i → done j = true → R done j u w → R (upd done i) j u w') : DoneStepIn n P md ops Q S R a0 i := by
  intro done a w hS hd _ ho hn
  obtain ⟨h1, h2, h3⟩ := h done a w hS hd ho hn
  unfold wpOpIn
  rw [hi]
  simp only [h1, if_true]
  refine ⟨fun _ _ => trivial, ?_⟩
  show o.uponIn Fence.wide n P a _ Q ((o.semAt none a.eval).run P w)
  rw [hsem, h2]
  refine ⟨(fun h => Bool.noConfusion h), (callsIn_wide.2 h3).mono ?_⟩
  rintro e w' ⟨v, rfl, hS', hR, hst⟩
  exact ⟨v, by simp [dstOf, hi], hS', hR, hst⟩
end
end Go.Proofs.Ytddhldmeknmgpaa

namespace Go.Proofs.Ytddhldmeknmgpaa.journal
open Go.RowKit Go.Proofs.Ytddhldmeknmgpaa.crc Go.Proofs.Ytddhldmeknmgpaa.root

/-! ### The test -/
theorem jprefix_any (ep : Nat) (w : World) : Calls Try.prog 59 #[.int .u64 ep] w fun e w' => e = .returned (.func (.func 69) #[] #[.pointer (some ⟨w.heap.size + 1, 0, none⟩), .pointer (some ⟨w.heap.size + 2, 0, none⟩), .pointer (some ⟨w.heap.size, 0, none⟩)]) ∧
    Blk w' w.heap.size 22 #[.int .u64 ep] ∧ Blk w' (w.heap.size + 1) 22 #[.int .u64 0] ∧ Blk w' (w.heap.size + 2) 4 #[.bool true] ∧ Below w.heap.size w w' := by
  have b0 := Blk.new w 22 #[.int .u64 ep]
  have b1 := Blk.new (w.alloc (.cells #[.int .u64 ep] 22)) 22 #[.int .u64 0]
  have b2 := Blk.new ((w.alloc (.cells #[.int .u64 ep] 22)).alloc (.cells #[.int .u64 0] 22)) 4 #[.bool false]
  simp only [World.size_alloc] at b1 b2
  obtain ⟨w3, hw3⟩ : ∃ w3, (((w.alloc (.cells #[.int .u64 ep] 22)).alloc (.cells #[.int .u64 0] 22)).alloc (.cells #[.bool false] 4)) = w3 := ⟨_, rfl⟩
  have c0 : Blk w3 w.heap.size 22 #[.int .u64 ep] := by rw [← hw3]; exact (b0.alloc _).alloc _
  have c1 : Blk w3 (w.heap.size + 1) 22 #[.int .u64 0] := by rw [← hw3]; exact b1.alloc _
  have c2 : Blk w3 (w.heap.size + 2) 4 #[.bool false] := by rw [← hw3]; exact b2
  have hb : Below w.heap.size w w3 := by rw [← hw3]; exact (((Below.refl _ w).alloc (Nat.le_refl _) _).alloc (by simp) _).alloc (by simp; omega) _
  have x1 := c1.cell 0
  have x1f := c1.frozen 0
  have x2 := c2.cell 0
  have x2f := c2.frozen 0
  have C0 := Lib.hid c0
  have C1 := Lib.hid c1
  have C2 := Lib.hid c2
  have HB := Lib.hid hb
  clear b0 b1 b2 c0 c1 c2 hb
  go_enter Try.func59, Try.ntmps59
  go_wp2
  go_ret
  have k1 : Keep (fun k => k = w.heap.size + 1 ∨ k = w.heap.size + 2) w3 ((w3.setCell ⟨w.heap.size + 1, 0, none⟩ (.int .u64 0)).setCell ⟨w.heap.size + 2, 0, none⟩ (.bool true)) := ((Keep.refl _ _).setCell _ _ (fun _ => .inl rfl)).setCell _ _ (fun _ => .inr rfl)
  refine ⟨rfl, k1.blk C0.out (by omega), ((C1.out.set_ 0 _).far (by simp) _), ?_, HB.out.trans (k1.below HB.out.size (fun i hi e => by omega))⟩
  exact (C2.out.far (p := ⟨w.heap.size + 1, 0, none⟩) (by simp) (.int .u64 0)).set_ 0 (.bool true)

set_option maxRecDepth 100000 in
set_option maxHeartbeats 1000000 in
theorem jprefix1_any {w : World} (C1 C2 C3 : Nat) (x ep n e0 : Nat) (wh : Bool) (pv : Value) (h1 : Blk w C1 22 #[.int .u64 x]) (h2 : Blk w C2 4 #[.bool wh]) (h3 : Blk w C3 22 #[.int .u64 ep]) (hne : C1 ≠ C3) (hx : x < 9223372036854775807) :
    Calls Try.prog 69 #[.agg #[.int .u64 e0, .int .u64 n, pv], .pointer (some ⟨C1, 0, none⟩), .pointer (some ⟨C2, 0, none⟩), .pointer (some ⟨C3, 0, none⟩)] w fun e w' => e = .returned (.bool (wh && (decide (e0 = ep) && decide (n = x + 1)))) ∧ Blk w' C1 22 #[.int .u64 (x + 1 : Nat)] ∧ Blk w' C2 4 #[.bool (wh && (decide (e0 = ep) && decide (n = x + 1)))] ∧ Keep (fun k => k = C1 ∨ k = C2) w w' := by
  obtain ⟨w0, hw0⟩ : ∃ w0, w.alloc (.cells #[.int .u64 e0, .int .u64 n, pv] 69) = w0 := ⟨_, rfl⟩
  have n12 : C1 ≠ C2 := h1.ne_ h2 (by decide)
  have hr : Blk w0 w.heap.size 69 #[.int .u64 e0, .int .u64 n, pv] := by rw [← hw0]; exact Blk.new w _ _
  have g1 : Blk w0 C1 22 #[.int .u64 x] := by rw [← hw0]; exact h1.alloc _
  have g2 : Blk w0 C2 4 #[.bool wh] := by rw [← hw0]; exact h2.alloc _
  have g3 : Blk w0 C3 22 #[.int .u64 ep] := by rw [← hw0]; exact h3.alloc _
  have l1 := h1.lt
  have l2 := h2.lt
  have l3 := h3.lt
  obtain ⟨y, hy⟩ : ∃ y : Nat, x + 1 = y := ⟨_, rfl⟩
  rw [hy]
  obtain ⟨w1, hw1⟩ : ∃ w1, w0.setCell ⟨C1, 0, none⟩ (.int .u64 (y : Int)) = w1 := ⟨_, rfl⟩
  have k01 : Keep (fun k => k = C1 ∨ k = C2) w w1 := by rw [← hw1, ← hw0]; exact ((Keep.refl _ _).alloc _).setCell _ _ (fun _ => .inl rfl)
  have f1 : Blk w1 C1 22 #[.int .u64 (y : Int)] := by rw [← hw1]; exact g1.set_ 0 _
  have f2 : Blk w1 C2 4 #[.bool wh] := by rw [← hw1]; exact g2.far (p := ⟨C1, 0, none⟩) (by simpa using fun e => n12 e.symm) _
  have f3 : Blk w1 C3 22 #[.int .u64 ep] := by rw [← hw1]; exact g3.far (p := ⟨C1, 0, none⟩) (by simpa using fun e => hne e.symm) _
  have fr : Blk w1 w.heap.size 69 #[.int .u64 e0, .int .u64 n, pv] := by rw [← hw1]; exact hr.far (p := ⟨C1, 0, none⟩) (by simp; omega) _
  have x1 := g1.cell 0
  have x1f := g1.frozen 0
  have y1 := f1.cell 0
  have y2 := f2.cell 0
  have y2f := f2.frozen 0
  have y3 := f3.cell 0
  have r0 := fr.cell 0
  have r1 := fr.cell 1
  have hx1 : (x : Int) + 1 = (y : Int) := by omega
  have hw : IntKind.u64.wrap (y : Int) = (y : Int) := by rw [wrap_u64]; omega
  have F1 := Lib.hid f1
  have F2 := Lib.hid f2
  have K01 := Lib.hid k01
  have FIN : Hid (∀ v, Blk (w1.setCell ⟨C2, 0, none⟩ v) C1 22 #[.int .u64 (y : Int)] ∧ Blk (w1.setCell ⟨C2, 0, none⟩ v) C2 4 #[v] ∧ Keep (fun k => k = C1 ∨ k = C2) w (w1.setCell ⟨C2, 0, none⟩ v) ∧ (w1.setCell ⟨C2, 0, none⟩ v).cell? ⟨C2, 0, none⟩ = some v) := Lib.hid (fun v => by
    have h := F2.out.set_ 0 v
    exact ⟨F1.out.far (p := ⟨C2, 0, none⟩) (by simpa using n12) _, h, K01.out.setCell _ _ (fun _ => .inr rfl), h.cell 0⟩)
  clear h1 h2 h3 hr g1 g2 g3 f1 f2 f3 fr k01 l1 l2 l3 n12 hne hy
  cases wh
  · obtain ⟨z1, z2, z3, z4⟩ := FIN.out (.bool false)
    have Z := Lib.hid (And.intro z1 (And.intro z2 z3))
    clear z1 z2 z3
    simp only [Bool.false_and]
    go_enter Try.func69, Try.ntmps69
    go_wp2
    go_ret
    exact ⟨rfl, Z.out⟩
  · by_cases he : e0 = ep
    · have de : ((e0 : Int) == (ep : Int)) = true := by rw [beq_iff_eq]; omega
      rw [decide_eq_true he]
      by_cases hn : n = y
      · have dn : ((n : Int) == (y : Int)) = true := by rw [beq_iff_eq]; omega
        obtain ⟨z1, z2, z3, z4⟩ := FIN.out (.bool true)
        have Z := Lib.hid (And.intro z1 (And.intro z2 z3))
        rw [decide_eq_true hn]
        simp only [Bool.true_and]
        clear z1 z2 z3 he hn
        go_enter Try.func69, Try.ntmps69
        go_wp2
        go_ret
        exact ⟨rfl, Z.out⟩
      · have dn : ((n : Int) == (y : Int)) = false := by rw [beq_eq_false_iff_ne]; omega
        obtain ⟨z1, z2, z3, z4⟩ := FIN.out (.bool false)
        have Z := Lib.hid (And.intro z1 (And.intro z2 z3))
        rw [decide_eq_false hn]
        simp only [Bool.true_and]
        clear z1 z2 z3 he hn
        go_enter Try.func69, Try.ntmps69
        go_wp2
        go_ret
        exact ⟨rfl, Z.out⟩
    · have de : ((e0 : Int) == (ep : Int)) = false := by rw [beq_eq_false_iff_ne]; omega
      rw [decide_eq_false he]
      obtain ⟨z1, z2, z3, z4⟩ := FIN.out (.bool false)
      have Z := Lib.hid (And.intro z1 (And.intro z2 z3))
      simp only [Bool.true_and, Bool.false_and]
      clear z1 z2 z3 he
      go_enter Try.func69, Try.ntmps69
      go_wp2
      go_ret
      exact ⟨rfl, Z.out⟩
end Go.Proofs.Ytddhldmeknmgpaa.journal

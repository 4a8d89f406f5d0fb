/-
  The log of layer 9: what stands while load goes on.
-/
import Derived.Test.YtdjneiboeehclaaNtComp
import Derived.Test.YtdjneiboeehclaaNtIter
import Derived.Test.YtdjneiboeehclaaNtTake
import Derived.Test.YtdjneiboeehclaaMuteReg
namespace Go.Proofs.Ytdjneiboeehclaa.note
open Go.RowKit Go.Maps Go.Proofs.Ytdjneiboeehclaa.crc Go.Proofs.Ytdjneiboeehclaa.root

/-- All blocks of cells. -/
def Cl (W : World) (i : Nat) : Prop := ∃ t, Typ W i t
theorem cl_blk {W : World} {g : Nat} {t : TypeId} {cs : Array Value} (h : Blk W g t cs) : Cl W g := ⟨t, h.typ⟩
theorem keepsFrom_cl {B : Nat} {S : Nat → Prop} {W W' : World} (hk : Keep S W W') (hS : ∀ i, S i → Cl W i ∨ i < B) : KeepsFrom B W W' :=
  ⟨hk.size, fun i o hB hi ho => (hk.block i (Array.getElem?_eq_some_iff.1 hi).1 (fun e => by
    rcases hS i e with ⟨t, cs, fr, e⟩ | e
    · rw [hi] at e
      injection e with e
      subst e
      cases ho
    · omega)).trans hi⟩

section
variable {N n4 q C b mf md M n c : Nat} {w0 W W' : World} {A : Option Addr} {ls : List (List UInt8)} {us : List Value} {v : Value} {bg : Bool} {ns fs : List NV}

structure LI (N n4 q C b mf md M : Nat) (w0 : World) (A : Option Addr) (n c : Nat) (ls : List (List UInt8)) (us : List Value) (v : Value) (bg : Bool) (ns fs : List NV) (W : World) : Prop where
  below : Below N w0 W
  size : n4 ≤ W.heap.size
  bj : Blk W q 37 #[.pointer (some ⟨b, 0, none⟩)]
  bc : Blk W C 35 #[.slice A n c]
  rws : Rws M W A n ls us
  log : LogN N W b mf md v bg ns fs
  lo : M ≤ N ∧ N ≤ q ∧ N ≤ C ∧ mf < n4 ∧ md < n4 ∧ N ≤ n4
theorem LogN.maps (h : LogN N W b mf md v bg ns fs) : ¬ Cl W mf ∧ ¬ Cl W md ∧ ∀ g, v.ownBlock = some g → Cl W g := by
  obtain ⟨⟨D, hD, _⟩, E, hE, _⟩ := h.m
  refine ⟨fun ⟨t, cs, fr, e⟩ => ?_, fun ⟨t, cs, fr, e⟩ => ?_, fun g e => ?_⟩
  · obtain ⟨es, clock, h1, _⟩ := hD
    rw [h1] at e
    cases e
  · obtain ⟨es, clock, h1, _⟩ := hE
    rw [h1] at e
    cases e
  · obtain ⟨_, _, cur, hc⟩ := own_is h.own g e
    exact cl_blk hc
theorem LI.keep {S : Nat → Prop} (h : LI N n4 q C b mf md M w0 A n c ls us v bg ns fs W) (hk : Keep S W W') (hS : ∀ i, S i → ¬ Cl W i ∧ i ≠ mf ∧ i ≠ md ∧ N ≤ i) : LI N n4 q C b mf md M w0 A n c ls us v bg ns fs W' := by
  have no : ∀ {g t cs}, Blk W g t cs → ¬ S g := fun hb hs => (hS _ hs).1 (cl_blk hb)
  have hbN : Below N W W' := hk.below (by have := h.size; have := h.lo; omega) (fun i hi hs => by have := (hS i hs).2.2.2; omega)
  exact ⟨h.below.trans hbN, Nat.le_trans h.size hk.size, hk.blk h.bj (no h.bj), hk.blk h.bc (no h.bc), h.rws.below (hbN.mono h.lo.1), h.log.keep hk (no h.log.blk) (fun e => (hS _ e).2.1 rfl) (fun e => (hS _ e).2.2.1 rfl) (fun g e e2 => (hS g e2).1 (h.log.maps.2.2 g e)), h.lo⟩
theorem LI.next (h : LI N n4 q C b mf md M w0 A n c ls us v bg ns fs W) (hb : Below W.heap.size W W') : LI N n4 q C b mf md M w0 A n c ls us v bg ns fs W' :=
  h.keep (Keep.of_below (S := fun _ => False) hb) (fun _ e => e.elim)
theorem LI.turn {row : Option Nat} (h : LI N n4 q C b mf md M w0 A n c ls us v bg ns fs W) (hg : W.grownBy W' row) (hr : ∀ r, row = some r → n4 ≤ r ∧ ∃ o : Obj, W.heap[r]? = some o ∧ o.isCells = false) : LI N n4 q C b mf md M w0 A n c ls us v bg ns fs W' :=
  h.keep (S := fun i => row = some i) ((Keep.refl _ W).grown hg (fun g e _ => e)) (fun i e => by
    obtain ⟨h1, o, ho, hc⟩ := hr i e
    have := h.lo
    refine ⟨fun ⟨t, cs, fr, ec⟩ => ?_, by omega, by omega, by omega⟩
    rw [ho] at ec
    injection ec with ec
    subst ec
    cases hc)
/-- The log has turned. -/
theorem LI.log_turned {v' : Value} {ns' fs' : List NV} {S : Nat → Prop} (h : LI N n4 q C b mf md M w0 A n c ls us v bg ns fs W) (hk : Keep S W W') (hS : ∀ i, S i → N ≤ i) (hq : ¬ S q) (hC : ¬ S C) (hl : LogN N W' b mf md v' bg ns' fs') : LI N n4 q C b mf md M w0 A n c ls us v' bg ns' fs' W' := by
  have hbN : Below N W W' := hk.below (by have := h.size; have := h.lo; omega) (fun i hi hs => by have := hS i hs; omega)
  exact ⟨h.below.trans hbN, Nat.le_trans h.size hk.size, hk.blk h.bj hq, hk.blk h.bc hC, h.rws.below (hbN.mono h.lo.1), hl, h.lo⟩

/-- A note that completes nothing. -/
theorem LogN.idle {x : NV} (h : LogN N W b mf md v bg ns fs) (hx : okN x = true ∧ x.Fine ∧ 2 ≤ x.k) (hk : ¬ (x.k = 2 ∨ x.k = 3)) (hfew : fs.length < 100000) : LogN N W b mf md v bg ns (fs ++ [x]) := by
  obtain ⟨⟨D, hD, hF⟩, E, hE, hG⟩ := h.m
  have h3 : ¬ x.k ≤ 3 := by omega
  have hl : (fs ++ [x]).length = fs.length + 1 := by simp
  have hs : stepsN (fs ++ [x]) = stepsN fs := by rw [stepsN_snoc, if_neg h3]
  refine ⟨by rw [hs]; exact h.blk, h.own, ⟨⟨D, hD.mono (by rw [hl]; omega), fun k s p hk' hs' hp' => ?_⟩, E, hE.mono (by rw [hl]; omega), same_done hG (fun e => hk (.inl e.1))⟩, h.lo, h.ne, h.ok, fun y hy => ?_, h.few.1, by rw [hl]; omega⟩
  · rw [fileN_snoc, if_neg (fun e => hk (by rw [e.1]; exact hk'))]
    exact hF k s p hk' hs' hp'
  · rcases List.mem_append.1 hy with hy | hy
    · exact h.fok y hy
    · rw [List.mem_singleton.1 hy]
      exact hx

/-- A note more. -/
theorem LogN.push {W2 : World} (h : LogN N W b mf md v bg ns fs) (k2 : Below W.heap.size W W2) (ty : TypeId) (ad : Addr) (m : Nat) (x : NV) (hx : okN x = true ∧ x.Fine ∧ 2 ≤ x.k) (hu : ∀ j u, (nc x)[j]? = some u → W2.cell? (ad.add j) = some u) (hi : ns.length < 100000) :
    ∃ v' W3, (Builtin.append_ #[39, 39] ty #[v, .slice (some ad) 1 m]).run Try.prog W2 = .ok v' W3 ∧ LogN N (W3.setCell ⟨b, 2, none⟩ v') b mf md v' bg (ns ++ [x]) fs ∧
      Blk W2 b 71 #[.pointer (some ⟨b, 0, none⟩), .bool bg, v, .map (some mf), .map (some md), .int .i64 (stepsN fs)] ∧ Blk W3 b 71 #[.pointer (some ⟨b, 0, none⟩), .bool bg, v, .map (some mf), .map (some md), .int .i64 (stepsN fs)] ∧
      Keep (fun i => v.ownBlock = some i) W W3 ∧ Keep (fun i => v.ownBlock = some i ∨ i = b) W (W3.setCell ⟨b, 2, none⟩ v') ∧ (∃ A' c', v' = .slice A' (ns.length + 1) c') ∧ (∀ g, v'.ownBlock = some g → v.ownBlock = some g ∨ g = W2.heap.size) := by
  obtain ⟨i0, hin, hz0, hz1, hz2⟩ := info_parts infoNote
  have k0 : Keep (fun _ => False) W W2 := Keep.of_below k2
  have h2 := h.below k2
  have hN : N ≤ W.heap.size := by have := h.lo.1; have := h.lt; omega
  obtain ⟨v', W3, hrun, hown, hg, _, hat⟩ := run_append_own_at (P := Try.prog) W2 N 39 ty 23 i0 _ 4 32 Try.underlying39 hin hz0 hz1 hz2 rfl (by decide) v ns.length (ns.flatMap nc) h2.own ad 1 m (nc x) rfl hu (fun u' hm => nc_one [x] u' (by simpa using hm)) (by unfold maxLen; omega) (by omega) (Nat.le_trans hN k2.size)
  have kg : Keep (fun k => v.ownBlock = some k) W2 W3 := (Keep.refl _ W2).grown hg (fun g e _ => e)
  have hbS : ¬ v.ownBlock = some b := own_blk_ne h2.own h2.blk (by decide)
  have hb3 := kg.blk h2.blk hbS
  obtain ⟨nm1, nm2, _⟩ := h2.maps
  have m3 : LogM W3 mf md fs := h2.m.keep kg (fun e => nm1 (h2.maps.2.2 _ e)) (fun e => nm2 (h2.maps.2.2 _ e))
  have hbV : ¬ v'.ownBlock = some b := own_blk_ne hown hb3 (by decide)
  have kb : Keep (fun k => k = b) W3 (W3.setCell ⟨b, 2, none⟩ v') := (Keep.refl _ W3).setCell ⟨b, 2, none⟩ v' (fun _ => rfl)
  have nfb : ¬ mf = b := fun e => nm1 (by rw [e]; exact cl_blk h2.blk)
  have ndb : ¬ md = b := fun e => nm2 (by rw [e]; exact cl_blk h2.blk)
  have hl : (ns ++ [x]).length = ns.length + 1 := by simp
  have hfm : (ns ++ [x]).flatMap nc = ns.flatMap nc ++ nc x := by rw [List.flatMap_append, List.flatMap_cons, List.flatMap_nil, List.append_nil]
  have kA : Keep (fun i => v.ownBlock = some i) W W3 := (Keep.of_below (S := fun i => v.ownBlock = some i) k2).trans kg (fun _ _ e => e)
  have kB : Keep (fun i => v.ownBlock = some i ∨ i = b) W (W3.setCell ⟨b, 2, none⟩ v') := (kA.more (fun _ _ e => .inl e)).setCell _ _ (fun _ => .inr rfl)
  refine ⟨v', W3, hrun, ⟨hb3.set_ 2 v', ?_, m3.keep kb nfb ndb, h.lo, h.ne, fun y hy => ?_, h.fok, by rw [hl]; omega, h.few.2⟩, h2.blk, hb3, kA, kB, own_slice4 hown, fun g e => ?_⟩
  · rw [hl, hfm]
    exact kb.own hown (fun g e e2 => hbV (by rw [← e2]; exact e))
  · rcases List.mem_append.1 hy with hy | hy
    · exact h.ok y hy
    · rw [List.mem_singleton.1 hy]
      exact hx
  · rcases hat with e2 | e2
    · exact .inl (by rw [← e2]; exact e)
    · rw [e2] at e
      injection e with e
      exact .inr e.symm
end
end Go.Proofs.Ytdjneiboeehclaa.note

/-
  The chapter's first examples of layer 3 hold: 'alive' answers true, and what lay there lies.
-/
import Derived.Test.YtkebbjodkhjbmaaGreatKLaw
namespace Go.Proofs.YtkebbjodkhjbmaaGreat
open Go.RowKit Go.Maps

/-- A sector's bytes, all the same. -/
def sec (x : Nat) : List UInt8 := List.replicate 128 (UInt8.ofNat x)

/-- The first ten of 2s; zeroes. -/
def s10 : List UInt8 := (sec 2).take 10
def z118 : List UInt8 := List.replicate 118 0
theorem s10_eq : (sec 2).take 10 = s10 := rfl
theorem s10_len : s10.length = 10 := by decide +kernel
theorem z118_len : z118.length = 118 := by decide +kernel
theorem z118_bv : (Array.replicate 118 (Value.int .u8 0)) = (z118.map bv).toArray := by
  unfold z118
  rw [List.map_replicate, List.toArray_replicate]
  rfl

/-- The slice v reads as l. -/
def SlOf (w : World) (n c : Nat) (l : List UInt8) (v : Value) : Prop := ∃ A, v = .slice A n c ∧ Reads w w.heap.size 1 A n (l.map bv)
theorem SlOf.below {w w' : World} {n c : Nat} {l : List UInt8} {v : Value} (h : SlOf w n c l v) (hb : Below w.heap.size w w') : SlOf w' n c l v := by
  obtain ⟨A, rfl, hr⟩ := h
  exact ⟨A, rfl, (hr.below hb).more hb.size⟩

theorem reads_new (w : World) (t : TypeId) (C : Array Value) (xs : List Value) (n : Nat) (hC : C = xs.toArray) (hn : xs.length = n) : Reads (w.alloc (.cells C t)) (w.alloc (.cells C t)).heap.size 1 (some ⟨w.heap.size, 0, none⟩) n xs := by
  refine ⟨by omega, fun h0 => ⟨_, rfl, by simp, fun j u hu => ?_⟩⟩
  have hp : (⟨w.heap.size, 0, none⟩ : Addr).add j = ⟨w.heap.size, j, none⟩ := by unfold Addr.add; split <;> simp_all
  rw [hp, (Blk.new w t C).cell j, hC, ← hu]
  simp

section
variable {N : Nat} {w0 w : World} {d : DAt} {s : RSt}

end

def al0 : RSt := newSt 3
def al1 : RSt := writeK al0 0 (sec 1)
def al2 : RSt := writeK al1 2 (sec 1)
def al3 : RSt := writeK al2 0 (sec 2)
def al4 : RSt := downK al3 ⟨0, [2], 0, 10⟩
def al5 : RSt := bootSt al4
theorem al_e1 : writeErr al0 0 (sec 1) = 0 := by decide +kernel
theorem al_e2 : writeErr al1 2 (sec 1) = 0 := by decide +kernel
theorem al_e3 : writeErr al2 0 (sec 2) = 0 := by decide +kernel
theorem al_m0 : Few al0 := ⟨by decide +kernel⟩
theorem al_m1 : Few al1 := ⟨by decide +kernel⟩
theorem al_m2 : Few al2 := ⟨by decide +kernel⟩
theorem al_ew : waits3 al3 = [0, 2] := by decide +kernel
theorem al_er : decide (readErr3 al3 0 = 0 ∧ readOut3 al3 0 = sec 2) = true := by decide +kernel
theorem al_ed : (if al3.down then (31 : Int) else 0) = 0 := by decide +kernel
theorem al_e4 : readErr3 al4 0 = 31 := by decide +kernel
theorem al_e4l : readOut3 al4 0 = [] := by decide +kernel
theorem al_r0 : decide (readErr3 al5 0 = 0 ∧ readOut3 al5 0 = s10 ++ z118) = true := by decide +kernel
theorem al_r2 : decide (readErr3 al5 2 = 0 ∧ readOut3 al5 2 = sec 1) = true := by decide +kernel
theorem al_w1 : writeK al0 0 (sec 1) = al1 := rfl
theorem al_w2 : writeK al1 2 (sec 1) = al2 := rfl
theorem al_w3 : writeK al2 0 (sec 2) = al3 := rfl
theorem al_w4 : downK al3 ⟨0, [2], 0, 10⟩ = al4 := rfl
theorem al_w5 : bootSt al4 = al5 := rfl
theorem al_w0 : newSt 3 = al0 := rfl
theorem sec_len (x : Nat) : (sec x).length = 128 := List.length_replicate
attribute [irreducible] al0 al1 al2 al3 al4 al5 sec s10 z118

abbrev aliveR (d : DAt) (i : Nat) (v : Value) (w' : World) : Prop := match i with
  | 27 => SlOf w' 128 128 (sec 2) v
  | 28 => SlOf w' 10 128 s10 v
  | 30 => SlOf w' 118 118 z118 v
  | 37 => SlOf w' 128 128 (sec 1) v
  | i => v = ([.int .i64 0, .bool true, .bool true, .int .i64 0, .bool true, .bool true, .bool true, .int .i64 0, .bool true, .bool true, .bool true, .int .i64 0, .bool true, .bool true, .bool true, .bool true, .bool true, .bool true, .int .i64 0, .bool true, .bool true, .bool true, .int .i64 31, .bool true, .bool true, .bool true, .pointer (some ⟨d.b, 0, none⟩), undef, undef, .string ⟨s10.toArray⟩, undef, .string ⟨z118.toArray⟩, .string ⟨(s10 ++ z118).toArray⟩, .bool true, .bool true, .bool true, .pointer (some ⟨d.b, 0, none⟩), undef, .string ⟨(sec 1).toArray⟩, .bool true, .bool true, .bool true] : List Value).getD i undef
theorem aliveR_next (d : DAt) {w w' : World} (j : Nat) (u : Value) (hb : Below w.heap.size w w') (hR : aliveR d j u w) : aliveR d j u w' := by
  unfold aliveR at *
  split <;> first | exact SlOf.below hR hb | (split at hR <;> first | contradiction | exact hR)
theorem cat_10 : ((⟨s10.toArray⟩ : ByteArray) ++ ⟨z118.toArray⟩) = ⟨(s10 ++ z118).toArray⟩ := by
  apply ByteArray.ext
  simp
theorem mk118 (w : World) : (Instr.makeSlice 36 (.int .i64 118) (.int .i64 118)).run Tryz.prog w = .ok (.slice (some ⟨w.heap.size, 0, none⟩) 118 118) (w.alloc (.cells (Array.replicate 118 (.int .u8 0)) 5)) := by kernel_rfl
theorem reads_118 (w : World) : Reads (w.alloc (.cells (Array.replicate 118 (.int .u8 0)) 5)) (w.alloc (.cells (Array.replicate 118 (.int .u8 0)) 5)).heap.size 1 (some ⟨w.heap.size, 0, none⟩) 118 (z118.map bv) :=
  reads_new w _ _ _ _ z118_bv (by rw [List.length_map, z118_len])

end Go.Proofs.YtkebbjodkhjbmaaGreat

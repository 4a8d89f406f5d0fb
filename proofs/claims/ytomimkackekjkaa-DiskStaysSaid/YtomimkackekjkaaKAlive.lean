/-
  The chapter's first examples of layer 3 hold: 'alive' answers true, and what lay there lies.
-/
import Derived.Test.YtomimkackekjkaaKLaw
namespace Go.Proofs.Ytomimkackekjkaa
open Go.RowKit Go.Maps

/-- A sector's bytes, all the same. -/
def sec (x : Nat) : List UInt8 := List.replicate 128 (UInt8.ofNat x)

/-- The first ten of 2s; zeroes. -/
def s10 : List UInt8 := (sec 2).take 10
def z118 : List UInt8 := List.replicate 118 0
theorem s10_eq : (sec 2).take 10 = s10 := rfl
theorem s10_len : s10.length = 10 := by decide +kernel
theorem z118_len : z118.length = 118 := by decide +kernel
theorem z118_bv : (Array.replicate 118 (Value.int .u8 0)) = (z118.map bv).toArray := by
  unfold z118
  rw [List.map_replicate, List.toArray_replicate]
  rfl

/-- The slice v reads as l. -/
def SlOf (w : World) (n c : Nat) (l : List UInt8) (v : Value) : Prop := ∃ A, v = .slice A n c ∧ Reads w w.heap.size 1 A n (l.map bv)
theorem SlOf.below {w w' : World} {n c : Nat} {l : List UInt8} {v : Value} (h : SlOf w n c l v) (hb : Below w.heap.size w w') : SlOf w' n c l v := by
  obtain ⟨A, rfl, hr⟩ := h
  exact ⟨A, rfl, (hr.below hb).more hb.size⟩

theorem reads_new (w : World) (t : TypeId) (C : Array Value) (xs : List Value) (n : Nat) (hC : C = xs.toArray) (hn : xs.length = n) : Reads (w.alloc (.cells C t)) (w.alloc (.cells C t)).heap.size 1 (some ⟨w.heap.size, 0, none⟩) n xs := by
  refine ⟨by omega, fun h0 => ⟨_, rfl, by simp, fun j u hu => ?_⟩⟩
  have hp : (⟨w.heap.size, 0, none⟩ : Addr).add j = ⟨w.heap.size, j, none⟩ := by unfold Addr.add; split <;> simp_all
  rw [hp, (Blk.new w t C).cell j, hC, ← hu]
  simp

section
variable {N : Nat} {w0 w : World} {d : DAt} {s : RSt}

theorem lall (x : Nat) (y : Int) (hy : (x : Int) = y) (hx : x < 256) (L : Lives N w0 w d s) :
    Calls Try.prog 38 #[.int .u8 y] w fun e w' => ∃ g, e = .returned (.slice (some ⟨g, 0, none⟩) 128 128) ∧ Reads w' w'.heap.size 1 (some ⟨g, 0, none⟩) 128 ((sec x).map bv) ∧ Lives N w0 w' d s ∧ Below w.heap.size w w' := by
  subst hy
  refine (all_any x hx w).mono ?_
  rintro e w' ⟨g, rfl, _, ho, hb⟩
  exact ⟨g, rfl, Reads.of_own ho, L.next L.lt hb, hb⟩
end

def al0 : RSt := newSt 3
def al1 : RSt := writeK al0 0 (sec 1)
def al2 : RSt := writeK al1 2 (sec 1)
def al3 : RSt := writeK al2 0 (sec 2)
def al4 : RSt := downK al3 ⟨0, [2], 0, 10⟩
def al5 : RSt := bootSt al4
theorem al_e1 : writeErr al0 0 (sec 1) = 0 := by decide +kernel
theorem al_e2 : writeErr al1 2 (sec 1) = 0 := by decide +kernel
theorem al_e3 : writeErr al2 0 (sec 2) = 0 := by decide +kernel
theorem al_m0 : Few al0 := ⟨by decide +kernel⟩
theorem al_m1 : Few al1 := ⟨by decide +kernel⟩
theorem al_m2 : Few al2 := ⟨by decide +kernel⟩
theorem al_ew : waits3 al3 = [0, 2] := by decide +kernel
theorem al_er : decide (readErr3 al3 0 = 0 ∧ readOut3 al3 0 = sec 2) = true := by decide +kernel
theorem al_ed : (if al3.down then (31 : Int) else 0) = 0 := by decide +kernel
theorem al_e4 : readErr3 al4 0 = 31 := by decide +kernel
theorem al_e4l : readOut3 al4 0 = [] := by decide +kernel
theorem al_r0 : decide (readErr3 al5 0 = 0 ∧ readOut3 al5 0 = s10 ++ z118) = true := by decide +kernel
theorem al_r2 : decide (readErr3 al5 2 = 0 ∧ readOut3 al5 2 = sec 1) = true := by decide +kernel
theorem al_w1 : writeK al0 0 (sec 1) = al1 := rfl
theorem al_w2 : writeK al1 2 (sec 1) = al2 := rfl
theorem al_w3 : writeK al2 0 (sec 2) = al3 := rfl
theorem al_w4 : downK al3 ⟨0, [2], 0, 10⟩ = al4 := rfl
theorem al_w5 : bootSt al4 = al5 := rfl
theorem al_w0 : newSt 3 = al0 := rfl
theorem sec_len (x : Nat) : (sec x).length = 128 := List.length_replicate
attribute [irreducible] al0 al1 al2 al3 al4 al5 sec s10 z118

abbrev aliveR (d : DAt) (i : Nat) (v : Value) (w' : World) : Prop := match i with
  | 27 => SlOf w' 128 128 (sec 2) v
  | 28 => SlOf w' 10 128 s10 v
  | 30 => SlOf w' 118 118 z118 v
  | 37 => SlOf w' 128 128 (sec 1) v
  | i => v = ([.int .i64 0, .bool true, .bool true, .int .i64 0, .bool true, .bool true, .bool true, .int .i64 0, .bool true, .bool true, .bool true, .int .i64 0, .bool true, .bool true, .bool true, .bool true, .bool true, .bool true, .int .i64 0, .bool true, .bool true, .bool true, .int .i64 31, .bool true, .bool true, .bool true, .pointer (some ⟨d.b, 0, none⟩), undef, undef, .string ⟨s10.toArray⟩, undef, .string ⟨z118.toArray⟩, .string ⟨(s10 ++ z118).toArray⟩, .bool true, .bool true, .bool true, .pointer (some ⟨d.b, 0, none⟩), undef, .string ⟨(sec 1).toArray⟩, .bool true, .bool true, .bool true] : List Value).getD i undef
theorem aliveR_next (d : DAt) {w w' : World} (j : Nat) (u : Value) (hb : Below w.heap.size w w') (hR : aliveR d j u w) : aliveR d j u w' := by
  unfold aliveR at *
  split <;> first | exact SlOf.below hR hb | (split at hR <;> first | contradiction | exact hR)
theorem cat_10 : ((⟨s10.toArray⟩ : ByteArray) ++ ⟨z118.toArray⟩) = ⟨(s10 ++ z118).toArray⟩ := by
  apply ByteArray.ext
  simp
theorem mk118 (w : World) : (Instr.makeSlice 33 (.int .i64 118) (.int .i64 118)).run Try.prog w = .ok (.slice (some ⟨w.heap.size, 0, none⟩) 118 118) (w.alloc (.cells (Array.replicate 118 (.int .u8 0)) 5)) := by kernel_rfl
theorem reads_118 (w : World) : Reads (w.alloc (.cells (Array.replicate 118 (.int .u8 0)) 5)) (w.alloc (.cells (Array.replicate 118 (.int .u8 0)) 5)).heap.size 1 (some ⟨w.heap.size, 0, none⟩) 118 (z118.map bv) :=
  reads_new w _ _ _ _ z118_bv (by rw [List.length_map, z118_len])

set_option maxRecDepth 100000 in
set_option maxHeartbeats 4000000 in
theorem alive_any (w : World) : Calls Try.prog 12 #[] w fun e w' => e = .returned (.bool true) ∧ Below w.heap.size w w' := by
  go_enter Try.func12, Try.ntmps12
  go_wp2_with (first
    | (go_at_call 6; refine (lnew 3 (Nat.le_refl _) (Below.refl _ _) (by omega) (by omega) al_w0).mono ?_; rintro e w1 ⟨d, rfl, l0, -, -⟩; have L1 := Lib.hid l0; clear l0)
    | (go_at_call 38; refine (lall 1 1 rfl (by omega) L1.out).mono ?_; rintro e w1 ⟨g, rfl, r0, l0, -⟩; have R := Lib.hid r0; have cv := conv_reads 128 r0; clear r0; have L2 := Lib.hid l0; clear l0 L1 )
    | (go_at_call 14; refine (lwrite 0 _ _ _ (sec 1) L2.out (sec_len _) R.out al_m0 al_e1 al_w1).mono ?_; rintro e w1 ⟨rfl, l0, -⟩; have L3 := Lib.hid l0; clear l0 L2 R cv)
    | (go_at_call 38; refine (lall 1 1 rfl (by omega) L3.out).mono ?_; rintro e w1 ⟨g, rfl, r0, l0, -⟩; have R := Lib.hid r0; have cv := conv_reads 128 r0; clear r0; have L4 := Lib.hid l0; clear l0 L3 )
    | (go_at_call 14; refine (lwrite 2 _ _ _ (sec 1) L4.out (sec_len _) R.out al_m1 al_e2 al_w2).mono ?_; rintro e w1 ⟨rfl, l0, -⟩; have L5 := Lib.hid l0; clear l0 L4 R cv)
    | (go_at_call 38; refine (lall 2 2 rfl (by omega) L5.out).mono ?_; rintro e w1 ⟨g, rfl, r0, l0, -⟩; have R := Lib.hid r0; have cv := conv_reads 128 r0; clear r0; have L6 := Lib.hid l0; clear l0 L5 )
    | (go_at_call 14; refine (lwrite 0 _ _ _ (sec 2) L6.out (sec_len _) R.out al_m2 al_e3 al_w3).mono ?_; rintro e w1 ⟨rfl, l0, -⟩; have L7 := Lib.hid l0; clear l0 L6 R cv)
    | (go_at_call 19; refine (lwaits L7.out al_ew (n := 2) rfl).mono ?_; rintro e w1 ⟨A, c, rfl, r0, b0, l0⟩; have RW := Lib.hid r0; replace l0 := l0.next l0.lt ((Below.refl _ w1).alloc (Nat.le_refl _) (.cells #[.int .i64 0, .int .i64 2] 3)); clear r0 b0; have L8 := Lib.hid l0; clear l0 L7 )
    | (go_at_call 29; refine (ints_any _ _ _ _ 2 2 [0, 2] [0, 2] _ rfl rfl ((RW.out.below ((Below.refl _ _).alloc (Nat.le_refl _) _)).more (by simp)) (reads_new _ _ _ _ _ rfl rfl) (by omega) (by omega)).mono ?_; rintro e w1 ⟨rfl, b0⟩; have l0 := L8.out.next L8.out.lt b0; clear b0; have L9 := Lib.hid l0; clear l0 L8 RW)
    | (go_at_call 38; refine (lall 2 2 rfl (by omega) L9.out).mono ?_; rintro e w1 ⟨g, rfl, r0, l0, -⟩; have R := Lib.hid r0; have cv := conv_reads 128 r0; clear r0; have L10 := Lib.hid l0; clear l0 L9 )
    | (go_at_call 18; refine (reads_any 0 (sec 2) true L10.out al_er).mono ?_; rintro e w1 ⟨rfl, b0⟩; have l0 := L10.out.next L10.out.lt b0; clear b0; have L11 := Lib.hid l0; clear l0 L10 R cv)
    | (go_at_call 16; refine (ldown ⟨0, [2], 0, 10⟩ _ 1 _ (L11.out.next L11.out.lt ((Below.refl _ _).alloc (Nat.le_refl _) _)) rfl ⟨reads_new _ _ _ _ _ rfl rfl, by decide, by omega⟩ al_ed al_w4).mono ?_; rintro e w1 ⟨rfl, l0, -⟩; have L12 := Lib.hid l0; clear l0 L11 )
    | (go_at_call 10; refine (lread 0 L12.out al_e4 al_e4l).mono ?_; rintro e w1 ⟨v, rfl, -, l0⟩; have L13 := Lib.hid l0; clear l0 L12 )
    | (go_at_call 9; refine (lboot L13.out al_w5).mono ?_; rintro e w1 ⟨rfl, l0, -⟩; have L14 := Lib.hid l0; clear l0 L13 ))
  have HL := Lib.hid L14.out.drew'
  refine wp_region_steps_on (fun w' => Lives w.heap.size w w' d al5) (aliveR d) (by kernel_rfl) 85 rfl (by kernel_rfl) HL.out ?_ ?_
  · intro i hi
    have hi2 : i < 42 := hi
    clear hi
    rcases i with _ | i
    · refine step_value (.int .i64 0) rfl ?_
      intro a8 w8 hS ho hn
      have o2 : a8.tmps[2]? = some _ := (ho 2 (by kernel_rfl)).trans rfl
      clear ho hn
      refine ⟨wanted_free rfl, ?_, rfl⟩
      go_simp
    rcases i with _ | i
    · refine step_value (.bool true) rfl ?_
      intro a8 w8 hS ho hn
      obtain ⟨_, n44, rfl⟩ := hn 0 44 (by kernel_rfl) rfl
      clear ho hn
      refine ⟨wanted_free rfl, ?_, rfl⟩
      go_simp
    rcases i with _ | i
    · refine step_value (.bool true) rfl ?_
      intro a8 w8 hS ho hn
      obtain ⟨_, n45, rfl⟩ := hn 1 45 (by kernel_rfl) rfl
      clear ho hn
      refine ⟨wanted_free rfl, ?_, rfl⟩
      go_simp
    rcases i with _ | i
    · refine step_value (.int .i64 0) rfl ?_
      intro a8 w8 hS ho hn
      have o3 : a8.tmps[3]? = some _ := (ho 3 (by kernel_rfl)).trans rfl
      obtain ⟨_, n46, rfl⟩ := hn 2 46 (by kernel_rfl) rfl
      clear ho hn
      refine ⟨wanted_of 2 46 rfl rfl n46, ?_, rfl⟩
      go_simp
    rcases i with _ | i
    · refine step_value (.bool true) rfl ?_
      intro a8 w8 hS ho hn
      obtain ⟨_, n47, rfl⟩ := hn 3 47 (by kernel_rfl) rfl
      obtain ⟨_, n46, rfl⟩ := hn 2 46 (by kernel_rfl) rfl
      clear ho hn
      refine ⟨wanted_of 2 46 rfl rfl n46, ?_, rfl⟩
      go_simp
    rcases i with _ | i
    · refine step_value (.bool true) rfl ?_
      intro a8 w8 hS ho hn
      obtain ⟨_, n46, rfl⟩ := hn 2 46 (by kernel_rfl) rfl
      obtain ⟨_, n48, rfl⟩ := hn 4 48 (by kernel_rfl) rfl
      clear ho hn
      refine ⟨wanted_free rfl, ?_, rfl⟩
      go_simp
    rcases i with _ | i
    · refine step_value (.bool true) rfl ?_
      intro a8 w8 hS ho hn
      obtain ⟨_, n49, rfl⟩ := hn 5 49 (by kernel_rfl) rfl
      clear ho hn
      refine ⟨wanted_free rfl, ?_, rfl⟩
      go_simp
    rcases i with _ | i
    · refine step_value (.int .i64 0) rfl ?_
      intro a8 w8 hS ho hn
      have o4 : a8.tmps[4]? = some _ := (ho 4 (by kernel_rfl)).trans rfl
      obtain ⟨_, n50, rfl⟩ := hn 6 50 (by kernel_rfl) rfl
      clear ho hn
      refine ⟨wanted_of 6 50 rfl rfl n50, ?_, rfl⟩
      go_simp
    rcases i with _ | i
    · refine step_value (.bool true) rfl ?_
      intro a8 w8 hS ho hn
      obtain ⟨_, n51, rfl⟩ := hn 7 51 (by kernel_rfl) rfl
      obtain ⟨_, n50, rfl⟩ := hn 6 50 (by kernel_rfl) rfl
      clear ho hn
      refine ⟨wanted_of 6 50 rfl rfl n50, ?_, rfl⟩
      go_simp
    rcases i with _ | i
    · refine step_value (.bool true) rfl ?_
      intro a8 w8 hS ho hn
      obtain ⟨_, n50, rfl⟩ := hn 6 50 (by kernel_rfl) rfl
      obtain ⟨_, n52, rfl⟩ := hn 8 52 (by kernel_rfl) rfl
      clear ho hn
      refine ⟨wanted_free rfl, ?_, rfl⟩
      go_simp
    rcases i with _ | i
    · refine step_value (.bool true) rfl ?_
      intro a8 w8 hS ho hn
      obtain ⟨_, n53, rfl⟩ := hn 9 53 (by kernel_rfl) rfl
      clear ho hn
      refine ⟨wanted_free rfl, ?_, rfl⟩
      go_simp
    rcases i with _ | i
    · refine step_value (.int .i64 0) rfl ?_
      intro a8 w8 hS ho hn
      have o5 : a8.tmps[5]? = some _ := (ho 5 (by kernel_rfl)).trans rfl
      obtain ⟨_, n54, rfl⟩ := hn 10 54 (by kernel_rfl) rfl
      clear ho hn
      refine ⟨wanted_of 10 54 rfl rfl n54, ?_, rfl⟩
      go_simp
    rcases i with _ | i
    · refine step_value (.bool true) rfl ?_
      intro a8 w8 hS ho hn
      obtain ⟨_, n55, rfl⟩ := hn 11 55 (by kernel_rfl) rfl
      obtain ⟨_, n54, rfl⟩ := hn 10 54 (by kernel_rfl) rfl
      clear ho hn
      refine ⟨wanted_of 10 54 rfl rfl n54, ?_, rfl⟩
      go_simp
    rcases i with _ | i
    · refine step_value (.bool true) rfl ?_
      intro a8 w8 hS ho hn
      obtain ⟨_, n54, rfl⟩ := hn 10 54 (by kernel_rfl) rfl
      obtain ⟨_, n56, rfl⟩ := hn 12 56 (by kernel_rfl) rfl
      clear ho hn
      refine ⟨wanted_free rfl, ?_, rfl⟩
      go_simp
    rcases i with _ | i
    · refine step_value (.bool true) rfl ?_
      intro a8 w8 hS ho hn
      obtain ⟨_, n57, rfl⟩ := hn 13 57 (by kernel_rfl) rfl
      clear ho hn
      refine ⟨wanted_free rfl, ?_, rfl⟩
      go_simp
    rcases i with _ | i
    · refine step_value (.bool true) rfl ?_
      intro a8 w8 hS ho hn
      have o6 : a8.tmps[6]? = some _ := (ho 6 (by kernel_rfl)).trans rfl
      obtain ⟨_, n58, rfl⟩ := hn 14 58 (by kernel_rfl) rfl
      clear ho hn
      refine ⟨wanted_of 14 58 rfl rfl n58, ?_, rfl⟩
      go_simp
    rcases i with _ | i
    · refine step_value (.bool true) rfl ?_
      intro a8 w8 hS ho hn
      obtain ⟨_, n58, rfl⟩ := hn 14 58 (by kernel_rfl) rfl
      obtain ⟨_, n59, rfl⟩ := hn 15 59 (by kernel_rfl) rfl
      clear ho hn
      refine ⟨wanted_free rfl, ?_, rfl⟩
      go_simp
    rcases i with _ | i
    · refine step_value (.bool true) rfl ?_
      intro a8 w8 hS ho hn
      obtain ⟨_, n60, rfl⟩ := hn 16 60 (by kernel_rfl) rfl
      clear ho hn
      refine ⟨wanted_free rfl, ?_, rfl⟩
      go_simp
    rcases i with _ | i
    · refine step_value (.int .i64 0) rfl ?_
      intro a8 w8 hS ho hn
      have o7 : a8.tmps[7]? = some _ := (ho 7 (by kernel_rfl)).trans rfl
      obtain ⟨_, n61, rfl⟩ := hn 17 61 (by kernel_rfl) rfl
      clear ho hn
      refine ⟨wanted_of 17 61 rfl rfl n61, ?_, rfl⟩
      go_simp
    rcases i with _ | i
    · refine step_value (.bool true) rfl ?_
      intro a8 w8 hS ho hn
      obtain ⟨_, n62, rfl⟩ := hn 18 62 (by kernel_rfl) rfl
      obtain ⟨_, n61, rfl⟩ := hn 17 61 (by kernel_rfl) rfl
      clear ho hn
      refine ⟨wanted_of 17 61 rfl rfl n61, ?_, rfl⟩
      go_simp
    rcases i with _ | i
    · refine step_value (.bool true) rfl ?_
      intro a8 w8 hS ho hn
      obtain ⟨_, n61, rfl⟩ := hn 17 61 (by kernel_rfl) rfl
      obtain ⟨_, n63, rfl⟩ := hn 19 63 (by kernel_rfl) rfl
      clear ho hn
      refine ⟨wanted_free rfl, ?_, rfl⟩
      go_simp
    rcases i with _ | i
    · refine step_value (.bool true) rfl ?_
      intro a8 w8 hS ho hn
      obtain ⟨_, n64, rfl⟩ := hn 20 64 (by kernel_rfl) rfl
      clear ho hn
      refine ⟨wanted_free rfl, ?_, rfl⟩
      go_simp
    rcases i with _ | i
    · refine step_value (.int .i64 31) rfl ?_
      intro a8 w8 hS ho hn
      have o9 : a8.tmps[9]? = some _ := (ho 9 (by kernel_rfl)).trans rfl
      obtain ⟨_, n65, rfl⟩ := hn 21 65 (by kernel_rfl) rfl
      clear ho hn
      refine ⟨wanted_of 21 65 rfl rfl n65, ?_, rfl⟩
      go_simp
    rcases i with _ | i
    · refine step_value (.bool true) rfl ?_
      intro a8 w8 hS ho hn
      obtain ⟨_, n66, rfl⟩ := hn 22 66 (by kernel_rfl) rfl
      obtain ⟨_, n65, rfl⟩ := hn 21 65 (by kernel_rfl) rfl
      clear ho hn
      refine ⟨wanted_of 21 65 rfl rfl n65, ?_, rfl⟩
      go_simp
    rcases i with _ | i
    · refine step_value (.bool true) rfl ?_
      intro a8 w8 hS ho hn
      obtain ⟨_, n65, rfl⟩ := hn 21 65 (by kernel_rfl) rfl
      obtain ⟨_, n67, rfl⟩ := hn 23 67 (by kernel_rfl) rfl
      clear ho hn
      refine ⟨wanted_free rfl, ?_, rfl⟩
      go_simp
    rcases i with _ | i
    · refine step_value (.bool true) rfl ?_
      intro a8 w8 hS ho hn
      obtain ⟨_, n68, rfl⟩ := hn 24 68 (by kernel_rfl) rfl
      clear ho hn
      refine ⟨wanted_free rfl, ?_, rfl⟩
      go_simp
    rcases i with _ | i
    · refine step_value (.pointer (some ⟨d.b, 0, none⟩)) rfl ?_
      intro a8 w8 hS ho hn
      have o1 : a8.tmps[1]? = some _ := (ho 1 (by kernel_rfl)).trans rfl
      obtain ⟨_, n69, rfl⟩ := hn 25 69 (by kernel_rfl) rfl
      clear ho hn
      refine ⟨wanted_of 25 69 rfl rfl n69, ?_, rfl⟩
      go_simp
    rcases i with _ | i
    · refine step_call 38 #[.int .u8 2] rfl ?_
      intro a8 w8 hS ho hn
      obtain ⟨_, n69, rfl⟩ := hn 25 69 (by kernel_rfl) rfl
      clear ho hn
      refine ⟨wanted_of 25 69 rfl rfl n69, by go_simp, ?_⟩
      refine (lall 2 2 rfl (by omega) hS).mono ?_
      rintro e w9 ⟨g, rfl, hr9, hL9, hb9⟩
      exact ⟨_, rfl, hL9, ⟨some ⟨g, 0, none⟩, rfl, hr9⟩, fun j u hj hR => aliveR_next d j u hb9 hR⟩
    rcases i with _ | i
    · refine step_make rfl ?_
      intro a8 w8 hS ho hn
      obtain ⟨_, n71, hR71⟩ := hn 27 71 (by kernel_rfl) rfl
      obtain ⟨_, n69, rfl⟩ := hn 25 69 (by kernel_rfl) rfl
      clear ho hn
      refine ⟨wanted_of 25 69 rfl rfl n69, ?_⟩
      obtain ⟨A9, rfl, hr9⟩ := hR71
      exact ⟨.slice A9 10 128, w8, by go_simp, hS, ⟨A9, rfl, s10_eq ▸ hr9.front (by omega)⟩, fun j u _ hR => hR⟩
    rcases i with _ | i
    · refine step_value (.string ⟨s10.toArray⟩) rfl ?_
      intro a8 w8 hS ho hn
      obtain ⟨_, n72, hR72⟩ := hn 28 72 (by kernel_rfl) rfl
      obtain ⟨_, n69, rfl⟩ := hn 25 69 (by kernel_rfl) rfl
      clear ho hn
      refine ⟨wanted_of 25 69 rfl rfl n69, ?_, rfl⟩
      obtain ⟨A9, rfl, hr9⟩ := hR72
      have cv := conv_reads 128 hr9
      go_simp
    rcases i with _ | i
    · refine step_make rfl ?_
      intro a8 w8 hS ho hn
      obtain ⟨_, n69, rfl⟩ := hn 25 69 (by kernel_rfl) rfl
      clear ho hn
      refine ⟨wanted_of 25 69 rfl rfl n69, ?_⟩
      have hb9 := (Below.refl _ w8).alloc (Nat.le_refl _) (.cells (Array.replicate 118 (.int .u8 0)) 5)
      exact ⟨.slice (some ⟨w8.heap.size, 0, none⟩) 118 118, w8.alloc (.cells (Array.replicate 118 (.int .u8 0)) 5), (by have m9 := mk118 w8; go_simp), hS.next hS.lt hb9, ⟨_, rfl, reads_118 w8⟩, fun j u _ hR => aliveR_next d j u hb9 hR⟩
    rcases i with _ | i
    · refine step_value (.string ⟨z118.toArray⟩) rfl ?_
      intro a8 w8 hS ho hn
      obtain ⟨_, n74, hR74⟩ := hn 30 74 (by kernel_rfl) rfl
      obtain ⟨_, n69, rfl⟩ := hn 25 69 (by kernel_rfl) rfl
      clear ho hn
      refine ⟨wanted_of 25 69 rfl rfl n69, ?_, rfl⟩
      obtain ⟨A9, rfl, hr9⟩ := hR74
      have cv := conv_reads 118 hr9
      go_simp
    rcases i with _ | i
    · refine step_value (.string ⟨(s10 ++ z118).toArray⟩) rfl ?_
      intro a8 w8 hS ho hn
      obtain ⟨_, n73, rfl⟩ := hn 29 73 (by kernel_rfl) rfl
      obtain ⟨_, n75, rfl⟩ := hn 31 75 (by kernel_rfl) rfl
      obtain ⟨_, n69, rfl⟩ := hn 25 69 (by kernel_rfl) rfl
      clear ho hn
      refine ⟨wanted_of 25 69 rfl rfl n69, ?_, rfl⟩
      have cat9 := cat_10
      have len9 := s10_len
      have len8 := z118_len
      go_simp
    rcases i with _ | i
    · refine step_call 18 #[.pointer (some ⟨d.b, 0, none⟩), .int .i64 0, .string ⟨(s10 ++ z118).toArray⟩] rfl ?_
      intro a8 w8 hS ho hn
      obtain ⟨_, n70, rfl⟩ := hn 26 70 (by kernel_rfl) rfl
      obtain ⟨_, n76, rfl⟩ := hn 32 76 (by kernel_rfl) rfl
      obtain ⟨_, n69, rfl⟩ := hn 25 69 (by kernel_rfl) rfl
      clear ho hn
      refine ⟨wanted_of 25 69 rfl rfl n69, by go_simp, ?_⟩
      refine (reads_any 0 _ true hS al_r0).mono ?_
      rintro e w9 ⟨rfl, hb9⟩
      exact ⟨_, rfl, hS.next hS.lt hb9, rfl, fun j u hj hR => aliveR_next d j u hb9 hR⟩
    rcases i with _ | i
    · refine step_value (.bool true) rfl ?_
      intro a8 w8 hS ho hn
      obtain ⟨_, n69, rfl⟩ := hn 25 69 (by kernel_rfl) rfl
      obtain ⟨_, n77, rfl⟩ := hn 33 77 (by kernel_rfl) rfl
      clear ho hn
      refine ⟨wanted_free rfl, ?_, rfl⟩
      go_simp
    rcases i with _ | i
    · refine step_value (.bool true) rfl ?_
      intro a8 w8 hS ho hn
      obtain ⟨_, n78, rfl⟩ := hn 34 78 (by kernel_rfl) rfl
      clear ho hn
      refine ⟨wanted_free rfl, ?_, rfl⟩
      go_simp
    rcases i with _ | i
    · refine step_value (.pointer (some ⟨d.b, 0, none⟩)) rfl ?_
      intro a8 w8 hS ho hn
      have o1 : a8.tmps[1]? = some _ := (ho 1 (by kernel_rfl)).trans rfl
      obtain ⟨_, n79, rfl⟩ := hn 35 79 (by kernel_rfl) rfl
      clear ho hn
      refine ⟨wanted_of 35 79 rfl rfl n79, ?_, rfl⟩
      go_simp
    rcases i with _ | i
    · refine step_call 38 #[.int .u8 1] rfl ?_
      intro a8 w8 hS ho hn
      obtain ⟨_, n79, rfl⟩ := hn 35 79 (by kernel_rfl) rfl
      clear ho hn
      refine ⟨wanted_of 35 79 rfl rfl n79, by go_simp, ?_⟩
      refine (lall 1 1 rfl (by omega) hS).mono ?_
      rintro e w9 ⟨g, rfl, hr9, hL9, hb9⟩
      exact ⟨_, rfl, hL9, ⟨some ⟨g, 0, none⟩, rfl, hr9⟩, fun j u hj hR => aliveR_next d j u hb9 hR⟩
    rcases i with _ | i
    · refine step_value (.string ⟨(sec 1).toArray⟩) rfl ?_
      intro a8 w8 hS ho hn
      obtain ⟨_, n81, hR81⟩ := hn 37 81 (by kernel_rfl) rfl
      obtain ⟨_, n79, rfl⟩ := hn 35 79 (by kernel_rfl) rfl
      clear ho hn
      refine ⟨wanted_of 35 79 rfl rfl n79, ?_, rfl⟩
      obtain ⟨A9, rfl, hr9⟩ := hR81
      have cv := conv_reads 128 hr9
      go_simp
    rcases i with _ | i
    · refine step_call 18 #[.pointer (some ⟨d.b, 0, none⟩), .int .i64 2, .string ⟨(sec 1).toArray⟩] rfl ?_
      intro a8 w8 hS ho hn
      obtain ⟨_, n80, rfl⟩ := hn 36 80 (by kernel_rfl) rfl
      obtain ⟨_, n82, rfl⟩ := hn 38 82 (by kernel_rfl) rfl
      obtain ⟨_, n79, rfl⟩ := hn 35 79 (by kernel_rfl) rfl
      clear ho hn
      refine ⟨wanted_of 35 79 rfl rfl n79, by go_simp, ?_⟩
      refine (reads_any 2 _ true hS al_r2).mono ?_
      rintro e w9 ⟨rfl, hb9⟩
      exact ⟨_, rfl, hS.next hS.lt hb9, rfl, fun j u hj hR => aliveR_next d j u hb9 hR⟩
    rcases i with _ | i
    · refine step_value (.bool true) rfl ?_
      intro a8 w8 hS ho hn
      obtain ⟨_, n79, rfl⟩ := hn 35 79 (by kernel_rfl) rfl
      obtain ⟨_, n83, rfl⟩ := hn 39 83 (by kernel_rfl) rfl
      clear ho hn
      refine ⟨wanted_free rfl, ?_, rfl⟩
      go_simp
    rcases i with _ | i
    · refine step_value (.bool true) rfl ?_
      intro a8 w8 hS ho hn
      obtain ⟨_, n84, rfl⟩ := hn 40 84 (by kernel_rfl) rfl
      clear ho hn
      refine ⟨wanted_free rfl, ?_, rfl⟩
      go_simp
    omega
  · intro f w8 hS hR
    have e0 : f 0 = .bool true := hR 41 0 rfl
    clear hR
    simp only [putAll, List.foldl_cons, List.foldl_nil, Act.put, List.setIfInBounds_toArray, List.set_cons_succ, List.set_cons_zero]
    rw [e0]
    have HS := Lib.hid hS.below
    clear hS e0
    go_wp2
    go_ret
    exact ⟨rfl, HS.out⟩
end Go.Proofs.Ytomimkackekjkaa

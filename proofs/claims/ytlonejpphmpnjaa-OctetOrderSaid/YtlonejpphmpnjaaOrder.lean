/-
  The statement OctetOrder is proved: of two numbers of one size the greater one has the greater bytes; for any two numbers and any size, without a condition.
-/
import Derived.Test.YtlonejpphmpnjaaTotal
import Derived.WalkLawsBesides
import Derived.Deep.RegionWith
import Derived.ProofKit
import Derived.OpenShut
namespace Go.Proofs.Ytlonejpphmpnjaa.octetOrder
open Go.ChangeShapes Go.WideShapes Go.ChangeAt Go.RowKit

/-- What Bytes, converted to a string, is good for. -/
abbrev Told (N : World) (b : Nat) (s : ByteArray) : Prop :=
  ∀ W, Below N.heap.size N W → Calls Try.prog 18 #[.pointer (some ⟨b, 0, none⟩)] W fun e W' => ∃ v, e = .returned v ∧ Below N.heap.size N W' ∧
    Hid (∀ W2, Below W'.heap.size W' W2 → (convert 24 9 v).run Try.prog W2 = .ok (.string s) W2) ∧ Below W.heap.size W W'

theorem told_of {N : World} {b c : Nat} {A u : Option Addr} {l : List UInt8} (hw : Wr N b A c u l) (hn : l.length ≤ 140737488355328) : Told N b ⟨l.toArray⟩ := by
  intro W hW
  have hw' : Wr W b A c u l := hw.keep (Keep.of_below (S := fun _ => False) hW) (fun _ _ h => h)
  refine (wbytes_any W b A c u l hw' hn).mono ?_
  rintro e W' ⟨A', c', rfl, h1, h2⟩
  exact ⟨_, rfl, hW.trans (h2.mono hW.size), Lib.hid (fun W2 h => conv_reads c' ((Reads.of_own h1).below h)), h2⟩

/-- Behind both Nums. -/
def Both (w : World) (b : Nat) (l m : List UInt8) (W : World) : Prop := Below w.heap.size w W ∧ Told W b ⟨l.toArray⟩ ∧ Told W (b + 1) ⟨m.toArray⟩

theorem numOut_le (a0 : Int) (a : Nat) : (numOut a0 a).length ≤ 140737488355328 := by
  unfold numOut
  by_cases h : numErr a0 a = 0
  · rw [if_pos h, be_length]
    unfold numErr at h
    by_cases hs : sized a0 = true
    · unfold sized at hs
      simp at hs
      omega
    · rw [if_neg hs] at h
      omega
  · rw [if_neg h]
    simp

theorem both_of {w w1 w3 w4 : World} {A1 A2 u1 u2 : Option Addr} {c1 c2 : Nat} {l m : List UInt8} (k1 : Below w.heap.size w w1)
    (g1 : Wr w3 w1.heap.size A1 c1 u1 l) (f1 : ∀ k, foot w1.heap.size A1 u1 k → foot w1.heap.size none none k ∨ w1.heap.size + 2 ≤ k)
    (k3 : Keep (foot w1.heap.size none none) ((w1.alloc (.cells #[.slice none 0 0, .pointer none] 27)).alloc (.cells #[.slice none 0 0, .pointer none] 27)) w3)
    (g2 : Wr w4 (w1.heap.size + 1) A2 c2 u2 m) (k4 : Keep (foot (w1.heap.size + 1) none none) w3 w4) (hl : l.length ≤ 140737488355328) (hm : m.length ≤ 140737488355328) :
    Both w w1.heap.size l m w4 := by
  have hs3 := k3.size
  simp at hs3
  refine ⟨?_, told_of (g1.keep k4 (fun k h h' => ?_)) hl, told_of g2 hm⟩
  · refine k1.trans ?_
    have b0 : Below w1.heap.size w1 ((w1.alloc (.cells #[.slice none 0 0, .pointer none] 27)).alloc (.cells #[.slice none 0 0, .pointer none] 27)) := ((Below.refl _ _).alloc (Nat.le_refl _) _).alloc (by simp) _
    have b3 := k3.below (B := w1.heap.size) (by simp; omega) (fun i hi h => by have := foot_new h; omega)
    have b4 := k4.below (B := w1.heap.size) (by omega) (fun i hi h => by have := foot_new h; omega)
    exact ((b0.trans b3).trans b4).mono k1.size
  · have h' := foot_new h'
    rcases f1 k h with h | h
    · have := foot_new h; omega
    · omega

set_option maxHeartbeats 2000000 in
theorem walk_bad (a0 : Int) (a1 a2 : Nat) (h0 : -9223372036854775808 ≤ a0) (h0' : a0 ≤ 9223372036854775807) (h1 : a1 < 18446744073709551616) (h2 : a2 < 18446744073709551616) (w : World)
    (x y : Int) (hx : x = numErr a0 a1) (hy : y = numErr a0 a2) (hbad : ¬ (x = 0 ∧ y = 0)) :
    Calls Try.prog 8 #[.int .i64 a0, .int .u64 a1, .int .u64 a2] w fun e w' => e = .returned (.bool true) ∧ Below w.heap.size w w' := by
  have HA := Lib.hid (alive_any w)
  have HX := Lib.hid hx
  have HY := Lib.hid hy
  clear hx hy
  go_enter Try.func8, Try.ntmps8
  go_wp2_with (go_at_call 29; refine HA.out.mono ?_; rintro e w1 ⟨rfl, k1⟩)
  have hv0 : Wr ((w1.alloc (.cells #[.slice none 0 0, .pointer none] 27)).alloc (.cells #[.slice none 0 0, .pointer none] 27)) w1.heap.size none 0 none [] := Wr.zero ((Blk.new w1 _ _).alloc _)
  have hw0 : Wr ((w1.alloc (.cells #[.slice none 0 0, .pointer none] 27)).alloc (.cells #[.slice none 0 0, .pointer none] 27)) (w1.heap.size + 1) none 0 none [] := by
    have := Wr.made (w1.alloc (.cells #[.slice none 0 0, .pointer none] 27))
    simpa using this
  have H1 := Lib.hid (wnum_total _ _ _ _ _ _ hv0 a0 a1 h0 h0' h1 (by simp))
  have W0 := Lib.hid hw0
  clear hv0 hw0
  rw [← HX.out] at H1
  go_wp2_with (go_at_call 10; (with_reducible refine H1.out.mono ?_); rintro e w3 ⟨rfl, A1, c1, u1, g1, f1, k3⟩)
  have H2 := Lib.hid (wnum_total w3 (w1.heap.size + 1) _ _ _ _ (W0.out.keep k3 (fun k h h' => by have := foot_new h; have := foot_new h'; omega)) a0 a2 h0 h0' h2 (by simp))
  rw [← HY.out] at H2
  have F1 := Lib.hid f1
  have G1 := Lib.hid g1
  have K3 := Lib.hid k3
  clear f1 g1 k3
  have hz : (x != 0) = true ∨ ((x != 0) = false ∧ (y != 0) = true) := by
    by_cases hx : x = 0
    · refine .inr ⟨by simp [hx], ?_⟩
      rw [bne_iff_ne]
      exact fun h => hbad ⟨hx, h⟩
    · exact .inl (by rw [bne_iff_ne]; exact hx)
  clear hbad
  rcases hz with hz | ⟨hz, hz'⟩
  all_goals
    go_wp2_with (go_at_call 10; (with_reducible refine H2.out.mono ?_); rintro e w4 ⟨rfl, A2, c2, u2, g2, f2, k4⟩)
    have hb := both_of k1 G1.out (by have := F1.out; simpa using this) K3.out g2 k4 (by simpa using numOut_le a0 a1) (by simpa using numOut_le a0 a2)
    go_ret
    exact ⟨rfl, hb.1⟩

theorem facts (a0 : Int) (a1 a2 : Nat) (hx : numErr a0 a1 = 0) (hy : numErr a0 a2 = 0) :
    (((⟨(numOut a0 a1).toArray⟩ : ByteArray).size : Int) = a0) ∧ (((⟨(numOut a0 a2).toArray⟩ : ByteArray).size : Int) = a0) ∧
    (decide (a1 < a2) = Op.bytesLess (⟨(numOut a0 a1).toArray⟩ : ByteArray).toList (⟨(numOut a0 a2).toArray⟩ : ByteArray).toList) ∧
    ((((a1 : Int) == (a2 : Int)) == ((⟨(numOut a0 a1).toArray⟩ : ByteArray).toList == (⟨(numOut a0 a2).toArray⟩ : ByteArray).toList)) = true) := by
  have e1 : numOut a0 a1 = be a0.toNat a1 := by unfold numOut; rw [if_pos hx]
  have e2 : numOut a0 a2 = be a0.toNat a2 := by unfold numOut; rw [if_pos hy]
  have hs : sized a0 = true := by
    unfold numErr at hx
    by_cases hs : sized a0 = true
    · exact hs
    · rw [if_neg hs] at hx; omega
  have g1 : fitsB a0.toNat a1 = true := by
    unfold numErr at hx
    rw [if_pos hs] at hx
    by_cases h : fitsB a0.toNat a1 = true
    · exact h
    · rw [if_neg h] at hx; omega
  have g2 : fitsB a0.toNat a2 = true := by
    unfold numErr at hy
    rw [if_pos hs] at hy
    by_cases h : fitsB a0.toNat a2 = true
    · exact h
    · rw [if_neg h] at hy; omega
  have hz : 0 ≤ a0 := by
    unfold sized at hs
    simp at hs
    omega
  obtain ⟨o1, o2⟩ := be_order a0.toNat a1 a2 (of_decide_eq_true g1) (of_decide_eq_true g2)
  have sz : ∀ n, (((⟨(be a0.toNat n).toArray⟩ : ByteArray).size : Int) = a0) := fun n => by
    have : (⟨(be a0.toNat n).toArray⟩ : ByteArray).size = a0.toNat := by
      show (be a0.toNat n).toArray.size = _
      rw [List.size_toArray, be_length]
    rw [this]
    omega
  have tl : ∀ l : List UInt8, (⟨l.toArray⟩ : ByteArray).toList = l := fun l => by rw [ByteArray.toList_eq]
  rw [e1, e2, tl, tl]
  refine ⟨sz a1, sz a2, o1.symm, ?_⟩
  rw [beq_iff_eq, Bool.eq_iff_iff, beq_iff_eq, beq_iff_eq, o2]
  omega

set_option maxHeartbeats 2000000 in
theorem walk_good (a0 : Int) (a1 a2 : Nat) (h0 : -9223372036854775808 ≤ a0) (h0' : a0 ≤ 9223372036854775807) (h1 : a1 < 18446744073709551616) (h2 : a2 < 18446744073709551616) (w : World)
    (hx : numErr a0 a1 = 0) (hy : numErr a0 a2 = 0) :
    Calls Try.prog 8 #[.int .i64 a0, .int .u64 a1, .int .u64 a2] w fun e w' => e = .returned (.bool true) ∧ Below w.heap.size w w' := by
  have HA := Lib.hid (alive_any w)
  have HX := Lib.hid hx
  have HY := Lib.hid hy
  clear hx hy
  go_enter Try.func8, Try.ntmps8
  go_wp2_with (go_at_call 29; refine HA.out.mono ?_; rintro e w1 ⟨rfl, k1⟩)
  have hv0 : Wr ((w1.alloc (.cells #[.slice none 0 0, .pointer none] 27)).alloc (.cells #[.slice none 0 0, .pointer none] 27)) w1.heap.size none 0 none [] := Wr.zero ((Blk.new w1 _ _).alloc _)
  have hw0 : Wr ((w1.alloc (.cells #[.slice none 0 0, .pointer none] 27)).alloc (.cells #[.slice none 0 0, .pointer none] 27)) (w1.heap.size + 1) none 0 none [] := by
    have := Wr.made (w1.alloc (.cells #[.slice none 0 0, .pointer none] 27))
    simpa using this
  have H1 := Lib.hid (wnum_total _ _ _ _ _ _ hv0 a0 a1 h0 h0' h1 (by simp))
  have W0 := Lib.hid hw0
  clear hv0 hw0
  rw [HX.out] at H1
  go_wp2_with (go_at_call 10; (with_reducible refine H1.out.mono ?_); rintro e w3 ⟨rfl, A1, c1, u1, g1, f1, k3⟩)
  have H2 := Lib.hid (wnum_total w3 (w1.heap.size + 1) _ _ _ _ (W0.out.keep k3 (fun k h h' => by have := foot_new h; have := foot_new h'; omega)) a0 a2 h0 h0' h2 (by simp))
  rw [HY.out] at H2
  have F1 := Lib.hid f1
  have G1 := Lib.hid g1
  have K3 := Lib.hid k3
  clear f1 g1 k3
  go_wp2_with (go_at_call 10; (with_reducible refine H2.out.mono ?_); rintro e w4 ⟨rfl, A2, c2, u2, g2, f2, k4⟩)
  obtain ⟨hb, hl, hm⟩ := both_of k1 G1.out (by have := F1.out; simpa using this) K3.out g2 k4 (by simpa using numOut_le a0 a1) (by simpa using numOut_le a0 a2)
  rw [List.nil_append] at hl hm
  clear H1 H2 g2 f2 k4 W0 F1 G1 K3
  obtain ⟨sa, hsa⟩ : ∃ sa : ByteArray, sa = ⟨(numOut a0 a1).toArray⟩ := ⟨_, rfl⟩
  obtain ⟨sb, hsb⟩ : ∃ sb : ByteArray, sb = ⟨(numOut a0 a2).toArray⟩ := ⟨_, rfl⟩
  rw [← hsa] at hl
  rw [← hsb] at hm
  have SA := Lib.hid hsa
  have SB := Lib.hid hsb
  have HL := Lib.hid hl
  have HM := Lib.hid hm
  clear hsa hsb hl hm
  obtain ⟨f1, f2, f3, f4⟩ := facts a0 a1 a2 HX.out HY.out
  rw [← SA.out, ← SB.out] at f3 f4
  rw [← SA.out] at f1
  rw [← SB.out] at f2
  have F1 := Lib.hid f1
  have F2 := Lib.hid f2
  have F3 := Lib.hid f3
  have F4 := Lib.hid f4
  clear f1 f2 f3 f4
  have kb : Below w4.heap.size w4 w4 := Below.refl _ _
  have kd : Below w4.heap.size w4 w4.drew := kb.drew
  go_wp2_with fail
  go_region_with (first
    | (go_at_call 18; (with_reducible refine (HL.out _ ?_).mono ?_); assumption; rintro e w5 ⟨va, rfl, k5, qa, j5⟩; have ca := qa.out _ (Below.refl _ _); try have cb := qb.out _ j5)
    | (go_at_call 18; (with_reducible refine (HM.out _ ?_).mono ?_); assumption; rintro e w6 ⟨vb, rfl, k6, qb, j6⟩; have cb := qb.out _ (Below.refl _ _); try have ca := qa.out _ j6))
  all_goals go_wp2
  all_goals first
    | (exact absurd F1.out (by assumption))
    | (exact absurd F2.out (by assumption))
    | (exact absurd F3.out (by assumption))
    | (go_ret
       exact ⟨by rw [F4.out]; rfl, hb.trans (k6.mono hb.size)⟩)
    | (go_ret
       exact ⟨by rw [F4.out]; rfl, hb.trans (k5.mono hb.size)⟩)

theorem walk (a0 : Int) (a1 a2 : Int) (w0 : (Lit.int .i64 a0).wf = true) (w1 : (Lit.int .u64 a1).wf = true) (w2 : (Lit.int .u64 a2).wf = true) (w : World) :
    Calls Try.prog 8 #[.int .i64 a0, .int .u64 a1, .int .u64 a2] w fun e w' => e = .returned (.bool true) ∧ Below w.heap.size w w' := by
  have m1 : IntKind.i64.min = -9223372036854775808 := rfl
  have m2 : IntKind.i64.max = 9223372036854775807 := rfl
  have m3 : IntKind.u64.min = 0 := rfl
  have m4 : IntKind.u64.max = 18446744073709551615 := rfl
  simp only [Lit.wf, Bool.and_eq_true, decide_eq_true_eq] at w0 w1 w2
  obtain ⟨n1, rfl⟩ := Int.eq_ofNat_of_zero_le (a := a1) (by omega)
  obtain ⟨n2, rfl⟩ := Int.eq_ofNat_of_zero_le (a := a2) (by omega)
  by_cases h : numErr a0 n1 = 0 ∧ numErr a0 n2 = 0
  · exact walk_good a0 n1 n2 (by omega) (by omega) (by omega) (by omega) w h.1 h.2
  · exact walk_bad a0 n1 n2 (by omega) (by omega) (by omega) (by omega) w _ _ rfl rfl h

theorem own : ownKnob Try.prog.godebug = none := by kernel_rfl

set_option maxRecDepth 100000 in
theorem lifted (os : Os) (started : os.Started) (H : Type) (enc : TypeId × Value → H) :
    ReturnsInHanded {} Try.checked os 8 .any (Rows.octetOrderSpec.pre6 enc Try.prog Try.f8 Rows.octetOrderRow.domain false) (Rows.octetOrderSpec.post enc Try.prog Try.f8 false true false false) := by
  refine returnsInHanded_of_change (C := Try.checked) own started (by kernel_rfl) Try.func8
    (ChangeSpec.witness6 (enc := enc) (C := Try.checked) false ⟨#[], #[.int .i64 0, .int .u64 0, .int .u64 0], []⟩ 8 (by kernel_rfl) (by kernel_rfl) (by kernel_rfl) (by kernel_rfl)) ?_
  intro W base args ds gs before hval0 hW _ _
  have hval : ∀ (j : Nat) t v, Try.f8.params[j]? = some t → args[j]? = some v → Value.okWide Try.prog W .any base t v := hval0
  have hW' := hW
  obtain ⟨p, q, hA0, hV, rfl, _, _⟩ := hW
  have hA : DataW.TrodAll enc Try.prog W 0 (fun _ => true) true Try.f8.params.toList args.toList ds p := hA0
  rw [Try.params8] at hA hval
  obtain ⟨v0, vs0, d0, ds0, p0, q0, hargs, rfl, rfl, h0, r0⟩ := trodAll_cons hA
  obtain ⟨v1, vs1, d1, ds1, p1, q1, rfl, rfl, rfl, h1, r1⟩ := trodAll_cons r0
  obtain ⟨v2, vs2, d2, ds2, p2, q2, rfl, rfl, rfl, h2, r2⟩ := trodAll_cons r1
  obtain ⟨rfl, rfl, rfl⟩ := trodAll_nil r2
  obtain rfl : args = #[v0, v1, v2] := by cases args; simp_all
  obtain ⟨rfl, rfl⟩ := trodVars_none hV
  obtain ⟨a0, rfl, rfl, rfl, w0⟩ := open_int Try.underlying3 (hval 0 3 v0 rfl rfl) h0
  obtain ⟨a1, rfl, rfl, rfl, w1⟩ := open_int Try.underlying28 (hval 1 28 v1 rfl rfl) h1
  obtain ⟨a2, rfl, rfl, rfl, w2⟩ := open_int Try.underlying28 (hval 2 28 v2 rfl rfl) h2
  clear hA0 hval0
  simp only [List.append_nil] at hW'
  refine (walk a0 a1 a2 w0 w1 w2 W).mono fun e W' ⟨he, hb⟩ => ?_
  subst he
  exact ⟨_, rfl, _, _, _, [], [], [], hW', trodAll_cons_mk (shut_bool Try.underlying4 _) trodAll_mk0, trodAll_cons_mk (shut_int Try.underlying3 w0) (trodAll_cons_mk (shut_int Try.underlying28 w1) (trodAll_cons_mk (shut_int Try.underlying28 w2) trodAll_mk0)), rfl, hb.frame _, fun h => by cases h⟩

/-- The statement. -/
theorem proved : Rows.OctetOrderSaid :=
  OpenClaim.holds_of_wide 8 Try.f8 rfl rfl rfl rfl rfl rfl rfl ⟨rfl, rfl, rfl, rfl, rfl⟩ rfl rfl rfl rfl rfl (by kernel_rfl) Try.func8 (by kernel_rfl)
    (of_decide_eq_true (by kernel_rfl)) (by unfold Func.isWrapper; first | (rw [if_pos (by decide +kernel)]; kernel_rfl) | (rw [if_neg (by decide +kernel)]; exact ⟨rfl, rfl⟩))
    (fun os started H enc _ => lifted os started H enc)

#print axioms proved
end Go.Proofs.Ytlonejpphmpnjaa.octetOrder

/-
  The statement OctetNames is proved: the errors and the limit have their numbers, the chapter's examples hold, what may not be is refused, and calls on none answer ErrNil; it is closed, without a condition.
-/
import Derived.Test.YtlonejpphmpnjaaRText
import Derived.Laws.OwnMore
import Derived.ProofKit
import Derived.OpenShut
namespace Go.Proofs.Ytlonejpphmpnjaa.octetNames
open Go.ChangeShapes Go.WideShapes Go.ChangeAt Go.RowKit

/-- A Writer of the call's own: all that it stands on is newer than N. -/
def WrN (N w : World) (b : Nat) (l : List UInt8) : Prop := ∃ A c u, Wr w b A c u l ∧ (∀ k, foot b A u k → N.heap.size ≤ k) ∧ Below N.heap.size N w
theorem WrN.wrote {N w w' : World} {b : Nat} {A u : Option Addr} {l' : List UInt8} (hf : ∀ k, foot b A u k → N.heap.size ≤ k) (hB : Below N.heap.size N w) (h : Wrote w w' b A u l') : WrN N w' b l' := by
  obtain ⟨A', c', u', h1, h2, h3⟩ := h
  refine ⟨A', c', u', h1, fun k hk => ?_, hB.trans (h3.below hB.size (fun i hi h => by have := hf i h; omega))⟩
  rcases h2 k hk with h | h
  · exact hf k h
  · exact Nat.le_trans hB.size h
/-- A Reader of the call's own. -/
def RdN (N w : World) (b : Nat) (l : List UInt8) : Prop := ∃ A c, Rd w b A c l ∧ Below N.heap.size N w
theorem RdN.took {N w w' : World} {b : Nat} {A : Option Addr} {l' : List UInt8} (hb : N.heap.size ≤ b) (hB : Below N.heap.size N w) (h : Took w w' b A l') : RdN N w' b l' := by
  obtain ⟨A', c', h1, _, h3⟩ := h
  exact ⟨A', c', h1, hB.trans (h3.below hB.size (fun i hi h => by omega))⟩

section
variable {N w : World} {b : Nat}
theorem r_text (hb : N.heap.size ≤ b) (h : RdN N w b [0, 3, 97, 98]) : Calls Try.prog 23 #[.pointer (some ⟨b, 0, none⟩)] w fun e w' => e = .returned (.tuple #[.string ⟨#[]⟩, .int .i64 10]) ∧ RdN N w' b [0, 3, 97, 98] := by
  obtain ⟨A, c, h, hB⟩ := h
  refine (rtext_total w b c A _ h (by simp)).mono fun e w' ⟨he, ht⟩ => ?_
  rw [show rtextErr [0, 3, 97, 98] = 10 from by decide +kernel] at he ht
  exact ⟨he, RdN.took hb hB ht⟩
theorem r_left (h : RdN N w b [0, 3, 97, 98]) : Calls Try.prog 27 #[.pointer (some ⟨b, 0, none⟩)] w fun e w' => e = .returned (.int .i64 4) ∧ w = w' := by
  obtain ⟨A, c, h, hB⟩ := h
  exact left_any w b c A _ h
theorem r_num2 (hb : N.heap.size ≤ b) (h : RdN N w b [0, 3, 97, 98]) : Calls Try.prog 20 #[.pointer (some ⟨b, 0, none⟩), .int .i64 2] w fun e w' => e = .returned (.tuple #[.int .u64 3, .int .i64 0]) ∧ RdN N w' b [97, 98] := by
  obtain ⟨A, c, h, hB⟩ := h
  exact (rnum_total w b c A _ h 2 (by decide) (by decide)).mono fun e w' ⟨he, ht⟩ => ⟨he, RdN.took hb hB ht⟩
theorem r_num4 (hb : N.heap.size ≤ b) (h : RdN N w b [97, 98]) : Calls Try.prog 20 #[.pointer (some ⟨b, 0, none⟩), .int .i64 4] w fun e w' => e = .returned (.tuple #[.int .u64 0, .int .i64 10]) ∧ RdN N w' b [97, 98] := by
  obtain ⟨A, c, h, hB⟩ := h
  exact (rnum_total w b c A _ h 4 (by decide) (by decide)).mono fun e w' ⟨he, ht⟩ => ⟨he, RdN.took hb hB ht⟩
theorem r_num5 (hb : N.heap.size ≤ b) (h : RdN N w b [97, 98]) : Calls Try.prog 20 #[.pointer (some ⟨b, 0, none⟩), .int .i64 5] w fun e w' => e = .returned (.tuple #[.int .u64 0, .int .i64 2]) ∧ RdN N w' b [97, 98] := by
  obtain ⟨A, c, h, hB⟩ := h
  exact (rnum_total w b c A _ h 5 (by decide) (by decide)).mono fun e w' ⟨he, ht⟩ => ⟨he, RdN.took hb hB ht⟩
theorem r_int (hb : N.heap.size ≤ b) (h : RdN N w b [97, 98]) : Calls Try.prog 22 #[.pointer (some ⟨b, 0, none⟩)] w fun e w' => e = .returned (.tuple #[.int .i64 0, .int .i64 10]) ∧ RdN N w' b [97, 98] := by
  obtain ⟨A, c, h, hB⟩ := h
  refine (rint_any w b c A _ h).mono fun e w' ⟨he, ht⟩ => ?_
  rw [show rnumErr 8 [97, 98] = 10 from by decide +kernel] at he ht
  exact ⟨by rw [he, show taken 10 8 = 0 from rfl]; simp [num, wrap64], RdN.took hb hB ht⟩
theorem r_raw (n : Int) (e0 : Int) (he0 : rrawErr n [97, 98] = e0) (hne : taken e0 n.toNat = 0) (h1 : -9223372036854775808 ≤ n) (h2 : n ≤ 9223372036854775807) (hb : N.heap.size ≤ b) (h : RdN N w b [97, 98]) :
    Calls Try.prog 25 #[.pointer (some ⟨b, 0, none⟩), .int .i64 n] w fun e w' => ∃ v, e = .returned (.tuple #[v, .int .i64 e0]) ∧ RdN N w' b [97, 98] := by
  obtain ⟨A, c, h, hB⟩ := h
  refine (rraw_total w b c A _ h (by simp) n h1 h2).mono fun e w' hq => ?_
  obtain ⟨A', c', he, ht, _⟩ := hq
  rw [he0, hne] at he ht
  exact ⟨_, he, RdN.took hb hB ht⟩
theorem r_raw2 (hb : N.heap.size ≤ b) (h : RdN N w b [97, 98]) :
    Calls Try.prog 25 #[.pointer (some ⟨b, 0, none⟩), .int .i64 2] w fun e w' => ∃ v, e = .returned (.tuple #[v, .int .i64 0]) ∧ RdN N w' b [] ∧
      (convert 24 9 v).run Try.prog w' = .ok (.string ⟨#[97, 98]⟩) w' := by
  obtain ⟨A, c, h, hB⟩ := h
  refine (rraw_total w b c A _ h (by simp) 2 (by decide) (by decide)).mono fun e w' hq => ?_
  obtain ⟨A', c', he, ht, ho⟩ := hq
  exact ⟨_, he, RdN.took hb hB ht, conv_reads c' (Reads.of_own ho)⟩
theorem r_end (l : List UInt8) (h : RdN N w b l) : Calls Try.prog 28 #[.pointer (some ⟨b, 0, none⟩)] w fun e w' => e = .returned (.int .i64 (endErr l)) ∧ w = w' := by
  obtain ⟨A, c, h, hB⟩ := h
  exact end_any w b c A _ h
theorem r_read (hB : Below N.heap.size N w) (B : Nat) (hb : Blk w B 5 #[.int .u8 0, .int .u8 3, .int .u8 97, .int .u8 98]) :
    Calls Try.prog 19 #[.slice (some ⟨B, 0, none⟩) 4 4] w fun e w' => ∃ b, e = .returned (.pointer (some ⟨b, 0, none⟩)) ∧ RdN N w' b [0, 3, 97, 98] ∧ N.heap.size ≤ b := by
  refine (rd_of (some ⟨B, 0, none⟩) 4 4 [0, 3, 97, 98] w ⟨rfl, fun _ => ⟨_, rfl, hb.lt, fun j u hu => ?_⟩⟩ (by simp)).mono fun e w' hq => ?_
  · have hp : (⟨B, 0, none⟩ : Addr).add j = ⟨B, j, none⟩ := by unfold Addr.add; split <;> simp_all
    rw [hp, hb.cell j, ← hu]
    simp [bv]
  · obtain ⟨b, A, c, he, h1, h2, _, h3⟩ := hq
    exact ⟨b, he, ⟨A, c, h1, hB.trans (h3.mono hB.size)⟩, Nat.le_trans hB.size h2⟩
end

theorem made_zero (n : Nat) : (madeCells (Value.int .u8 0).cells (n * 1)).toList = (List.replicate n (0 : UInt8)).map bv := by
  rw [Nat.mul_one, List.map_replicate, show (Value.int .u8 0).cells = #[.int .u8 0] from rfl]
  apply List.ext_getElem
  · simp [madeCells]
  · intro i h1 h2
    simp [madeCells, Nat.mod_one, bv]

/-- 'make([]byte, 65536)', converted: a string of 65,536 bytes, and nothing that lay there has turned. -/
theorem make_long (W : World) : ∃ W', (Instr.makeSlice 24 (.int .i64 65536) (.int .i64 65536)).run Try.prog W = .ok (.slice (some ⟨W.heap.size, 0, none⟩) 65536 65536) W' ∧
    (∃ s, s.size = 65536 ∧ (convert 24 9 (.slice (some ⟨W.heap.size, 0, none⟩) 65536 65536)).run Try.prog W' = .ok (.string s) W') ∧ W.grownBy W' none := by
  obtain ⟨i0, hi, hz0, hz1, hz2⟩ := info_parts infoU8
  obtain ⟨W', h1, h2, h3⟩ := run_make_full (P := Try.prog) W 0 24 5 i0 (.int .u8 0) 1 Try.underlying24 hi hz0 hz1 .i64 .i64 65536 (by rw [hz2]; omega) (by unfold maxLen; omega) (Nat.zero_le _)
  refine ⟨W', h1, ⟨⟨(List.replicate 65536 (0 : UInt8)).toArray⟩, ?_, ?_⟩, h3⟩
  · show (List.replicate 65536 (0 : UInt8)).toArray.size = 65536
    rw [List.size_toArray, List.length_replicate]
  · refine conv_reads 65536 (B := W'.heap.size) ?_
    have hr := Reads.of_own h2
    have e : (madeCells (Value.int .u8 0).cells (65536 * 1)).toList = (List.replicate 65536 (0 : UInt8)).map bv := made_zero 65536
    rw [e] at hr
    exact hr

set_option maxRecDepth 100000 in
set_option maxHeartbeats 8000000 in
theorem walk (w : World) : Calls Try.prog 5 #[] w fun e w' => e = .returned (.bool true) ∧ Below w.heap.size w w' := by
  have HZ := Lib.hid (Wr.made w)
  have p64 : 18446744073709551615 < 18446744073709551616 := by omega
  have P64 := Lib.hid p64
  clear p64
  go_enter Try.func5, Try.ntmps5
  go_wp2_with fail
  refine (wnum_much w.heap.size 1 256 _ (.inl rfl) (by decide)).mono ?_
  rintro e _ ⟨rfl, rfl⟩
  go_wp2_with fail
  refine (wnum_arg w.heap.size 3 1 _ (by decide) (by decide) (by decide)).mono ?_
  rintro e _ ⟨rfl, rfl⟩
  go_wp2_with fail
  refine (wnum_much w.heap.size 4 4294967296 _ (.inr (.inr (.inl rfl))) (by decide)).mono ?_
  rintro e _ ⟨rfl, rfl⟩
  go_wp2_with fail
  refine (wnum_ok _ w.heap.size none 0 none [] HZ.out 8 18446744073709551615 (.inr (.inr (.inr rfl))) (by decide) P64.out (by simp)).mono ?_
  rintro e w1 ⟨rfl, hq⟩
  have hN := WrN.wrote (N := w) (fun k h => by have := foot_new h; omega) ((Below.refl _ w).alloc (Nat.le_refl _) _) hq
  clear hq
  go_wp2_with fail
  refine (wnum_arg w.heap.size 0 0 _ (by decide) (by decide) (by decide)).mono ?_
  rintro e _ ⟨rfl, rfl⟩
  obtain ⟨w2, hmk, ⟨s, hs, hcv⟩, hg⟩ := make_long w1
  have HS := Lib.hid hs
  have hN2 : WrN w w2 w.heap.size ([] ++ be 8 18446744073709551615) := by
    obtain ⟨A, c, u, h1, h2, h3⟩ := hN
    exact ⟨A, c, u, h1.keep ((Keep.refl (fun _ => False) w1).grown hg (fun g e => by cases e)) (fun _ _ h => h), h2, h3.grown hg h3.size (fun g e => by cases e)⟩
  have H2 := Lib.hid hN2
  clear hN hN2 hg hs
  go_wp2_with fail
  refine (wtext_long w.heap.size s _ (by rw [HS.out]; omega) (by rw [HS.out]; omega)).mono ?_
  rintro e _ ⟨rfl, rfl⟩
  clear hmk hcv
  go_wp2_with fail
  have hlen : Calls Try.prog 17 #[.pointer (some ⟨w.heap.size, 0, none⟩)] w2 fun e w' => e = .returned (.int .i64 8) ∧ w2 = w' := by
    obtain ⟨A, c, u, h1, h2, h3⟩ := H2.out
    exact wlen_any w2 _ _ _ _ _ h1
  refine hlen.mono ?_
  rintro e _ ⟨rfl, rfl⟩
  have hB2 : Below w.heap.size w w2 := by
    obtain ⟨A, c, u, h1, h2, h3⟩ := H2.out
    exact h3
  clear hlen
  go_wp2_with fail
  refine (r_read (N := w) (hB2.alloc hB2.size _) w2.heap.size (Blk.new w2 _ _)).mono ?_
  rintro e w3 ⟨b, rfl, hr3, hb⟩
  clear hB2
  have HB := Lib.hid hb
  clear hb
  go_wp2_with fail
  refine (r_text HB.out hr3).mono ?_
  rintro e w4 ⟨rfl, hr4⟩
  clear hr3
  go_wp2_with fail
  refine (r_left hr4).mono ?_
  rintro e _ ⟨rfl, rfl⟩
  go_wp2_with fail
  refine (r_num2 HB.out hr4).mono ?_
  rintro e w5 ⟨rfl, hr5⟩
  clear hr4
  go_wp2_with fail
  refine (r_num4 HB.out hr5).mono ?_
  rintro e w6 ⟨rfl, hr6⟩
  clear hr5
  go_wp2_with fail
  refine (r_num5 HB.out hr6).mono ?_
  rintro e w7 ⟨rfl, hr7⟩
  clear hr6
  go_wp2_with fail
  refine (r_raw (-1) 2 (by decide) (by decide) (by decide) (by decide) HB.out hr7).mono ?_
  rintro e w8 ⟨v8, rfl, hr8⟩
  clear hr7
  go_wp2_with fail
  refine (r_raw 3 10 (by decide) (by decide) (by decide) (by decide) HB.out hr8).mono ?_
  rintro e w9 ⟨v9, rfl, hr9⟩
  clear hr8
  go_wp2_with fail
  refine (r_int HB.out hr9).mono ?_
  rintro e w10 ⟨rfl, hr10⟩
  clear hr9
  go_wp2_with fail
  refine (r_end [97, 98] hr10).mono ?_
  rintro e _ ⟨rfl, rfl⟩
  rw [show endErr [97, 98] = 10 from by decide]
  go_wp2_with fail
  refine (r_raw2 HB.out hr10).mono ?_
  rintro e w11 ⟨v11, rfl, hr11, cv11⟩
  clear hr10
  go_wp2_with fail
  refine (r_end [] hr11).mono ?_
  rintro e _ ⟨rfl, rfl⟩
  rw [show endErr [] = 0 from by decide]
  have hB11 : Below w.heap.size w w11 := by
    obtain ⟨A, c, h1, h2⟩ := hr11
    exact h2
  clear hr11 cv11
  go_wp2_with fail
  have hz := Lib.hid (Blk.new w11 62 #[.slice none 0 0, .bool false])
  refine (rnum_zero w11.heap.size _ 1 _ hz.out).mono ?_
  rintro e _ ⟨rfl, rfl⟩
  go_wp2_with fail
  refine (rtext_nil _).mono ?_
  rintro e _ ⟨rfl, rfl⟩
  go_wp2_with fail
  refine (rint_zero w11.heap.size _ _ hz.out).mono ?_
  rintro e _ ⟨rfl, rfl⟩
  go_wp2_with fail
  refine (rraw_nil 0 _).mono ?_
  rintro e _ ⟨rfl, rfl⟩
  go_wp2_with fail
  refine (wnum_nil 1 1 _).mono ?_
  rintro e _ ⟨rfl, rfl⟩
  go_wp2_with fail
  refine (wint_nil 1 _).mono ?_
  rintro e _ ⟨rfl, rfl⟩
  go_wp2_with fail
  refine (wtext_nil _ _).mono ?_
  rintro e _ ⟨rfl, rfl⟩
  go_wp2_with fail
  refine (wraw_nil none 0 0 _).mono ?_
  rintro e _ ⟨rfl, rfl⟩
  go_wp2_with fail
  refine (wlen_nil _).mono ?_
  rintro e _ ⟨rfl, rfl⟩
  go_wp2_with fail
  refine (wbytes_nil _).mono ?_
  rintro e _ ⟨rfl, rfl⟩
  go_wp2_with fail
  refine (left_zero w11.heap.size _ _ hz.out).mono ?_
  rintro e _ ⟨rfl, rfl⟩
  go_wp2_with fail
  refine (end_zero w11.heap.size _ _ hz.out).mono ?_
  rintro e _ ⟨rfl, rfl⟩
  go_wp2_with fail
  refine (end_nil _).mono ?_
  rintro e _ ⟨rfl, rfl⟩
  go_wp2_with fail
  refine (alive_any _).mono ?_
  rintro e w12 ⟨rfl, k12⟩
  go_wp2
  go_ret
  exact ⟨rfl, (hB11.alloc hB11.size _).trans (k12.mono (by simp; have := hB11.size; omega))⟩

theorem own : ownKnob Try.prog.godebug = none := by kernel_rfl

set_option maxRecDepth 100000 in
theorem lifted (os : Os) (started : os.Started) (H : Type) (enc : TypeId × Value → H) :
    ReturnsInHanded {} Try.checked os 5 .any (Rows.octetNamesSpec.pre6 enc Try.prog Try.f5 Rows.octetNamesRow.domain false) (Rows.octetNamesSpec.post enc Try.prog Try.f5 false true false false) := by
  refine returnsInHanded_of_change (C := Try.checked) own started (by kernel_rfl) Try.func5
    (ChangeSpec.witness6 (enc := enc) (C := Try.checked) false ⟨#[], #[], []⟩ 8 (by kernel_rfl) (by kernel_rfl) (by kernel_rfl) (by kernel_rfl)) ?_
  intro W base args ds gs before _ hW _ _
  have hW' := hW
  obtain ⟨p, q, hA0, hV, rfl, _, _⟩ := hW
  have hA : DataW.TrodAll enc Try.prog W 0 (fun _ => true) true Try.f5.params.toList args.toList ds p := hA0
  rw [Try.params5] at hA
  obtain ⟨rfl, rfl, rfl⟩ := trodAll_none hA
  obtain ⟨rfl, rfl⟩ := trodVars_none hV
  clear hA0
  simp only [List.append_nil] at hW'
  refine (walk W).mono fun e W' ⟨he, hb⟩ => ?_
  subst he
  exact ⟨_, rfl, _, _, _, [], [], [], hW', trodAll_cons_mk (shut_bool Try.underlying4 _) trodAll_mk0, rfl, rfl, hb.frame _, fun h => by cases h⟩

/-- The statement. -/
theorem proved : Rows.OctetNamesSaid :=
  OpenClaim.holds_of_wide 5 Try.f5 rfl rfl rfl rfl rfl rfl rfl ⟨rfl, rfl, rfl, rfl, rfl⟩ rfl rfl rfl rfl rfl (by kernel_rfl) Try.func5 (by kernel_rfl)
    (of_decide_eq_true (by kernel_rfl)) (by unfold Func.isWrapper; first | (rw [if_pos (by decide +kernel)]; kernel_rfl) | (rw [if_neg (by decide +kernel)]; exact ⟨rfl, rfl⟩))
    (fun os started H enc _ => lifted os started H enc)

#print axioms proved
end Go.Proofs.Ytlonejpphmpnjaa.octetNames

/-
  The statement CrcNames is proved: errors have their numbers, the chapter's examples hold, what is published comes out, and what may not be is refused; it is closed, without a condition.
-/
import Derived.Test.YtlhonndnoegmbaaCrcAlive
import Derived.Laws.OwnMore
import Derived.ProofKit
import Derived.OpenShut
namespace Go.Proofs.Ytlhonndnoegmbaa.crcNames
open Go.ChangeShapes Go.WideShapes Go.ChangeAt Go.RowKit Go.Proofs.Ytlhonndnoegmbaa.crc

theorem o4 (W : World) : Calls Try.prog 13 #[.slice (some ⟨W.heap.size, 0, none⟩) 4 4] (W.alloc (.cells #[.int .u8 49, .int .u8 50, .int .u8 51, .int .u8 52] 5 (4, 5))) fun e w' => e = .returned (.int .u32 2615402659) ∧ Below W.heap.size W w' := by
  have h := cof_lit W #[.int .u8 49, .int .u8 50, .int .u8 51, .int .u8 52] (4, 5) [49, 50, 51, 52] 4 rfl rfl (by omega)
  rw [show sum (bitsB [49, 50, 51, 52]) = 2615402659#32 from by decide +kernel] at h
  exact h
theorem o5 (W : World) : Calls Try.prog 13 #[.slice (some ⟨W.heap.size, 0, none⟩) 5 5] (W.alloc (.cells #[.int .u8 53, .int .u8 54, .int .u8 55, .int .u8 56, .int .u8 57] 5 (5, 6))) fun e w' => e = .returned (.int .u32 320708720) ∧ Below W.heap.size W w' := by
  have h := cof_lit W #[.int .u8 53, .int .u8 54, .int .u8 55, .int .u8 56, .int .u8 57] (5, 6) [53, 54, 55, 56, 57] 5 rfl rfl (by omega)
  rw [show sum (bitsB [53, 54, 55, 56, 57]) = 320708720#32 from by decide +kernel] at h
  exact h
theorem o1 (W : World) : Calls Try.prog 13 #[.slice (some ⟨W.heap.size, 0, none⟩) 1 1] (W.alloc (.cells #[.int .u8 97] 5 (1, 2))) fun e w' => e = .returned (.int .u32 3904355907) ∧ Below W.heap.size W w' := by
  have h := cof_lit W #[.int .u8 97] (1, 2) [97] 1 rfl rfl (by omega)
  rw [show sum (bitsB [97]) = 3904355907#32 from by decide +kernel] at h
  exact h
theorem o3 (W : World) : Calls Try.prog 13 #[.slice (some ⟨W.heap.size, 0, none⟩) 3 3] (W.alloc (.cells #[.int .u8 97, .int .u8 98, .int .u8 99] 5 (3, 4))) fun e w' => e = .returned (.int .u32 891568578) ∧ Below W.heap.size W w' := by
  have h := cof_lit W #[.int .u8 97, .int .u8 98, .int .u8 99] (3, 4) [97, 98, 99] 3 rfl rfl (by omega)
  rw [show sum (bitsB [97, 98, 99]) = 891568578#32 from by decide +kernel] at h
  exact h
theorem m5 (W : World) : Calls Try.prog 12 #[.int .u32 2615402659, .slice (some ⟨W.heap.size, 0, none⟩) 5 5] (W.alloc (.cells #[.int .u8 53, .int .u8 54, .int .u8 55, .int .u8 56, .int .u8 57] 5 (5, 6))) fun e w' => e = .returned (.int .u32 3421780262) ∧ Below W.heap.size W w' := by
  have h := cmore_any 2615402659#32 (some ⟨W.heap.size, 0, none⟩) 5 [53, 54, 55, 56, 57] (W.alloc (.cells #[.int .u8 53, .int .u8 54, .int .u8 55, .int .u8 56, .int .u8 57] 5 (5, 6))) (reads_mark W _ _ [53, 54, 55, 56, 57] 5 rfl rfl) (by simp)
  rw [show more 2615402659#32 (bitsB [53, 54, 55, 56, 57]) = 3421780262#32 from by decide +kernel] at h
  refine h.mono ?_
  rintro e w' ⟨rfl, hb⟩
  exact ⟨rfl, ((Below.refl _ W).alloc (Nat.le_refl _) _).trans (hb.mono (by simp))⟩
theorem j1 (W : World) : Calls Try.prog 14 #[.int .u32 2615402659, .int .u32 320708720, .int .i64 5] W fun e w' => e = .returned (.tuple #[.int .u32 3421780262, .int .i64 0]) ∧ W = w' := by
  have h := cjoin_any 2615402659#32 320708720#32 5 W (by omega)
  rw [show join 2615402659#32 320708720#32 (8 * 5) = 3421780262#32 from by decide +kernel] at h
  exact h
theorem j2 (W : World) : Calls Try.prog 14 #[.int .u32 5, .int .u32 0, .int .i64 0] W fun e w' => e = .returned (.tuple #[.int .u32 5, .int .i64 0]) ∧ W = w' := by
  have h := cjoin_any 5#32 0#32 0 W (by omega)
  rw [show join 5#32 0#32 (8 * 0) = 5#32 from by decide +kernel] at h
  exact h
theorem j3 (W : World) : Calls Try.prog 14 #[.int .u32 1, .int .u32 2, .int .i64 (-1)] W fun e w' => e = .returned (.tuple #[.int .u32 0, .int .i64 2]) ∧ W = w' :=
  cjoin_neg 1#32 2#32 (-1) W (by omega)
theorem j4 (W : World) : Calls Try.prog 14 #[.int .u32 1, .int .u32 2, .int .i64 4611686018427387904] W fun e w' => (∃ x, e = .returned (.tuple #[x, .int .i64 0])) ∧ W = w' := by
  have h := cjoin_any 1#32 2#32 4611686018427387904 W (by omega)
  refine h.mono ?_
  rintro e w' ⟨rfl, rfl⟩
  exact ⟨⟨_, rfl⟩, rfl⟩
theorem s0 (W : World) : Calls Try.prog 8 #[.slice none 0 0] W fun e w' => ∃ A c, e = .returned (.slice A 4 c) ∧ w'.ownsRow W.heap.size 5 1 (.slice A 4 c) 4 (([0, 0, 0, 0] : List UInt8).map bv) ∧ Below W.heap.size W w' := by
  have h := cseal_any none 0 [] W Reads.none_ (by simp)
  rw [show [] ++ four (sum (bitsB [])) = [0, 0, 0, 0] from by decide +kernel] at h
  refine h.mono ?_
  rintro e w' ⟨v, rfl, A, c, rfl, h1, h2⟩
  exact ⟨A, c, rfl, h1, h2⟩
theorem p0 (A : Option Addr) (c : Nat) (W : World) (hr : Reads W W.heap.size 1 A 4 (([0, 0, 0, 0] : List UInt8).map bv)) : Calls Try.prog 9 #[.slice A 4 c] W fun e w' => (∃ A' c', e = .returned (.tuple #[.slice A' 0 c', .int .i64 0])) ∧ Below W.heap.size W w' := by
  refine (copen_any A c [0, 0, 0, 0] W hr (by simp)).mono ?_
  rintro e w' ⟨v, rfl, A', c', rfl, h1, h2⟩
  rw [show openErr [0, 0, 0, 0] = 0 from by decide +kernel]
  have : (openOut [0, 0, 0, 0]).length = 0 := by decide +kernel
  rw [this]
  exact ⟨⟨A', c', rfl⟩, h2⟩
theorem p3 (W : World) : Calls Try.prog 9 #[.slice (some ⟨W.heap.size, 0, none⟩) 3 3] (W.alloc (.cells #[.int .u8 0, .int .u8 0, .int .u8 0] 5)) fun e w' => (∃ v, e = .returned (.tuple #[v, .int .i64 20])) ∧ Below W.heap.size W w' := by
  refine (copen_any (some ⟨W.heap.size, 0, none⟩) 3 [0, 0, 0] (W.alloc (.cells #[.int .u8 0, .int .u8 0, .int .u8 0] 5)) (reads_mark W _ _ [0, 0, 0] 3 rfl rfl) (by simp)).mono ?_
  rintro e w' ⟨v, rfl, A', c', rfl, h1, h2⟩
  rw [show openErr [0, 0, 0] = 20 from by decide +kernel]
  exact ⟨⟨_, rfl⟩, ((Below.refl _ W).alloc (Nat.le_refl _) _).trans (h2.mono (by simp))⟩
theorem p4 (W : World) : Calls Try.prog 9 #[.slice (some ⟨W.heap.size, 0, none⟩) 4 4] (W.alloc (.cells #[.int .u8 0, .int .u8 0, .int .u8 0, .int .u8 1] 5)) fun e w' => (∃ v, e = .returned (.tuple #[v, .int .i64 20])) ∧ Below W.heap.size W w' := by
  refine (copen_any (some ⟨W.heap.size, 0, none⟩) 4 [0, 0, 0, 1] (W.alloc (.cells #[.int .u8 0, .int .u8 0, .int .u8 0, .int .u8 1] 5)) (reads_mark W _ _ [0, 0, 0, 1] 4 rfl rfl) (by simp)).mono ?_
  rintro e w' ⟨v, rfl, A', c', rfl, h1, h2⟩
  rw [show openErr [0, 0, 0, 1] = 20 from by decide +kernel]
  exact ⟨⟨_, rfl⟩, ((Below.refl _ W).alloc (Nat.le_refl _) _).trans (h2.mono (by simp))⟩

set_option maxRecDepth 100000 in
set_option maxHeartbeats 4000000 in
theorem walk (w : World) : Calls Try.prog 4 #[] w fun e w' => e = .returned (.bool true) ∧ Below w.heap.size w w' := by
  have cv0 := fun w C n c => conv_lit w C n c
  have HB := Lib.hid (Below.refl w.heap.size w)
  have hmk : ∀ w : World, (Instr.makeSlice 22 (.int .i64 3) (.int .i64 3)).run Try.prog w = .ok (.slice (some ⟨w.heap.size, 0, none⟩) 3 3) (w.alloc (.cells #[.int .u8 0, .int .u8 0, .int .u8 0] 5)) := fun _ => by kernel_rfl
  go_enter Try.func4, Try.ntmps4
  go_wp2_with (first
    | (go_at_call 13; (first | with_reducible refine (o4 _).mono ?_ | with_reducible refine (o5 _).mono ?_); rintro e wn ⟨rfl, hb⟩; replace HB := Lib.hid (HB.out.trans (hb.mono HB.out.size)); clear hb)
    | (go_at_call 12; with_reducible refine (m5 _).mono ?_; rintro e wn ⟨rfl, hb⟩; replace HB := Lib.hid (HB.out.trans (hb.mono HB.out.size)); clear hb)
    | (go_at_call 14; (first | with_reducible refine (j1 _).mono ?_ | with_reducible refine (j2 _).mono ?_ | with_reducible refine (j3 _).mono ?_); rintro e _ ⟨rfl, rfl⟩)
    | (go_at_call 14; with_reducible refine (j4 _).mono ?_; rintro e _ ⟨⟨x4, rfl⟩, rfl⟩)
    | (go_at_call 8; with_reducible refine (s0 _).mono ?_; rintro e ws ⟨A, c, rfl, ho, hb⟩; replace HB := Lib.hid (HB.out.trans (hb.mono HB.out.size)); have HR := Lib.hid (Reads.of_own ho); have HS := Lib.hid (Below.refl ws.heap.size ws); clear hb ho))
  go_wp2_with (first
    | (go_at_call 9; with_reducible refine (p0 _ _ _ HR.out).mono ?_; rintro e wn ⟨⟨A1, c1, rfl⟩, hb⟩; replace HS := Lib.hid (HS.out.trans (hb.mono HS.out.size)); clear hb)
    | (go_at_call 9; (first | with_reducible refine (p3 _).mono ?_ | with_reducible refine (p4 _).mono ?_); rintro e wn ⟨⟨x, rfl⟩, hb⟩; replace HS := Lib.hid (HS.out.trans (hb.mono HS.out.size)); clear hb)
    | (go_at_call 13; (first | with_reducible refine (o1 _).mono ?_ | with_reducible refine (o3 _).mono ?_); rintro e wn ⟨rfl, hb⟩; replace HS := Lib.hid (HS.out.trans (hb.mono HS.out.size)); clear hb)
    | (go_at_call 15; with_reducible refine (calive_any _).mono ?_; rintro e wn ⟨rfl, hb⟩; replace HS := Lib.hid (HS.out.trans (hb.mono HS.out.size)); clear hb; have cv := conv_reads c (HR.out.below HS.out)))
  go_ret
  exact ⟨rfl, HB.out.trans (HS.out.mono HB.out.size)⟩

theorem own : ownKnob Try.prog.godebug = none := by kernel_rfl

set_option maxRecDepth 100000 in
theorem lifted (os : Os) (started : os.Started) (H : Type) (enc : TypeId × Value → H) :
    ReturnsInHanded {} Try.checked os 4 .any (Rows.crcNamesSpec.pre6 enc Try.prog Try.f4 Rows.crcNamesRow.domain false) (Rows.crcNamesSpec.post enc Try.prog Try.f4 false true false false) := by
  refine returnsInHanded_of_change (C := Try.checked) own started (by kernel_rfl) Try.func4
    (ChangeSpec.witness6 (enc := enc) (C := Try.checked) false ⟨#[], #[], []⟩ 8 (by kernel_rfl) (by kernel_rfl) (by kernel_rfl) (by kernel_rfl)) ?_
  intro W base args ds gs before _ hW _ _
  have hW' := hW
  obtain ⟨p, q, hA0, hV, rfl, _, _⟩ := hW
  have hA : DataW.TrodAll enc Try.prog W 0 (fun _ => true) true Try.f4.params.toList args.toList ds p := hA0
  rw [Try.params4] at hA
  obtain ⟨rfl, rfl, rfl⟩ := trodAll_none hA
  obtain ⟨rfl, rfl⟩ := trodVars_none hV
  clear hA0
  simp only [List.append_nil] at hW'
  refine (walk W).mono fun e W' ⟨he, hb⟩ => ?_
  subst he
  exact ⟨_, rfl, _, _, _, [], [], [], hW', trodAll_cons_mk (shut_bool Try.underlying4 _) trodAll_mk0, rfl, rfl, hb.frame _, fun h => by cases h⟩

/-- The statement. -/
theorem proved : Rows.CrcNamesSaid :=
  OpenClaim.holds_of_wide 4 Try.f4 rfl rfl rfl rfl rfl rfl rfl ⟨rfl, rfl, rfl, rfl, rfl⟩ rfl rfl rfl rfl rfl (by kernel_rfl) Try.func4 (by kernel_rfl)
    (of_decide_eq_true (by kernel_rfl)) (by unfold Func.isWrapper; first | (rw [if_pos (by decide +kernel)]; kernel_rfl) | (rw [if_neg (by decide +kernel)]; exact ⟨rfl, rfl⟩))
    (fun os started H enc _ => lifted os started H enc)

#print axioms proved
end Go.Proofs.Ytlhonndnoegmbaa.crcNames

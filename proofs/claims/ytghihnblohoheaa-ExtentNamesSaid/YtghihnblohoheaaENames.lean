/-
  The statement ExtentNames is proved: the errors have their numbers, the chapter's examples come out, what is refused is refused, and calls on no space answer so. It is closed: no input, no condition.
-/
import Derived.Test.YtghihnblohoheaaELaw
import Derived.Laws.OwnMore
import Derived.ProofKit
import Derived.OpenShut
namespace Go.Proofs.Ytghihnblohoheaa.extentNames
open Go.ChangeShapes Go.WideShapes Go.ChangeAt Go.RowKit

theorem reads_newX (w : World) (t : TypeId) (C : Array Value) (xs : List Value) (n : Nat) (hC : C = xs.toArray) (hn : xs.length = n * 2) : Reads (w.alloc (.cells C t)) (w.alloc (.cells C t)).heap.size 2 (some ⟨w.heap.size, 0, none⟩) n xs := by
  refine ⟨hn, fun h0 => ⟨_, rfl, by simp, fun j u hu => ?_⟩⟩
  have hp : (⟨w.heap.size, 0, none⟩ : Addr).add j = ⟨w.heap.size, j, none⟩ := by unfold Addr.add; split <;> simp_all
  rw [hp, (Blk.new w t C).cell j, hC, ← hu]
  simp

def n0 : ESt := newE 10 20
def n1 : ESt := takeS n0 3
def n2 : ESt := takeS n1 4
def n3 : ESt := turnS n2 10 3 false
def n4 : ESt := takeS n3 2
def n5 : ESt := turnS n4 17 3 true
def n6 : ESt := turnS n5 14 2 false
def ne : ESt := newE 5 5
theorem f3 : turnE n2 10 3 false = 0 := by decide +kernel
theorem f4 : decide (takeE n3 2 = 0 ∧ takeX n3 2 = (10, 2)) = true := by decide +kernel
theorem f5 : turnE n4 17 3 true = 0 := by decide +kernel
theorem f6 : turnE n5 12 2 true = 40 := by decide +kernel
theorem s6 : turnS n5 12 2 true = n5 := by
  unfold turnS
  rw [if_neg (by decide +kernel)]
theorem fl : n5.L.count false = 1 := by decide +kernel
theorem fg : mostOf (runsAt n5.L false 0) = 1 := by decide +kernel
theorem ft : takenX n5 = [(10, 2), (13, 7)] := by decide +kernel
theorem h1 : hasE n5 10 = true := by decide +kernel
theorem h2 : hasE n5 12 = false := by decide +kernel
theorem h3 : hasE n5 20 = false := by decide +kernel
theorem h4 : hasE n5 9 = false := by decide +kernel
theorem g1 : turnE n5 12 2 false = 40 := by decide +kernel
theorem g1s : turnS n5 12 2 false = n5 := by
  unfold turnS
  rw [if_neg (by decide +kernel)]
theorem g2 : turnE n5 13 0 false = 40 := by decide +kernel
theorem g2s : turnS n5 13 0 false = n5 := by
  unfold turnS
  rw [if_neg (by decide +kernel)]
theorem g3c : coversE n5 19 4611686018427387904 = false := by decide +kernel
theorem g3o : turnOk n5 19 4611686018427387904 false = false := by
  unfold turnOk
  rw [g3c]
  rfl
theorem g3 : turnE n5 19 4611686018427387904 false = 40 := by
  unfold turnE
  rw [g3o]
  rfl
theorem g3s : turnS n5 19 4611686018427387904 false = n5 := by
  unfold turnS
  rw [g3o]
  rfl
theorem g4 : turnE n5 9 1 true = 40 := by decide +kernel
theorem g4s : turnS n5 9 1 true = n5 := by
  unfold turnS
  rw [if_neg (by decide +kernel)]
theorem g5 : takeE n5 0 = 40 := by decide +kernel
theorem g5s : takeS n5 0 = n5 := by
  unfold takeS
  rw [if_pos (by decide)]
theorem g6 : turnE n5 14 2 false = 0 := by decide +kernel
theorem fu : takenX n6 = [(10, 2), (13, 1), (16, 4)] := by decide +kernel
theorem fe : takeE ne 1 = 41 := by decide +kernel
attribute [irreducible] n0 n1 n2 n3 n4 n5 n6 ne

/-- What lies behind: the rest of the world; and a space that nobody made. -/
structure Z (w0 w : World) (zb : Nat) : Prop where
  below : Below w0.heap.size w0 w
  dead : EDead w (some ⟨zb, 0, none⟩)
theorem Z.start {w0 w1 : World} {o : Obj} (h : Below w0.heap.size w0 (w1.alloc o)) : Z w0 ((w1.alloc o).alloc (.cells #[.pointer none, .int .i64 0, .int .i64 0, .slice none 0 0] 48)) (w1.heap.size + 1) :=
  ⟨h.alloc h.size _, .inr ⟨_, rfl, (blk_new2 w1 o 48 _).cell 0⟩⟩
theorem Z.next {w0 w w' : World} {zb : Nat} (h : Z w0 w zb) (hb : Below w.heap.size w w') : Z w0 w' zb := ⟨h.below.trans (hb.mono h.below.size), h.dead.below hb⟩

set_option maxRecDepth 100000 in
set_option maxHeartbeats 8000000 in
theorem walk (w : World) : Calls Try.prog 4 #[] w fun e w' => e = .returned (.bool true) ∧ Below w.heap.size w w' := by
  go_enter Try.func4, Try.ntmps4
  have L0 : Hid True := Lib.hid trivial
  go_wp2_with (first
    | (go_at_call 8; have l0 := L0.out; clear l0; refine (lnew (N := w.heap.size) (w0 := w) 10 20 (Nat.le_refl _) (Below.refl _ _) (by omega) (by omega) (s' := n0) (by with_unfolding_all rfl)).mono ?_; rintro e w1 ⟨d, rfl, h, -, -⟩; have L1 := Lib.hid h; clear h L0)
    | (go_at_call 16; have l0 := L1.out; clear l0; refine (ltake 3 L1.out (by omega) rfl rfl (s' := n1) (by with_unfolding_all rfl)).mono ?_; rintro e w2 ⟨rfl, h, -⟩; have L2 := Lib.hid h; clear h L1)
    | (go_at_call 16; have l0 := L2.out; clear l0; refine (ltake 4 L2.out (by omega) rfl rfl (s' := n2) (by with_unfolding_all rfl)).mono ?_; rintro e w3 ⟨rfl, h, -⟩; have L3 := Lib.hid h; clear h L2)
    | (go_at_call 17; have l0 := L3.out; clear l0; refine (lgive 10 3 L3.out f3 (s' := n3) (by with_unfolding_all rfl)).mono ?_; rintro e w4 ⟨rfl, h, -⟩; have L4 := Lib.hid h; clear h L3)
    | (go_at_call 18; have l0 := L4.out; clear l0; refine (ltakes 2 10 L4.out (by omega) f4 (s' := n4) (by with_unfolding_all rfl)).mono ?_; rintro e w5 ⟨rfl, h, -⟩; have L5 := Lib.hid h; clear h L4)
    | (go_at_call 19; have l0 := L5.out; clear l0; refine (lclaim 17 3 L5.out f5 (s' := n5) (by with_unfolding_all rfl)).mono ?_; rintro e w6 ⟨rfl, h, -⟩; have L6 := Lib.hid h; clear h L5)
    | (go_at_call 19; have l0 := L6.out; clear l0; refine (lclaim 12 2 L6.out f6 s6).mono ?_; rintro e w7 ⟨rfl, h, -⟩; have L7 := Lib.hid h; clear h L6)
    | (go_at_call 11; have l0 := L7.out; clear l0; refine (lleft L7.out fl).mono ?_; rintro e w8 ⟨rfl, h, -⟩; have L8 := Lib.hid h; clear h L7)
    | (go_at_call 20; have l0 := L8.out; clear l0; refine (llongest L8.out fg).mono ?_; rintro e w9 ⟨rfl, h, -⟩; have L9 := Lib.hid h; clear h L8)
    | (go_at_call 14; have l0 := L9.out; clear l0; refine (ltaken L9.out ft (m := 2) rfl).mono ?_; rintro e w10 ⟨A10, c10, rfl, ho, h, -⟩; have L10 := Lib.hid h; have R10 := Lib.hid (Reads.of_own ho); clear h ho L9)
    | (go_at_call 13; have l0 := L10.out; clear l0; have hs := same4_any A10 (some ⟨w10.heap.size, 0, none⟩) c10 2 2 2 [(10, 2), (13, 7)] [(10, 2), (13, 7)] (w10.alloc (.cells #[.int .i64 10, .int .i64 2, .int .i64 13, .int .i64 7] 33)) rfl rfl ((R10.out.alloc (Nat.le_refl _) _).more (by simp)) (reads_newX w10 _ _ _ _ rfl rfl) (by omega) (by omega); rw [decide_eq_true rfl] at hs; refine hs.mono ?_; clear hs; rintro e w11 ⟨rfl, hb⟩; have L11 := Lib.hid (ELives.next (L10.out.next ((Below.refl _ _).alloc (Nat.le_refl _) _)) hb); clear hb L10 R10)
    | (go_at_call 21; have l0 := L11.out; clear l0; refine (lhas 10 L11.out h1).mono ?_; rintro e w12 ⟨rfl, h, -⟩; have L12 := Lib.hid h; clear h L11)
    | (go_at_call 21; have l0 := L12.out; clear l0; refine (lhas 12 L12.out h2).mono ?_; rintro e w13 ⟨rfl, h, -⟩; have L13 := Lib.hid h; clear h L12)
    | (go_at_call 21; have l0 := L13.out; clear l0; refine (lhas 20 L13.out h3).mono ?_; rintro e w14 ⟨rfl, h, -⟩; have L14 := Lib.hid h; clear h L13)
    | (go_at_call 21; have l0 := L14.out; clear l0; refine (lhas 9 L14.out h4).mono ?_; rintro e w15 ⟨rfl, h, -⟩; have L15 := Lib.hid h; clear h L14)
    | (go_at_call 17; have l0 := L15.out; clear l0; refine (lgive 12 2 L15.out g1 g1s).mono ?_; rintro e w16 ⟨rfl, h, -⟩; have L16 := Lib.hid h; clear h L15)
    | (go_at_call 17; have l0 := L16.out; clear l0; refine (lgive 13 0 L16.out g2 g2s).mono ?_; rintro e w17 ⟨rfl, h, -⟩; have L17 := Lib.hid h; clear h L16)
    | (go_at_call 17; have l0 := L17.out; clear l0; refine (lgive 19 4611686018427387904 L17.out g3 g3s).mono ?_; rintro e w18 ⟨rfl, h, -⟩; have L18 := Lib.hid h; clear h L17)
    | (go_at_call 19; have l0 := L18.out; clear l0; refine (lclaim 9 1 L18.out g4 g4s).mono ?_; rintro e w19 ⟨rfl, h, -⟩; have L19 := Lib.hid h; clear h L18)
    | (go_at_call 16; have l0 := L19.out; clear l0; refine (ltake 0 L19.out (by omega) rfl g5 g5s).mono ?_; rintro e w20 ⟨rfl, h, -⟩; have L20 := Lib.hid (h.next ((Below.refl _ _).alloc (Nat.le_refl _) (.cells #[.int .i64 (takeX n5 0).1, .int .i64 (takeX n5 0).2] 33))); clear h L19)
    | (go_at_call 17; have l0 := L20.out; clear l0; refine (lgive 14 2 L20.out g6 (s' := n6) (by with_unfolding_all rfl)).mono ?_; rintro e w21 ⟨rfl, h, -⟩; have L21 := Lib.hid h; clear h L20)
    | (go_at_call 14; have l0 := L21.out; clear l0; refine (ltaken L21.out fu (m := 3) rfl).mono ?_; rintro e w22 ⟨A22, c22, rfl, ho, h, -⟩; have L22 := Lib.hid h; have R22 := Lib.hid (Reads.of_own ho); clear h ho L21)
    | (go_at_call 13; have l0 := L22.out; clear l0; have hs := same4_any A22 (some ⟨w22.heap.size, 0, none⟩) c22 3 3 3 [(10, 2), (13, 1), (16, 4)] [(10, 2), (13, 1), (16, 4)] (w22.alloc (.cells #[.int .i64 10, .int .i64 2, .int .i64 13, .int .i64 1, .int .i64 16, .int .i64 4] 33)) rfl rfl ((R22.out.alloc (Nat.le_refl _) _).more (by simp)) (reads_newX w22 _ _ _ _ rfl rfl) (by omega) (by omega); rw [decide_eq_true rfl] at hs; refine hs.mono ?_; clear hs; rintro e w23 ⟨rfl, hb⟩; have L23 := Lib.hid (ELives.next (L22.out.next ((Below.refl _ _).alloc (Nat.le_refl _) _)) hb); clear hb L22 R22)
    | (go_at_call 8; have l0 := L23.out; clear l0; refine (enew_bad (-1) 3 _ (by omega)).mono ?_; rintro e _ ⟨rfl, rfl⟩; have L24 := L23; clear L23)
    | (go_at_call 8; have l0 := L24.out; clear l0; refine (enew_bad 4 3 _ (by omega)).mono ?_; rintro e _ ⟨rfl, rfl⟩; have L25 := L24; clear L24)
    | (go_at_call 8; have l0 := L25.out; clear l0; refine (enew_bad 0 4097 _ (by omega)).mono ?_; rintro e _ ⟨rfl, rfl⟩; have L26 := L25; clear L25)
    | (go_at_call 8; have l0 := L26.out; clear l0; refine (lnew (N := w.heap.size) (w0 := w) 5 5 L26.out.lt L26.out.below (by omega) (by omega) (s' := ne) (by with_unfolding_all rfl)).mono ?_; rintro e w27 ⟨d2, rfl, h, -, -⟩; have L27 := Lib.hid h; clear h L26)
    | (go_at_call 16; have l0 := L27.out; clear l0; refine (ltake 1 L27.out (by omega) rfl fe rfl).mono ?_; rintro e w28 ⟨rfl, h, -⟩; have L28 := Lib.hid (h.next ((Below.refl _ _).alloc (Nat.le_refl _) (.cells #[.int .i64 (takeX ne 1).1, .int .i64 (takeX ne 1).2] 33))); clear h L27)
    | (go_at_call 16; have l0 := L28.out; clear l0; refine (etake_dead none 1 _ (.inl rfl)).mono ?_; rintro e w29 ⟨rfl, hb⟩; have Z29 := Lib.hid (Z.next ((Z.start L28.out.below).next hb) ((Below.refl _ _).alloc (Nat.le_refl _) (.cells #[.int .i64 0, .int .i64 0] 33))); clear hb L28)
    | (go_at_call 19; have l0 := Z29.out; clear l0; refine (eclaim_dead (some ⟨w28.heap.size + 1, 0, none⟩) 0 1 _ Z29.out.dead).mono ?_; rintro e w30 ⟨rfl, hb⟩; have Z30 := Lib.hid (Z29.out.next hb); clear hb Z29)
    | (go_at_call 17; have l0 := Z30.out; clear l0; refine (egive_dead none 0 1 _ (.inl rfl)).mono ?_; rintro e w31 ⟨rfl, hb⟩; have Z31 := Lib.hid (Z30.out.next hb); clear hb Z30)
    | (go_at_call 11; have l0 := Z31.out; clear l0; refine (eleft_dead none _ (.inl rfl)).mono ?_; rintro e _ ⟨rfl, rfl⟩; have Z32 := Z31; clear Z31)
    | (go_at_call 20; have l0 := Z32.out; clear l0; refine (elongest_dead (some ⟨w28.heap.size + 1, 0, none⟩) _ Z32.out.dead).mono ?_; rintro e _ ⟨rfl, rfl⟩; have Z33 := Z32; clear Z32)
    | (go_at_call 14; have l0 := Z33.out; clear l0; refine (etaken_dead none _ (.inl rfl)).mono ?_; rintro e _ ⟨rfl, rfl⟩; have Z34 := Z33; clear Z33)
    | (go_at_call 21; have l0 := Z34.out; clear l0; refine (ehas_dead (some ⟨w28.heap.size + 1, 0, none⟩) 0 _ Z34.out.dead).mono ?_; rintro e w35 ⟨rfl, hb⟩; have Z35 := Lib.hid (Z34.out.next hb); clear hb Z34)
    | (go_at_call 22; have l0 := Z35.out; clear l0; refine (ecopy_dead none _ (.inl rfl)).mono ?_; rintro e _ ⟨rfl, rfl⟩; have Z36 := Z35; clear Z35)
    | (go_at_call 23; have l0 := Z36.out; clear l0; refine (alive4_any _).mono ?_; rintro e w37 ⟨rfl, hb⟩; have Z37 := Lib.hid (Z36.out.next hb); clear hb Z36))
  go_ret
  exact ⟨rfl, Z37.out.below⟩

theorem own : ownKnob Try.prog.godebug = none := by kernel_rfl

set_option maxRecDepth 100000 in
theorem lifted (os : Os) (started : os.Started) (H : Type) (enc : TypeId × Value → H) :
    ReturnsInHanded {} Try.checked os 4 .any (Rows.extentNamesSpec.pre6 enc Try.prog Try.f4 Rows.extentNamesRow.domain false) (Rows.extentNamesSpec.post enc Try.prog Try.f4 false true false false) := by
  refine returnsInHanded_of_change (C := Try.checked) own started (by kernel_rfl) Try.func4
    (ChangeSpec.witness6 (enc := enc) (C := Try.checked) false ⟨#[], #[], []⟩ 8 (by kernel_rfl) (by kernel_rfl) (by kernel_rfl) (by kernel_rfl)) ?_
  intro W base args ds gs before _ hW _ _
  have hW' := hW
  obtain ⟨p, q, hA0, hV, rfl, _, _⟩ := hW
  have hA : DataW.TrodAll enc Try.prog W 0 (fun _ => true) true Try.f4.params.toList args.toList ds p := hA0
  rw [Try.params4] at hA
  obtain ⟨rfl, rfl, rfl⟩ := trodAll_none hA
  obtain ⟨rfl, rfl⟩ := trodVars_none hV
  clear hA0
  simp only [List.append_nil] at hW'
  refine (walk W).mono fun e W' ⟨he, hb⟩ => ?_
  subst he
  exact ⟨_, rfl, _, _, _, [], [], [], hW', trodAll_cons_mk (shut_bool Try.underlying4 _) trodAll_mk0, rfl, rfl, hb.frame _, fun h => by cases h⟩

/-- The statement. -/
theorem proved : Rows.ExtentNamesSaid :=
  OpenClaim.holds_of_wide 4 Try.f4 rfl rfl rfl rfl rfl rfl rfl ⟨rfl, rfl, rfl, rfl, rfl⟩ rfl rfl rfl rfl rfl (by kernel_rfl) Try.func4 (by kernel_rfl)
    (of_decide_eq_true (by kernel_rfl)) (by unfold Func.isWrapper; first | (rw [if_pos (by decide +kernel)]; kernel_rfl) | (rw [if_neg (by decide +kernel)]; exact ⟨rfl, rfl⟩))
    (fun os started H enc _ => lifted os started H enc)

#print axioms proved
end Go.Proofs.Ytghihnblohoheaa.extentNames

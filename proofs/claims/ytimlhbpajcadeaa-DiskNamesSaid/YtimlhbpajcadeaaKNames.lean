/-
  The statement DiskNames is proved: errors and limits have their numbers, the chapter's examples hold, what may not be is refused, and calls on no disk; it is closed, without a condition.
-/
import Derived.Test.YtimlhbpajcadeaaKAlive
import Derived.Laws.OwnMore
import Derived.ProofKit
import Derived.OpenShut
namespace Go.Proofs.Ytimlhbpajcadeaa.diskNames
open Go.ChangeShapes Go.WideShapes Go.ChangeAt Go.RowKit

theorem dcopy_dead (p : Option Addr) (w : World) (h : Dead w p) : Calls Try.prog 26 #[.pointer p] w fun e w' => e = .returned (.pointer none) ∧ w = w' := by
  have HV := Lib.hid (dvalid_dead p w h)
  clear h
  go_enter Try.func26, Try.ntmps26
  go_wp2_with (go_at_call 38; refine HV.out.mono ?_; rintro e _ ⟨rfl, rfl⟩)
  go_ret
  exact ⟨rfl, rfl⟩

/-- A disk that nobody made lies at b. -/
structure Zed (w W : World) (b : Nat) : Prop where
  below : Below w.heap.size w W
  dead : Dead W (some ⟨b, 0, none⟩)
theorem Zed.next {w W W' : World} {b : Nat} (h : Zed w W b) (hb : Below W.heap.size W W') : Zed w W' b := ⟨h.below.trans (hb.mono h.below.size), h.dead.below hb⟩
theorem zero_next {w W : World} (h : Below w.heap.size w W) : Zed w (W.alloc (.cells #[.pointer none, .slice none 0 0, .map none, .int .i64 0, .bool false, .int .i64 0, .slice none 0 0, .int .i64 0, .int .i64 0] 58)) W.heap.size :=
  ⟨h.alloc h.size _, .inr ⟨_, rfl, (Blk.new W 58 _).cell 0⟩⟩

def nm0 : RSt := newSt 3
theorem nm_w0 : newSt 3 = nm0 := rfl
def nm1 : RSt := armSt3 nm0 ⟨2, [], -1, 0⟩
theorem nm_e1 : armErr3 ⟨2, [], -1, 0⟩ = 0 := by decide +kernel
theorem nm_w1 : armSt3 nm0 ⟨2, [], -1, 0⟩ = nm1 := rfl
theorem nm_f1 : (⟨2, [], -1, 0⟩ : DCrash).Fine := ⟨⟨by decide, by decide⟩, ⟨by decide, by decide⟩, ⟨by decide, by decide⟩, fun x h => by cases h⟩
def nm2 : RSt := writeK nm1 1 (sec 1)
theorem nm_e2 : writeErr nm1 (1) (sec 1) = 0 := by decide +kernel
theorem nm_w2 : writeK nm1 (1) (sec 1) = nm2 := rfl
theorem nm_f2 : Few nm1 := ⟨by decide +kernel⟩
def nm3 : RSt := writeK nm2 0 (sec 1)
theorem nm_e3 : writeErr nm2 (0) (sec 1) = 31 := by decide +kernel
theorem nm_w3 : writeK nm2 (0) (sec 1) = nm3 := rfl
theorem nm_f3 : Few nm2 := ⟨by decide +kernel⟩
theorem nm_up : (!nm3.down) = false := by decide +kernel
theorem nm_e4 : writeErr nm3 (0) (sec 1) = 31 := by decide +kernel
theorem nm_w4 : writeK nm3 (0) (sec 1) = nm3 := by kernel_rfl
theorem nm_f4 : Few nm3 := ⟨by decide +kernel⟩
theorem nm_e5 : (if nm3.down then (31 : Int) else 0) = 31 := by decide +kernel
theorem nm_w5 : flushK nm3 = nm3 := by kernel_rfl
theorem nm_e6 : (if nm3.down then (31 : Int) else 0) = 31 := by decide +kernel
theorem nm_w6 : downK nm3 ⟨0, [], 0, 0⟩ = nm3 := by kernel_rfl
def nm4 : RSt := spoilSt3 nm3 1 (sec 9)
theorem nm_e7 : spoilErr3 nm3 1 (sec 9) = 0 := by decide +kernel
theorem nm_w7 : spoilSt3 nm3 1 (sec 9) = nm4 := rfl
def nm5 : RSt := bootSt nm4
theorem nm_w8 : bootSt nm4 = nm5 := rfl
theorem nm_r1 : decide (readErr3 nm5 0 = 0 ∧ readOut3 nm5 0 = sec 0) = true := by decide +kernel
theorem nm_r2 : decide (readErr3 nm5 1 = 0 ∧ readOut3 nm5 1 = sec 9) = true := by decide +kernel
theorem nm_m : nm5.many = 2 := by decide +kernel
theorem nm_s : nm5.stays.length = 3 := by decide +kernel
theorem nm_e9 : armErr3 ⟨0, [], 0, 0⟩ = 2 := by decide +kernel
theorem nm_w9 : armSt3 nm5 ⟨0, [], 0, 0⟩ = nm5 := by kernel_rfl
theorem nm_f9 : (⟨0, [], 0, 0⟩ : DCrash).Fine := ⟨⟨by decide, by decide⟩, ⟨by decide, by decide⟩, ⟨by decide, by decide⟩, fun x h => by cases h⟩
theorem nm_e10 : writeErr nm5 (3) (sec 1) = 30 := by decide +kernel
theorem nm_w10 : writeK nm5 (3) (sec 1) = nm5 := by kernel_rfl
theorem nm_f10 : Few nm5 := ⟨by decide +kernel⟩
theorem nm_e11 : writeErr nm5 (-1) (sec 1) = 30 := by decide +kernel
theorem nm_w11 : writeK nm5 (-1) (sec 1) = nm5 := by kernel_rfl
theorem nm_f11 : Few nm5 := ⟨by decide +kernel⟩
def sec127 : List UInt8 := (sec 1).take 127
theorem sec127_eq : (sec 1).take 127 = sec127 := rfl
theorem sec127_len : sec127.length = 127 := by decide +kernel
theorem nm_e12 : writeErr nm5 (0) sec127 = 30 := by decide +kernel
theorem nm_w12 : writeK nm5 (0) sec127 = nm5 := by kernel_rfl
theorem nm_f12 : Few nm5 := ⟨by decide +kernel⟩
theorem nm_e13 : readErr3 nm5 3 = 30 := by decide +kernel
theorem nm_l13 : readOut3 nm5 3 = [] := by decide +kernel
theorem nm_e14 : spoilErr3 nm5 0 [] = 30 := by decide +kernel
theorem nm_w14 : spoilSt3 nm5 0 [] = nm5 := by kernel_rfl
def nm6 : RSt := writeK nm5 0 (sec 5)
theorem nm_e15 : writeErr nm5 (0) (sec 5) = 0 := by decide +kernel
theorem nm_w15 : writeK nm5 (0) (sec 5) = nm6 := rfl
theorem nm_f15 : Few nm5 := ⟨by decide +kernel⟩
theorem nm_q : waits3 nm6 = [0] := by decide +kernel
def nm7 : RSt := downK nm6 ⟨0, [], 0, 500⟩
theorem nm_e16 : (if nm6.down then (31 : Int) else 0) = 0 := by decide +kernel
theorem nm_w16 : downK nm6 ⟨0, [], 0, 500⟩ = nm7 := rfl
def nm8 : RSt := bootSt nm7
theorem nm_w17 : bootSt nm7 = nm8 := rfl
theorem nm_r3 : decide (readErr3 nm8 0 = 0 ∧ readOut3 nm8 0 = sec 5) = true := by decide +kernel
attribute [irreducible] nm0 nm1 nm2 nm3 nm4 nm5 nm6 nm7 nm8 sec127

set_option maxRecDepth 100000 in
set_option maxHeartbeats 1000000 in
theorem walk (w : World) : Calls Try.prog 4 #[] w fun e w' => e = .returned (.bool true) ∧ Below w.heap.size w w' := by
  have L0 : Hid True := Lib.hid trivial
  go_enter Try.func4, Try.ntmps4
  go_wp2_with (first
    | (go_at_call 9; have l0 := L0.out; clear l0 L0; refine (lnew 3 (Nat.le_refl _) (Below.refl _ _) (by omega) (by omega) nm_w0).mono ?_; rintro e w1 ⟨d, rfl, l0, -, -⟩; have L1 := Lib.hid l0; clear l0)
    | (go_at_call 15; have l0 := L1.out; clear l0; refine (larm ⟨2, [], -1, 0⟩ none 0 0 nm_f1 L1.out rfl ⟨Reads.none_, by decide, by omega⟩ (by decide) (fun ad h => by cases h) nm_e1 nm_w1).mono ?_; rintro e w1 ⟨rfl, l0, -⟩; have L2 := Lib.hid l0; clear l0 L1 )
    | (go_at_call 17; have l0 := L2.out; clear l0; refine (lall 1 1 rfl (by omega) L2.out).mono ?_; rintro e w1 ⟨g, rfl, r0, l0, -⟩; have R := Lib.hid r0; have cv := conv_reads 128 r0; clear r0; have L3 := Lib.hid l0; clear l0 L2 )
    | (go_at_call 16; have l0 := L3.out; clear l0; refine (lwrite (1) _ _ _ (sec 1) L3.out (sec_len _) R.out nm_f2 nm_e2 nm_w2).mono ?_; rintro e w1 ⟨rfl, l0, -⟩; have L4 := Lib.hid l0; clear l0 L3 R cv)
    | (go_at_call 17; have l0 := L4.out; clear l0; refine (lall 1 1 rfl (by omega) L4.out).mono ?_; rintro e w1 ⟨g, rfl, r0, l0, -⟩; have R := Lib.hid r0; have cv := conv_reads 128 r0; clear r0; have L5 := Lib.hid l0; clear l0 L4 )
    | (go_at_call 16; have l0 := L5.out; clear l0; refine (lwrite (0) _ _ _ (sec 1) L5.out (sec_len _) R.out nm_f3 nm_e3 nm_w3).mono ?_; rintro e w1 ⟨rfl, l0, -⟩; have L6 := Lib.hid l0; clear l0 L5 R cv)
    | (go_at_call 18; have l0 := L6.out; clear l0; refine (lup L6.out nm_up).mono ?_; rintro e w1 ⟨rfl, rfl⟩; have l0 := L6.out; have L7 := Lib.hid l0; clear l0 L6 )
    | (go_at_call 17; have l0 := L7.out; clear l0; refine (lall 1 1 rfl (by omega) L7.out).mono ?_; rintro e w1 ⟨g, rfl, r0, l0, -⟩; have R := Lib.hid r0; have cv := conv_reads 128 r0; clear r0; have L8 := Lib.hid l0; clear l0 L7 )
    | (go_at_call 16; have l0 := L8.out; clear l0; refine (lwrite (0) _ _ _ (sec 1) L8.out (sec_len _) R.out nm_f4 nm_e4 nm_w4).mono ?_; rintro e w1 ⟨rfl, l0, -⟩; have L9 := Lib.hid l0; clear l0 L8 R cv)
    | (go_at_call 19; have l0 := L9.out; clear l0; refine (lflush L9.out nm_e5 nm_w5).mono ?_; rintro e w1 ⟨rfl, l0, -⟩; have L10 := Lib.hid l0; clear l0 L9 )
    | (go_at_call 20; have l0 := L10.out; clear l0; refine (ldown ⟨0, [], 0, 0⟩ none 0 0 L10.out rfl ⟨Reads.none_, by decide, by omega⟩ nm_e6 nm_w6).mono ?_; rintro e w1 ⟨rfl, l0, -⟩; have L11 := Lib.hid l0; clear l0 L10 )
    | (go_at_call 17; have l0 := L11.out; clear l0; refine (lall 9 9 rfl (by omega) L11.out).mono ?_; rintro e w1 ⟨g, rfl, r0, l0, -⟩; have R := Lib.hid r0; have cv := conv_reads 128 r0; clear r0; have L12 := Lib.hid l0; clear l0 L11 )
    | (go_at_call 21; have l0 := L12.out; clear l0; refine (lspoil 1 _ _ _ (sec 9) L12.out (sec_len _) R.out nm_e7 nm_w7).mono ?_; rintro e w1 ⟨rfl, l0, -⟩; have L13 := Lib.hid l0; clear l0 L12 R cv)
    | (go_at_call 12; have l0 := L13.out; clear l0; refine (lboot L13.out nm_w8).mono ?_; rintro e w1 ⟨rfl, l0, -⟩; have L14 := Lib.hid l0; clear l0 L13 )
    | (go_at_call 17; have l0 := L14.out; clear l0; refine (lall 0 0 rfl (by omega) L14.out).mono ?_; rintro e w1 ⟨g, rfl, r0, l0, -⟩; have R := Lib.hid r0; have cv := conv_reads 128 r0; clear r0; have L15 := Lib.hid l0; clear l0 L14 )
    | (go_at_call 22; have l0 := L15.out; clear l0; refine (reads_any 0 (sec 0) true L15.out nm_r1).mono ?_; rintro e w1 ⟨rfl, b0⟩; have l0 := (L15.out).next (L15.out).lt b0; clear b0; have L16 := Lib.hid l0; clear l0 L15 R cv)
    | (go_at_call 17; have l0 := L16.out; clear l0; refine (lall 9 9 rfl (by omega) L16.out).mono ?_; rintro e w1 ⟨g, rfl, r0, l0, -⟩; have R := Lib.hid r0; have cv := conv_reads 128 r0; clear r0; have L17 := Lib.hid l0; clear l0 L16 )
    | (go_at_call 22; have l0 := L17.out; clear l0; refine (reads_any 1 (sec 9) true L17.out nm_r2).mono ?_; rintro e w1 ⟨rfl, b0⟩; have l0 := (L17.out).next (L17.out).lt b0; clear b0; have L18 := Lib.hid l0; clear l0 L17 R cv)
    | (go_at_call 23; have l0 := L18.out; clear l0; refine (lwrites L18.out nm_m).mono ?_; rintro e w1 ⟨rfl, rfl⟩; have l0 := L18.out; have L19 := Lib.hid l0; clear l0 L18 )
    | (go_at_call 24; have l0 := L19.out; clear l0; refine (lsize L19.out nm_s).mono ?_; rintro e w1 ⟨rfl, rfl⟩; have l0 := L19.out; have L20 := Lib.hid l0; clear l0 L19 )
    | (go_at_call 15; have l0 := L20.out; clear l0; refine (larm ⟨0, [], 0, 0⟩ none 0 0 nm_f9 L20.out rfl ⟨Reads.none_, by decide, by omega⟩ (by decide) (fun ad h => by cases h) nm_e9 nm_w9).mono ?_; rintro e w1 ⟨rfl, l0, -⟩; have L21 := Lib.hid l0; clear l0 L20 )
    | (go_at_call 17; have l0 := L21.out; clear l0; refine (lall 1 1 rfl (by omega) L21.out).mono ?_; rintro e w1 ⟨g, rfl, r0, l0, -⟩; have R := Lib.hid r0; have cv := conv_reads 128 r0; clear r0; have L22 := Lib.hid l0; clear l0 L21 )
    | (go_at_call 16; have l0 := L22.out; clear l0; refine (lwrite (3) _ _ _ (sec 1) L22.out (sec_len _) R.out nm_f10 nm_e10 nm_w10).mono ?_; rintro e w1 ⟨rfl, l0, -⟩; have L23 := Lib.hid l0; clear l0 L22 R cv)
    | (go_at_call 17; have l0 := L23.out; clear l0; refine (lall 1 1 rfl (by omega) L23.out).mono ?_; rintro e w1 ⟨g, rfl, r0, l0, -⟩; have R := Lib.hid r0; have cv := conv_reads 128 r0; clear r0; have L24 := Lib.hid l0; clear l0 L23 )
    | (go_at_call 16; have l0 := L24.out; clear l0; refine (lwrite (-1) _ _ _ (sec 1) L24.out (sec_len _) R.out nm_f11 nm_e11 nm_w11).mono ?_; rintro e w1 ⟨rfl, l0, -⟩; have L25 := Lib.hid l0; clear l0 L24 R cv)
    | (go_at_call 17; have l0 := L25.out; clear l0; refine (lall 1 1 rfl (by omega) L25.out).mono ?_; rintro e w1 ⟨g, rfl, r0, l0, -⟩; have R := Lib.hid r0; have cv := conv_reads 128 r0; clear r0; have L26 := Lib.hid l0; clear l0 L25 )
    | (go_at_call 16; have l0 := L26.out; clear l0; refine (lwrite (0) _ _ _ sec127 L26.out sec127_len (sec127_eq ▸ R.out.front (by omega)) nm_f12 nm_e12 nm_w12).mono ?_; rintro e w1 ⟨rfl, l0, -⟩; have L27 := Lib.hid l0; clear l0 L26 R cv)
    | (go_at_call 13; have l0 := L27.out; clear l0; refine (lread 3 L27.out nm_e13 nm_l13).mono ?_; rintro e w1 ⟨v, rfl, -, l0⟩; have L28 := Lib.hid l0; clear l0 L27 )
    | (go_at_call 21; have l0 := L28.out; clear l0; refine (lspoil 0 none 0 0 [] L28.out rfl Reads.none_ nm_e14 nm_w14).mono ?_; rintro e w1 ⟨rfl, l0, -⟩; have L29 := Lib.hid l0; clear l0 L28 )
    | (go_at_call 17; have l0 := L29.out; clear l0; refine (lall 5 5 rfl (by omega) L29.out).mono ?_; rintro e w1 ⟨g, rfl, r0, l0, -⟩; have R := Lib.hid r0; have cv := conv_reads 128 r0; clear r0; have L30 := Lib.hid l0; clear l0 L29 )
    | (go_at_call 16; have l0 := L30.out; clear l0; refine (lwrite (0) _ _ _ (sec 5) L30.out (sec_len _) R.out nm_f15 nm_e15 nm_w15).mono ?_; rintro e w1 ⟨rfl, l0, -⟩; have L31 := Lib.hid l0; clear l0 L30 R cv)
    | (go_at_call 25; have l0 := L31.out; clear l0; refine (lwaits L31.out nm_q (n := 1) rfl).mono ?_; rintro e w1 ⟨A, c, rfl, -, -, l0⟩; have L32 := Lib.hid l0; clear l0 L31 )
    | (go_at_call 20; have l0 := L32.out; clear l0; refine (ldown ⟨0, [], 0, 500⟩ none 0 0 L32.out rfl ⟨Reads.none_, by decide, by omega⟩ nm_e16 nm_w16).mono ?_; rintro e w1 ⟨rfl, l0, -⟩; have L33 := Lib.hid l0; clear l0 L32 )
    | (go_at_call 12; have l0 := L33.out; clear l0; refine (lboot L33.out nm_w17).mono ?_; rintro e w1 ⟨rfl, l0, -⟩; have L34 := Lib.hid l0; clear l0 L33 )
    | (go_at_call 17; have l0 := L34.out; clear l0; refine (lall 5 5 rfl (by omega) L34.out).mono ?_; rintro e w1 ⟨g, rfl, r0, l0, -⟩; have R := Lib.hid r0; have cv := conv_reads 128 r0; clear r0; have L35 := Lib.hid l0; clear l0 L34 )
    | (go_at_call 22; have l0 := L35.out; clear l0; refine (reads_any 0 (sec 5) true L35.out nm_r3).mono ?_; rintro e w1 ⟨rfl, b0⟩; have l0 := (L35.out).next (L35.out).lt b0; clear b0; have L36 := Lib.hid l0; clear l0 L35 R cv)
    | (go_at_call 9; have l0 := L36.out; clear l0; refine (dnew_bad 0 _ (by omega)).mono ?_; rintro e w1 ⟨rfl, rfl⟩; have l0 := L36.out; have L37 := Lib.hid l0; clear l0 L36 )
    | (go_at_call 9; have l0 := L37.out; clear l0; refine (dnew_bad 4097 _ (by omega)).mono ?_; rintro e _ ⟨rfl, rfl⟩; have D1 := Lib.hid (zero_next L37.out.below); clear L37)
    | (go_at_call 13; have l0 := D1.out; clear l0; refine (dread_dead none 0 _ (Dead.nil _)).mono ?_; rintro e _ ⟨rfl, rfl⟩; have D2 := D1; clear D1)
    | (go_at_call 16; have l0 := D2.out; clear l0; refine (dwrite_dead none 0 none 0 0 _ (Dead.nil _)).mono ?_; rintro e _ ⟨rfl, rfl⟩; have D3 := D2; clear D2)
    | (go_at_call 19; have l0 := D3.out; clear l0; refine (dflush_dead _ _ D3.out.dead).mono ?_; rintro e _ ⟨rfl, rfl⟩; have D4 := D3; clear D3)
    | (go_at_call 20; have l0 := D4.out; clear l0; refine (ddown_dead _ _ _ D4.out.dead ⟨_, _, _, _, rfl⟩).mono ?_; rintro e w1 ⟨rfl, b0⟩; have D5 := Lib.hid (D4.out.next b0); clear b0 D4)
    | (go_at_call 15; have l0 := D5.out; clear l0; refine (darm_dead none _ _ (Dead.nil _) ⟨_, _, _, _, rfl⟩).mono ?_; rintro e w1 ⟨rfl, b0⟩; have D6 := Lib.hid (D5.out.next b0); clear b0 D5)
    | (go_at_call 12; have l0 := D6.out; clear l0; refine (dboot_dead _ _ D6.out.dead).mono ?_; rintro e _ ⟨rfl, rfl⟩; have D7 := D6; clear D6)
    | (go_at_call 21; have l0 := D7.out; clear l0; refine (dspoil_dead none 0 none 0 0 _ (Dead.nil _)).mono ?_; rintro e _ ⟨rfl, rfl⟩; have D8 := D7; clear D7)
    | (go_at_call 18; have l0 := D8.out; clear l0; refine (dup_dead none _ (Dead.nil _)).mono ?_; rintro e _ ⟨rfl, rfl⟩; have D9 := D8; clear D8)
    | (go_at_call 25; have l0 := D9.out; clear l0; refine (dwaits_dead _ _ D9.out.dead).mono ?_; rintro e _ ⟨rfl, rfl⟩; have D10 := D9; clear D9)
    | (go_at_call 24; have l0 := D10.out; clear l0; refine (dsize_dead none _ (Dead.nil _)).mono ?_; rintro e _ ⟨rfl, rfl⟩; have D11 := D10; clear D10)
    | (go_at_call 23; have l0 := D11.out; clear l0; refine (dwrites_dead _ _ D11.out.dead).mono ?_; rintro e _ ⟨rfl, rfl⟩; have D12 := D11; clear D11)
    | (go_at_call 26; have l0 := D12.out; clear l0; refine (dcopy_dead _ _ D12.out.dead).mono ?_; rintro e _ ⟨rfl, rfl⟩; have D13 := D12; clear D12)
    | (go_at_call 27; refine (alive_any _).mono ?_; rintro e w1 ⟨rfl, b0⟩; have D14 := Lib.hid (D13.out.next b0); clear b0 D13))
  go_ret
  exact ⟨rfl, D14.out.below⟩

theorem own : ownKnob Try.prog.godebug = none := by kernel_rfl

set_option maxRecDepth 100000 in
theorem lifted (os : Os) (started : os.Started) (H : Type) (enc : TypeId × Value → H) :
    ReturnsInHanded {} Try.checked os 4 .any (Rows.diskNamesSpec.pre6 enc Try.prog Try.f4 Rows.diskNamesRow.domain false) (Rows.diskNamesSpec.post enc Try.prog Try.f4 false true false false) := by
  refine returnsInHanded_of_change (C := Try.checked) own started (by kernel_rfl) Try.func4
    (ChangeSpec.witness6 (enc := enc) (C := Try.checked) false ⟨#[], #[], []⟩ 8 (by kernel_rfl) (by kernel_rfl) (by kernel_rfl) (by kernel_rfl)) ?_
  intro W base args ds gs before _ hW _ _
  have hW' := hW
  obtain ⟨p, q, hA0, hV, rfl, _, _⟩ := hW
  have hA : DataW.TrodAll enc Try.prog W 0 (fun _ => true) true Try.f4.params.toList args.toList ds p := hA0
  rw [Try.params4] at hA
  obtain ⟨rfl, rfl, rfl⟩ := trodAll_none hA
  obtain ⟨rfl, rfl⟩ := trodVars_none hV
  clear hA0
  simp only [List.append_nil] at hW'
  refine (walk W).mono fun e W' ⟨he, hb⟩ => ?_
  subst he
  exact ⟨_, rfl, _, _, _, [], [], [], hW', trodAll_cons_mk (shut_bool Try.underlying4 _) trodAll_mk0, rfl, rfl, hb.frame _, fun h => by cases h⟩

/-- The statement. -/
theorem proved : Rows.DiskNamesSaid :=
  OpenClaim.holds_of_wide 4 Try.f4 rfl rfl rfl rfl rfl rfl rfl ⟨rfl, rfl, rfl, rfl, rfl⟩ rfl rfl rfl rfl rfl (by kernel_rfl) Try.func4 (by kernel_rfl)
    (of_decide_eq_true (by kernel_rfl)) (by unfold Func.isWrapper; first | (rw [if_pos (by decide +kernel)]; kernel_rfl) | (rw [if_neg (by decide +kernel)]; exact ⟨rfl, rfl⟩))
    (fun os started H enc _ => lifted os started H enc)

#print axioms proved
end Go.Proofs.Ytimlhbpajcadeaa.diskNames

/-
  The given space of layer 4: Claim, Give, Has, Longest.
-/
import Derived.Test.YtjndbibbfcmgiaaRSpace
namespace Go.Proofs.Ytjndbibbfcmgiaa
open Go.RowKit

section
variable {w : World} {d : SpAt} {s : ESt}
theorem rall_turn (s : ESt) (a n : Int) (v : Bool) : rallE s a n (!v) = turnOk s a n v := rfl
theorem rset_turn (a n : Int) (v : Bool) (hok : turnOk s a n v = true) (h : RK w d s) : Calls Try.prog 28 #[.pointer (some ⟨d.b, 0, none⟩), .agg #[.int .i64 a, .int .i64 n], .bool v] w fun e w' => e = .returned (.tuple #[]) ∧ RK w' d (turnS s a n v) ∧ Keep (fun k => k = d.g) w w' := by
  have h9 := hok
  unfold turnOk at h9
  rw [Bool.and_eq_true] at h9
  have hc := of_decide_eq_true (show decide _ = true from h9.1)
  have hto : s.to = s.f + s.L.length := rfl
  obtain ⟨b, rfl⟩ := Int.eq_ofNat_of_zero_le (a := a) (by omega)
  obtain ⟨m, rfl⟩ := Int.eq_ofNat_of_zero_le (a := n) (by omega)
  have hs : turnS s (b : Int) (m : Int) v = s.put (b - s.f) m v := by
    unfold turnS
    rw [if_pos hok, Int.toNat_natCast, show ((b : Int) - (s.f : Int)).toNat = b - s.f by omega]
  rw [hs]
  exact rset_any b m v (by omega) h
set_option maxHeartbeats 2000000 in
theorem rclaim_any (a n : Int) (h : RK w d s) : Calls Try.prog 15 #[.pointer (some ⟨d.b, 0, none⟩), .agg #[.int .i64 a, .int .i64 n]] w fun e w' => e = .returned (.int .i64 (turnE s a n true)) ∧ RK w' d (turnS s a n true) ∧ Keep (fun k => k = d.g) w w' := by
  have hbx : Below w.heap.size w (w.alloc (.cells #[.int .i64 a, .int .i64 n] 33)) := (Below.refl _ _).alloc (Nat.le_refl _) _
  have hx := Blk.new w 33 #[.int .i64 a, .int .i64 n]
  have x0 := hx.cell 0
  have x1 := hx.cell 1
  have HAL := Lib.hid (rall_any a n false (h.below hbx))
  have H1 := Lib.hid (h.below hbx)
  have HBX := Lib.hid hbx
  have HX := Lib.hid hx
  clear h hbx hx
  obtain ⟨ok, hok⟩ : ∃ ok, turnOk s a n true = ok := ⟨_, rfl⟩
  have hr9 : rallE s a n false = ok := hok
  rw [hr9] at HAL
  clear hr9
  cases ok
  · have HE : Hid (turnE s a n true = 40) := Lib.hid (by unfold turnE; rw [hok]; rfl)
    have HS : Hid (turnS s a n true = s) := Lib.hid (by unfold turnS; rw [hok]; rfl)
    clear hok
    go_enter Try.func15, Try.ntmps15
    go_wp2_with (go_at_call 30; refine HAL.out.mono ?_; rintro e w1 ⟨rfl, hb⟩; have H2 := Lib.hid (H1.out.below hb); have HB2 := Lib.hid hb; clear hb HAL)
    go_ret
    exact ⟨by rw [HE.out]; rfl, by rw [HS.out]; exact H2.out, (Keep.of_below HBX.out).trans (Keep.of_below (S := fun k => k = d.g) HB2.out) (fun _ _ e => e)⟩
  · have HE : Hid (turnE s a n true = 0) := Lib.hid (by unfold turnE; rw [hok]; rfl)
    have HOK := Lib.hid hok
    clear hok
    go_enter Try.func15, Try.ntmps15
    go_wp2_with (first
      | (go_at_call 30; refine HAL.out.mono ?_; rintro e w1 ⟨rfl, hb⟩; have hx1 := HX.out.below hb HX.out.lt; have y0 := hx1.cell 0; have y1 := hx1.cell 1; have H2 := Lib.hid (H1.out.below hb); have HB2 := Lib.hid hb; clear hb HAL hx1)
      | (go_at_call 28; have l0 := H2.out; clear l0; refine (rset_turn a n true HOK.out H2.out).mono ?_; rintro e w2 ⟨rfl, h3, k3⟩; have H3 := Lib.hid h3; have K3 := Lib.hid k3; clear h3 k3 H2))
    go_ret
    exact ⟨by rw [HE.out]; rfl, H3.out, ((Keep.of_below HBX.out).trans (Keep.of_below (S := fun k => k = d.g) HB2.out) (fun _ _ e => e)).trans K3.out (fun _ _ e => e)⟩
set_option maxHeartbeats 2000000 in
theorem rgive_any (a n : Int) (h : RK w d s) : Calls Try.prog 17 #[.pointer (some ⟨d.b, 0, none⟩), .agg #[.int .i64 a, .int .i64 n]] w fun e w' => e = .returned (.int .i64 (turnE s a n false)) ∧ RK w' d (turnS s a n false) ∧ Keep (fun k => k = d.g) w w' := by
  have hbx : Below w.heap.size w (w.alloc (.cells #[.int .i64 a, .int .i64 n] 33)) := (Below.refl _ _).alloc (Nat.le_refl _) _
  have hx := Blk.new w 33 #[.int .i64 a, .int .i64 n]
  have x0 := hx.cell 0
  have x1 := hx.cell 1
  have HAL := Lib.hid (rall_any a n true (h.below hbx))
  have H1 := Lib.hid (h.below hbx)
  have HBX := Lib.hid hbx
  have HX := Lib.hid hx
  clear h hbx hx
  obtain ⟨ok, hok⟩ : ∃ ok, turnOk s a n false = ok := ⟨_, rfl⟩
  have hr9 : rallE s a n true = ok := hok
  rw [hr9] at HAL
  clear hr9
  cases ok
  · have HE : Hid (turnE s a n false = 40) := Lib.hid (by unfold turnE; rw [hok]; rfl)
    have HS : Hid (turnS s a n false = s) := Lib.hid (by unfold turnS; rw [hok]; rfl)
    clear hok
    go_enter Try.func17, Try.ntmps17
    go_wp2_with (go_at_call 30; refine HAL.out.mono ?_; rintro e w1 ⟨rfl, hb⟩; have H2 := Lib.hid (H1.out.below hb); have HB2 := Lib.hid hb; clear hb HAL)
    go_ret
    exact ⟨by rw [HE.out]; rfl, by rw [HS.out]; exact H2.out, (Keep.of_below HBX.out).trans (Keep.of_below (S := fun k => k = d.g) HB2.out) (fun _ _ e => e)⟩
  · have HE : Hid (turnE s a n false = 0) := Lib.hid (by unfold turnE; rw [hok]; rfl)
    have HOK := Lib.hid hok
    clear hok
    go_enter Try.func17, Try.ntmps17
    go_wp2_with (first
      | (go_at_call 30; refine HAL.out.mono ?_; rintro e w1 ⟨rfl, hb⟩; have hx1 := HX.out.below hb HX.out.lt; have y0 := hx1.cell 0; have y1 := hx1.cell 1; have H2 := Lib.hid (H1.out.below hb); have HB2 := Lib.hid hb; clear hb HAL hx1)
      | (go_at_call 28; have l0 := H2.out; clear l0; refine (rset_turn a n false HOK.out H2.out).mono ?_; rintro e w2 ⟨rfl, h3, k3⟩; have H3 := Lib.hid h3; have K3 := Lib.hid k3; clear h3 k3 H2))
    go_ret
    exact ⟨by rw [HE.out]; rfl, H3.out, ((Keep.of_below HBX.out).trans (Keep.of_below (S := fun k => k = d.g) HB2.out) (fun _ _ e => e)).trans K3.out (fun _ _ e => e)⟩
end
end Go.Proofs.Ytjndbibbfcmgiaa

/-
  The Reader's Raw and Text.
-/
import Derived.Test.YtoiopoghcjkgcaaGreatReader
namespace Go.Proofs.YtoiopoghcjkgcaaGreat
open Go.RowKit

theorem rraw_nil (n : Int) (w : World) : Calls Tryz.prog 66 #[.pointer none, .int .i64 n] w fun e w' => e = .returned (.tuple #[.slice none 0 0, .int .i64 1]) ∧ w = w' := by
  go_enter Tryz.func66, Tryz.ntmps66
  go_wp2_with (go_at_call 83; refine (valid_nil _).mono ?_; rintro e w' ⟨rfl, rfl⟩)
  go_ret2
  exact ⟨rfl, rfl⟩

/-- What Raw has told. -/
def RawTold (w : World) (b : Nat) (A : Option Addr) (l : List UInt8) (n : Int) (e : Ending) (w' : World) : Prop :=
  ∃ A' c', e = .returned (.tuple #[.slice A' (taken (rrawErr n l) n.toNat) c', .int .i64 (rrawErr n l)]) ∧
    Took w w' b A (l.drop (taken (rrawErr n l) n.toNat)) ∧ w'.ownsRow w.heap.size 5 1 (.slice A' (taken (rrawErr n l) n.toNat) c') (taken (rrawErr n l) n.toNat) ((l.take (taken (rrawErr n l) n.toNat)).map bv)

theorem own_set {w w1 : World} {b e n m : Nat} {v : Value} {xs : List Value} {u : Value} {o : Nat} (h : w1.ownsRow w.heap.size e m v n xs) (hb : b < w.heap.size) : (w1.setCell ⟨b, o, none⟩ u).ownsRow w.heap.size e m v n xs :=
  ((Keep.refl (fun k => k = b) w1).setCell ⟨b, o, none⟩ u (fun _ => rfl)).own h (fun k hk e => by have := (h.lt k hk).1; omega)

set_option maxHeartbeats 1000000 in
theorem rraw_total (w : World) (b c : Nat) (A : Option Addr) (l : List UInt8) (h : Rd w b A c l) (hl : l.length ≤ 140737488355328) (n : Int) (h1 : -9223372036854775808 ≤ n) (h2 : n ≤ 9223372036854775807) :
    Calls Tryz.prog 66 #[.pointer (some ⟨b, 0, none⟩), .int .i64 n] w (RawTold w b A l n) := by
  have c0 : w.cell? ⟨b, 0, none⟩ = some (.slice A l.length c) := h.blk.cell 0
  have HV := Lib.hid (valid_any b _ _ w h.blk)
  have hcl : l.length ≤ 9223372036854775807 := by omega
  have hcap := h.cap
  have hbig := h.big
  have f0 := h.blk.frozen 0
  have H := Lib.hid h
  by_cases hn : n < 0
  · have he : rrawErr n l = 2 := by simp [rrawErr, hn]
    have ht : taken (rrawErr n l) n.toNat = 0 := by simp [taken, he]
    have HE := Lib.hid he
    have HT := Lib.hid ht
    clear he ht h hcap hbig
    go_enter Tryz.func66, Tryz.ntmps66
    go_wp2_with (go_at_call 83; refine HV.out.mono ?_; rintro e w' ⟨rfl, rfl⟩)
    go_ret2
    unfold RawTold
    rw [HT.out, HE.out]
    exact ⟨none, 0, rfl, Took.same H.out, World.ownsRow_nil _ _ _ _⟩
  · obtain ⟨k, rfl⟩ := Int.eq_ofNat_of_zero_le (a := n) (by omega)
    by_cases hk : l.length < k
    · have he : rrawErr k l = 10 := by simp [rrawErr]; omega
      have ht : taken (rrawErr k l) ((k : Int)).toNat = 0 := by simp [taken, he]
      have HE := Lib.hid he
      have HT := Lib.hid ht
      clear he ht h hcap hbig hn
      go_enter Tryz.func66, Tryz.ntmps66
      go_wp2_with (go_at_call 83; refine HV.out.mono ?_; rintro e w' ⟨rfl, rfl⟩)
      go_ret2
      unfold RawTold
      rw [HT.out, HE.out]
      exact ⟨none, 0, rfl, Took.same H.out, World.ownsRow_nil _ _ _ _⟩
    · have hkl : k ≤ l.length := by omega
      have hkc : k ≤ c := by omega
      have he : rrawErr k l = 0 := by simp [rrawErr]; omega
      have ht : taken (rrawErr k l) ((k : Int)).toNat = k := by simp [taken, he]
      have HC := Lib.hid (clone_any A k c (l.take k) w (h.reads.front hkl) (by omega))
      have HE := Lib.hid he
      have HT := Lib.hid ht
      clear he ht hk hn h
      clear c0 f0
      by_cases hck : c = k
      · subst hck
        have c0 : w.cell? ⟨b, 0, none⟩ = some (.slice A l.length c) := H.out.blk.cell 0
        go_enter Tryz.func66, Tryz.ntmps66
        go_wp2_with (first
          | (go_at_call 83; refine HV.out.mono ?_; rintro e w' ⟨rfl, rfl⟩)
          | (go_at_call 74; refine HC.out.mono ?_; rintro e w1 ⟨A1, c1, rfl, g1, k1⟩; have hr1 : Rd w1 b A c l := H.out.keep (Keep.of_below (S := fun _ => False) k1) (fun h => h) (fun _ _ h => h); have c0' : w1.cell? ⟨b, 0, none⟩ = some (.slice A l.length c) := hr1.blk.cell 0; have f0' : w1.frozen? ⟨b, 0, none⟩ = false := hr1.blk.frozen 0; have HR := Lib.hid hr1; have G1 := Lib.hid g1; clear hr1 g1))
        go_ret2
        unfold RawTold
        rw [HT.out, HE.out]
        have hm := HR.out.moved (w := w) (k := c) (A' := A) (n := 0) hkl (Keep.of_below k1) (by rw [if_pos rfl]) (by omega)
        rw [Nat.sub_self] at hm
        exact ⟨A1, c1, rfl, hm, own_set G1.out H.out.blk.lt⟩
      · have hlt : k < c := by omega
        have c0 : w.cell? ⟨b, 0, none⟩ = some (.slice A l.length c) := H.out.blk.cell 0
        go_enter Tryz.func66, Tryz.ntmps66
        go_wp2_with (first
          | (go_at_call 83; refine HV.out.mono ?_; rintro e w' ⟨rfl, rfl⟩)
          | (go_at_call 74; refine HC.out.mono ?_; rintro e w1 ⟨A1, c1, rfl, g1, k1⟩; have hr1 : Rd w1 b A c l := H.out.keep (Keep.of_below (S := fun _ => False) k1) (fun h => h) (fun _ _ h => h); have c0' : w1.cell? ⟨b, 0, none⟩ = some (.slice A l.length c) := hr1.blk.cell 0; have f0' : w1.frozen? ⟨b, 0, none⟩ = false := hr1.blk.frozen 0; have HR := Lib.hid hr1; have G1 := Lib.hid g1; clear hr1 g1))
        go_ret2
        unfold RawTold
        rw [HT.out, HE.out]
        exact ⟨A1, c1, rfl, HR.out.moved (w := w) (k := k) (A' := A.map (·.add k)) (n := l.length - k) hkl (Keep.of_below k1) (by rw [if_neg hck]) rfl, own_set G1.out H.out.blk.lt⟩

/-! ### Text -/
def rtextErr (l : List UInt8) : Int := if l.length < 2 then 10 else if l.length - 2 < num (l.take 2) then 10 else 0

theorem conv_num (l : List UInt8) : num (l.take 2) ≤ 65535 := by
  have h1 := num_lt (l.take 2)
  have h2 : (l.take 2).length ≤ 2 := by rw [List.length_take]; omega
  have h3 : 256 ^ (l.take 2).length ≤ 256 ^ 2 := Nat.pow_le_pow_right (by omega) h2
  omega

end Go.Proofs.YtoiopoghcjkgcaaGreat

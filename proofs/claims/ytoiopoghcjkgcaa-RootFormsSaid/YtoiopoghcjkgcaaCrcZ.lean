/-
  The code of layer 2: sums.
-/
import Derived.Test.YtoiopoghcjkgcaaCrcY
namespace Go.Proofs.Ytoiopoghcjkgcaa.crc
open Go.RowKit

set_option maxHeartbeats 1000000 in
theorem cmore_any (s : BitVec 32) (A : Option Addr) (c : Nat) (l : List UInt8) (w : World) (hr : Reads w w.heap.size 1 A l.length (l.map bv)) (hl : l.length ≤ 140737488355328) :
    Calls Try.prog 43 #[rv s, .slice A l.length c] w fun e w' => e = .returned (rv (more s (bitsB l))) ∧ Below w.heap.size w w' := by
  have hneg : ∀ d : BitVec 32, bits .xor .u32 4294967295 (d.toNat : Int) = ((d ^^^ ones).toNat : Int) := by
    intro d
    have h := u32_xor_nat 4294967295 d.toNat (by omega) d.isLt
    rw [BitVec.xor_comm, BitVec.toNat_xor]
    exact h
  have hsg : IntKind.u32.signed = false := rfl
  have hmx : IntKind.u32.max = 4294967295 := rfl
  have hs := hneg s
  have HM : Hid (∀ m, (run (s ^^^ ones) m ^^^ ones) = more s m) := Lib.hid fun _ => rfl
  obtain ⟨s', hs'⟩ : ∃ s', s ^^^ ones = s' := ⟨_, rfl⟩
  rw [hs'] at hs HM
  have HR := Lib.hid hr
  have HN := Lib.hid hneg
  have hs3 := s.isLt
  clear hr hneg hs'
  unfold rv
  go_enter Try.func43, Try.ntmps43
  go_wp2
  go_loopw [5, 7, 12] (fun r _ i wr => ∃ k, k ≤ l.length ∧ i = .int .i64 k ∧ r = rv (run s' (bitsB (l.take k))) ∧ Below w.heap.size w wr) (fun _ _ i _ => l.length - (intOf i).toNat)
  case atStart => exact ⟨0, Nat.zero_le _, rfl, by rw [List.take_zero]; rfl, Below.refl _ _⟩
  case round =>
    obtain ⟨k, hk, rfl, rfl, hB⟩ := hrel
    by_cases hlt : k < l.length
    · obtain ⟨ad, u, rfl, hb, hu, hc⟩ := (HR.out.below hB).at_ hlt
      rw [List.getElem?_map, List.getElem?_eq_getElem hlt] at hu
      injection hu with hu
      subst hu
      have htk : run s' (bitsB (l.take (k + 1))) = run (run s' (bitsB (l.take k))) (bitsOf (l[k]).toNat 8) := by
        rw [List.take_succ_eq_append_getElem hlt, bitsB_append, run_append]
        congr 1
      have hx8 : (l[k]).toNat < 256 := UInt8.toNat_lt _
      unfold bv at hc
      generalize (l[k]).toNat = X at hc htk hx8
      generalize run s' (bitsB (l.take k)) = r at *
      rw [run_byte r X hx8] at htk
      generalize hr2 : run s' (bitsB (l.take (k + 1))) = r2 at htk
      have hy : r.toNat % 256 ^^^ X < 256 := Nat.xor_lt_two_pow (n := 8) (by omega) (by omega)
      have HBH := Lib.hid (behind_any (r.toNat % 256 ^^^ X) hy wr)
      have h1 := u8_xor_nat (r.toNat % 256) X (by omega) hx8
      generalize run 0#32 (bitsOf (r.toNat % 256 ^^^ X) 8) = y at *
      generalize r.toNat % 256 ^^^ X = Y at *
      have h2 := u32_xor_nat (r >>> 8).toNat y.toNat (r >>> 8).isLt y.isLt
      rw [← BitVec.toNat_xor, ← htk, BitVec.toNat_ushiftRight, Nat.shiftRight_eq_div_pow] at h2
      have HR2 := Lib.hid hr2
      clear htk hr2
      have hr3 := r.isLt
      unfold rv at HBH ⊢
      generalize r.toNat = R at *
      replace h1 : bits .xor .u8 ((R : Int) % 256) (X : Int) = (Y : Int) := h1
      replace h2 : bits .xor .u32 ((R : Int) / 256) (y.toNat : Int) = (r2.toNat : Int) := h2
      have HB := Lib.hid hB
      clear hB
      go_wp2_with (go_at_call 54; refine HBH.out.mono ?_; rintro e w5 ⟨rfl, hb5⟩)
      refine ⟨⟨k + 1, by omega, by go_num, by rw [HR2.out], HB.out.trans (hb5.mono HB.out.size)⟩, by simp [intOf]; omega⟩
    · have hkl : k = l.length := by omega
      have HE : Hid (more s (bitsB l) = run s' (bitsB (l.take k)) ^^^ ones) := Lib.hid (by rw [hkl, List.take_length, HM.out])
      have hn := HN.out (run s' (bitsB (l.take k)))
      rw [← HE.out] at hn
      generalize run s' (bitsB (l.take k)) = r1 at hn HE
      generalize hr2 : more s (bitsB l) = r2 at hn HE
      have HB := Lib.hid hB
      clear hB hs
      have hr13 := r1.isLt
      unfold rv
      go_wp2
      go_ret
      exact ⟨by rw [hr2]; rfl, HB.out⟩

end Go.Proofs.Ytoiopoghcjkgcaa.crc

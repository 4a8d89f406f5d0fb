/-
  The document's own answers for layer 2: a register's step, sums, a sum's bytes, what is sealed, what is opened.
-/
import Derived.Test.YtoiopoghcjkgcaaGreatCrcM
import Derived.Test.YtoiopoghcjkgcaaGreatByt
import Derived.Laws.BitsAllLaws
namespace Go.Proofs.YtoiopoghcjkgcaaGreat.crc
open Go.RowKit

/-- A register as a value. -/
def rv (c : BitVec 32) : Value := .int .u32 (c.toNat : Int)

theorem stp_nat (c : BitVec 32) (b : Bool) : ((stp c b).toNat : Nat) = if (c.toNat ^^^ b.toNat) % 2 = 1 then (c.toNat / 2) ^^^ 3988292384 else c.toNat / 2 := by
  have hb : (c.getLsbD 0 ^^ b) = decide ((c.toNat ^^^ b.toNat) % 2 = 1) := by
    rw [← Nat.testBit_zero, Nat.testBit_xor]
    congr 1
    cases b <;> rfl
  unfold stp
  rw [hb, BitVec.toNat_xor, BitVec.toNat_ushiftRight, Nat.shiftRight_eq_div_pow, Nat.pow_one]
  by_cases h : (c.toNat ^^^ b.toNat) % 2 = 1
  · rw [if_pos h]
    simp [h, sel]
    rfl
  · rw [if_neg h]
    simp [h, sel]

theorem r2step_any (c : BitVec 32) (b : Bool) (w : World) : Calls Tryz.prog 104 #[rv c, .int .u32 (b.toNat : Int)] w fun e w' => e = .returned (rv (stp c b)) ∧ w = w' := by
  have hc := c.isLt
  have hb : b.toNat < 4294967296 := by cases b <;> decide
  have h1 := u32_xor_nat c.toNat b.toNat (by omega) hb
  have h2 : bits .xor .u32 ((c.toNat : Int) / 2) 3988292384 = ((c.toNat / 2 ^^^ 3988292384 : Nat) : Int) := by
    have h := u32_xor_nat (c.toNat / 2) 3988292384 (by omega) (by omega)
    exact h
  have h3 := stp_nat c b
  unfold rv
  generalize c.toNat = C at *
  generalize (stp c b).toNat = R at *
  generalize b.toNat = B at *
  go_enter Tryz.func104, Tryz.ntmps104
  go_wp2
  · have e : (C ^^^ B) % 2 = 1 := by
      have : ((C ^^^ B : Nat) : Int) % 2 = 1 := eq_of_beq ‹(_ == _) = true›
      omega
    rw [if_pos e] at h3
    go_ret
    rw [h3]
    exact ⟨rfl, rfl⟩
  · have e : ¬ (C ^^^ B) % 2 = 1 := by
      have : ¬ ((C ^^^ B : Nat) : Int) % 2 = 1 := fun e => by
        have h := ‹(_ == _) = false›
        rw [e] at h
        cases h
      omega
    rw [if_neg e] at h3
    go_ret
    rw [h3]
    exact ⟨rfl, rfl⟩

/-- The bits of bytes, each byte's lowest one first. -/
def bitsB (l : List UInt8) : List Bool := l.flatMap fun x => bitsOf x.toNat 8
theorem bitsB_append (l m : List UInt8) : bitsB (l ++ m) = bitsB l ++ bitsB m := List.flatMap_append
theorem bitsB_length (l : List UInt8) : (bitsB l).length = 8 * l.length := by
  induction l with
  | nil => rfl
  | cons x l ih =>
    show (bitsOf x.toNat 8 ++ bitsB l).length = _
    rw [List.length_append, bitsOf_length, ih, List.length_cons]
    omega
theorem bitsOf_snoc (w k : Nat) : bitsOf w (k + 1) = bitsOf w k ++ [w.testBit k] := by
  unfold bitsOf
  rw [List.range_succ, List.map_append]
  rfl
theorem run_snoc (c : BitVec 32) (l : List Bool) (b : Bool) : run c (l ++ [b]) = stp (run c l) b := by
  rw [run_append]
  rfl

set_option maxHeartbeats 1000000 in
/-- The document's More. -/
theorem r2more_any (s : BitVec 32) (A : Option Addr) (c : Nat) (l : List UInt8) (w : World) (hr : Reads w w.heap.size 1 A l.length (l.map bv)) (hl : l.length ≤ 140737488355328) :
    Calls Tryz.prog 89 #[rv s, .slice A l.length c] w fun e w' => e = .returned (rv (more s (bitsB l))) ∧ w = w' := by
  have hneg : ∀ d : BitVec 32, (4294967295 : Int) - (d.toNat : Int) = ((d ^^^ ones).toNat : Int) := by
    intro d
    have h1 : (~~~ d).toNat = 2 ^ 32 - 1 - d.toNat := BitVec.toNat_not
    have h2 : ~~~ d = d ^^^ ones := by
      rw [← BitVec.xor_allOnes]
      rfl
    have h3 := d.isLt
    rw [← h2, h1]
    omega
  have hs := hneg s
  have HM : Hid (∀ m, (run (s ^^^ ones) m ^^^ ones) = more s m) := Lib.hid fun _ => rfl
  obtain ⟨s', hs'⟩ : ∃ s', s ^^^ ones = s' := ⟨_, rfl⟩
  rw [hs'] at hs HM
  have HR := Lib.hid hr
  have HN := Lib.hid hneg
  clear hr hneg hs'
  unfold rv
  go_enter Tryz.func89, Tryz.ntmps89
  go_wp2
  go_loopw [5, 6] (fun r i wr => ∃ k, k ≤ l.length ∧ i = .int .i64 k ∧ r = rv (run s' (bitsB (l.take k))) ∧ wr = w) (fun _ i _ => l.length - (intOf i).toNat)
  case atStart => exact ⟨0, Nat.zero_le _, rfl, rfl, rfl⟩
  case round =>
    obtain ⟨k, hk, rfl, rfl, rfl⟩ := hrel
    clear hs
    by_cases hlt : k < l.length
    · obtain ⟨ad, u, rfl, hb, hu, hc⟩ := HR.out.at_ hlt
      rw [List.getElem?_map, List.getElem?_eq_getElem hlt] at hu
      injection hu with hu
      subst hu
      have htk : bitsB (l.take (k + 1)) = bitsB (l.take k) ++ bitsOf (l[k]).toNat 8 := by
        rw [List.take_succ_eq_append_getElem hlt, bitsB_append]
        congr 1
      have hx8 : (l[k]).toNat < 256 := UInt8.toNat_lt _
      unfold bv at hc
      generalize (l[k]).toNat = X at hc htk hx8
      generalize bitsB (l.take k) = bk at htk
      have HTK := Lib.hid htk
      clear htk
      unfold rv
      go_wp2
      go_loopw [5, 7, 8] (fun r x i wi => ∃ (j q : Nat), j ≤ 8 ∧ i = .int .i64 j ∧ x = .int .u32 ((q : Nat) : Int) ∧ X / 2 ^ j = q ∧ r = rv (run s' (bk ++ bitsOf X j)) ∧ wi = wr) (fun _ _ i _ => 8 - (intOf i).toNat)
      case atStart => exact ⟨0, X, Nat.zero_le _, rfl, rfl, by simp, by simp [bitsOf]; rfl, rfl⟩
      case round =>
        obtain ⟨j, q, hj, rfl, rfl, hq, rfl, rfl⟩ := hrel
        have hql : q < 256 := by rw [← hq]; exact Nat.lt_of_le_of_lt (Nat.div_le_self _ _) hx8
        by_cases hj8 : j < 8
        · have hm : (q : Int) % 2 = ((X.testBit j).toNat : Int) := by
            rw [Nat.testBit_eq_decide_div_mod_eq, hq]
            rcases Nat.mod_two_eq_zero_or_one q with h | h <;> simp [h] <;> omega
          have hd : X / 2 ^ (j + 1) = q / 2 := by rw [Nat.pow_succ, ← Nat.div_div_eq_div_mul, hq]
          have HD := Lib.hid hd
          have HST := Lib.hid (r2step_any (run s' (bk ++ bitsOf X j)) (X.testBit j) wr)
          rw [← run_snoc, List.append_assoc, ← bitsOf_snoc] at HST
          generalize run s' (bk ++ bitsOf X j) = r1 at HST
          generalize hr2 : run s' (bk ++ bitsOf X (j + 1)) = r2 at HST
          have HR2 := Lib.hid hr2
          clear hd hr2
          unfold rv at HST ⊢
          go_wp2_with (go_at_call 104; refine HST.out.mono ?_; rintro e _ ⟨rfl, rfl⟩)
          refine ⟨⟨j + 1, q / 2, by omega, by go_num, by go_num, HD.out, by rw [HR2.out], trivial⟩, by simp [intOf]; omega⟩
        · have hj8' : j = 8 := by omega
          subst hj8'
          have HTK2 : Hid (run s' (bitsB (l.take (k + 1))) = run s' (bk ++ bitsOf X 8)) := Lib.hid (by rw [HTK.out])
          generalize run s' (bk ++ bitsOf X 8) = r1 at HTK2
          unfold rv
          go_wp2
          refine ⟨⟨k + 1, by omega, by go_num, by rw [HTK2.out], trivial⟩, by simp [intOf]; omega⟩
    · have hkl : k = l.length := by omega
      have HE : Hid (more s (bitsB l) = run s' (bitsB (l.take k)) ^^^ ones) := Lib.hid (by rw [hkl, List.take_length, HM.out])
      have hn := HN.out (run s' (bitsB (l.take k)))
      rw [← HE.out] at hn
      generalize run s' (bitsB (l.take k)) = r1 at hn HE
      generalize hr2 : more s (bitsB l) = r2 at hn HE
      unfold rv
      go_wp2
      go_ret
      exact ⟨by rw [hr2]; rfl, rfl⟩

theorem r2of_any (A : Option Addr) (c : Nat) (l : List UInt8) (w : World) (hr : Reads w w.heap.size 1 A l.length (l.map bv)) (hl : l.length ≤ 140737488355328) :
    Calls Tryz.prog 77 #[.slice A l.length c] w fun e w' => e = .returned (rv (sum (bitsB l))) ∧ w = w' := by
  have H := Lib.hid (r2more_any 0#32 A c l w hr hl)
  clear hr
  unfold sum
  go_enter Tryz.func77, Tryz.ntmps77
  go_wp2_with (go_at_call 89; refine H.out.mono ?_; rintro e _ ⟨rfl, rfl⟩)
  go_ret
  exact ⟨rfl, rfl⟩

end Go.Proofs.YtoiopoghcjkgcaaGreat.crc

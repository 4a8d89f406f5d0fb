/-
  Bursts at bytes: what is sealed, turned within 32 bits that follow one another, is sealed no more.
-/
import Derived.Test.YtdjneiboeehclaaRef2b
namespace Go.Proofs.Ytdjneiboeehclaa.crc
open Go.RowKit

theorem bitsOf_at (w k i : Nat) : (bitsOf w k)[i]? = if i < k then some (w.testBit i) else none := by
  unfold bitsOf
  rw [List.getElem?_map]
  by_cases h : i < k
  · rw [List.getElem?_range h, if_pos h]; rfl
  · rw [List.getElem?_eq_none (by simp; omega), if_neg h]; rfl

/-- Bit q of bytes, each byte's lowest one first. -/
def bit (l : List UInt8) (q : Nat) : Bool := ((l[q / 8]?).getD 0).toNat.testBit (q % 8)

theorem bitsB_at : ∀ (l : List UInt8) (q : Nat), (bitsB l)[q]? = if q < 8 * l.length then some (bit l q) else none
  | [], q => by simp [bitsB]
  | x :: l, q => by
    show (bitsOf x.toNat 8 ++ bitsB l)[q]? = _
    by_cases h : q < 8
    · rw [List.getElem?_append_left (by rw [bitsOf_length]; exact h), bitsOf_at, if_pos h, if_pos (by rw [List.length_cons]; omega)]
      unfold bit
      rw [Nat.div_eq_of_lt h, Nat.mod_eq_of_lt h]
      rfl
    · rw [List.getElem?_append_right (by rw [bitsOf_length]; omega), bitsOf_length, bitsB_at l]
      have h1 : (q - 8) / 8 + 1 = q / 8 := by omega
      have h2 : (q - 8) % 8 = q % 8 := by omega
      have h3 : bit (x :: l) q = bit l (q - 8) := by
        unfold bit
        rw [h2, ← h1, List.getElem?_cons_succ]
      rw [h3]
      by_cases h4 : q - 8 < 8 * l.length
      · rw [if_pos h4, if_pos (by rw [List.length_cons]; omega)]
      · rw [if_neg h4, if_neg (by rw [List.length_cons]; omega)]

/-- Bit p is turned. -/
def flip (l : List UInt8) (p : Nat) : List UInt8 := l.set (p / 8) (((l[p / 8]?).getD 0) ^^^ UInt8.ofNat (2 ^ (p % 8)))
theorem flip_length (l : List UInt8) (p : Nat) : (flip l p).length = l.length := by simp [flip]
theorem bit_flip (l : List UInt8) (p q : Nat) (hp : p < 8 * l.length) : bit (flip l p) q = (bit l q ^^ decide (p = q)) := by
  unfold bit flip
  have hl : p / 8 < l.length := by omega
  by_cases h : p / 8 = q / 8
  · rw [← h, List.getElem?_set_self hl, Option.getD_some, UInt8.toNat_xor, Nat.testBit_xor]
    congr 1
    have h8 : 2 ^ (p % 8) < 256 := by
      have : 2 ^ (p % 8) < 2 ^ 8 := Nat.pow_lt_pow_right (by omega) (by omega)
      simpa using this
    rw [UInt8.toNat_ofNat', Nat.mod_eq_of_lt (by omega), Nat.testBit_two_pow]
    congr 1
    apply propext
    constructor <;> intro h' <;> omega
  · rw [List.getElem?_set_ne h]
    have : ¬ p = q := by intro e; subst e; exact h rfl
    simp [this]

/-- The bits of t, i of them, turned from bit 'at' on. -/
def turned (l : List UInt8) (at_ t : Nat) : Nat → List UInt8
  | 0 => l
  | i + 1 => if t.testBit i then flip (turned l at_ t i) (at_ + i) else turned l at_ t i
theorem turned_length (l : List UInt8) (at_ t : Nat) : ∀ i, (turned l at_ t i).length = l.length
  | 0 => rfl
  | i + 1 => by
    unfold turned
    split
    · rw [flip_length, turned_length l at_ t i]
    · exact turned_length l at_ t i
theorem bit_turned (l : List UInt8) (at_ t q : Nat) : ∀ i, at_ + i ≤ 8 * l.length → bit (turned l at_ t i) q = (bit l q ^^ (decide (at_ ≤ q ∧ q < at_ + i) && t.testBit (q - at_)))
  | 0, _ => by
    have : decide (at_ ≤ q ∧ q < at_ + 0) = false := by simp
    rw [this]
    simp [turned]
  | i + 1, h => by
    have ih := bit_turned l at_ t q i (by omega)
    unfold turned
    by_cases hq : at_ + i = q
    · subst hq
      have h1 : decide (at_ ≤ at_ + i ∧ at_ + i < at_ + (i + 1)) = true := by simp
      have h2 : decide (at_ ≤ at_ + i ∧ at_ + i < at_ + i) = false := by simp
      rw [h2] at ih
      rw [h1, show at_ + i - at_ = i from by omega]
      cases ht : t.testBit i
      · simp [ih]
      · rw [if_pos rfl, bit_flip _ _ _ (by rw [turned_length]; omega), ih]
        simp
    · have h1 : decide (at_ ≤ q ∧ q < at_ + (i + 1)) = decide (at_ ≤ q ∧ q < at_ + i) := by
        congr 1
        apply propext
        constructor <;> intro h' <;> omega
      rw [h1, ← ih]
      split
      · rw [bit_flip _ _ _ (by rw [turned_length]; omega)]
        simp [hq]
      · rfl

theorem bitsB_turned (l : List UInt8) (at_ t : Nat) (h : at_ + 32 ≤ 8 * l.length) :
    bitsB (turned l at_ t 32) = List.zipWith Bool.xor (bitsB l) (List.replicate at_ false ++ bitsOf t 32 ++ List.replicate (8 * l.length - at_ - 32) false) := by
  apply List.ext_getElem?
  intro q
  rw [List.getElem?_zipWith, bitsB_at, bitsB_at, turned_length]
  by_cases hq : q < 8 * l.length
  · rw [if_pos hq, if_pos hq, bit_turned _ _ _ _ _ h]
    have hE : (List.replicate at_ false ++ bitsOf t 32 ++ List.replicate (8 * l.length - at_ - 32) false)[q]? = some (decide (at_ ≤ q ∧ q < at_ + 32) && t.testBit (q - at_)) := by
      by_cases h1 : q < at_
      · rw [List.append_assoc, List.getElem?_append_left (by simpa using h1), List.getElem?_replicate, if_pos h1]
        have : decide (at_ ≤ q ∧ q < at_ + 32) = false := by simp; omega
        rw [this, Bool.false_and]
      · rw [List.append_assoc, List.getElem?_append_right (by simp; omega), List.length_replicate]
        by_cases h2 : q < at_ + 32
        · rw [List.getElem?_append_left (by rw [bitsOf_length]; omega), bitsOf_at, if_pos (by omega)]
          have : decide (at_ ≤ q ∧ q < at_ + 32) = true := by simp; omega
          rw [this, Bool.true_and]
        · rw [List.getElem?_append_right (by rw [bitsOf_length]; omega), bitsOf_length, List.getElem?_replicate, if_pos (by omega)]
          have : decide (at_ ≤ q ∧ q < at_ + 32) = false := by simp; omega
          rw [this, Bool.false_and]
    rw [hE]
  · rw [if_neg hq, if_neg hq]

theorem bitsOf_byte (w k : Nat) : bitsOf w (8 + k) = bitsOf (w % 256) 8 ++ bitsOf (w / 256) k := by
  apply List.ext_getElem?
  intro i
  rw [bitsOf_at]
  by_cases h : i < 8
  · rw [List.getElem?_append_left (by rw [bitsOf_length]; exact h), bitsOf_at, if_pos h, if_pos (by omega)]
    rw [show (256 : Nat) = 2 ^ 8 from rfl, Nat.testBit_mod_two_pow]
    simp [h]
  · rw [List.getElem?_append_right (by rw [bitsOf_length]; omega), bitsOf_length, bitsOf_at]
    by_cases h2 : i < 8 + k
    · rw [if_pos h2, if_pos (by omega), show (256 : Nat) = 2 ^ 8 from rfl, Nat.testBit_div_two_pow]
      congr 2
      omega
    · rw [if_neg h2, if_neg (by omega)]
theorem bitsOf_none (w : Nat) : bitsOf w 0 = [] := rfl

/-- Four bytes, the lowest one first. -/
def le4 (a b c d : UInt8) : BitVec 32 := BitVec.ofNat 32 (a.toNat + 256 * (b.toNat + 256 * (c.toNat + 256 * d.toNat)))
theorem le4_toNat (a b c d : UInt8) : (le4 a b c d).toNat = a.toNat + 256 * (b.toNat + 256 * (c.toNat + 256 * d.toNat)) := by
  unfold le4
  rw [BitVec.toNat_ofNat]
  have := a.toNat_lt
  have := b.toNat_lt
  have := c.toNat_lt
  have := d.toNat_lt
  omega
theorem le4_bits (a b c d : UInt8) : bitsOf (le4 a b c d).toNat 32 = bitsB [a, b, c, d] := by
  have ha := a.toNat_lt
  have hb := b.toNat_lt
  have hc := c.toNat_lt
  have hd := d.toNat_lt
  rw [le4_toNat, show (32 : Nat) = 8 + (8 + (8 + (8 + 0))) from rfl, bitsOf_byte, bitsOf_byte, bitsOf_byte, bitsOf_byte, bitsOf_none]
  have e1 : (a.toNat + 256 * (b.toNat + 256 * (c.toNat + 256 * d.toNat))) % 256 = a.toNat := by omega
  have e2 : (a.toNat + 256 * (b.toNat + 256 * (c.toNat + 256 * d.toNat))) / 256 = b.toNat + 256 * (c.toNat + 256 * d.toNat) := by omega
  have e3 : (b.toNat + 256 * (c.toNat + 256 * d.toNat)) % 256 = b.toNat := by omega
  have e4 : (b.toNat + 256 * (c.toNat + 256 * d.toNat)) / 256 = c.toNat + 256 * d.toNat := by omega
  have e5 : (c.toNat + 256 * d.toNat) % 256 = c.toNat := by omega
  have e6 : (c.toNat + 256 * d.toNat) / 256 = d.toNat := by omega
  have e7 : d.toNat % 256 = d.toNat := by omega
  rw [e1, e2, e3, e4, e5, e6, e7]
  rfl
theorem four_le4 (a b c d : UInt8) : four (le4 a b c d) = [d, c, b, a] := by
  have ha := a.toNat_lt
  have hb := b.toNat_lt
  have hc := c.toNat_lt
  have hd := d.toNat_lt
  unfold four
  rw [le4_toNat]
  have e1 : (a.toNat + 256 * (b.toNat + 256 * (c.toNat + 256 * d.toNat))) / 16777216 = d.toNat := by omega
  have e2 : (a.toNat + 256 * (b.toNat + 256 * (c.toNat + 256 * d.toNat))) / 65536 % 256 = c.toNat := by omega
  have e3 : (a.toNat + 256 * (b.toNat + 256 * (c.toNat + 256 * d.toNat))) / 256 % 256 = b.toNat := by omega
  have e4 : (a.toNat + 256 * (b.toNat + 256 * (c.toNat + 256 * d.toNat))) % 256 = a.toNat := by omega
  rw [e1, e2, e3, e4]
  simp
theorem four_inj {s t : BitVec 32} (h : four s = four t) : s = t := by
  have hs := s.isLt
  have ht := t.isLt
  unfold four at h
  injection h with h1 h
  injection h with h2 h
  injection h with h3 h
  injection h with h4 _
  have g : ∀ n m : Nat, n < 256 → m < 256 → UInt8.ofNat n = UInt8.ofNat m → n = m := fun n m hn hm e => by
    have := congrArg UInt8.toNat e
    rwa [UInt8.toNat_ofNat', UInt8.toNat_ofNat', Nat.mod_eq_of_lt (by omega), Nat.mod_eq_of_lt (by omega)] at this
  have h1 := g _ _ (by omega) (by omega) h1
  have h2 := g _ _ (by omega) (by omega) h2
  have h3 := g _ _ (by omega) (by omega) h3
  have h4 := g _ _ (by omega) (by omega) h4
  apply BitVec.eq_of_toNat_eq
  omega
theorem four_split (s : BitVec 32) : ∃ a b c d, four s = [d, c, b, a] ∧ s = le4 a b c d := by
  refine ⟨_, _, _, _, rfl, four_inj ?_⟩
  rw [four_le4]
  rfl

/-- Sealed bytes with the sum's four turned about, and back. -/
theorem sealed_burst (l : List UInt8) (at_ t : Nat) (h : at_ + 32 ≤ 8 * (l.length + 4)) (ht : t < 4294967296) (M : List UInt8) (a b c d : UInt8)
    (hX : turned (l ++ (four (sum (bitsB l))).reverse) at_ t 32 = M ++ [a, b, c, d]) : isSealed (M ++ [d, c, b, a]) = decide (t = 0) := by
  obtain ⟨x, y, z, v, h4, hS⟩ := four_split (sum (bitsB l))
  rw [h4] at hX
  have hlen : M.length = l.length := by
    have := congrArg List.length hX
    rw [turned_length] at this
    simp at this
    exact this.symm
  have hb := bitsB_turned (l ++ [v, z, y, x].reverse) at_ t (by simp; omega)
  rw [hX, bitsB_append, bitsB_append] at hb
  have hr : [v, z, y, x].reverse = [x, y, z, v] := rfl
  rw [hr, ← le4_bits, ← le4_bits] at hb
  have hE : (List.replicate at_ false ++ bitsOf t 32 ++ List.replicate (8 * (l ++ [x, y, z, v]).length - at_ - 32) false).length = (bitsB l).length + 32 := by
    rw [List.length_append, List.length_append, List.length_replicate, List.length_replicate, bitsOf_length, bitsB_length, List.length_append]
    simp only [List.length_cons, List.length_nil]
    omega
  have hiff := turned_iff (bitsB l) (bitsB M) (le4 x y z v) (le4 a b c d) _ (by rw [bitsB_length, bitsB_length, hlen]) hE hb hS
  rw [run_burst, Nat.mod_eq_of_lt ht] at hiff
  unfold isSealed
  have hl4 : (M ++ [d, c, b, a]).length - 4 = M.length := by simp
  rw [hl4, List.take_left, List.drop_left, decide_eq_true (by simp), Bool.true_and, Bool.eq_iff_iff]
  rw [beq_iff_eq, decide_eq_true_iff, ← hiff, ← four_le4]
  exact ⟨four_inj, fun e => by rw [e]⟩

/-- What is sealed is sealed. -/
theorem sealed_seal (l : List UInt8) : isSealed (l ++ four (sum (bitsB l))) = true := by
  unfold isSealed
  have hl4 : (l ++ four (sum (bitsB l))).length - 4 = l.length := by rw [List.length_append, four_length]; omega
  rw [hl4, List.take_left, List.drop_left, decide_eq_true (by rw [List.length_append, four_length]; omega)]
  simp
theorem openOut_seal (l : List UInt8) : openOut (l ++ four (sum (bitsB l))) = l := by
  unfold openOut
  rw [sealed_seal, if_pos rfl]
  have hl4 : (l ++ four (sum (bitsB l))).length - 4 = l.length := by rw [List.length_append, four_length]; omega
  rw [hl4, List.take_left]
theorem openErr_seal (l : List UInt8) : openErr (l ++ four (sum (bitsB l))) = 0 := by
  unfold openErr
  rw [sealed_seal]
  rfl

end Go.Proofs.Ytdjneiboeehclaa.crc

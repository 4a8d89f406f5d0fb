/-
  The laws' own 'write': a call's bytes are written; whether they were. And what bytes and numbers have to do with one another.
-/
import Derived.Test.YtpededkfgjmhcaaOps
import Derived.Test.YtpededkfgjmhcaaRefR
import Derived.Test.YtpededkfgjmhcaaOpen
namespace Go.Proofs.Ytpededkfgjmhcaa
open Go.RowKit

/-! ### PLAIN -/
theorem num_append (l m : List UInt8) : num (l ++ m) = num l * 256 ^ m.length + num m := by
  have : ∀ (m : List UInt8) (l : List UInt8), num (l ++ m) = num l * 256 ^ m.length + num m := by
    intro m
    induction m with
    | nil => intro l; simp [num]
    | cons x m ih =>
      intro l
      have h1 := ih (l ++ [x])
      have h2 := ih [x]
      rw [List.append_assoc] at h1
      simp only [List.cons_append, List.nil_append] at h1 h2
      rw [h1, h2, num_snoc, List.length_cons, Nat.pow_succ, Nat.add_mul]
      simp [num]
      rw [Nat.mul_assoc, Nat.mul_comm 256, Nat.add_assoc]
  exact this m l
theorem num_cons (x : UInt8) (l : List UInt8) : num (x :: l) = x.toNat * 256 ^ l.length + num l := by
  have := num_append [x] l
  simpa [num] using this
theorem num_be (k n : Nat) : num (be k n) = n % 256 ^ k := by
  induction k with
  | zero => simp [be, num, Nat.mod_one]
  | succ k ih =>
    rw [be_succ, num_cons, ih, be_length, lowByte_toNat, Nat.pow_succ, Nat.mod_mul, Nat.mul_comm]
    omega
theorem be_num (l : List UInt8) : be l.length (num l) = l := by
  induction l with
  | nil => rfl
  | cons x l ih =>
    have hl := num_lt l
    rw [List.length_cons, be_succ, num_cons]
    have h1 : be l.length (x.toNat * 256 ^ l.length + num l) = l := by
      rw [← be_mod l.length _ l.length (Nat.le_refl _), Nat.mul_comm, Nat.mul_add_mod, be_mod _ _ _ (Nat.le_refl _), ih]
    rw [h1]
    congr 1
    apply UInt8.toNat_inj.1
    rw [lowByte_toNat, Nat.mul_comm, Nat.mul_add_div (Nat.pow_pos (by decide)), Nat.div_eq_of_lt hl, Nat.add_zero]
    exact Nat.mod_eq_of_lt x.toNat_lt

theorem taken_le (e : Int) (k m : Nat) (h : e = 0 → k ≤ m) : taken e k ≤ m := by
  unfold taken
  by_cases h0 : e = 0
  · rw [if_pos h0]; exact h h0
  · rw [if_neg h0]; exact Nat.zero_le _
theorem rnum_le (size : Int) (l : List UInt8) : taken (rnumErr size l) size.toNat ≤ l.length := by
  apply taken_le
  intro h
  unfold rnumErr at h
  by_cases hs : sized size = true
  · rw [if_pos hs] at h
    by_cases hl : l.length < size.toNat
    · rw [if_pos hl] at h; omega
    · omega
  · rw [if_neg hs] at h; omega
theorem rraw_le (n : Int) (l : List UInt8) : taken (rrawErr n l) n.toNat ≤ l.length := by
  apply taken_le
  intro h
  unfold rrawErr at h
  by_cases hs : n < 0
  · rw [if_pos hs] at h; omega
  · rw [if_neg hs] at h
    by_cases hl : (l.length : Int) < n
    · rw [if_pos hl] at h; omega
    · omega
theorem rtext_le (l : List UInt8) : taken (rtextErr l) (2 + num (l.take 2)) ≤ l.length := by
  apply taken_le
  intro h
  unfold rtextErr at h
  by_cases hs : l.length < 2
  · rw [if_pos hs] at h; omega
  · rw [if_neg hs] at h
    by_cases hl : l.length - 2 < num (l.take 2)
    · rw [if_pos hl] at h; omega
    · omega

/-- Was the call's value written? -/
def okOf (o : Cal) : Bool :=
  if o.kind = 0 then decide (numErr o.size o.n = 0) else if o.kind = 1 then true else if o.kind = 2 then decide (textErr o.s = 0) else if o.kind = 3 then true else false
/-- Its bytes. -/
def outOf (o : Cal) : List UInt8 :=
  if o.kind = 0 then numOut o.size o.n else if o.kind = 1 then be 8 (wrap64 o.n % 18446744073709551616).toNat else if o.kind = 2 then textOut o.s else if o.kind = 3 then o.s.data.toList else []
theorem outOf_no (o : Cal) (h : okOf o = false) : outOf o = [] := by
  unfold okOf at h
  unfold outOf
  by_cases k0 : o.kind = 0
  · rw [if_pos k0] at h ⊢
    have : ¬ numErr o.size o.n = 0 := by simpa using h
    simp [numOut, this]
  rw [if_neg k0] at h ⊢
  by_cases k1 : o.kind = 1
  · rw [if_pos k1] at h; cases h
  rw [if_neg k1] at h ⊢
  by_cases k2 : o.kind = 2
  · rw [if_pos k2] at h ⊢
    have : ¬ textErr o.s = 0 := by simpa using h
    unfold textErr at this
    unfold textOut
    by_cases h6 : 65535 < o.s.size
    · rw [if_pos h6]
    · rw [if_neg h6] at this; exact absurd rfl this
  rw [if_neg k2] at h ⊢
  by_cases k3 : o.kind = 3
  · rw [if_pos k3] at h; cases h
  rw [if_neg k3]
theorem numOut_len (size : Int) (n : Nat) : (numOut size n).length ≤ 8 := by
  unfold numOut
  by_cases h : numErr size n = 0
  · rw [if_pos h, be_length]
    unfold numErr at h
    by_cases hs : sized size = true
    · unfold sized at hs
      simp at hs
      omega
    · rw [if_neg hs] at h
      omega
  · rw [if_neg h]
    simp
theorem textOut_len (s : ByteArray) : (textOut s).length ≤ 10 + s.size := by
  unfold textOut
  by_cases h : 65535 < s.size
  · rw [if_pos h]; simp
  · rw [if_neg h, List.length_append, be_length, size_list]; omega
theorem outOf_len (o : Cal) : (outOf o).length ≤ 10 + o.s.size := by
  unfold outOf
  by_cases k0 : o.kind = 0
  · rw [if_pos k0]; have := numOut_len o.size o.n; omega
  rw [if_neg k0]
  by_cases k1 : o.kind = 1
  · rw [if_pos k1, be_length]; omega
  rw [if_neg k1]
  by_cases k2 : o.kind = 2
  · rw [if_pos k2]; exact textOut_len o.s
  rw [if_neg k2]
  by_cases k3 : o.kind = 3
  · rw [if_pos k3, size_list]; omega
  rw [if_neg k3]; simp

/-- What lies ahead is newer. -/
theorem Wrote.later {w w1 w3 : World} {b : Nat} {A u : Option Addr} {l2 : List UInt8} (hb : Below w.heap.size w w1) (h2 : Wrote w1 w3 b A u l2) : Wrote w w3 b A u l2 :=
  Wrote.trans (w1 := w) (fun _ h => .inl h) (Keep.refl _ _) hb h2

end Go.Proofs.Ytpededkfgjmhcaa

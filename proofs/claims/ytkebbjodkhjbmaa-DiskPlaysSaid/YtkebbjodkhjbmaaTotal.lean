/-
  The Writer's Num for whatever size and number in one word; and plain facts on big-endian bytes.
-/
import Derived.Test.YtkebbjodkhjbmaaAlive
namespace Go.Proofs.Ytkebbjodkhjbmaa
open Go.RowKit

def numErr (size : Int) (n : Nat) : Int := if sized size then (if fitsB size.toNat n then 0 else 10) else 2
def numOut (size : Int) (n : Nat) : List UInt8 := if numErr size n = 0 then be size.toNat n else []

/-! ### PLAIN: big-endian bytes are ordered as the numbers are -/
theorem be_succ (k n : Nat) : be (k + 1) n = lowByte n k :: be k n := by
  unfold be
  rw [List.range_succ_eq_map, List.map_cons, List.map_map]
  congr 1
  apply List.map_congr_left
  intro i hi
  simp only [Function.comp, Nat.add_sub_cancel]
  congr 1
  omega

theorem be_mod (k n : Nat) : ∀ j, k ≤ j → be k (n % 256 ^ j) = be k n := by
  intro j hj
  unfold be
  apply List.map_congr_left
  intro i hi
  have hi' : i < k := List.mem_range.1 hi
  unfold lowByte
  congr 1
  obtain ⟨d, rfl⟩ : ∃ d, j = (k - 1 - i) + 1 + d := ⟨j - (k - 1 - i) - 1, by omega⟩
  rw [Nat.pow_add, Nat.pow_succ, Nat.mul_assoc, Nat.mod_mul_right_div_self, Nat.mod_mul_right_mod]

theorem lowByte_top (k n : Nat) (h : n < 256 ^ (k + 1)) : (lowByte n k).toNat = n / 256 ^ k := by
  rw [lowByte_toNat]
  exact Nat.mod_eq_of_lt (by rw [Nat.div_lt_iff_lt_mul (Nat.pow_pos (by decide))]; rwa [Nat.pow_succ, Nat.mul_comm] at h)

/-- The greater number has the greater bytes; the same number the same ones. -/
theorem be_order (k : Nat) : ∀ n m, n < 256 ^ k → m < 256 ^ k → Op.bytesLess (be k n) (be k m) = decide (n < m) ∧ (be k n = be k m ↔ n = m) := by
  induction k with
  | zero =>
    intro n m hn hm
    simp at hn hm
    subst hn hm
    simp [be, Op.bytesLess]
  | succ k ih =>
    intro n m hn hm
    have hp : 0 < 256 ^ k := Nat.pow_pos (by decide)
    obtain ⟨h1, h2⟩ := ih (n % 256 ^ k) (m % 256 ^ k) (Nat.mod_lt _ hp) (Nat.mod_lt _ hp)
    rw [be_mod k n k (Nat.le_refl _), be_mod k m k (Nat.le_refl _)] at h1 h2
    have tn := lowByte_top k n hn
    have tm := lowByte_top k m hm
    have dn := Nat.div_add_mod n (256 ^ k)
    have dm := Nat.div_add_mod m (256 ^ k)
    have ln := Nat.mod_lt n hp
    have lm := Nat.mod_lt m hp
    rw [be_succ, be_succ]
    have hlt : (lowByte n k < lowByte m k) ↔ n / 256 ^ k < m / 256 ^ k := by rw [UInt8.lt_iff_toNat_lt, tn, tm]
    have heq : (lowByte n k = lowByte m k) ↔ n / 256 ^ k = m / 256 ^ k := by rw [← UInt8.toNat_inj, tn, tm]
    generalize 256 ^ k = p at *
    have key : n / p < m / p → n < m := fun h => by
      have : p * (n / p) + p ≤ p * (m / p) := by rw [← Nat.mul_succ]; exact Nat.mul_le_mul_left _ h
      omega
    have key' : m / p < n / p → m < n := fun h => by
      have : p * (m / p) + p ≤ p * (n / p) := by rw [← Nat.mul_succ]; exact Nat.mul_le_mul_left _ h
      omega
    constructor
    · unfold Op.bytesLess
      rw [h1, Bool.eq_iff_iff]
      simp only [Bool.or_eq_true, Bool.and_eq_true, decide_eq_true_eq, beq_iff_eq]
      rw [hlt, heq]
      constructor
      · rintro (h | ⟨h, g⟩)
        · exact key h
        · rw [h] at dn; omega
      · intro h
        rcases Nat.lt_trichotomy (n / p) (m / p) with g | g | g
        · exact .inl g
        · rw [g] at dn; exact .inr ⟨g, by omega⟩
        · have := key' g; omega
    · rw [List.cons.injEq, heq, h2]
      constructor
      · rintro ⟨h, g⟩
        rw [h, g] at dn
        omega
      · rintro rfl
        exact ⟨rfl, rfl⟩

end Go.Proofs.Ytkebbjodkhjbmaa

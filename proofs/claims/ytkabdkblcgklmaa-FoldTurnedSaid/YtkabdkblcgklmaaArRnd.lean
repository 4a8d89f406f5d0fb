/-
  Layer 11 (array): a number's place has that number, and a place's number that place; numbers rise as places do.
-/
import Derived.Test.YtkabdkblcgklmaaArPlace
namespace Go.Proofs.Ytkabdkblcgklmaa.arr

def valN : List Nat → List Nat → Nat
  | _ :: L, y :: A => y * prodN L + valN L A
  | _, _ => 0
theorem hor_val : ∀ (p : Nat) (L A : List Nat), L.length = A.length → hor (p : Int) (iL L) (iL A) = ((p * prodN L + valN L A : Nat) : Int)
  | p, [], [], _ => by show (p : Int) = ((p * 1 + 0 : Nat) : Int); omega
  | p, x :: L, y :: A, h => by
    have e : (p : Int) * (x : Int) + (y : Int) = ((p * x + y : Nat) : Int) := by push_cast; rfl
    show hor ((p : Int) * (x : Int) + (y : Int)) (iL L) (iL A) = _
    rw [e, hor_val (p * x + y) L A (by simpa using h)]
    have : (p * x + y) * prodN L + valN L A = p * (x * prodN L) + (y * prodN L + valN L A) := by
      rw [Nat.add_mul, Nat.mul_assoc, Nat.add_assoc]
    rw [this]
    rfl
  | _, [], _ :: _, h => by simp at h
  | _, _ :: _, [], h => by simp at h
theorem tup_nat : ∀ {L : List Nat} {a : List Int}, inTup (iL L) a = true → ∃ A, a = iL A ∧ L.length = A.length
  | [], [], _ => ⟨[], rfl, rfl⟩
  | x :: L, y :: a, h => by
    have h : (decide (0 ≤ y) && decide (y < (x : Int)) && inTup (iL L) a) = true := h
    rw [Bool.and_eq_true, Bool.and_eq_true, decide_eq_true_eq, decide_eq_true_eq] at h
    obtain ⟨A, rfl, hA⟩ := tup_nat h.2
    refine ⟨y.toNat :: A, ?_, by simp [hA]⟩
    show y :: iL A = ((y.toNat : Nat) : Int) :: iL A
    rw [Int.toNat_of_nonneg h.1.1]
  | [], _ :: _, h => by cases h
  | _ :: _, [], h => by cases h
theorem val_lt : ∀ {L A : List Nat}, inTup (iL L) (iL A) = true → valN L A < prodN L ∧ dig L (valN L A) = A
  | [], [], _ => ⟨by decide, rfl⟩
  | x :: L, y :: A, h => by
    have h : (decide ((0 : Int) ≤ (y : Int)) && decide ((y : Int) < (x : Int)) && inTup (iL L) (iL A)) = true := h
    rw [Bool.and_eq_true, Bool.and_eq_true, decide_eq_true_eq, decide_eq_true_eq] at h
    obtain ⟨h1, h2⟩ := val_lt h.2
    have hyx : y < x := by omega
    have hP : 0 < prodN L := by omega
    refine ⟨?_, ?_⟩
    · show y * prodN L + valN L A < x * prodN L
      have : (y + 1) * prodN L ≤ x * prodN L := Nat.mul_le_mul_right _ hyx
      rw [Nat.succ_mul] at this
      omega
    · show (y * prodN L + valN L A) / prodN L :: dig L ((y * prodN L + valN L A) % prodN L) = y :: A
      rw [Nat.mul_comm y, Nat.mul_add_div hP, Nat.mul_add_mod, Nat.div_eq_of_lt h1, Nat.mod_eq_of_lt h1, h2]
      rfl
  | [], _ :: _, h => by cases h
  | _ :: _, [], h => by cases h
theorem dig_tup : ∀ {L : List Nat} {n : Nat}, n < prodN L → inTup (iL L) (iL (dig L n)) = true ∧ valN L (dig L n) = n
  | [], n, h => by
    have h : n < 1 := h
    exact ⟨rfl, by show 0 = n; omega⟩
  | x :: L, n, h => by
    have h : n < x * prodN L := h
    have hP : 0 < prodN L := by
      rcases Nat.eq_zero_or_pos (prodN L) with h0 | h0
      · rw [h0] at h; omega
      · exact h0
    obtain ⟨h1, h2⟩ := dig_tup (L := L) (Nat.mod_lt n hP)
    refine ⟨?_, ?_⟩
    · show (decide ((0 : Int) ≤ ((n / prodN L : Nat) : Int)) && decide (((n / prodN L : Nat) : Int) < (x : Int)) && inTup (iL L) (iL (dig L (n % prodN L)))) = true
      have : n / prodN L < x := by rw [Nat.div_lt_iff_lt_mul hP]; exact h
      rw [h1, decide_eq_true (Int.natCast_nonneg _), decide_eq_true (Int.ofNat_lt.2 this)]
      rfl
    · show n / prodN L * prodN L + valN L (dig L (n % prodN L)) = n
      rw [h2, Nat.mul_comm]
      exact Nat.div_add_mod n _
/-- The first place at which two tuples are unlike tells which comes first. -/
def lexB : List Int → List Int → Bool
  | x :: l, y :: k => if x = y then lexB l k else decide (x < y)
  | _, _ => false
theorem dig_lex : ∀ {L : List Nat} {n m : Nat}, n < prodN L → m < prodN L → lexB (iL (dig L n)) (iL (dig L m)) = decide (n < m)
  | [], n, m, h, k => by
    have h : n < 1 := h
    have k : m < 1 := k
    show false = _
    rw [decide_eq_false (by omega)]
  | x :: L, n, m, h, k => by
    have h : n < x * prodN L := h
    have k : m < x * prodN L := k
    have hP : 0 < prodN L := by
      rcases Nat.eq_zero_or_pos (prodN L) with h0 | h0
      · rw [h0] at h; omega
      · exact h0
    show (if ((n / prodN L : Nat) : Int) = ((m / prodN L : Nat) : Int) then lexB (iL (dig L (n % prodN L))) (iL (dig L (m % prodN L))) else decide (((n / prodN L : Nat) : Int) < ((m / prodN L : Nat) : Int))) = _
    have e1 := Nat.div_add_mod n (prodN L)
    have e2 := Nat.div_add_mod m (prodN L)
    have r1 := Nat.mod_lt n hP
    have r2 := Nat.mod_lt m hP
    by_cases he : n / prodN L = m / prodN L
    · rw [if_pos (by rw [he]), dig_lex r1 r2]
      rw [he] at e1
      rw [decide_eq_decide]
      omega
    · rw [if_neg (by omega)]
      rw [decide_eq_decide]
      constructor
      · intro hl
        have hl : n / prodN L < m / prodN L := by omega
        have : prodN L * (n / prodN L + 1) ≤ prodN L * (m / prodN L) := Nat.mul_le_mul_left _ hl
        rw [Nat.mul_add, Nat.mul_one] at this
        omega
      · intro hl
        rcases Nat.lt_or_ge (n / prodN L) (m / prodN L) with h3 | h3
        · omega
        · have h3 : m / prodN L < n / prodN L := by omega
          have : prodN L * (m / prodN L + 1) ≤ prodN L * (n / prodN L) := Nat.mul_le_mul_left _ h3
          rw [Nat.mul_add, Nat.mul_one] at this
          omega

/-- A place's number has that place. -/
theorem place_back {l a : List Int} (h : placeB l a = true) : atB l (placeV l a) = true ∧ atL l (placeV l a) = a ∧ 0 ≤ placeV l a ∧ placeV l a < prodI l := by
  have hh := h
  unfold placeB at hh
  rw [Bool.and_eq_true] at hh
  obtain ⟨hs, ht⟩ := hh
  obtain ⟨L, rfl, _⟩ := nat_of (okShape_iff.1 hs).2.1
  obtain ⟨A, rfl, hA⟩ := tup_nat ht
  obtain ⟨h1, h2⟩ := val_lt ht
  have e : placeV (iL L) (iL A) = ((valN L A : Nat) : Int) := by
    rw [place_ok h]
    have := hor_val 0 L A hA
    rw [Nat.zero_mul, Nat.zero_add] at this
    exact this
  rw [e, prod_iL]
  have hat : atB (iL L) ((valN L A : Nat) : Int) = true := by
    unfold atB
    rw [hs, prod_iL, decide_eq_true (by omega), decide_eq_true (by omega)]
    rfl
  exact ⟨hat, by rw [atL_iL hat, h2], by omega, by omega⟩
/-- A number's place has that number. -/
theorem at_place {l : List Int} {n : Int} (h : atB l n = true) : placeB l (atL l n) = true ∧ placeV l (atL l n) = n := by
  have hh := h
  unfold atB at hh
  rw [Bool.and_eq_true, Bool.and_eq_true, decide_eq_true_eq, decide_eq_true_eq] at hh
  obtain ⟨hs, h0, h1⟩ := hh
  obtain ⟨L, rfl, _⟩ := nat_of (okShape_iff.1 hs).2.1
  obtain ⟨N, rfl⟩ := Int.eq_ofNat_of_zero_le h0
  rw [prod_iL] at h1
  obtain ⟨t1, t2⟩ := dig_tup (L := L) (n := N) (by omega)
  rw [atL_iL h]
  have hp : placeB (iL L) (iL (dig L N)) = true := by unfold placeB; rw [hs, t1]; rfl
  refine ⟨hp, ?_⟩
  rw [place_ok hp]
  have := hor_val 0 L (dig L N) (dig_length L N).symm
  rw [Nat.zero_mul, Nat.zero_add, t2] at this
  exact this
/-- .. and rises as places do. -/
theorem at_lex {l : List Int} {n m : Int} (h : atB l n = true) (k : atB l m = true) : lexB (atL l n) (atL l m) = decide (n < m) := by
  have hh := h
  unfold atB at hh
  rw [Bool.and_eq_true, Bool.and_eq_true, decide_eq_true_eq, decide_eq_true_eq] at hh
  obtain ⟨hs, h0, h1⟩ := hh
  have kk := k
  unfold atB at kk
  rw [Bool.and_eq_true, Bool.and_eq_true, decide_eq_true_eq, decide_eq_true_eq] at kk
  obtain ⟨_, k0, k1⟩ := kk
  obtain ⟨L, rfl, _⟩ := nat_of (okShape_iff.1 hs).2.1
  obtain ⟨N, rfl⟩ := Int.eq_ofNat_of_zero_le h0
  obtain ⟨M, rfl⟩ := Int.eq_ofNat_of_zero_le k0
  rw [prod_iL] at h1 k1
  rw [atL_iL h, atL_iL k, dig_lex (by omega) (by omega), decide_eq_decide]
  omega
end Go.Proofs.Ytkabdkblcgklmaa.arr

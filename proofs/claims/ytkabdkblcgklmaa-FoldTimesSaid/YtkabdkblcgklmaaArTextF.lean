/-
  Layer 11 (array): mathematics of texts; which arrays may be.
-/
import Derived.Test.YtkabdkblcgklmaaArForm
import Derived.Lib.ItoaNum
import Derived.Lib.Join
import Derived.Lib.RuneBytes
import Derived.Lib.Strings
namespace Go.Proofs.Ytkabdkblcgklmaa.arr
open Go.RowKit

/-- The text of a number. -/
def numB (n : Int) : List UInt8 := if n < 0 then [194, 175] ++ Lib.decDigits n.natAbs else Lib.decDigits n.toNat
def numsB (l : List Int) : List UInt8 := Lib.join (l.map numB) [32]
def charB (c : Int) : List UInt8 := Lib.encodeRune c ++ if c = 39 then [39] else []
def charsB (l : List Int) : List UInt8 := [39] ++ (l.map charB).flatten ++ [39]

/-- An array as a value. -/
structure AV where
  kind : Int
  sh : List Int
  el : List Int
def elemsB (a : AV) : List UInt8 := if a.kind = 2 then charsB a.el else if a.el.length = 0 then [48] else numsB a.el
def tellsA (a : AV) : Bool := decide (a.sh.length = 0) || (decide (a.sh.length = 1) && (decide (1 < a.el.length) || (decide (a.el.length = 0) && decide (a.kind = 2))))
def textB (a : AV) : List UInt8 := if tellsA a = true then elemsB a else numsB a.sh ++ [226, 141, 180] ++ elemsB a
def charOk (x : Int) : Bool := decide (0 ≤ x) && decide (x ≤ 1114111) && !(decide (55296 ≤ x) && decide (x ≤ 57343))
theorem charOk_iff {x : Int} : charOk x = true ↔ (0 ≤ x ∧ x ≤ 1114111) ∧ ¬ (55296 ≤ x ∧ x ≤ 57343) := by
  unfold charOk
  simp only [Bool.and_eq_true, Bool.not_eq_true', Bool.and_eq_false_iff, decide_eq_true_eq, decide_eq_false_iff_not]
  omega
def kindOk (k : Int) (l : List Int) : Bool := decide (k = 1) || (decide (k = 2) && l.all charOk)
/-- May an array be? -/
def okA (a : AV) : Bool := okShape a.sh && (decide ((a.el.length : Int) = prodI a.sh) && kindOk a.kind a.el)
def checkE (a : AV) : Int := if okA a = true then 0 else 110
def textV (a : AV) : List UInt8 := if okA a = true then textB a else []
theorem okA_iff {a : AV} : okA a = true ↔ okShape a.sh = true ∧ (a.el.length : Int) = prodI a.sh ∧ kindOk a.kind a.el = true := by
  unfold okA
  rw [Bool.and_eq_true, Bool.and_eq_true, decide_eq_true_eq]
theorem okA_len {a : AV} (h : okA a = true) : a.el.length ≤ 4096 ∧ a.sh.length ≤ 4 := by
  obtain ⟨h1, h2, _⟩ := okA_iff.1 h
  obtain ⟨h3, _, h4⟩ := okShape_iff.1 h1
  omega

/-! ### Digits -/
theorem dec_mem : ∀ (u : Nat), ∀ b ∈ Lib.decDigits u, 48 ≤ b.toNat ∧ b.toNat ≤ 57 := by
  intro u
  induction u using Nat.strongRecOn with
  | ind u ih =>
    intro b hb
    rw [Lib.decDigits] at hb
    split at hb
    · rename_i h
      rw [List.mem_singleton] at hb
      subst hb
      rw [UInt8.toNat_ofNat', Nat.mod_eq_of_lt (by omega)]
      omega
    · rename_i h
      rcases List.mem_append.1 hb with hb | hb
      · exact ih (u / 10) (by omega) b hb
      · rw [List.mem_singleton] at hb
        subst hb
        rw [UInt8.toNat_ofNat', Nat.mod_eq_of_lt (by omega)]
        omega
theorem dec_ne (u : Nat) : Lib.decDigits u ≠ [] := by
  rw [Lib.decDigits]
  split <;> simp
theorem dec_length {u : Nat} (h : u < 10 ^ 20) : (Lib.decDigits u).length ≤ 20 := by
  rw [Lib.decDigits_length]
  rcases Nat.lt_or_ge (Lib.nDigits u) 21 with h1 | h1
  · omega
  · obtain ⟨k, hk⟩ : ∃ k, Lib.nDigits u = k + 1 := ⟨Lib.nDigits u - 1, by omega⟩
    have hlo : 10 ^ k ≤ u := by
      rcases Nat.lt_or_ge u (10 ^ k) with h2 | h2
      · exfalso
        rcases k with _ | k
        · omega
        · have := Lib.lt_pow_nDigits u
          rcases Nat.lt_or_ge u (10 ^ k) with h3 | h3
          · exact absurd h1 (by
              have hle : ∀ m v, v < 10 ^ m → 1 ≤ m → Lib.nDigits v ≤ m := by
                intro m
                induction m with
                | zero => intro v _ h; omega
                | succ m ih =>
                  intro v hv _
                  by_cases hm : v < 10
                  · rw [Lib.nDigits_small hm]; omega
                  · rw [Lib.nDigits_big hm]
                    rcases m with _ | m
                    · omega
                    · have := ih (v / 10) (by rw [Nat.div_lt_iff_lt_mul (by decide)]; rw [Nat.pow_succ] at hv; exact hv) (by omega)
                      omega
              have := hle 20 u h (by omega)
              omega)
          · have := Lib.nDigits_unique k u h3 h2
            omega
      · exact h2
    have : 10 ^ 20 ≤ 10 ^ k := Nat.pow_le_pow_right (by decide) (by omega)
    omega
theorem numB_length {n : Int} (h0 : -9223372036854775808 ≤ n) (h1 : n ≤ 9223372036854775807) : (numB n).length ≤ 22 := by
  unfold numB
  split
  · have := dec_length (u := n.natAbs) (by have : (10 : Nat) ^ 20 = 100000000000000000000 := by decide
                                           omega)
    simp
    omega
  · have := dec_length (u := n.toNat) (by have : (10 : Nat) ^ 20 = 100000000000000000000 := by decide
                                          omega)
    omega
/-- What FormatInt and CutPrefix make of a number. -/
theorem numB_neg {n : Int} (h : n < 0) : Lib.hasPrefix (Lib.itoa n) [45] = true ∧ [194, 175] ++ Lib.trimPrefix (Lib.itoa n) [45] = numB n := by
  have e : Lib.itoa n = 45 :: Lib.decDigits n.natAbs := by unfold Lib.itoa; rw [if_pos h]
  have e1 : Lib.hasPrefix (Lib.itoa n) [45] = true := by rw [e]; simp [Lib.hasPrefix]
  refine ⟨e1, ?_⟩
  unfold Lib.trimPrefix numB
  rw [e1, if_pos rfl, if_pos h, e]
  rfl
theorem numB_pos {n : Int} (h : ¬ n < 0) : Lib.hasPrefix (Lib.itoa n) [45] = false ∧ Lib.itoa n = numB n := by
  have e : Lib.itoa n = Lib.decDigits n.toNat := by unfold Lib.itoa; rw [if_neg h]
  refine ⟨?_, by unfold numB; rw [if_neg h, e]⟩
  rw [e]
  obtain ⟨b, r, hb⟩ := List.exists_cons_of_ne_nil (dec_ne n.toNat)
  have := dec_mem n.toNat b (by rw [hb]; exact List.mem_cons_self ..)
  rw [hb]
  unfold Lib.hasPrefix
  simp only [List.isPrefixOf, Bool.and_true, beq_eq_false_iff_ne]
  rintro rfl
  simp at this
theorem join_le {sep : List UInt8} {B : Nat} : ∀ (xs : List (List UInt8)), (∀ x ∈ xs, x.length ≤ B) → (Lib.join xs sep).length ≤ xs.length * (B + sep.length)
  | [], _ => by simp [Lib.join_nil]
  | x :: r, h => by
    rw [Lib.join_cons, List.length_append, Lib.joinTail_length]
    have h1 := h x (List.mem_cons_self ..)
    have h2 : Lib.lens r ≤ r.length * B := by
      clear h1
      induction r with
      | nil => simp [Lib.lens]
      | cons y r ih =>
        have h3 := h y (by simp)
        have h4 := ih (fun z hz => h z (by
          rcases List.mem_cons.1 hz with rfl | hz
          · simp
          · simp [hz]))
        simp only [Lib.lens, List.map_cons, List.sum_cons, List.length_cons] at h4 ⊢
        rw [Nat.succ_mul]
        omega
    rw [List.length_cons, Nat.succ_mul, Nat.mul_add, Nat.mul_comm sep.length]
    omega
theorem charB_length (c : Int) : (charB c).length ≤ 5 := by
  unfold charB
  rw [List.length_append]
  have h1 : (Lib.encodeRune c).length ≤ 4 := by
    unfold Lib.encodeRune Lib.encodeRuneZ
    rw [List.length_map]
    split
    · simp
    · split
      · simp
      · split
        · simp
        · split <;> simp
  have h2 : (if c = 39 then [39] else ([] : List UInt8)).length ≤ 1 := by split <;> simp
  omega
theorem flat_le {B : Nat} : ∀ (xs : List (List UInt8)), (∀ x ∈ xs, x.length ≤ B) → xs.flatten.length ≤ xs.length * B
  | [], _ => by simp
  | x :: r, h => by
    rw [List.flatten_cons, List.length_append, List.length_cons, Nat.succ_mul]
    have h1 := h x (List.mem_cons_self ..)
    have h2 := flat_le r (fun y hy => h y (List.mem_cons_of_mem _ hy))
    omega
end Go.Proofs.Ytkabdkblcgklmaa.arr

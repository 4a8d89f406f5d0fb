/-
  Layer 11 (array): mathematics of shapes: which may be, their counts, the number of a place, the place of a number.
-/
import Derived.Test.YtkabdkblcgklmaaInts
namespace Go.Proofs.Ytkabdkblcgklmaa.arr
open Go.RowKit

/-- May an axis be so long? -/
def lenOk (x : Int) : Bool := decide (0 ≤ x) && decide (x ≤ 4096)
theorem lenOk_iff {x : Int} : lenOk x = true ↔ 0 ≤ x ∧ x ≤ 4096 := by
  unfold lenOk
  rw [Bool.and_eq_true, decide_eq_true_eq, decide_eq_true_eq]
def prodI : List Int → Int
  | [] => 1
  | x :: l => x * prodI l
theorem prodI_append : ∀ (a b : List Int), prodI (a ++ b) = prodI a * prodI b
  | [], b => by simp [prodI]
  | x :: a, b => by
    show x * prodI (a ++ b) = x * prodI a * prodI b
    rw [prodI_append a b, Int.mul_assoc]
theorem prodI_snoc (l : List Int) {j : Nat} (h : j < l.length) : prodI (l.take (j + 1)) = prodI (l.take j) * l[j] := by
  rw [List.take_succ_eq_append_getElem h, prodI_append]
  simp [prodI]
theorem prodI_bounds : ∀ (l : List Int), l.all lenOk = true → 0 ≤ prodI l ∧ prodI l ≤ 4096 ^ l.length
  | [], _ => by decide
  | x :: l, h => by
    rw [List.all_cons, Bool.and_eq_true] at h
    obtain ⟨h1, h2⟩ := lenOk_iff.1 h.1
    obtain ⟨h3, h4⟩ := prodI_bounds l h.2
    refine ⟨Int.mul_nonneg h1 h3, ?_⟩
    show x * prodI l ≤ 4096 ^ (l.length + 1)
    rw [Int.pow_succ, Int.mul_comm (4096 ^ l.length)]
    exact Int.mul_le_mul h2 h4 h3 (by decide)
theorem pow_four {k : Nat} (h : k ≤ 4) : (4096 : Int) ^ k ≤ 281474976710656 := by
  rcases k with _ | _ | _ | _ | _ | k
  · decide
  · decide
  · decide
  · decide
  · decide
  · omega
theorem prodI_four {l : List Int} (h : l.all lenOk = true) (h4 : l.length ≤ 4) : 0 ≤ prodI l ∧ prodI l ≤ 281474976710656 := by
  obtain ⟨h1, h2⟩ := prodI_bounds l h
  have := pow_four h4
  omega
theorem all_take {α : Type} {p : α → Bool} {l : List α} (h : l.all p = true) (j : Nat) : (l.take j).all p = true := by
  rw [List.all_eq_true] at h ⊢
  exact fun x hx => h x (List.mem_of_mem_take hx)
theorem all_drop {α : Type} {p : α → Bool} {l : List α} (h : l.all p = true) (j : Nat) : (l.drop j).all p = true := by
  rw [List.all_eq_true] at h ⊢
  exact fun x hx => h x (List.mem_of_mem_drop hx)

/-- May a shape be? -/
def okShape (l : List Int) : Bool := decide (l.length ≤ 4) && l.all lenOk && decide (prodI l ≤ 4096)
def cntV (l : List Int) : Int := if okShape l = true then prodI l else 0
def cntE (l : List Int) : Int := if okShape l = true then 0 else 110
theorem okShape_iff {l : List Int} : okShape l = true ↔ l.length ≤ 4 ∧ l.all lenOk = true ∧ prodI l ≤ 4096 := by
  unfold okShape
  rw [Bool.and_eq_true, Bool.and_eq_true, decide_eq_true_eq, decide_eq_true_eq, and_assoc]
theorem cnt_no {l : List Int} (h : okShape l = false) : cntV l = 0 ∧ cntE l = 110 := by
  unfold cntV cntE
  rw [h]
  exact ⟨rfl, rfl⟩
theorem cnt_ok {l : List Int} (h : okShape l = true) : cntV l = prodI l ∧ cntE l = 0 := by
  unfold cntV cntE
  rw [h]
  exact ⟨rfl, rfl⟩

/-! ### The number of a place -/
def hor : Int → List Int → List Int → Int
  | p, x :: l, y :: a => hor (p * x + y) l a
  | p, _, _ => p
def inTup : List Int → List Int → Bool
  | [], [] => true
  | x :: l, y :: a => decide (0 ≤ y) && decide (y < x) && inTup l a
  | _, _ => false
def placeB (l a : List Int) : Bool := okShape l && inTup l a
def placeV (l a : List Int) : Int := if placeB l a = true then hor 0 l a else 0
theorem hor_snoc : ∀ (p : Int) (l a : List Int) (x y : Int), l.length = a.length → hor p (l ++ [x]) (a ++ [y]) = hor p l a * x + y
  | p, [], [], x, y, _ => rfl
  | p, u :: l, v :: a, x, y, h => hor_snoc (p * u + v) l a x y (by simpa using h)
  | _, [], _ :: _, _, _, h => by simp at h
  | _, _ :: _, [], _, _, h => by simp at h
theorem inTup_length : ∀ {l a : List Int}, inTup l a = true → l.length = a.length
  | [], [], _ => rfl
  | x :: l, y :: a, h => by
    unfold inTup at h
    rw [Bool.and_eq_true] at h
    simp [inTup_length h.2]
  | [], _ :: _, h => by cases h
  | _ :: _, [], h => by cases h
theorem inTup_snoc : ∀ (l a : List Int) (x y : Int), l.length = a.length → inTup (l ++ [x]) (a ++ [y]) = (inTup l a && (decide (0 ≤ y) && decide (y < x)))
  | [], [], x, y, _ => by simp [inTup]
  | u :: l, v :: a, x, y, h => by
    show (decide (0 ≤ v) && decide (v < u) && inTup (l ++ [x]) (a ++ [y])) = _
    rw [inTup_snoc l a x y (by simpa using h)]
    simp only [inTup, Bool.and_assoc]
  | [], _ :: _, _, _, h => by simp at h
  | _ :: _, [], _, _, h => by simp at h
theorem inTup_take : ∀ {l a : List Int} (j : Nat), inTup l a = true → inTup (l.take j) (a.take j) = true
  | [], [], j, _ => by simp [inTup]
  | x :: l, y :: a, 0, _ => rfl
  | x :: l, y :: a, j + 1, h => by
    unfold inTup at h
    rw [Bool.and_eq_true] at h
    show (decide (0 ≤ y) && decide (y < x) && inTup (l.take j) (a.take j)) = true
    rw [h.1, inTup_take j h.2]
    rfl
  | [], _ :: _, _, h => by cases h
  | _ :: _, [], _, h => by cases h
theorem hor_bounds : ∀ (l a : List Int) (p : Int) (k : Nat), l.all lenOk = true → inTup l a = true → 0 ≤ p → p < 4096 ^ k → 0 ≤ hor p l a ∧ hor p l a < 4096 ^ (k + l.length)
  | [], [], p, k, _, _, h0, h1 => ⟨h0, h1⟩
  | x :: l, y :: a, p, k, hl, h, h0, h1 => by
    rw [List.all_cons, Bool.and_eq_true] at hl
    obtain ⟨x0, x1⟩ := lenOk_iff.1 hl.1
    unfold inTup at h
    rw [Bool.and_eq_true, Bool.and_eq_true, decide_eq_true_eq, decide_eq_true_eq] at h
    have e : p * x + y < 4096 ^ (k + 1) := by
      have h2 : p * x ≤ p * 4096 := Int.mul_le_mul_of_nonneg_left x1 h0
      rw [Int.pow_succ]
      omega
    have := hor_bounds l a (p * x + y) (k + 1) hl.2 h.2 (by have := Int.mul_nonneg h0 x0; omega) e
    rw [show k + 1 + l.length = k + (x :: l).length by simp; omega] at this
    exact this
  | [], _ :: _, _, _, _, h, _, _ => by cases h
  | _ :: _, [], _, _, _, h, _, _ => by cases h

/-! ### The place of a number -/
def prodN : List Nat → Nat
  | [] => 1
  | x :: l => x * prodN l
def iL (L : List Nat) : List Int := L.map (fun n : Nat => (n : Int))
theorem iL_length (L : List Nat) : (iL L).length = L.length := List.length_map ..
theorem iL_drop (L : List Nat) (k : Nat) : (iL L).drop k = iL (L.drop k) := by unfold iL; rw [List.map_drop]
theorem prod_iL : ∀ L : List Nat, prodI (iL L) = (prodN L : Int)
  | [] => rfl
  | x :: L => by
    show (x : Int) * prodI (iL L) = ((x * prodN L : Nat) : Int)
    rw [prod_iL L]
    push_cast
    rfl
theorem nat_of {l : List Int} (h : l.all lenOk = true) : ∃ L, l = iL L ∧ ∀ x ∈ L, x ≤ 4096 := by
  induction l with
  | nil => exact ⟨[], rfl, fun x hx => by cases hx⟩
  | cons x l ih =>
    rw [List.all_cons, Bool.and_eq_true] at h
    obtain ⟨h1, h2⟩ := lenOk_iff.1 h.1
    obtain ⟨L, rfl, hL⟩ := ih h.2
    refine ⟨x.toNat :: L, ?_, fun y hy => ?_⟩
    · show _ = ((x.toNat : Int)) :: iL L
      rw [Int.toNat_of_nonneg h1]
    · rcases List.mem_cons.1 hy with rfl | hy
      · omega
      · exact hL y hy
/-- The index tuple at position n. -/
def dig : List Nat → Nat → List Nat
  | [], _ => []
  | _ :: L, n => n / prodN L :: dig L (n % prodN L)
theorem dig_length : ∀ (L : List Nat) (n : Nat), (dig L n).length = L.length
  | [], _ => rfl
  | _ :: L, n => by show (dig L _).length + 1 = L.length + 1; rw [dig_length L]
theorem dig_zero : ∀ (L : List Nat), dig L 0 = List.replicate L.length 0
  | [] => rfl
  | _ :: L => by
    show 0 / prodN L :: dig L (0 % prodN L) = _
    rw [Nat.zero_div, Nat.zero_mod, dig_zero L]
    rfl
/-- What is left of n behind k axes. -/
def rest : List Nat → Nat → Nat → Nat
  | _, n, 0 => n
  | [], n, _ + 1 => n
  | _ :: L, n, k + 1 => rest L (n % prodN L) k
theorem rest_zero (L : List Nat) (n : Nat) : rest L n 0 = n := by cases L <;> rfl
theorem rest_succ : ∀ (L : List Nat) (n k : Nat), k < L.length → rest L n (k + 1) = rest L n k % prodN (L.drop (k + 1))
  | [], _, _, h => by simp at h
  | x :: L, n, 0, _ => by
    show rest L (n % prodN L) 0 = n % prodN L
    exact rest_zero _ _
  | x :: L, n, k + 1, h => rest_succ L (n % prodN L) k (by simpa using h)
theorem dig_at : ∀ (L : List Nat) (n k : Nat), k < L.length → (dig L n)[k]? = some (rest L n k / prodN (L.drop (k + 1)))
  | [], _, _, h => by simp at h
  | x :: L, n, 0, _ => rfl
  | x :: L, n, k + 1, h => by
    show (dig L (n % prodN L))[k]? = _
    rw [dig_at L _ k (by simpa using h)]
    rfl
theorem dig_rest : ∀ (L : List Nat) (n k : Nat), k ≤ L.length → (dig L n).drop k = dig (L.drop k) (rest L n k)
  | L, n, 0, _ => by rw [List.drop_zero, List.drop_zero, rest_zero]
  | [], _, _ + 1, h => by simp at h
  | x :: L, n, k + 1, h => dig_rest L (n % prodN L) k (by simpa using h)
theorem rest_le : ∀ (L : List Nat) (n k : Nat), rest L n k ≤ n
  | L, n, 0 => by rw [rest_zero]; exact Nat.le_refl _
  | [], n, _ + 1 => Nat.le_refl _
  | x :: L, n, k + 1 => Nat.le_trans (rest_le L _ k) (Nat.mod_le _ _)
theorem rest_end : ∀ (L : List Nat) (n : Nat), n < prodN L → rest L n L.length = 0
  | [], n, h => by
    show n = 0
    have : n < 1 := h
    omega
  | x :: L, n, h => by
    refine rest_end L (n % prodN L) (Nat.mod_lt _ ?_)
    rcases Nat.eq_zero_or_pos (prodN L) with h0 | h0
    · have h : n < x * prodN L := h
      rw [h0] at h
      omega
    · exact h0
/-- Where nothing is left, the places behind are noughts. -/
theorem dig_done {L : List Nat} {n k : Nat} (hk : k ≤ L.length) (h : rest L n k = 0) : dig L n = (dig L n).take k ++ List.replicate (L.length - k) 0 := by
  have e := dig_rest L n k hk
  rw [h, dig_zero, List.length_drop] at e
  rw [← e, List.take_append_drop]
theorem prodN_pos {L : List Nat} : ∀ (k : Nat), 0 < prodN L → 0 < prodN (L.drop k) := by
  induction L with
  | nil => intro k h; rw [List.drop_nil]; exact h
  | cons x L ih =>
    intro k h
    have h2 : 0 < prodN L := by
      rcases Nat.eq_zero_or_pos (prodN L) with h0 | h0
      · have h : 0 < x * prodN L := h
        rw [h0] at h
        omega
      · exact h0
    rcases k with _ | k
    · exact h
    · exact ih k h2
/-- From the end: the last k axes. -/
theorem dig_suffix (x : Nat) (L : List Nat) (n : Nat) : dig (x :: L) (n % (x * prodN L)) = (n / prodN L) % x :: dig L (n % prodN L) := by
  show (n % (x * prodN L)) / prodN L :: dig L (n % (x * prodN L) % prodN L) = _
  rw [Nat.mul_comm x, Nat.mod_mul_right_div_self, Nat.mod_mul_right_mod]
def atB (l : List Int) (n : Int) : Bool := okShape l && (decide (0 ≤ n) && decide (n < prodI l))
def atL (l : List Int) (n : Int) : List Int := if atB l n = true then iL (dig (l.map Int.toNat) n.toNat) else []
theorem map_toNat (L : List Nat) : (iL L).map Int.toNat = L := by
  unfold iL
  rw [List.map_map]
  conv => rhs; rw [← List.map_id L]
  apply List.map_congr_left
  intro a _
  simp
theorem atL_iL {L : List Nat} {n : Nat} (h : atB (iL L) n = true) : atL (iL L) n = iL (dig L n) := by
  unfold atL
  rw [if_pos h, map_toNat, Int.toNat_natCast]
theorem atL_no {l : List Int} {n : Int} (h : atB l n = false) : atL l n = [] := by
  unfold atL
  rw [h]
  rfl
end Go.Proofs.Ytkabdkblcgklmaa.arr

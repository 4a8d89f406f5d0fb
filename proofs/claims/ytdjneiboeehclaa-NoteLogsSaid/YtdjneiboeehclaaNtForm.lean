/-
  Layer 9 without any program: a note, when it may be, its bytes, the note of bytes; a log's notes, and what they tell.
-/
import Derived.Test.YtdjneiboeehclaaRtDec
namespace Go.Proofs.Ytdjneiboeehclaa.note
open Go.RowKit Go.Proofs.Ytdjneiboeehclaa.crc Go.Proofs.Ytdjneiboeehclaa.root

structure NV where
  k : Int
  a : Int
  b : Int
  n : Int
deriving DecidableEq

structure NV.Fine (x : NV) : Prop where
  k : i64ok x.k
  a : i64ok x.a
  b : i64ok x.b
  n : i64ok x.n

/-- A note's cells, and a note as a value. -/
def nc (x : NV) : List Value := [.int .i64 x.k, .int .i64 x.a, .int .i64 x.b, .int .i64 x.n]
def nv (x : NV) : Value := .agg #[.int .i64 x.k, .int .i64 x.a, .int .i64 x.b, .int .i64 x.n]
def noN : NV := ⟨0, 0, 0, 0⟩

def numN (z : Int) : Bool := decide (0 ≤ z) && decide (z ≤ 1048576)
def kindN (x : NV) : Bool := ((decide (x.k = 1) || decide (x.k = 4)) && (decide (x.b = 0) && decide (x.n = 0))) || ((decide (x.k = 2) || decide (x.k = 3)) || (decide (x.k = 5) && decide (x.n = 0)))
def okN (x : NV) : Bool := (numN x.a && (numN x.b && decide (0 ≤ x.n))) && kindN x
def errN (x : NV) : Int := if okN x = true then 0 else 90
def encN (x : NV) : List UInt8 := be 1 x.k.toNat ++ (be 4 x.a.toNat ++ (be 4 x.b.toNat ++ be 8 x.n.toNat))
def outN (x : NV) : List UInt8 := if okN x = true then encN x else []
/-- Eight bytes as a number with a sign. -/
def sgn (m : Nat) : Int := wrap64 (m : Int)
def candN (l : List UInt8) : NV := ⟨(num (l.take 1) : Int), (num ((l.drop 1).take 4) : Int), (num (((l.drop 1).drop 4).take 4) : Int), sgn (num ((((l.drop 1).drop 4).drop 4).take 8))⟩
def goodN (l : List UInt8) : Bool := decide (l.length = 17) && okN (candN l)
def decN (l : List UInt8) : NV := if goodN l = true then candN l else noN
def decErrN (l : List UInt8) : Int := if goodN l = true then 0 else 90

theorem numN_iff {z : Int} : numN z = true ↔ 0 ≤ z ∧ z ≤ 1048576 := by simp [numN]
theorem okN_iff {x : NV} : okN x = true ↔ (0 ≤ x.a ∧ x.a ≤ 1048576) ∧ (0 ≤ x.b ∧ x.b ≤ 1048576) ∧ 0 ≤ x.n ∧ (((x.k = 1 ∨ x.k = 4) ∧ x.b = 0 ∧ x.n = 0) ∨ (x.k = 2 ∨ x.k = 3) ∨ (x.k = 5 ∧ x.n = 0)) := by
  simp only [okN, kindN, numN, Bool.and_eq_true, Bool.or_eq_true, decide_eq_true_eq]
  constructor
  · rintro ⟨⟨h1, h2, h3⟩, h4⟩
    exact ⟨h1, h2, h3, h4⟩
  · rintro ⟨h1, h2, h3, h4⟩
    exact ⟨⟨h1, h2, h3⟩, h4⟩
theorem ok_kind {x : NV} (h : okN x = true) : 1 ≤ x.k ∧ x.k ≤ 5 := by have := (okN_iff.1 h).2.2.2; omega
theorem noN_bad : okN noN = false := by decide
theorem noN_fine : noN.Fine := ⟨by unfold i64ok noN; decide, by unfold i64ok noN; decide, by unfold i64ok noN; decide, by unfold i64ok noN; decide⟩
theorem encN_length (x : NV) : (encN x).length = 17 := by simp [encN, be_length]
theorem outN_length (x : NV) : (outN x).length ≤ 17 := by
  unfold outN
  split
  · rw [encN_length]; omega
  · simp
theorem sgn_small {m : Nat} (h : m < 9223372036854775808) : sgn m = (m : Int) := by unfold sgn wrap64; omega
theorem sgn_fine (m : Nat) : i64ok (sgn m) := by unfold sgn wrap64 i64ok; omega
theorem sgn_back {m : Nat} (h : 0 ≤ sgn m) (hm : m < 18446744073709551616) : m < 9223372036854775808 := by
  unfold sgn wrap64 at h
  omega
theorem candN_fine (l : List UInt8) : (candN l).Fine := by
  have h1 := num_take_lt l 1
  have h2 := num_take_lt (l.drop 1) 4
  have h3 := num_take_lt ((l.drop 1).drop 4) 4
  have h1' : num (l.take 1) < 256 := h1
  have h2' : num ((l.drop 1).take 4) < 4294967296 := h2
  have h3' : num (((l.drop 1).drop 4).take 4) < 4294967296 := h3
  refine ⟨?_, ?_, ?_, sgn_fine _⟩ <;> unfold i64ok candN <;> simp only <;> omega
theorem decN_fine (l : List UInt8) : (decN l).Fine := by
  unfold decN
  split
  · exact candN_fine l
  · exact noN_fine
theorem cand_enc {x : NV} (h : okN x = true) (hf : x.Fine) : candN (encN x) = x := by
  have hk := ok_kind h
  obtain ⟨h1, h2, h3, h4⟩ := okN_iff.1 h
  have hn := hf.n
  unfold i64ok at hn
  obtain ⟨k, a, b, n⟩ := x
  simp only at *
  unfold candN encN
  simp only
  rw [List.take_left' (be_length ..), List.drop_left' (be_length ..), List.take_left' (be_length ..), List.drop_left' (be_length ..), List.take_left' (be_length ..), List.drop_left' (be_length ..)]
  have e8 : (be 8 n.toNat).take 8 = be 8 n.toNat := List.take_of_length_le (by rw [be_length]; exact Nat.le_refl _)
  rw [e8, num_be, num_be, num_be, num_be, Nat.mod_eq_of_lt (show k.toNat < 256 ^ 1 by omega), Nat.mod_eq_of_lt (show a.toNat < 256 ^ 4 by omega), Nat.mod_eq_of_lt (show b.toNat < 256 ^ 4 by omega), Nat.mod_eq_of_lt (show n.toNat < 256 ^ 8 by omega), sgn_small (by omega)]
  rw [Int.toNat_of_nonneg (by omega), Int.toNat_of_nonneg (by omega), Int.toNat_of_nonneg (by omega), Int.toNat_of_nonneg (by omega)]
theorem good_enc {x : NV} (h : okN x = true) (hf : x.Fine) : goodN (encN x) = true ∧ candN (encN x) = x := by
  have hc := cand_enc h hf
  refine ⟨?_, hc⟩
  unfold goodN
  rw [hc, encN_length, h]
  decide
theorem enc_cand {l : List UInt8} (hl : l.length = 17) (h : okN (candN l) = true) : encN (candN l) = l := by
  have hk := ok_kind h
  obtain ⟨h1, h2, h3, h4⟩ := okN_iff.1 h
  have n8 : num ((((l.drop 1).drop 4).drop 4).take 8) < 18446744073709551616 := num_take_lt _ 8
  unfold encN candN
  unfold candN at h3
  simp only at h3 ⊢
  have hs := sgn_back h3 n8
  rw [sgn_small hs, Int.toNat_natCast, Int.toNat_natCast, Int.toNat_natCast, Int.toNat_natCast]
  have e1 : be 1 (num (l.take 1)) = l.take 1 := by
    have := be_num (l.take 1)
    rwa [List.length_take, hl] at this
  have e2 : be 4 (num ((l.drop 1).take 4)) = (l.drop 1).take 4 := by
    have := be_num ((l.drop 1).take 4)
    rwa [List.length_take, List.length_drop, hl] at this
  have e3 : be 4 (num (((l.drop 1).drop 4).take 4)) = ((l.drop 1).drop 4).take 4 := by
    have := be_num (((l.drop 1).drop 4).take 4)
    rwa [List.length_take, List.length_drop, List.length_drop, hl] at this
  have e4 : be 8 (num ((((l.drop 1).drop 4).drop 4).take 8)) = (((l.drop 1).drop 4).drop 4).take 8 := by
    have := be_num ((((l.drop 1).drop 4).drop 4).take 8)
    rwa [List.length_take, List.length_drop, List.length_drop, List.length_drop, hl] at this
  have e5 : (((l.drop 1).drop 4).drop 4).take 8 = ((l.drop 1).drop 4).drop 4 := List.take_of_length_le (by simp [hl])
  rw [e1, e2, e3, e4, e5, List.take_append_drop, List.take_append_drop, List.take_append_drop]
theorem good_of {l : List UInt8} (h : goodN l = true) : l.length = 17 ∧ okN (candN l) = true ∧ encN (candN l) = l := by
  unfold goodN at h
  simp only [Bool.and_eq_true, decide_eq_true_eq] at h
  exact ⟨h.1, h.2, enc_cand h.1 h.2⟩
theorem dec_enc {x : NV} (h : okN x = true) (hf : x.Fine) : decN (encN x) = x ∧ decErrN (encN x) = 0 := by
  obtain ⟨h1, h2⟩ := good_enc h hf
  unfold decN decErrN
  rw [if_pos h1, if_pos h1]
  exact ⟨h2, rfl⟩
theorem enc_dec {l : List UInt8} (h : decErrN l = 0) : okN (decN l) = true ∧ encN (decN l) = l := by
  unfold decErrN at h
  split at h
  · rename_i hg
    unfold decN
    rw [if_pos hg]
    exact ⟨(good_of hg).2.1, (good_of hg).2.2⟩
  · cases h
theorem decErr_cases (l : List UInt8) : (decErrN l = 0 ∧ okN (decN l) = true) ∨ (decErrN l = 90 ∧ decN l = noN) := by
  cases hg : goodN l
  · right
    unfold decErrN decN
    rw [if_neg (by rw [hg]; decide), if_neg (by rw [hg]; decide)]
    exact ⟨rfl, rfl⟩
  · left
    unfold decErrN decN
    rw [if_pos hg, if_pos hg]
    exact ⟨rfl, (good_of hg).2.1⟩
theorem nc_one (l : List NV) : ∀ u ∈ l.flatMap nc, u.oneCell' = true := by
  intro u hu
  obtain ⟨x, _, h⟩ := List.mem_flatMap.1 hu
  simp only [nc, List.mem_cons, List.not_mem_nil, or_false] at h
  rcases h with rfl | rfl | rfl | rfl <;> rfl
theorem nc_length (l : List NV) : (l.flatMap nc).length = l.length * 4 := by
  induction l with
  | nil => rfl
  | cons x l ih =>
    rw [List.flatMap_cons, List.length_append, ih, List.length_cons]
    simp only [nc, List.length_cons, List.length_nil]
    omega
theorem nc_at (l : List NV) : ∀ (i j : Nat) (x : NV), l[i]? = some x → j < 4 → (l.flatMap nc)[i * 4 + j]? = (nc x)[j]? := by
  induction l with
  | nil => intro i j x h; simp at h
  | cons y l ih =>
    intro i j x h hj
    rw [List.flatMap_cons]
    rcases i with _ | i
    · injection h with h
      subst h
      rw [Nat.zero_mul, Nat.zero_add, List.getElem?_append_left (by simpa [nc] using hj)]
    · rw [List.getElem?_append_right (by simp [nc]; omega)]
      have e : (i + 1) * 4 + j - (nc y).length = i * 4 + j := by simp [nc]; omega
      rw [e]
      exact ih i j x (by simpa using h) hj

/-! ### A log -/
/-- Does a payload go on with a log? .. and the log behind it? -/
def endsN (p : List UInt8) : Bool := !goodN p || decide ((decN p).k = 1)
def lastN (p : List UInt8) : Bool := !(decide ((decN p).k = 2) || decide ((decN p).k = 3))
/-- The notes in payloads behind the first one. -/
def takeN : List (List UInt8) → List NV
  | [] => []
  | p :: r => if endsN p = true then [] else if lastN p = true then [decN p] else decN p :: takeN r
def begunN (st : Int) (l : List (List UInt8)) : Bool :=
  match l with
  | [] => false
  | p :: _ => goodN p && (decide ((decN p).k = 1) && decide ((decN p).a = st))
def notesN (st : Int) (l : List (List UInt8)) : List NV := if begunN st l = true then takeN l.tail else []

/-- What the notes tell, the last one first. -/
def fileR : List NV → Int → Int → Int → Option Int
  | [], _, _, _ => none
  | x :: r, k, s, p => if x.k = k ∧ x.a = s ∧ x.b = p then some x.n else fileR r k s p
def doneR : List NV → Int → Nat
  | [], _ => 0
  | x :: r, s => doneR r s + if x.k = 2 ∧ x.a = s ∧ fileR r 2 x.a x.b = none then 1 else 0
def stepsR : List NV → Int
  | [] => 0
  | x :: r => if x.k ≤ 3 then max (stepsR r) (x.a + 1) else stepsR r
def fileN (l : List NV) (k s p : Int) : Option Int := fileR l.reverse k s p
def doneN (l : List NV) (s : Int) : Nat := doneR l.reverse s
def stepsN (l : List NV) : Int := stepsR l.reverse
theorem fileN_snoc (l : List NV) (x : NV) (k s p : Int) : fileN (l ++ [x]) k s p = if x.k = k ∧ x.a = s ∧ x.b = p then some x.n else fileN l k s p := by
  unfold fileN
  rw [List.reverse_append]
  rfl
theorem doneN_snoc (l : List NV) (x : NV) (s : Int) : doneN (l ++ [x]) s = doneN l s + if x.k = 2 ∧ x.a = s ∧ fileN l 2 x.a x.b = none then 1 else 0 := by
  unfold doneN fileN
  rw [List.reverse_append]
  rfl
theorem stepsN_snoc (l : List NV) (x : NV) : stepsN (l ++ [x]) = if x.k ≤ 3 then max (stepsN l) (x.a + 1) else stepsN l := by
  unfold stepsN
  rw [List.reverse_append]
  rfl
theorem doneN_le (l : List NV) (s : Int) : doneN l s ≤ l.length := by
  have h : ∀ r : List NV, doneR r s ≤ r.length := by
    intro r
    induction r with
    | nil => exact Nat.le_refl _
    | cons x r ih =>
      show doneR r s + _ ≤ r.length + 1
      split <;> omega
  have := h l.reverse
  rwa [List.length_reverse] at this
theorem takeN_le : ∀ l : List (List UInt8), (takeN l).length ≤ l.length
  | [] => Nat.le_refl _
  | p :: r => by
    have := takeN_le r
    unfold takeN
    split
    · simp
    · split <;> simp <;> omega
theorem takeN_ok : ∀ (l : List (List UInt8)), ∀ x ∈ takeN l, okN x = true ∧ x.Fine ∧ 2 ≤ x.k
  | [], x, h => by cases h
  | p :: r, x, h => by
    unfold takeN at h
    have one : endsN p = false → okN (decN p) = true ∧ (decN p).Fine ∧ 2 ≤ (decN p).k := fun he => by
      unfold endsN at he
      rw [Bool.or_eq_false_iff] at he
      obtain ⟨h1, h2⟩ := he
      have hg : goodN p = true := by simpa using h1
      have h2 := of_decide_eq_false h2
      have hd : decN p = candN p := by unfold decN; rw [if_pos hg]
      have hk := ok_kind (good_of hg).2.1
      rw [← hd] at hk
      exact ⟨by rw [hd]; exact (good_of hg).2.1, decN_fine p, by omega⟩
    cases he : endsN p
    · rw [if_neg (by rw [he]; decide)] at h
      split at h
      · rw [List.mem_singleton.1 h]
        exact one he
      · rcases List.mem_cons.1 h with rfl | h
        · exact one he
        · exact takeN_ok r x h
    · rw [if_pos he] at h
      cases h
theorem notesN_le (st : Int) (l : List (List UInt8)) : (notesN st l).length ≤ l.length := by
  unfold notesN
  split
  · have := takeN_le l.tail
    rw [List.length_tail] at this
    omega
  · simp
theorem notesN_ok (st : Int) (l : List (List UInt8)) : ∀ x ∈ notesN st l, okN x = true ∧ x.Fine ∧ 2 ≤ x.k := by
  unfold notesN
  split
  · exact takeN_ok _
  · intro x h
    cases h
theorem stepsN_range (l : List NV) (h : ∀ x ∈ l, okN x = true) : 0 ≤ stepsN l ∧ stepsN l ≤ 1048577 := by
  have g : ∀ r : List NV, (∀ x ∈ r, okN x = true) → 0 ≤ stepsR r ∧ stepsR r ≤ 1048577 := by
    intro r
    induction r with
    | nil => intro _; exact ⟨Int.le_refl _, (show (0 : Int) ≤ 1048577 by decide)⟩
    | cons x r ih =>
      intro h
      have h1 := ih (fun y hy => h y (List.mem_cons_of_mem _ hy))
      have h2 := (okN_iff.1 (h x (List.mem_cons_self ..))).1
      have e : stepsR (x :: r) = if x.k ≤ 3 then max (stepsR r) (x.a + 1) else stepsR r := rfl
      rw [e]
      split <;> omega
  exact g l.reverse (fun x hx => h x (List.mem_reverse.1 hx))
end Go.Proofs.Ytdjneiboeehclaa.note

/-
  Layer 9 without any program: how far a log's payloads go.
-/
import Derived.Test.YtdjneiboeehclaaNtForm
namespace Go.Proofs.Ytdjneiboeehclaa.note
open Go.RowKit

/-- The first k payloads go on. -/
def GoL (ls : List (List UInt8)) (k : Nat) : Prop := ∀ i, i < k → endsN (ls.getD i []) = false ∧ lastN (ls.getD i []) = false
theorem GoL.zero (ls : List (List UInt8)) : GoL ls 0 := fun i h => by omega
theorem GoL.succ {ls : List (List UInt8)} {k : Nat} (h : GoL ls k) (h1 : endsN (ls.getD k []) = false) (h2 : lastN (ls.getD k []) = false) : GoL ls (k + 1) := fun i hi => by
  by_cases e : i = k
  · subst e
    exact ⟨h1, h2⟩
  · exact h i (by omega)
theorem GoL.tail {p : List UInt8} {ls : List (List UInt8)} {k : Nat} (h : GoL (p :: ls) (k + 1)) : (endsN p = false ∧ lastN p = false) ∧ GoL ls k :=
  ⟨h 0 (by omega), fun i hi => h (i + 1) (by omega)⟩
theorem takeN_go : ∀ (ls : List (List UInt8)) (k : Nat), k ≤ ls.length → GoL ls k → takeN ls = (ls.take k).map decN ++ takeN (ls.drop k)
  | ls, 0, _, _ => by simp
  | [], k + 1, h, _ => by simp at h
  | p :: ls, k + 1, h, hg => by
    obtain ⟨⟨h1, h2⟩, h3⟩ := hg.tail
    have ih := takeN_go ls k (by simpa using h) h3
    rw [List.take_succ_cons, List.drop_succ_cons, List.map_cons, List.cons_append, ← ih]
    conv => lhs; unfold takeN
    rw [if_neg (by rw [h1]; decide), if_neg (by rw [h2]; decide)]
theorem drop_cons {ls : List (List UInt8)} {k : Nat} (hk : k < ls.length) : ls.drop k = ls.getD k [] :: ls.drop (k + 1) := by
  rw [List.drop_eq_getElem_cons hk, List.getD_eq_getElem?_getD, List.getElem?_eq_getElem hk]
  rfl
theorem takeN_end {ls : List (List UInt8)} {k : Nat} (hg : GoL ls k) (hk : k < ls.length) (he : endsN (ls.getD k []) = true) : takeN ls = (ls.take k).map decN := by
  rw [takeN_go ls k (by omega) hg, drop_cons hk]
  conv => lhs; arg 2; unfold takeN
  rw [if_pos he, List.append_nil]
theorem takeN_last {ls : List (List UInt8)} {k : Nat} (hg : GoL ls k) (hk : k < ls.length) (he : endsN (ls.getD k []) = false) (hl : lastN (ls.getD k []) = true) : takeN ls = (ls.take k).map decN ++ [decN (ls.getD k [])] := by
  rw [takeN_go ls k (by omega) hg, drop_cons hk]
  conv => lhs; arg 2; unfold takeN
  rw [if_neg (by rw [he]; decide), if_pos hl]
theorem takeN_all {ls : List (List UInt8)} {n : Nat} (hg : GoL ls n) (hn : ls.length = n) : takeN ls = (ls.take n).map decN := by
  rw [takeN_go ls n (by omega) hg, List.drop_of_length_le (by omega)]
  simp [takeN]
theorem take_snoc {ls : List (List UInt8)} {k : Nat} (hk : k < ls.length) : (ls.take (k + 1)).map decN = (ls.take k).map decN ++ [decN (ls.getD k [])] := by
  rw [List.take_succ_eq_append_getElem hk, List.map_append, List.getD_eq_getElem?_getD, List.getElem?_eq_getElem hk]
  rfl
theorem ends_not {p : List UInt8} (h : endsN p = false) : goodN p = true ∧ (okN (decN p) = true ∧ (decN p).Fine ∧ 2 ≤ (decN p).k) := by
  unfold endsN at h
  rw [Bool.or_eq_false_iff] at h
  obtain ⟨h1, h2⟩ := h
  have hg : goodN p = true := by simpa using h1
  have h2 := of_decide_eq_false h2
  have hd : decN p = candN p := by unfold decN; rw [if_pos hg]
  have hk := ok_kind (good_of hg).2.1
  rw [← hd] at hk
  exact ⟨hg, by rw [hd]; exact (good_of hg).2.1, decN_fine p, by omega⟩
theorem last_iff {p : List UInt8} : lastN p = false ↔ ((decN p).k = 2 ∨ (decN p).k = 3) := by
  unfold lastN
  rw [Bool.not_eq_false', Bool.or_eq_true, decide_eq_true_eq, decide_eq_true_eq]
end Go.Proofs.Ytdjneiboeehclaa.note

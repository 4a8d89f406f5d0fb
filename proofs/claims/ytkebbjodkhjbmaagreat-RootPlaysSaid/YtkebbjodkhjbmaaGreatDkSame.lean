/-
  Layer 3: the given disk and the program's answer the same, and are left in the same state.
-/
import Derived.Test.YtkebbjodkhjbmaaGreatRDiskWr
import Derived.Test.YtkebbjodkhjbmaaGreatKDiskX
namespace Go.Proofs.YtkebbjodkhjbmaaGreat
open Go.RowKit

theorem getD_set {α : Type} (l : List α) (k j : Nat) (x d : α) (hk : k < l.length) : (l.set k x).getD j d = if j = k then x else l.getD j d := by
  rw [List.getD_eq_getElem?_getD, List.getD_eq_getElem?_getD, List.getElem?_set]
  by_cases h : k = j
  · subst h
    rw [if_pos rfl, if_pos rfl, if_pos hk]
    rfl
  · rw [if_neg h, if_neg (fun e => h e.symm)]
theorem ext_getD {l m : List (List UInt8)} (h : l.length = m.length) (ha : ∀ j, j < l.length → l.getD j [] = m.getD j []) : l = m := by
  apply List.ext_getElem h
  intro j h1 h2
  have := ha j h1
  rw [List.getD_eq_getElem?_getD, List.getD_eq_getElem?_getD, List.getElem?_eq_getElem h1, List.getElem?_eq_getElem h2] at this
  exact this

theorem fallTo_more (s : RSt) (c : DCrash) : ∀ k, fallTo s c k = { s with stays := (fallTo s c k).stays, cache := (fallTo s c k).cache }
  | 0 => rfl
  | k + 1 => by
    have h := fallTo_more s c k
    unfold fallTo
    split
    · conv => lhs; rw [h]
    · exact h
theorem fallTo_clen (s : RSt) (c : DCrash) : ∀ k, (fallTo s c k).cache.length = s.cache.length
  | 0 => rfl
  | k + 1 => by
    unfold fallTo
    split
    · show (List.set _ _ _).length = _
      rw [List.length_set]
      exact fallTo_clen s c k
    · exact fallTo_clen s c k
theorem fallTo_at (s : RSt) (c : DCrash) (hok : s.Ok) : ∀ k, k ≤ s.stays.length → ∀ j,
    (fallTo s c k).cache.getD j [] = (if j < k then [] else s.cache.getD j []) ∧
    (fallTo s c k).stays.getD j [] = (if j < k ∧ 0 < (s.cache.getD j []).length then cutAt (stayN c j) (s.cache.getD j []) (s.stays.getD j []) else s.stays.getD j [])
  | 0 => fun _ j => by
    rw [if_neg (by omega), if_neg (by omega)]
    exact ⟨rfl, rfl⟩
  | k + 1 => fun hk j => by
    have ih := fallTo_at s c hok k (by omega)
    have hl1 : k < (fallTo s c k).stays.length := by rw [fallTo_length]; omega
    have hl2 : k < (fallTo s c k).cache.length := by rw [fallTo_clen, hok.same]; omega
    obtain ⟨ck, sk⟩ := ih k
    rw [if_neg (by omega)] at ck
    rw [if_neg (by omega)] at sk
    obtain ⟨cj, sj⟩ := ih j
    unfold fallTo
    rw [ck, sk]
    by_cases h0 : 0 < (s.cache.getD k []).length
    · rw [if_pos h0]
      show (List.set _ _ _).getD j [] = _ ∧ (List.set _ _ _).getD j [] = _
      rw [getD_set _ _ _ _ _ hl2, getD_set _ _ _ _ _ hl1]
      by_cases hj : j = k
      · subst hj
        rw [if_pos rfl, if_pos rfl, if_pos (by omega), if_pos ⟨by omega, h0⟩]
        exact ⟨rfl, rfl⟩
      · rw [if_neg hj, if_neg hj, cj, sj]
        have e : (j < k + 1) ↔ (j < k) := ⟨fun h => by omega, fun h => by omega⟩
        constructor <;> simp only [e]
    · rw [if_neg h0, cj, sj]
      by_cases hj : j = k
      · subst hj
        have hn : s.cache.getD j [] = [] := List.eq_nil_of_length_eq_zero (by omega)
        rw [hn]
        simp
      · have e : (j < k + 1) ↔ (j < k) := ⟨fun h => by omega, fun h => by omega⟩
        constructor <;> simp only [e]
theorem fall_fell (s : RSt) (c : DCrash) (hok : s.Ok) : fallSt s c = fellK s c := by
  have h := fallTo_more s c s.stays.length
  have hs : (fallTo s c s.stays.length).stays = mixL s (fun _ => true) (fun k => cutAt (stayN c k) (s.cache.getD k []) (s.stays.getD k [])) := by
    apply ext_getD (by rw [fallTo_length, mixL_length])
    intro j hj
    rw [fallTo_length] at hj
    have := mixL_at (s := s) (p := fun _ => true) (f := fun k => cutAt (stayN c k) (s.cache.getD k []) (s.stays.getD k [])) hj
    rw [(fallTo_at s c hok _ (Nat.le_refl _) j).2, List.getD_eq_getElem?_getD (l := mixL _ _ _), this]
    by_cases h0 : 0 < (s.cache.getD j []).length
    · rw [if_pos ⟨hj, h0⟩, if_pos ⟨h0, rfl⟩]
      rfl
    · rw [if_neg (fun e => h0 e.2), if_neg (fun e => h0 e.1)]
      rfl
  have hc : (fallTo s c s.stays.length).cache = List.replicate s.stays.length [] := by
    apply ext_getD (by rw [fallTo_clen, hok.same, List.length_replicate])
    intro j hj
    rw [fallTo_clen, hok.same] at hj
    rw [(fallTo_at s c hok _ (Nat.le_refl _) j).1, if_pos hj, List.getD_eq_getElem?_getD, List.getElem?_replicate, if_pos hj]
    rfl
  unfold fallSt fellK
  rw [h, hs, hc]
theorem flushTo_more (s : RSt) : ∀ k, flushTo s k = { s with stays := (flushTo s k).stays, cache := (flushTo s k).cache }
  | 0 => rfl
  | k + 1 => by
    have h := flushTo_more s k
    unfold flushTo
    split
    · conv => lhs; rw [h]
    · exact h
theorem flushTo_clen (s : RSt) : ∀ k, (flushTo s k).cache.length = s.cache.length
  | 0 => rfl
  | k + 1 => by
    unfold flushTo
    split
    · show (List.set _ _ _).length = _
      rw [List.length_set]
      exact flushTo_clen s k
    · exact flushTo_clen s k
theorem flushTo_at (s : RSt) (hok : s.Ok) : ∀ k, k ≤ s.stays.length → ∀ j,
    (flushTo s k).cache.getD j [] = (if j < k then [] else s.cache.getD j []) ∧
    (flushTo s k).stays.getD j [] = (if j < k ∧ 0 < (s.cache.getD j []).length then s.cache.getD j [] else s.stays.getD j [])
  | 0 => fun _ j => by
    rw [if_neg (by omega), if_neg (by omega)]
    exact ⟨rfl, rfl⟩
  | k + 1 => fun hk j => by
    have ih := flushTo_at s hok k (by omega)
    have hl1 : k < (flushTo s k).stays.length := by rw [flushTo_length]; omega
    have hl2 : k < (flushTo s k).cache.length := by rw [flushTo_clen, hok.same]; omega
    obtain ⟨ck, sk⟩ := ih k
    rw [if_neg (by omega)] at ck
    rw [if_neg (by omega)] at sk
    obtain ⟨cj, sj⟩ := ih j
    unfold flushTo
    rw [ck]
    by_cases h0 : 0 < (s.cache.getD k []).length
    · rw [if_pos h0]
      show (List.set _ _ _).getD j [] = _ ∧ (List.set _ _ _).getD j [] = _
      rw [getD_set _ _ _ _ _ hl2, getD_set _ _ _ _ _ hl1]
      by_cases hj : j = k
      · subst hj
        rw [if_pos rfl, if_pos rfl, if_pos (by omega), if_pos ⟨by omega, h0⟩]
        exact ⟨rfl, rfl⟩
      · rw [if_neg hj, if_neg hj, cj, sj]
        have e : (j < k + 1) ↔ (j < k) := ⟨fun h => by omega, fun h => by omega⟩
        constructor <;> simp only [e]
    · rw [if_neg h0, cj, sj]
      by_cases hj : j = k
      · subst hj
        have hn : s.cache.getD j [] = [] := List.eq_nil_of_length_eq_zero (by omega)
        rw [hn]
        simp
      · have e : (j < k + 1) ↔ (j < k) := ⟨fun h => by omega, fun h => by omega⟩
        constructor <;> simp only [e]
theorem flush_same (s : RSt) (hok : s.Ok) : flushSt3 s = flushK s := by
  have h := flushTo_more s s.stays.length
  have hs : (flushTo s s.stays.length).stays = mixL s (fun _ => true) (fun k => s.cache.getD k []) := by
    apply ext_getD (by rw [flushTo_length, mixL_length])
    intro j hj
    rw [flushTo_length] at hj
    have := mixL_at (s := s) (p := fun _ => true) (f := fun k => s.cache.getD k []) hj
    rw [(flushTo_at s hok _ (Nat.le_refl _) j).2, List.getD_eq_getElem?_getD (l := mixL _ _ _), this]
    by_cases h0 : 0 < (s.cache.getD j []).length
    · rw [if_pos ⟨hj, h0⟩, if_pos ⟨h0, rfl⟩]
      rfl
    · rw [if_neg (fun e => h0 e.2), if_neg (fun e => h0 e.1)]
      rfl
  have hc : (flushTo s s.stays.length).cache = List.replicate s.stays.length [] := by
    apply ext_getD (by rw [flushTo_clen, hok.same, List.length_replicate])
    intro j hj
    rw [flushTo_clen, hok.same] at hj
    rw [(flushTo_at s hok _ (Nat.le_refl _) j).1, if_pos hj, List.getD_eq_getElem?_getD, List.getElem?_replicate, if_pos hj]
    rfl
  unfold flushSt3 flushK
  split
  · rfl
  · rw [h, hs, hc]

theorem down_same (s : RSt) (c : DCrash) (hok : s.Ok) : downSt3 s c = downK s c := by
  unfold downSt3 downK
  rw [fall_fell s c hok]
theorem taken_same (s : RSt) (a : Int) (l : List UInt8) : takenR s a l = takenK s a l := rfl
theorem takes_same (s : RSt) (a : Int) (l : List UInt8) : (has3 s a && l.length == 128) = takes3 s a l.length := by
  unfold takes3
  rfl
theorem writeErr_same (s : RSt) (a : Int) (l : List UInt8) : writeErr3 s a l = writeErr s a l := by
  unfold writeErr3 writeErr
  rw [takes_same]
theorem write_same (s : RSt) (a : Int) (l : List UInt8) (hok : s.Ok) : writeSt3 s a l = writeK s a l := by
  unfold writeSt3 writeK
  rw [takes_same, taken_same]
  split
  · rfl
  · split
    · rename_i ht
      rw [fall_fell]
      refine ⟨?_, hok.few, hok.stay, ?_⟩
      · show (s.cache.set a.toNat l).length = s.stays.length
        rw [List.length_set]
        exact hok.same
      · intro m hm
        rcases List.mem_or_eq_of_mem_set (show m ∈ s.cache.set a.toNat l from hm) with hm | rfl
        · exact hok.wait _ hm
        · unfold takes3 at ht
          rw [Bool.and_eq_true, decide_eq_true_eq] at ht
          exact .inr ht.2
    · rfl
end Go.Proofs.YtkebbjodkhjbmaaGreat

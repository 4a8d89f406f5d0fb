/-
  Layer 8 without any program: a disk on which nothing waits, as journals leave it; what they write and find on it.
-/
import Derived.Test.YtddhldmeknmgpaaJAppend
namespace Go.Proofs.Ytddhldmeknmgpaa.journal
open Go.RowKit Go.Proofs.Ytddhldmeknmgpaa.crc Go.Proofs.Ytddhldmeknmgpaa.root

/-- A disk that is up, on which nothing waits. -/
def flat (S : List (List UInt8)) (m : Nat) : RSt := ⟨S, List.replicate S.length [], 0, [], 0, 0, (m : Int), false⟩
def zeros (n : Nat) : List (List UInt8) := List.replicate n (List.replicate 128 0)
theorem zeros_length (n : Nat) : (zeros n).length = n := List.length_replicate
theorem flat_new (n : Nat) : newSt n = flat (zeros n) 0 := by unfold newSt flat; rw [zeros_length]; rfl
theorem flat_has (S : List (List UInt8)) (m a : Nat) (h : a < S.length) : has3 (flat S m) (a : Int) = true := decide_eq_true ⟨by omega, by show (a : Int) < (S.length : Int); omega⟩
theorem flat_err (S : List (List UInt8)) (m a : Nat) (h : a < S.length) : readErr3 (flat S m) (a : Int) = 0 := by
  unfold readErr3
  rw [flat_has S m a h]
  rfl
theorem flat_cache (S : List (List UInt8)) (k : Nat) : (List.replicate S.length ([] : List UInt8)).getD k [] = [] := by
  rw [List.getD_eq_getElem?_getD]
  cases h : (List.replicate S.length ([] : List UInt8))[k]? with
  | none => rfl
  | some x => exact List.eq_of_mem_replicate (List.mem_of_getElem? h)
theorem flat_out (S : List (List UInt8)) (m a : Nat) (h : a < S.length) : readOut3 (flat S m) (a : Int) = S.getD a [] := by
  unfold readOut3
  rw [if_pos (flat_err S m a h), Int.toNat_natCast]
  unfold seen
  show (if 0 < ((List.replicate S.length ([] : List UInt8)).getD a []).length then _ else S.getD a []) = _
  rw [flat_cache]
  rfl
theorem mix_set (S : List (List UInt8)) (a : Nat) (l l' : List UInt8) (hl : 0 < l.length) (s : RSt) (hs : s.stays = S) (hc : s.cache = (List.replicate S.length []).set a l) (f : Nat → List UInt8) (hf : f a = l') : mixL s (fun _ => true) f = S.set a l' := by
  apply List.ext_getElem?
  intro k
  unfold mixL
  rw [hs, hc]
  by_cases hk : k < S.length
  · rw [List.getElem?_map, List.getElem?_range hk, Option.map_some, List.getElem?_set]
    by_cases hak : a = k
    · subst hak
      have e : ((List.replicate S.length ([] : List UInt8)).set a l).getD a [] = l := by
        rw [List.getD_eq_getElem?_getD, List.getElem?_set_self (by simpa using hk)]
        rfl
      rw [e, if_pos ⟨hl, rfl⟩, if_pos rfl, if_pos hk, hf]
    · have e : ((List.replicate S.length ([] : List UInt8)).set a l).getD k [] = [] := by
        rw [List.getD_eq_getElem?_getD, List.getElem?_set_ne hak, ← List.getD_eq_getElem?_getD]
        exact flat_cache S k
      rw [e, if_neg (by simp), if_neg hak, List.getD_eq_getElem?_getD, List.getElem?_eq_getElem hk]
      rfl
  · rw [List.getElem?_eq_none (by simpa using hk), List.getElem?_eq_none (by simpa using hk)]
theorem flat_takes (S : List (List UInt8)) (m a : Nat) (l : List UInt8) (ha : a < S.length) (hl : l.length = 128) : takes3 (flat S m) (a : Int) l.length = true := by
  unfold takes3
  rw [flat_has S m a ha, hl]
  rfl
theorem flat_write (S : List (List UInt8)) (m a : Nat) (l : List UInt8) (ha : a < S.length) (hl : l.length = 128) : writeErr (flat S m) (a : Int) l = 0 ∧ flushK (writeK (flat S m) (a : Int) l) = flat (S.set a l) (m + 1) := by
  have ht := flat_takes S m a l ha hl
  have hw : writeK (flat S m) (a : Int) l = ⟨S, (List.replicate S.length []).set a l, 0, [], 0, 0, (m : Int) + 1, false⟩ := by
    unfold writeK
    rw [ht]
    rfl
  refine ⟨by unfold writeErr; rw [ht]; rfl, ?_⟩
  rw [hw]
  unfold flushK
  have hm := mix_set S a l l (by omega) ⟨S, (List.replicate S.length []).set a l, 0, [], 0, 0, (m : Int) + 1, false⟩ rfl rfl (fun k => ((List.replicate S.length ([] : List UInt8)).set a l).getD k []) (by
    show ((List.replicate S.length ([] : List UInt8)).set a l).getD a [] = l
    rw [List.getD_eq_getElem?_getD, List.getElem?_set_self (by simpa using ha)]
    rfl)
  simp only [Bool.false_eq_true, if_false]
  unfold flat
  rw [hm, List.length_set]
  rfl
theorem flat_spoil (S : List (List UInt8)) (m a : Nat) (l : List UInt8) (ha : a < S.length) (hl : l.length = 128) : spoilErr3 (flat S m) (a : Int) l = 0 ∧ spoilSt3 (flat S m) (a : Int) l = flat (S.set a l) m := by
  have he : spoilErr3 (flat S m) (a : Int) l = 0 := by unfold spoilErr3; rw [flat_has S m a ha, hl]; rfl
  refine ⟨he, ?_⟩
  unfold spoilSt3
  rw [if_pos he, Int.toNat_natCast]
  unfold flat
  rw [List.length_set]

/-! ### What is found -/
theorem validJ_sect {ep k : Nat} {r : JV} (hok : okJ r = true) (hf : r.Fine) : validJ ep k (sectJ r) = (decide (r.ep = ep) && decide (r.n = k + 1)) := by
  unfold validJ
  rw [(decJ_sect hok hf).1]
theorem validJ_bad {ep k : Nat} {l : List UInt8} (h : goodJ l = false) : validJ ep k l = false := by
  unfold validJ decJ
  rw [h]
  simp only [Bool.false_eq_true, if_false, noJ]
  rw [decide_eq_false (show ¬ 0 = k + 1 by omega), Bool.and_false]
theorem zero_bad : goodJ (List.replicate 128 0) = false := by decide +kernel
theorem pfx_good {ep : Nat} {L : Nat → List UInt8} {ls : List (List UInt8)} (hep : ep < 18446744073709551616) (hfew : ls.length ≤ 4096) (h64 : ∀ l ∈ ls, l.length ≤ 64) (h : ∀ i l, ls[i]? = some l → L i = sectJ ⟨ep, i + 1, l⟩) : ∀ k, k ≤ ls.length → pfx ep L k = (ls.take k, true)
  | 0, _ => rfl
  | k + 1, hk => by
    have ih := pfx_good hep hfew h64 h k (by omega)
    obtain ⟨l, hl⟩ : ∃ l, ls[k]? = some l := ⟨_, List.getElem?_eq_getElem (by omega)⟩
    have hLk := h k l hl
    have hok : okJ ⟨ep, k + 1, l⟩ = true := okJ_iff.2 ⟨by show 1 ≤ k + 1; omega, h64 l (List.mem_of_getElem? hl)⟩
    have hf : (⟨ep, k + 1, l⟩ : JV).Fine := ⟨hep, by show k + 1 < _; omega⟩
    have hv : validJ ep k (L k) = true := by rw [hLk, validJ_sect hok hf]; simp
    show (if ((pfx ep L k).2 && validJ ep k (L k)) = true then (pfx ep L k).1 ++ [(decJ (L k)).pl] else (pfx ep L k).1, (pfx ep L k).2 && validJ ep k (L k)) = _
    rw [ih, hv, hLk, (decJ_sect hok hf).1, List.take_add_one, hl]
    rfl
theorem pfx_stop {ep : Nat} {L : Nat → List UInt8} {ls : List (List UInt8)} {n : Nat} (h : pfx ep L n = (ls, true)) (hs : validJ ep n (L n) = false) : ∀ j, pfx ep L (n + 1 + j) = (ls, false)
  | 0 => by
    show (if ((pfx ep L n).2 && validJ ep n (L n)) = true then (pfx ep L n).1 ++ [(decJ (L n)).pl] else (pfx ep L n).1, (pfx ep L n).2 && validJ ep n (L n)) = _
    rw [h, hs]
    rfl
  | j + 1 => by
    have ih := pfx_stop h hs j
    show (if ((pfx ep L (n + 1 + j)).2 && validJ ep (n + 1 + j) (L (n + 1 + j))) = true then _ else (pfx ep L (n + 1 + j)).1, (pfx ep L (n + 1 + j)).2 && validJ ep (n + 1 + j) (L (n + 1 + j))) = _
    rw [ih]
    rfl
/-- Records as they lie on a disk, from sector a on. -/
def OnDisk (S : List (List UInt8)) (a ep : Nat) (ls : List (List UInt8)) : Prop := ∀ i l, ls[i]? = some l → S.getD (a + i) [] = sectJ ⟨ep, i + 1, l⟩
theorem OnDisk.nil (S : List (List UInt8)) (a ep : Nat) : OnDisk S a ep [] := fun i l h => by simp at h
theorem getD_set_ne {S : List (List UInt8)} {a k : Nat} {l : List UInt8} (h : a ≠ k) : (S.set a l).getD k [] = S.getD k [] := by
  rw [List.getD_eq_getElem?_getD, List.getElem?_set_ne h, ← List.getD_eq_getElem?_getD]
theorem getD_set_eq {S : List (List UInt8)} {a : Nat} {l : List UInt8} (h : a < S.length) : (S.set a l).getD a [] = l := by
  rw [List.getD_eq_getElem?_getD, List.getElem?_set_self h]
  rfl
theorem OnDisk.app {S : List (List UInt8)} {a ep : Nat} {ls : List (List UInt8)} {l : List UInt8} (h : OnDisk S a ep ls) (hlt : a + ls.length < S.length) : OnDisk (S.set (a + ls.length) (sectJ ⟨ep, ls.length + 1, l⟩)) a ep (ls ++ [l]) := fun i x hx => by
  by_cases hi : i < ls.length
  · rw [List.getElem?_append_left hi] at hx
    rw [getD_set_ne (by omega)]
    exact h i x hx
  · rw [List.getElem?_append_right (by omega)] at hx
    have h0 : i - ls.length = 0 := by
      have := (List.getElem?_eq_some_iff.1 hx).1
      simp at this
      omega
    rw [h0] at hx
    injection hx with hx
    subst hx
    obtain rfl : i = ls.length := by omega
    exact getD_set_eq hlt
theorem open_flat {S : List (List UInt8)} {m a M : Nat} (h1 : 1 ≤ M) (hS : a + M ≤ S.length) (hb : S.length ≤ 4096) : openE (flat S m) (a : Int) (M : Int) = 0 := by
  unfold openE
  rw [if_neg (by omega), Int.toNat_natCast]
  refine errP_zero (fun i hi => ?_)
  rw [adr_small (by omega) (by omega), ← Int.natCast_add]
  exact flat_err S m (a + i) (by omega)
theorem openL_flat {S : List (List UInt8)} {m a M ep : Nat} (hS : a + M ≤ S.length) : openL (flat S m) (a : Int) M ep = (pfx ep (fun k => S.getD (a + k) []) M).1 := by
  unfold openL
  rw [pfx_cong (L' := fun k => S.getD (a + k) []) (fun i hi => by rw [← Int.natCast_add]; exact flat_out S m (a + i) (by omega))]
/-- What Open finds: just these records, if what follows them is not the next one. -/
theorem openL_is {S : List (List UInt8)} {m a M ep : Nat} {ls : List (List UInt8)} (hS : a + M ≤ S.length) (hb : S.length ≤ 4096) (hep : ep < 18446744073709551616) (h64 : ∀ l ∈ ls, l.length ≤ 64) (h : OnDisk S a ep ls) (hn : ls.length ≤ M) (hstop : ls.length < M → validJ ep ls.length (S.getD (a + ls.length) []) = false) : openL (flat S m) (a : Int) M ep = ls := by
  rw [openL_flat hS]
  have hg := pfx_good (L := fun k => S.getD (a + k) []) hep (by omega) h64 (fun i l hl => h i l hl) ls.length (Nat.le_refl _)
  rw [List.take_length] at hg
  rcases Nat.lt_or_ge ls.length M with hlt | hge
  · have := pfx_stop hg (hstop hlt) (M - ls.length - 1)
    rw [show ls.length + 1 + (M - ls.length - 1) = M by omega] at this
    rw [this]
  · obtain rfl : ls.length = M := by omega
    rw [hg]

section
variable {N b n c M ep a m : Nat} {w0 w : World} {d : DAt} {S : List (List UInt8)} {pv : Value} {vs : List Value} {ls : List (List UInt8)} {A : Option Addr} {l : List UInt8}
/-- Append, as statements call it. -/
theorem lapp {S' : List (List UInt8)} (L : Lives N w0 w d (flat S m)) (J : JAt N w b (some ⟨d.b, 0, none⟩) pv vs ⟨(a : Int), M, ep, ls⟩) (hf : (⟨(a : Int), M, ep, ls⟩ : JS).Fit) (hl : l.length = n) (hr : Reads w w.heap.size 1 A n (l.map bv)) (hsep : 0 < n → ∀ ad, A = some ad → ¬ d.foot ad.block) (h64 : n ≤ 64) (hlt : ls.length < M) (hS : a + M ≤ S.length) (hm : m < 1000000) (hS' : S.set (a + ls.length) (sectJ ⟨ep, ls.length + 1, l⟩) = S') :
    Calls Try.prog 15 #[.pointer (some ⟨b, 0, none⟩), .slice A n c] w fun e w' => e = .returned (.int .i64 0) ∧ Lives N w0 w' d (flat S' (m + 1)) ∧ (∃ pv' vs', JAt N w' b (some ⟨d.b, 0, none⟩) pv' vs' ⟨(a : Int), M, ep, ls ++ [l]⟩) ∧ Keep (fun i => d.foot i ∨ i = b ∨ pv.ownBlock = some i) w w' := by
  have hw := flat_write S m (a + ls.length) (sectJ ⟨ep, ls.length + 1, l⟩) (by omega) (sectJ_length (by show l.length ≤ 64; omega))
  rw [hS', Int.natCast_add] at hw
  exact japp_ok L J hf hl hr hsep h64 hlt ⟨by show (m : Int) < _; omega⟩ hw.1 rfl hw.2
theorem fit_app (hf : (⟨(a : Int), M, ep, ls⟩ : JS).Fit) (hlt : ls.length < M) : (⟨(a : Int), M, ep, ls ++ [l]⟩ : JS).Fit :=
  ⟨by show (ls ++ [l]).length ≤ M; rw [List.length_append]; exact hlt, hf.one, hf.at_, hf.top, hf.ep⟩
end
end Go.Proofs.Ytddhldmeknmgpaa.journal

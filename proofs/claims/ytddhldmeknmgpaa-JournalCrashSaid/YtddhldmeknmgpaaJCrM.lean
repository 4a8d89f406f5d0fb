/-
  Layer 8 without any program: what is found of a journal whose last Append went down.
-/
import Derived.Test.YtddhldmeknmgpaaJSpM
namespace Go.Proofs.Ytddhldmeknmgpaa.journal
open Go.RowKit Go.Proofs.Ytddhldmeknmgpaa.crc Go.Proofs.Ytddhldmeknmgpaa.root

theorem valid_is {ep k : Nat} {l : List UInt8} (h : validJ ep k l = true) : ∃ r : JV, l = sectJ r ∧ r.ep = ep ∧ r.n = k + 1 ∧ r.pl.length ≤ 64 := by
  unfold validJ at h
  simp only [Bool.and_eq_true, decide_eq_true_eq] at h
  have hg : goodJ l = true := by
    cases hg : goodJ l
    · have h2 := h.2
      unfold decJ at h2
      rw [hg] at h2
      exact absurd h2 (by show ¬ (0 = k + 1); omega)
    · rfl
  have hd : decJ l = candJ l := by unfold decJ; rw [hg, if_pos rfl]
  rw [hd] at h
  exact ⟨candJ l, (goodJ_of hg).2.2.symm, h.1, h.2, (okJ_iff.1 (goodJ_of hg).2.1).2⟩
theorem sect_tail {r : JV} (h : r.pl.length ≤ 64) : (sectJ r).drop 112 = be 8 r.ep ++ be 8 r.n := by
  unfold sectJ
  rw [List.append_assoc, List.drop_append, List.drop_eq_nil_of_le (by rw [bodyJ_length h]; omega), bodyJ_length h]
  rfl
theorem be8_last (n : Nat) : (be 8 n)[7]? = some (lowByte n 0) := rfl
theorem sect_119 {r : JV} (h : r.pl.length ≤ 64) : (sectJ r)[119]? = some (lowByte r.ep 0) := by
  have e : (sectJ r)[119]? = ((sectJ r).drop 112)[7]? := by rw [List.getElem?_drop]
  rw [e, sect_tail h, List.getElem?_append_left (by rw [be_length]; omega)]
  exact be8_last _
theorem sect_127 {r : JV} (h : r.pl.length ≤ 64) : (sectJ r)[127]? = some (lowByte r.n 0) := by
  have e : (sectJ r)[127]? = ((sectJ r).drop 112)[15]? := by rw [List.getElem?_drop]
  rw [e, sect_tail h, List.getElem?_append_right (by rw [be_length]; omega), be_length]
  exact be8_last _
theorem sect_120 {r : JV} (h : r.pl.length ≤ 64) : (sectJ r).drop 120 = be 8 r.n := by
  have e : (sectJ r).drop 120 = ((sectJ r).drop 112).drop 8 := by rw [List.drop_drop]
  rw [e, sect_tail h, List.drop_append, List.drop_eq_nil_of_le (by rw [be_length]; omega), be_length]
  rfl

/-- What lay in a sector ahead: nothing, or the elder journal's record. -/
def Prior (X : List UInt8) (k : Nat) : Prop := X = List.replicate 128 0 ∨ ∃ l : List UInt8, l.length ≤ 64 ∧ X = sectJ ⟨4, k + 1, l⟩
theorem Prior.length {X : List UInt8} {k : Nat} (h : Prior X k) : X.length = 128 := by
  rcases h with rfl | ⟨l, hl, rfl⟩
  · exact List.length_replicate
  · exact sectJ_length hl
theorem Prior.bad {X : List UInt8} {k : Nat} (h : Prior X k) (j : Nat) (hk : k < 1000) : validJ 5 j X = false := by
  rcases h with rfl | ⟨l, hl, rfl⟩
  · exact validJ_bad zero_bad
  · rw [validJ_sect (okJ_iff.2 ⟨by show 1 ≤ k + 1; omega, hl⟩) ⟨by show 4 < _; omega, by show k + 1 < _; omega⟩]
    rfl
theorem torn_valid {old pl : List UInt8} {n f : Nat} (hl : pl.length ≤ 64) (hn : n ≤ 20) (hp : Prior old n) (hv : validJ 5 n ((sectJ ⟨5, n + 1, pl⟩).take f ++ old.drop f) = true) : old.drop f = (sectJ ⟨5, n + 1, pl⟩).drop f := by
  obtain ⟨r, hr, r5, rn, r64⟩ := valid_is hv
  have hlen := hp.length
  have hnl : (sectJ ⟨5, n + 1, pl⟩).length = 128 := sectJ_length hl
  have hat : ∀ j, f ≤ j → f ≤ 128 → (sectJ r)[j]? = old[j]? := fun j hj hf => by
    rw [← hr, List.getElem?_append_right (by rw [List.length_take]; omega), List.length_take, List.getElem?_drop]
    congr 1
    omega
  by_cases h1 : f ≤ 119
  · exfalso
    have h := hat 119 h1 (by omega)
    rw [sect_119 r64, r5] at h
    rcases hp with rfl | ⟨l, h64, rfl⟩
    · have h0 : (List.replicate 128 (0 : UInt8))[119]? = some 0 := rfl
      rw [h0] at h
      injection h with h
      exact absurd h (by decide)
    · rw [sect_119 h64] at h
      injection h with h
      exact absurd h (by show ¬ (lowByte 5 0 = lowByte 4 0); decide)
  · by_cases h2 : 128 ≤ f
    · rw [List.drop_eq_nil_of_le (by omega), List.drop_eq_nil_of_le (by omega)]
    · rcases hp with rfl | ⟨l, h64, rfl⟩
      · exfalso
        have h := hat 127 (by omega) (by omega)
        have h0 : (List.replicate 128 (0 : UInt8))[127]? = some 0 := rfl
        rw [sect_127 r64, rn, h0] at h
        injection h with h
        have := congrArg UInt8.toNat h
        rw [lowByte_toNat] at this
        simp at this
        omega
      · have e : ∀ X : List UInt8, X.drop f = (X.drop 120).drop (f - 120) := fun X => by rw [List.drop_drop, show 120 + (f - 120) = f by omega]
        rw [e (sectJ ⟨4, n + 1, l⟩), e (sectJ ⟨5, n + 1, pl⟩), sect_120 h64, sect_120 hl]

section
variable {S : List (List UInt8)} {ls : List (List UInt8)} {last old : List UInt8} {a m n f : Nat}
theorem whole_is (hS : S.length = 40) (hon : OnDisk S 3 5 ls) (hpr : ∀ i, ls.length ≤ i → i < 30 → Prior (S.getD (3 + i) []) i) (h64 : ∀ l ∈ ls, l.length ≤ 64) (hn : ls.length ≤ 20) (hl : last.length ≤ 64) :
    openL (flat (S.set (3 + ls.length) (sectJ ⟨5, ls.length + 1, last⟩)) m) (3 : Int) 30 5 = ls ++ [last] := by
  have hlen : (ls ++ [last]).length = ls.length + 1 := by simp
  refine openL_is (a := 3) (by rw [List.length_set]; omega) (by rw [List.length_set]; omega) (by decide) (fun l h => ?_) (hon.app (by omega)) (by omega) (fun _ => ?_)
  · rcases List.mem_append.1 h with h | h
    · exact h64 l h
    · rw [List.mem_singleton.1 h]; exact hl
  · rw [hlen, getD_set_ne (by omega)]
    exact (hpr (ls.length + 1) (by omega) (by omega)).bad _ (by omega)
theorem torn_is (hS : S.length = 40) (hon : OnDisk S 3 5 ls) (hpr : ∀ i, ls.length ≤ i → i < 30 → Prior (S.getD (3 + i) []) i) (h64 : ∀ l ∈ ls, l.length ≤ 64) (hn : ls.length ≤ 20) (hl : last.length ≤ 64) (hne : (S.getD (3 + ls.length) []).drop f ≠ (sectJ ⟨5, ls.length + 1, last⟩).drop f) :
    openL (flat (S.set (3 + ls.length) ((sectJ ⟨5, ls.length + 1, last⟩).take f ++ (S.getD (3 + ls.length) []).drop f)) m) (3 : Int) 30 5 = ls := by
  refine openL_is (a := 3) (by rw [List.length_set]; omega) (by rw [List.length_set]; omega) (by decide) h64 (hon.set_ (Nat.le_refl _) _) (by omega) (fun _ => ?_)
  rw [getD_set_eq (by omega)]
  cases hv : validJ 5 ls.length ((sectJ ⟨5, ls.length + 1, last⟩).take f ++ (S.getD (3 + ls.length) []).drop f)
  · rfl
  · exact absurd (torn_valid hl hn (hpr _ (Nat.le_refl _) (by omega)) hv) hne
end

def kpJ (kp : Bool) (a : Nat) : List Int := if kp = true then [(a : Int)] else []
theorem flat_crash (S : List (List UInt8)) (m a : Nat) (l : List UInt8) (kp : List Int) (at_ : Int) (ha : a < S.length) (hl : l.length = 128) :
    writeErr (armSt3 (flat S m) ⟨1, kp, (a : Int), at_⟩) (a : Int) l = 31 ∧ bootSt (writeK (armSt3 (flat S m) ⟨1, kp, (a : Int), at_⟩) (a : Int) l) = flat (S.set a (cutAt (stayN ⟨0, kp, (a : Int), at_⟩ a) l (S.getD a []))) (m + 1) := by
  have har : armSt3 (flat S m) ⟨1, kp, (a : Int), at_⟩ = ⟨S, List.replicate S.length [], 1, kp, (a : Int), at_, (m : Int), false⟩ := rfl
  rw [har]
  have ht : takes3 ⟨S, List.replicate S.length [], 1, kp, (a : Int), at_, (m : Int), false⟩ (a : Int) l.length = true := flat_takes S m a l ha hl
  refine ⟨by unfold writeErr; rw [ht]; rfl, ?_⟩
  have hw : writeK ⟨S, List.replicate S.length [], 1, kp, (a : Int), at_, (m : Int), false⟩ (a : Int) l = fellK ⟨S, (List.replicate S.length []).set a l, 0, kp, (a : Int), at_, (m : Int) + 1, false⟩ ⟨0, kp, (a : Int), at_⟩ := by
    unfold writeK
    rw [ht]
    rfl
  rw [hw]
  unfold fellK
  have hm := mix_set S a l (cutAt (stayN ⟨0, kp, (a : Int), at_⟩ a) l (S.getD a [])) (by omega) ⟨S, (List.replicate S.length []).set a l, 0, kp, (a : Int), at_, (m : Int) + 1, false⟩ rfl rfl (fun k => cutAt (stayN ⟨0, kp, (a : Int), at_⟩ k) (((List.replicate S.length []).set a l).getD k []) (S.getD k [])) (by
    show cutAt _ (((List.replicate S.length ([] : List UInt8)).set a l).getD a []) _ = _
    rw [List.getD_eq_getElem?_getD, List.getElem?_set_self (by simpa using ha)]
    rfl)
  unfold bootSt flat
  simp only
  rw [hm, List.length_set]
  rfl
/-- What a crash in the Append of the last leaves. -/
theorem crash_now {S : List (List UInt8)} {ls : List (List UInt8)} {last old new : List UInt8} {a m f : Nat} {at_ : Int} {kp : Bool} (hS : S.length = 40) (hon : OnDisk S 3 5 ls) (hpr : ∀ i, ls.length ≤ i → i < 30 → Prior (S.getD (3 + i) []) i) (h64 : ∀ l ∈ ls, l.length ≤ 64) (hn : ls.length ≤ 20) (hl : last.length ≤ 64) (ha : 3 + ls.length = a) (hold : S.getD a [] = old) (hnew : sectJ ⟨5, ls.length + 1, last⟩ = new) (hf : (f : Int) = max 0 (min at_ 128)) :
    ∃ S2, S2.length = 40 ∧ writeErr (armSt3 (flat S m) ⟨1, kpJ kp a, (a : Int), at_⟩) (a : Int) new = 31 ∧ bootSt (writeK (armSt3 (flat S m) ⟨1, kpJ kp a, (a : Int), at_⟩) (a : Int) new) = flat S2 (m + 1) ∧ openL (flat S2 (m + 1)) (3 : Int) 30 5 = if kp = true ∨ old.drop f = new.drop f then ls ++ [last] else ls := by
  subst ha hold
  have hnl : new.length = 128 := by rw [← hnew]; exact sectJ_length hl
  have hol : (S.getD (3 + ls.length) []).length = 128 := (hpr _ (Nat.le_refl _) (by omega)).length
  obtain ⟨c1, c2⟩ := flat_crash S m (3 + ls.length) new (kpJ kp (3 + ls.length)) at_ (by omega) hnl
  refine ⟨_, by rw [List.length_set]; exact hS, c1, c2, ?_⟩
  cases kp
  · have hst : stayN ⟨0, kpJ false (3 + ls.length), ((3 + ls.length : Nat) : Int), at_⟩ (3 + ls.length) = at_ := by
      unfold stayN kpJ
      simp
    rw [hst]
    have hcut : cutAt at_ new (S.getD (3 + ls.length) []) = new.take f ++ (S.getD (3 + ls.length) []).drop f := by
      unfold cutAt
      by_cases h : at_ ≤ 128
      · rw [show at_.toNat = f by omega]
      · rw [List.take_of_length_le (show new.length ≤ at_.toNat by omega), List.drop_eq_nil_of_le (show (S.getD (3 + ls.length) []).length ≤ at_.toNat by omega), List.take_of_length_le (show new.length ≤ f by omega), List.drop_eq_nil_of_le (show (S.getD (3 + ls.length) []).length ≤ f by omega)]
    rw [hcut]
    split
    · rename_i h
      have h2 : (S.getD (3 + ls.length) []).drop f = new.drop f := h.resolve_left (by decide)
      rw [h2, List.take_append_drop, ← hnew]
      exact whole_is hS hon hpr h64 hn hl
    · rename_i h
      subst hnew
      exact torn_is hS hon hpr h64 hn hl (fun e => h (.inr e))
  · have hst : stayN ⟨0, kpJ true (3 + ls.length), ((3 + ls.length : Nat) : Int), at_⟩ (3 + ls.length) = 128 := by
      unfold stayN kpJ
      simp
    rw [hst, if_pos (.inl rfl)]
    have hcut : cutAt 128 new (S.getD (3 + ls.length) []) = new := by
      unfold cutAt
      rw [show (128 : Int).toNat = 128 from rfl, List.take_of_length_le (by omega), List.drop_eq_nil_of_le (by omega), List.append_nil]
    rw [hcut, ← hnew]
    exact whole_is hS hon hpr h64 hn hl
theorem read_is {w w' : World} {v : Value} {l : List UInt8} (h : ReadOut w w' v l) (hl : l.length = 128) : ∃ g, v = .slice (some ⟨g, 0, none⟩) 128 128 ∧ w.heap.size ≤ g ∧ Below w.heap.size w w' ∧ Reads w' w'.heap.size 1 (some ⟨g, 0, none⟩) 128 (l.map bv) := by
  obtain ⟨b, ⟨rfl, _, _⟩ | ⟨_, g, hg, rfl, hb⟩⟩ := h
  · cases hl
  · refine ⟨g, rfl, hg, b, by rw [List.length_map, hl], fun _ => ⟨_, rfl, hb.lt, fun j u hu => ?_⟩⟩
    have hp : (⟨g, 0, none⟩ : Addr).add j = ⟨g, j, none⟩ := by unfold Addr.add; split <;> simp_all
    rw [hp, hb.cell, ← hu]
    simp
/-- A disk and a journal on it. -/
structure KJ (w W : World) (d : DAt) (b : Nat) (S : List (List UInt8)) (m : Nat) (ls : List (List UInt8)) : Prop where
  L : Lives w.heap.size w W d (flat S m)
  J : ∃ pv vs, JAt w.heap.size W b (some ⟨d.b, 0, none⟩) pv vs ⟨3, 30, 5, ls⟩
  F : (⟨3, 30, 5, ls⟩ : JS).Fit
theorem KJ.next {w W W' : World} {d : DAt} {b m : Nat} {S ls : List (List UInt8)} (h : KJ w W d b S m ls) (hb : Below W.heap.size W W') : KJ w W' d b S m ls := by
  obtain ⟨pv, vs, hj⟩ := h.J
  exact ⟨h.L.next h.L.lt hb, ⟨pv, vs, hj.below hb⟩, h.F⟩
theorem KJ.records {w W : World} {d : DAt} {b m n : Nat} {S ls : List (List UInt8)} (h : KJ w W d b S m ls) (h64 : ∀ l ∈ ls, l.length ≤ 64) (hn : ls.length = n) : Calls Try.prog 20 #[.pointer (some ⟨b, 0, none⟩)] W fun e w' => ∃ A c us, e = .returned (.slice A n c) ∧ Grows W w' ls n (.slice A n c) us := by
  obtain ⟨pv, vs, hj⟩ := h.J
  exact jrecords_n hj h64 hn
theorem KJ.on {w W : World} {d : DAt} {b m n : Nat} {S ls : List (List UInt8)} {C : Array Value} {W' : World} (h : KJ w W d b S m ls) (hS : S.length = 40) (hn : ls.length = n) (hlt : n < 30) (hm : m < 1000000) (hC : C = (([111, 110] : List UInt8).map bv).toArray) (hW : W.alloc (.cells C 5 (2, 3)) = W') :
    Calls Try.prog 15 #[.pointer (some ⟨b, 0, none⟩), .slice (some ⟨W.heap.size, 0, none⟩) 2 2] W' fun e w' => e = .returned (.int .i64 0) ∧ Below w.heap.size w w' ∧ ∃ pv vs, JAt w.heap.size w' b (some ⟨d.b, 0, none⟩) pv vs ⟨3, 30, 5, ls ++ [[111, 110]]⟩ := by
  obtain ⟨pv, vs, hj⟩ := h.J
  refine (lapp_lit (a := 3) (l := [111, 110]) (fr := (2, 3)) h.L hj h.F hW hC rfl (by decide) (by omega) (by omega) hm rfl).mono ?_
  rintro e w' ⟨h1, h2, ⟨pv', vs', h3⟩, _⟩
  exact ⟨h1, h2.below, pv', vs', h3⟩
theorem jlen_n {N w b p pv vs a M ep n} {ls : List (List UInt8)} (h : JAt N w b p pv vs ⟨a, M, ep, ls⟩) (hn : ls.length = n) : Calls Try.prog 16 #[.pointer (some ⟨b, 0, none⟩)] w fun e w' => e = .returned (.int .i64 (n : Int)) ∧ w = w' := by
  subst hn
  exact jlen_any h
theorem RArgs.one {w : World} {A : Option Addr} {n c : Nat} {ls : List (List UInt8)} {us : List Value} (h : RArgs w A n c ls us) : ∀ u ∈ us, u.oneCell' = true := fun u hu => by
  obtain ⟨i, hi⟩ := List.getElem?_of_mem hu
  have hul : us.length = n := by have := h.reads.1; omega
  have hil := (List.getElem?_eq_some_iff.1 hi).1
  have hll := h.len
  have hil2 : i < ls.length := by omega
  obtain ⟨B, d, h1, _⟩ := h.heads i ls[i] (List.getElem?_eq_getElem hil2)
  rw [hi] at h1
  injection h1 with h1
  rw [h1]
  rfl
theorem few_arm (S : List (List UInt8)) {m : Nat} (c : DCrash) (h : m < 1000000) : Few (armSt3 (flat S m) c) := by
  unfold armSt3
  split <;> exact ⟨by show (m : Int) < _; omega⟩
/-- One call of a disk leaves what is no part of it. -/
theorem Reads.call {w w' : World} {d : DAt} {n g : Nat} {xs : List Value} (h : Reads w w.heap.size 1 (some ⟨g, 0, none⟩) n xs) (hk : Keep d.foot w w') (hg : ¬ d.foot g) : Reads w' w'.heap.size 1 (some ⟨g, 0, none⟩) n xs :=
  (h.keepS hk (Nat.le_refl _) (fun ad e => by injection e with e; subst e; exact hg)).more hk.size
theorem reads_kept {w : World} {g : Nat} {a : Nat} (h : Blk w g 3 #[.int .i64 (a : Int)]) : Reads w w.heap.size 1 (some ⟨g, 0, none⟩) 1 ((kpJ true a).map iv) := by
  refine ⟨rfl, fun _ => ⟨_, rfl, h.lt, fun j u hu => ?_⟩⟩
  have hp : (⟨g, 0, none⟩ : Addr).add j = ⟨g, j, none⟩ := by unfold Addr.add; split <;> simp_all
  rw [hp, h.cell, ← hu]
  simp [kpJ, iv]
theorem own_128 {w : World} {base n c : Nat} {A : Option Addr} {xs : List Value} (h : w.ownsRow base 5 1 (.slice A (n + 1) c) (n + 1) xs) : ∃ g, A = some ⟨g, 0, none⟩ ∧ base ≤ g := by
  rcases h.2 with ⟨_, h0⟩ | ⟨g, cap, cur, e, hb, _⟩
  · omega
  · injection e with e
    exact ⟨g, e, hb⟩
theorem own_no_rows (w : World) : (w.alloc (.cells #[] 23)).ownsRow w.heap.size 23 1 (.slice (some ⟨w.heap.size, 0, none⟩) 0 0) 0 [] :=
  ⟨rfl, .inr ⟨w.heap.size, 0, #[], rfl, Nat.le_refl _, heap_alloc_new w _, Nat.le_refl _, by unfold maxLen; omega, rfl, rfl⟩⟩
end Go.Proofs.Ytddhldmeknmgpaa.journal

/-
  The laws' own 'read': is what a call wrote what is read?
-/
import Derived.Test.YtpededkfgjmhcaaWriteL
namespace Go.Proofs.Ytpededkfgjmhcaa
open Go.RowKit

/-- rk: whether what o wrote was read off lx; T: how many bytes were taken. -/
def Match (o : Cal) (lx : List UInt8) (rk : Bool) (T : Nat) : Prop :=
  (okOf o = true → outOf o <+: lx → rk = true) ∧ (okOf o = true → rk = true → T = (outOf o).length ∧ T ≤ lx.length)

theorem numErr_zero {size : Int} {n : Nat} (h : numErr size n = 0) : ∃ k : Nat, size = k ∧ sized size = true ∧ n < 256 ^ k ∧ numOut size n = be k n := by
  have ho : numOut size n = be size.toNat n := by simp [numOut, h]
  unfold numErr at h
  by_cases hs : sized size = true
  · rw [if_pos hs] at h
    obtain ⟨k, rfl, _⟩ := sized_nat hs
    by_cases hf : fitsB ((k : Int)).toNat n = true
    · exact ⟨k, rfl, hs, by simpa [fitsB] using hf, by simpa using ho⟩
    · rw [if_neg hf] at h; omega
  · rw [if_neg hs] at h; omega

theorem match_num (sz : Int) (nn : Nat) (tx : ByteArray) (lx : List UInt8) :
    Match ⟨0, sz, nn, tx⟩ lx (rnumErr sz lx == 0 && num (lx.take (taken (rnumErr sz lx) sz.toNat)) == nn) (taken (rnumErr sz lx) sz.toNat) := by
  have hout : outOf ⟨0, sz, nn, tx⟩ = numOut sz nn := rfl
  constructor
  · intro hok hp
    obtain ⟨k, rfl, hs, hn, ho⟩ := numErr_zero (n := nn) (size := sz) (by simpa [okOf] using hok)
    rw [hout, ho] at hp
    obtain ⟨t, rfl⟩ := hp
    have he : rnumErr k (be k nn ++ t) = 0 := by simp [rnumErr, hs, be_length]
    rw [he, show taken 0 ((k : Int)).toNat = k from by simp [taken]]
    have : (be k nn ++ t).take k = be k nn := by
      have := List.take_left (l₁ := be k nn) (l₂ := t)
      rwa [be_length] at this
    rw [this, num_be, Nat.mod_eq_of_lt hn]
    simp
  · intro hok hrk
    obtain ⟨k, rfl, hs, hn, ho⟩ := numErr_zero (n := nn) (size := sz) (by simpa [okOf] using hok)
    simp only [Bool.and_eq_true, beq_iff_eq] at hrk
    rw [hout, ho, be_length]
    have hle := rnum_le k lx
    rw [hrk.1] at hle ⊢
    exact ⟨by simp [taken], hle⟩

theorem wrap64_mod (x : Int) (h1 : -9223372036854775808 ≤ x) (h2 : x ≤ 9223372036854775807) : wrap64 (((x % 18446744073709551616).toNat : Nat) : Int) = x := by
  rw [Int.toNat_of_nonneg (by omega)]
  unfold wrap64
  omega
theorem wrap64_bounds (x : Int) : -9223372036854775808 ≤ wrap64 x ∧ wrap64 x ≤ 9223372036854775807 := by
  unfold wrap64
  omega

theorem match_int (sz : Int) (nn : Nat) (tx : ByteArray) (lx : List UInt8) :
    Match ⟨1, sz, nn, tx⟩ lx (rnumErr 8 lx == 0 && wrap64 (num (lx.take (taken (rnumErr 8 lx) 8))) == wrap64 nn) (taken (rnumErr 8 lx) 8) := by
  have hout : outOf ⟨1, sz, nn, tx⟩ = be 8 (wrap64 nn % 18446744073709551616).toNat := rfl
  constructor
  · intro hok hp
    rw [hout] at hp
    obtain ⟨t, rfl⟩ := hp
    have he : rnumErr 8 (be 8 (wrap64 nn % 18446744073709551616).toNat ++ t) = 0 := by simp [rnumErr, sized, be_length]
    rw [he, show taken 0 8 = 8 from rfl]
    have : (be 8 (wrap64 nn % 18446744073709551616).toNat ++ t).take 8 = be 8 (wrap64 nn % 18446744073709551616).toNat := by
      have := List.take_left (l₁ := be 8 (wrap64 nn % 18446744073709551616).toNat) (l₂ := t)
      rwa [be_length] at this
    have hb := wrap64_bounds nn
    rw [this, num_be, Nat.mod_eq_of_lt (by omega), wrap64_mod _ hb.1 hb.2]
    simp
  · intro hok hrk
    simp only [Bool.and_eq_true, beq_iff_eq] at hrk
    rw [hout, be_length]
    have hle := rnum_le 8 lx
    rw [show ((8 : Int)).toNat = 8 from rfl] at hle
    rw [hrk.1] at hle ⊢
    exact ⟨rfl, hle⟩

theorem textErr_zero {s : ByteArray} (h : textErr s = 0) : s.size ≤ 65535 ∧ textOut s = be 2 s.size ++ s.data.toList := by
  unfold textErr at h
  by_cases h6 : 65535 < s.size
  · rw [if_pos h6] at h; omega
  · exact ⟨by omega, by simp [textOut, h6]⟩
theorem bytes_eq {l : List UInt8} {s : ByteArray} : ((⟨l.toArray⟩ : ByteArray).toList == s.toList) = true ↔ l = s.data.toList := by
  rw [beq_iff_eq, ByteArray.toList_eq, ByteArray.toList_eq]

theorem match_text (sz : Int) (nn : Nat) (tx : ByteArray) (lx : List UInt8) :
    Match ⟨2, sz, nn, tx⟩ lx (rtextErr lx == 0 && ((⟨((lx.drop 2).take (taken (rtextErr lx) (num (lx.take 2)))).toArray⟩ : ByteArray).toList == tx.toList)) (taken (rtextErr lx) (2 + num (lx.take 2))) := by
  have hout : outOf ⟨2, sz, nn, tx⟩ = textOut tx := rfl
  constructor
  · intro hok hp
    obtain ⟨hs, ho⟩ := textErr_zero (s := tx) (by simpa [okOf] using hok)
    rw [hout, ho] at hp
    obtain ⟨t, rfl⟩ := hp
    have hnum : num ((be 2 tx.size ++ tx.data.toList ++ t).take 2) = tx.size := by
      have := List.take_left (l₁ := be 2 tx.size) (l₂ := tx.data.toList ++ t)
      rw [be_length] at this
      rw [List.append_assoc, this, num_be, Nat.mod_eq_of_lt (by omega)]
    have hdrop : (be 2 tx.size ++ tx.data.toList ++ t).drop 2 = tx.data.toList ++ t := by
      have := List.drop_left (l₁ := be 2 tx.size) (l₂ := tx.data.toList ++ t)
      rw [be_length] at this
      rw [List.append_assoc, this]
    have he : rtextErr (be 2 tx.size ++ tx.data.toList ++ t) = 0 := by
      unfold rtextErr
      rw [hnum, List.length_append, List.length_append, be_length, size_list]
      rw [if_neg (by omega), if_neg (by omega)]
    rw [he, hnum, hdrop, show taken 0 tx.size = tx.size from rfl]
    simp only [Bool.and_eq_true]
    refine ⟨rfl, bytes_eq.2 ?_⟩
    have := List.take_left (l₁ := tx.data.toList) (l₂ := t)
    rwa [size_list] at this
  · intro hok hrk
    obtain ⟨hs, ho⟩ := textErr_zero (s := tx) (by simpa [okOf] using hok)
    simp only [Bool.and_eq_true] at hrk
    have h0 : rtextErr lx = 0 := by simpa using hrk.1
    have hle := rtext_le lx
    have hstr := bytes_eq.1 hrk.2
    rw [h0] at hle hstr ⊢
    rw [show ∀ n, taken 0 n = n from fun n => rfl] at hle hstr ⊢
    refine ⟨?_, hle⟩
    rw [hout, ho, List.length_append, be_length, size_list, ← size_list tx, ← hstr, List.length_take, List.length_drop]
    omega

theorem match_raw (o : Cal) (h0 : o.kind ≠ 0) (h1 : o.kind ≠ 1) (h2 : o.kind ≠ 2) (lx : List UInt8) :
    Match o lx (rrawErr o.s.size lx == 0 && ((⟨(lx.take (taken (rrawErr o.s.size lx) o.s.size)).toArray⟩ : ByteArray).toList == o.s.toList)) (taken (rrawErr o.s.size lx) o.s.size) := by
  constructor
  · intro hok hp
    have h3 : o.kind = 3 := by
      by_cases h3 : o.kind = 3
      · exact h3
      · simp [okOf, h0, h1, h2, h3] at hok
    have hout : outOf o = o.s.data.toList := by simp [outOf, h3]
    rw [hout] at hp
    obtain ⟨t, rfl⟩ := hp
    have he : rrawErr o.s.size (o.s.data.toList ++ t) = 0 := by
      unfold rrawErr
      rw [List.length_append, size_list, if_neg (by omega), if_neg (by omega)]
    rw [he, show taken 0 o.s.size = o.s.size from rfl]
    simp only [Bool.and_eq_true]
    refine ⟨rfl, bytes_eq.2 ?_⟩
    have := List.take_left (l₁ := o.s.data.toList) (l₂ := t)
    rwa [size_list] at this
  · intro hok hrk
    have h3 : o.kind = 3 := by
      by_cases h3 : o.kind = 3
      · exact h3
      · simp [okOf, h0, h1, h2, h3] at hok
    have hout : outOf o = o.s.data.toList := by simp [outOf, h3]
    simp only [Bool.and_eq_true] at hrk
    have e0 : rrawErr o.s.size lx = 0 := by simpa using hrk.1
    have hle := rraw_le o.s.size lx
    rw [show (((o.s.size : Nat) : Int)).toNat = o.s.size from by simp] at hle
    rw [e0] at hle ⊢
    rw [hout, size_list]
    exact ⟨rfl, hle⟩

/-- What 'read' has told. -/
def ReadTold (w : World) (b : Nat) (A : Option Addr) (o : Cal) (lx : List UInt8) (e : Ending) (w' : World) : Prop :=
  ∃ rk T, e = .returned (.bool rk) ∧ Took w w' b A (lx.drop T) ∧ Match o lx rk T

theorem Took.later {w w1 w2 : World} {b : Nat} {A : Option Addr} {l : List UInt8} (hb : Below w.heap.size w w1) (h : Took w1 w2 b A l) : Took w w2 b A l := by
  obtain ⟨A', c', h1, h2, h3⟩ := h
  exact ⟨A', c', h1, h2, (Keep.of_below (S := fun k => k = b) hb).trans h3 (fun _ _ h => h)⟩

end Go.Proofs.Ytpededkfgjmhcaa

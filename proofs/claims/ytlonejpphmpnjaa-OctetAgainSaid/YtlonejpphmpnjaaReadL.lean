/-
  The laws' own 'read': is what a call wrote what is read?
-/
import Derived.Test.YtlonejpphmpnjaaWriteL
namespace Go.Proofs.Ytlonejpphmpnjaa
open Go.RowKit

/-- rk: whether what o wrote was read off lx; T: how many bytes were taken. -/
def Match (o : Cal) (lx : List UInt8) (rk : Bool) (T : Nat) : Prop :=
  (okOf o = true → outOf o <+: lx → rk = true) ∧ (okOf o = true → rk = true → T = (outOf o).length ∧ T ≤ lx.length)

theorem numErr_zero {size : Int} {n : Nat} (h : numErr size n = 0) : ∃ k : Nat, size = k ∧ sized size = true ∧ n < 256 ^ k ∧ numOut size n = be k n := by
  have ho : numOut size n = be size.toNat n := by simp [numOut, h]
  unfold numErr at h
  by_cases hs : sized size = true
  · rw [if_pos hs] at h
    obtain ⟨k, rfl, _⟩ := sized_nat hs
    by_cases hf : fitsB ((k : Int)).toNat n = true
    · exact ⟨k, rfl, hs, by simpa [fitsB] using hf, by simpa using ho⟩
    · rw [if_neg hf] at h; omega
  · rw [if_neg hs] at h; omega

theorem match_num (sz : Int) (nn : Nat) (tx : ByteArray) (lx : List UInt8) :
    Match ⟨0, sz, nn, tx⟩ lx (rnumErr sz lx == 0 && num (lx.take (taken (rnumErr sz lx) sz.toNat)) == nn) (taken (rnumErr sz lx) sz.toNat) := by
  have hout : outOf ⟨0, sz, nn, tx⟩ = numOut sz nn := rfl
  constructor
  · intro hok hp
    obtain ⟨k, rfl, hs, hn, ho⟩ := numErr_zero (n := nn) (size := sz) (by simpa [okOf] using hok)
    rw [hout, ho] at hp
    obtain ⟨t, rfl⟩ := hp
    have he : rnumErr k (be k nn ++ t) = 0 := by simp [rnumErr, hs, be_length]
    rw [he, show taken 0 ((k : Int)).toNat = k from by simp [taken]]
    have : (be k nn ++ t).take k = be k nn := by
      have := List.take_left (l₁ := be k nn) (l₂ := t)
      rwa [be_length] at this
    rw [this, num_be, Nat.mod_eq_of_lt hn]
    simp
  · intro hok hrk
    obtain ⟨k, rfl, hs, hn, ho⟩ := numErr_zero (n := nn) (size := sz) (by simpa [okOf] using hok)
    simp only [Bool.and_eq_true, beq_iff_eq] at hrk
    rw [hout, ho, be_length]
    have hle := rnum_le k lx
    rw [hrk.1] at hle ⊢
    exact ⟨by simp [taken], hle⟩

theorem wrap64_mod (x : Int) (h1 : -9223372036854775808 ≤ x) (h2 : x ≤ 9223372036854775807) : wrap64 (((x % 18446744073709551616).toNat : Nat) : Int) = x := by
  rw [Int.toNat_of_nonneg (by omega)]
  unfold wrap64
  omega
theorem wrap64_bounds (x : Int) : -9223372036854775808 ≤ wrap64 x ∧ wrap64 x ≤ 9223372036854775807 := by
  unfold wrap64
  omega

theorem match_int (sz : Int) (nn : Nat) (tx : ByteArray) (lx : List UInt8) :
    Match ⟨1, sz, nn, tx⟩ lx (rnumErr 8 lx == 0 && wrap64 (num (lx.take (taken (rnumErr 8 lx) 8))) == wrap64 nn) (taken (rnumErr 8 lx) 8) := by
  have hout : outOf ⟨1, sz, nn, tx⟩ = be 8 (wrap64 nn % 18446744073709551616).toNat := rfl
  constructor
  · intro hok hp
    rw [hout] at hp
    obtain ⟨t, rfl⟩ := hp
    have he : rnumErr 8 (be 8 (wrap64 nn % 18446744073709551616).toNat ++ t) = 0 := by simp [rnumErr, sized, be_length]
    rw [he, show taken 0 8 = 8 from rfl]
    have : (be 8 (wrap64 nn % 18446744073709551616).toNat ++ t).take 8 = be 8 (wrap64 nn % 18446744073709551616).toNat := by
      have := List.take_left (l₁ := be 8 (wrap64 nn % 18446744073709551616).toNat) (l₂ := t)
      rwa [be_length] at this
    have hb := wrap64_bounds nn
    rw [this, num_be, Nat.mod_eq_of_lt (by omega), wrap64_mod _ hb.1 hb.2]
    simp
  · intro hok hrk
    simp only [Bool.and_eq_true, beq_iff_eq] at hrk
    rw [hout, be_length]
    have hle := rnum_le 8 lx
    rw [show ((8 : Int)).toNat = 8 from rfl] at hle
    rw [hrk.1] at hle ⊢
    exact ⟨rfl, hle⟩

theorem textErr_zero {s : ByteArray} (h : textErr s = 0) : s.size ≤ 65535 ∧ textOut s = be 2 s.size ++ s.data.toList := by
  unfold textErr at h
  by_cases h6 : 65535 < s.size
  · rw [if_pos h6] at h; omega
  · exact ⟨by omega, by simp [textOut, h6]⟩
theorem bytes_eq {l : List UInt8} {s : ByteArray} : ((⟨l.toArray⟩ : ByteArray).toList == s.toList) = true ↔ l = s.data.toList := by
  rw [beq_iff_eq, ByteArray.toList_eq, ByteArray.toList_eq]

theorem match_text (sz : Int) (nn : Nat) (tx : ByteArray) (lx : List UInt8) :
    Match ⟨2, sz, nn, tx⟩ lx (rtextErr lx == 0 && ((⟨((lx.drop 2).take (taken (rtextErr lx) (num (lx.take 2)))).toArray⟩ : ByteArray).toList == tx.toList)) (taken (rtextErr lx) (2 + num (lx.take 2))) := by
  have hout : outOf ⟨2, sz, nn, tx⟩ = textOut tx := rfl
  constructor
  · intro hok hp
    obtain ⟨hs, ho⟩ := textErr_zero (s := tx) (by simpa [okOf] using hok)
    rw [hout, ho] at hp
    obtain ⟨t, rfl⟩ := hp
    have hnum : num ((be 2 tx.size ++ tx.data.toList ++ t).take 2) = tx.size := by
      have := List.take_left (l₁ := be 2 tx.size) (l₂ := tx.data.toList ++ t)
      rw [be_length] at this
      rw [List.append_assoc, this, num_be, Nat.mod_eq_of_lt (by omega)]
    have hdrop : (be 2 tx.size ++ tx.data.toList ++ t).drop 2 = tx.data.toList ++ t := by
      have := List.drop_left (l₁ := be 2 tx.size) (l₂ := tx.data.toList ++ t)
      rw [be_length] at this
      rw [List.append_assoc, this]
    have he : rtextErr (be 2 tx.size ++ tx.data.toList ++ t) = 0 := by
      unfold rtextErr
      rw [hnum, List.length_append, List.length_append, be_length, size_list]
      rw [if_neg (by omega), if_neg (by omega)]
    rw [he, hnum, hdrop, show taken 0 tx.size = tx.size from rfl]
    simp only [Bool.and_eq_true]
    refine ⟨rfl, bytes_eq.2 ?_⟩
    have := List.take_left (l₁ := tx.data.toList) (l₂ := t)
    rwa [size_list] at this
  · intro hok hrk
    obtain ⟨hs, ho⟩ := textErr_zero (s := tx) (by simpa [okOf] using hok)
    simp only [Bool.and_eq_true] at hrk
    have h0 : rtextErr lx = 0 := by simpa using hrk.1
    have hle := rtext_le lx
    have hstr := bytes_eq.1 hrk.2
    rw [h0] at hle hstr ⊢
    rw [show ∀ n, taken 0 n = n from fun n => rfl] at hle hstr ⊢
    refine ⟨?_, hle⟩
    rw [hout, ho, List.length_append, be_length, size_list, ← size_list tx, ← hstr, List.length_take, List.length_drop]
    omega

theorem match_raw (o : Cal) (h0 : o.kind ≠ 0) (h1 : o.kind ≠ 1) (h2 : o.kind ≠ 2) (lx : List UInt8) :
    Match o lx (rrawErr o.s.size lx == 0 && ((⟨(lx.take (taken (rrawErr o.s.size lx) o.s.size)).toArray⟩ : ByteArray).toList == o.s.toList)) (taken (rrawErr o.s.size lx) o.s.size) := by
  constructor
  · intro hok hp
    have h3 : o.kind = 3 := by
      by_cases h3 : o.kind = 3
      · exact h3
      · simp [okOf, h0, h1, h2, h3] at hok
    have hout : outOf o = o.s.data.toList := by simp [outOf, h3]
    rw [hout] at hp
    obtain ⟨t, rfl⟩ := hp
    have he : rrawErr o.s.size (o.s.data.toList ++ t) = 0 := by
      unfold rrawErr
      rw [List.length_append, size_list, if_neg (by omega), if_neg (by omega)]
    rw [he, show taken 0 o.s.size = o.s.size from rfl]
    simp only [Bool.and_eq_true]
    refine ⟨rfl, bytes_eq.2 ?_⟩
    have := List.take_left (l₁ := o.s.data.toList) (l₂ := t)
    rwa [size_list] at this
  · intro hok hrk
    have h3 : o.kind = 3 := by
      by_cases h3 : o.kind = 3
      · exact h3
      · simp [okOf, h0, h1, h2, h3] at hok
    have hout : outOf o = o.s.data.toList := by simp [outOf, h3]
    simp only [Bool.and_eq_true] at hrk
    have e0 : rrawErr o.s.size lx = 0 := by simpa using hrk.1
    have hle := rraw_le o.s.size lx
    rw [show (((o.s.size : Nat) : Int)).toNat = o.s.size from by simp] at hle
    rw [e0] at hle ⊢
    rw [hout, size_list]
    exact ⟨rfl, hle⟩

/-- What 'read' has told. -/
def ReadTold (w : World) (b : Nat) (A : Option Addr) (o : Cal) (lx : List UInt8) (e : Ending) (w' : World) : Prop :=
  ∃ rk T, e = .returned (.bool rk) ∧ Took w w' b A (lx.drop T) ∧ Match o lx rk T

theorem Took.later {w w1 w2 : World} {b : Nat} {A : Option Addr} {l : List UInt8} (hb : Below w.heap.size w w1) (h : Took w1 w2 b A l) : Took w w2 b A l := by
  obtain ⟨A', c', h1, h2, h3⟩ := h
  exact ⟨A', c', h1, h2, (Keep.of_below (S := fun k => k = b) hb).trans h3 (fun _ _ h => h)⟩

set_option maxHeartbeats 4000000 in
theorem read_any (w : World) (b c : Nat) (A : Option Addr) (lx : List UInt8) (hr : Rd w b A c lx) (hlx : lx.length ≤ 140737488355328) (o : Cal) (hF : o.Fine) :
    Calls Try.prog 31 #[.pointer (some ⟨b, 0, none⟩), .agg #[.int .i64 o.kind, .int .i64 o.size, .int .u64 o.n, .string o.s]] w (ReadTold w b A o lx) := by
  obtain ⟨kd, sz, nn, tx⟩ := o
  obtain ⟨q1, q2, q3, q4, q5, q6⟩ := hF
  simp only at q1 q2 q3 q4 q5 q6
  have hbx : Below w.heap.size w (w.alloc (.cells #[.int .i64 kd, .int .i64 sz, .int .u64 nn, .string tx] 30)) := (Below.refl _ _).alloc (Nat.le_refl _) _
  have hx := Blk.new w 30 #[.int .i64 kd, .int .i64 sz, .int .u64 nn, .string tx]
  have hw2 : Rd (w.alloc (.cells #[.int .i64 kd, .int .i64 sz, .int .u64 nn, .string tx] 30)) b A c lx := hr.keep (Keep.of_below (S := fun _ => False) hbx) (fun h => h) (fun _ _ h => h)
  have hX : ∀ w3, Keep (fun k => k = b) (w.alloc (.cells #[.int .i64 kd, .int .i64 sz, .int .u64 nn, .string tx] 30)) w3 → Blk w3 w.heap.size 30 #[.int .i64 kd, .int .i64 sz, .int .u64 nn, .string tx] :=
    fun w3 hk => hk.blk hx (fun h => by have := hr.blk.lt; omega)
  have HBX := Lib.hid hbx
  have HW2 := Lib.hid hw2
  have HX := Lib.hid hX
  clear hbx hw2 hr hx hX
  by_cases k0 : kd = 0
  · subst k0
    have h1 := rnum_total _ _ _ _ _ HW2.out sz q3 q4
    have hm := match_num sz nn tx lx
    generalize rnumErr sz lx = er at h1 hm
    generalize taken er sz.toNat = T at h1 hm
    generalize num (lx.take T) = V at h1 hm
    have H1 := Lib.hid h1
    by_cases he : er = 0
    · subst he
      have hv : (((V : Int) == (nn : Int)) = (0 == (0 : Int) && V == nn)) := by rw [Bool.eq_iff_iff]; simp; omega
      have HM : Hid (Match ⟨0, sz, nn, tx⟩ lx ((V : Int) == (nn : Int)) T) := Lib.hid (by rw [hv]; exact hm)
      clear h1 hm hv
      go_enter Try.func31, Try.ntmps31
      go_wp2_with (go_at_call 20; refine H1.out.mono ?_; rintro e w3 ⟨rfl, hT⟩; have hb3 := HX.out w3 (by obtain ⟨_, _, _, _, g3⟩ := hT; exact g3); have y2 : w3.cell? ⟨w.heap.size, 2, none⟩ = some (.int .u64 nn) := hb3.cell 2; have HT := Lib.hid hT; clear hb3 hT)
      go_ret
      exact ⟨_, T, rfl, HT.out.later HBX.out, HM.out⟩
    · have hb0 : (er == 0) = false := by simpa using he
      have HM : Hid (Match ⟨0, sz, nn, tx⟩ lx false T) := Lib.hid (by rw [hb0] at hm; exact hm)
      clear h1 hm he
      go_enter Try.func31, Try.ntmps31
      go_wp2_with (go_at_call 20; refine H1.out.mono ?_; rintro e w3 ⟨rfl, hT⟩; have hb3 := HX.out w3 (by obtain ⟨_, _, _, _, g3⟩ := hT; exact g3); have y2 : w3.cell? ⟨w.heap.size, 2, none⟩ = some (.int .u64 nn) := hb3.cell 2; have HT := Lib.hid hT; clear hb3 hT)
      go_ret
      exact ⟨_, T, rfl, HT.out.later HBX.out, HM.out⟩
  by_cases k1 : kd = 1
  · subst k1
    have h1 := rint_any _ _ _ _ _ HW2.out
    have hm := match_int sz nn tx lx
    generalize rnumErr 8 lx = er at h1 hm
    generalize taken er 8 = T at h1 hm
    generalize num (lx.take T) = V at h1 hm
    have H1 := Lib.hid h1
    by_cases he : er = 0
    · subst he
      have HM : Hid (Match ⟨1, sz, nn, tx⟩ lx (wrap64 (V : Int) == wrap64 (nn : Int)) T) := Lib.hid (by simpa using hm)
      clear h1 hm
      go_enter Try.func31, Try.ntmps31
      go_wp2_with (go_at_call 22; refine H1.out.mono ?_; rintro e w3 ⟨rfl, hT⟩; have hb3 := HX.out w3 (by obtain ⟨_, _, _, _, g3⟩ := hT; exact g3); have y2 : w3.cell? ⟨w.heap.size, 2, none⟩ = some (.int .u64 nn) := hb3.cell 2; have HT := Lib.hid hT; clear hb3 hT)
      go_ret
      exact ⟨_, T, rfl, HT.out.later HBX.out, HM.out⟩
    · have hb0 : (er == 0) = false := by simpa using he
      have HM : Hid (Match ⟨1, sz, nn, tx⟩ lx false T) := Lib.hid (by rw [hb0] at hm; exact hm)
      clear h1 hm he
      go_enter Try.func31, Try.ntmps31
      go_wp2_with (go_at_call 22; refine H1.out.mono ?_; rintro e w3 ⟨rfl, hT⟩; have hb3 := HX.out w3 (by obtain ⟨_, _, _, _, g3⟩ := hT; exact g3); have y2 : w3.cell? ⟨w.heap.size, 2, none⟩ = some (.int .u64 nn) := hb3.cell 2; have HT := Lib.hid hT; clear hb3 hT)
      go_ret
      exact ⟨_, T, rfl, HT.out.later HBX.out, HM.out⟩
  by_cases k2 : kd = 2
  · subst k2
    have h1 := rtext_total _ _ _ _ _ HW2.out hlx
    have hm := match_text sz nn tx lx
    generalize ((lx.drop 2).take (taken (rtextErr lx) (num (lx.take 2)))).toArray = V at h1 hm
    generalize rtextErr lx = er at h1 hm
    generalize taken er (2 + num (lx.take 2)) = T at h1 hm
    have H1 := Lib.hid h1
    by_cases he : er = 0
    · subst he
      have HM : Hid (Match ⟨2, sz, nn, tx⟩ lx ((⟨V⟩ : ByteArray).toList == tx.toList) T) := Lib.hid (by simpa using hm)
      clear h1 hm
      go_enter Try.func31, Try.ntmps31
      go_wp2_with (go_at_call 23; refine H1.out.mono ?_; rintro e w3 ⟨rfl, hT⟩; have hb3 := HX.out w3 (by obtain ⟨_, _, _, _, g3⟩ := hT; exact g3); have y2 : w3.cell? ⟨w.heap.size, 3, none⟩ = some (.string tx) := hb3.cell 3; have HT := Lib.hid hT; clear hb3 hT)
      go_ret
      exact ⟨_, T, rfl, HT.out.later HBX.out, HM.out⟩
    · have hb0 : (er == 0) = false := by simpa using he
      have HM : Hid (Match ⟨2, sz, nn, tx⟩ lx false T) := Lib.hid (by rw [hb0] at hm; exact hm)
      clear h1 hm he
      go_enter Try.func31, Try.ntmps31
      go_wp2_with (go_at_call 23; refine H1.out.mono ?_; rintro e w3 ⟨rfl, hT⟩; have hb3 := HX.out w3 (by obtain ⟨_, _, _, _, g3⟩ := hT; exact g3); have y2 : w3.cell? ⟨w.heap.size, 3, none⟩ = some (.string tx) := hb3.cell 3; have HT := Lib.hid hT; clear hb3 hT)
      go_ret
      exact ⟨_, T, rfl, HT.out.later HBX.out, HM.out⟩
  · have b0 : (kd == 0) = false := by simpa using k0
    have b1 : (kd == 1) = false := by simpa using k1
    have b2 : (kd == 2) = false := by simpa using k2
    have h1 := rraw_total _ _ _ _ _ HW2.out hlx tx.size (by omega) (by omega)
    have hm := match_raw ⟨kd, sz, nn, tx⟩ k0 k1 k2 lx
    unfold RawTold at h1
    simp only at hm
    rw [show (((tx.size : Nat) : Int)).toNat = tx.size from by simp] at h1
    generalize rrawErr tx.size lx = er at h1 hm
    generalize taken er tx.size = T at h1 hm
    generalize lx.take T = V at h1 hm
    have H1 := Lib.hid h1
    by_cases he : er = 0
    · subst he
      have hV : (⟨V.toArray⟩ : ByteArray).toList = V := by rw [ByteArray.toList_eq]
      rw [hV] at hm
      have HM : Hid (Match ⟨kd, sz, nn, tx⟩ lx (V == tx.toList) T) := Lib.hid (by simpa using hm)
      clear h1 hm hV k0 k1 k2
      go_enter Try.func31, Try.ntmps31
      go_wp2_with (go_at_call 25; refine H1.out.mono ?_; rintro e w3 ⟨A7, c7, rfl, hT, ho⟩; have hb3 := HX.out w3 (by obtain ⟨_, _, _, _, g3⟩ := hT; exact g3); have y2 : w3.cell? ⟨w.heap.size, 3, none⟩ = some (.string tx) := hb3.cell 3; have HT := Lib.hid hT; have cv : (convert 24 9 (.slice A7 T c7)).run Try.prog w3 = .ok (.string ⟨V.toArray⟩) w3 := conv_reads c7 (Reads.of_own ho); clear hb3 hT ho)
      go_ret
      exact ⟨_, T, rfl, HT.out.later HBX.out, HM.out⟩
    · have hb0 : (er == 0) = false := by simpa using he
      have HM : Hid (Match ⟨kd, sz, nn, tx⟩ lx false T) := Lib.hid (by rw [hb0] at hm; exact hm)
      clear h1 hm he k0 k1 k2
      go_enter Try.func31, Try.ntmps31
      go_wp2_with (go_at_call 25; refine H1.out.mono ?_; rintro e w3 ⟨A7, c7, rfl, hT, ho⟩; have hb3 := HX.out w3 (by obtain ⟨_, _, _, _, g3⟩ := hT; exact g3); have y2 : w3.cell? ⟨w.heap.size, 3, none⟩ = some (.string tx) := hb3.cell 3; have HT := Lib.hid hT; have cv : (convert 24 9 (.slice A7 T c7)).run Try.prog w3 = .ok (.string ⟨V.toArray⟩) w3 := conv_reads c7 (Reads.of_own ho); clear hb3 hT ho)
      go_ret
      exact ⟨_, T, rfl, HT.out.later HBX.out, HM.out⟩

end Go.Proofs.Ytlonejpphmpnjaa

/-
  The document's own answers for what is written: Sized, Num, Int, Text.
  The document's own answers for what is read: Take, Whole, Get, GetText, GetRaw.
-/
import Derived.Test.YtdjneiboeehclaaRText
namespace Go.Proofs.Ytdjneiboeehclaa
open Go.RowKit

theorem sizedR_any (size : Int) (w : World) (h1 : -9223372036854775808 ≤ size) (h2 : size ≤ 9223372036854775807) :
    Calls Try.prog 47 #[.int .i64 size] w fun e w' => e = .returned (.bool (sized size)) ∧ w = w' := by
  unfold sized
  by_cases a1 : size = 1
  · subst a1
    go_enter Try.func47, Try.ntmps47
    go_wp2
    go_ret
    exact ⟨rfl, rfl⟩
  by_cases a2 : size = 2
  · subst a2
    go_enter Try.func47, Try.ntmps47
    go_wp2
    go_ret
    exact ⟨rfl, rfl⟩
  by_cases a4 : size = 4
  · subst a4
    go_enter Try.func47, Try.ntmps47
    go_wp2
    go_ret
    exact ⟨rfl, rfl⟩
  by_cases a8 : size = 8
  · subst a8
    go_enter Try.func47, Try.ntmps47
    go_wp2
    go_ret
    exact ⟨rfl, rfl⟩
  have b1 : (size == 1) = false := by simpa using a1
  have b2 : (size == 2) = false := by simpa using a2
  have b4 : (size == 4) = false := by simpa using a4
  have b8 : (size == 8) = false := by simpa using a8
  go_enter Try.func47, Try.ntmps47
  go_wp2
  go_ret
  exact ⟨by simp [a1, a2, a4, a8], rfl⟩

set_option maxRecDepth 100000 in
set_option maxHeartbeats 1000000 in
theorem refnum_loop (w : World) (size n : Nat) (hs : size = 1 ∨ size = 2 ∨ size = 4 ∨ size = 8) (hn : n < 18446744073709551616) :
    Calls Try.prog 32 #[.int .i64 size, .int .u64 n] w fun e w' => ∃ v, e = .returned (.tuple #[v, .int .i64 (numErr size n)]) ∧ Gives w w' v (numOut size n) := by
  obtain ⟨i0, hi, hz0, hz1, hz2⟩ := info_parts infoU8
  have hsz := sized_of hs
  have HS := Lib.hid (sizedR_any size w (by omega) (by omega))
  rw [hsz] at HS
  have h8 : size ≤ 8 := by omega
  have H := Lib.hid hs
  have HZ := Lib.hid hsz
  clear hs hsz
  go_enter Try.func32, Try.ntmps32
  go_wp2_with (go_at_call 47; refine HS.out.mono ?_; rintro e w' ⟨rfl, rfl⟩)
  go_loopw [1, 6, 7] (fun m out i wr => ∃ k, k ≤ size ∧ i = .int .i64 k ∧ m = .int .u64 ((n / 256 ^ k : Nat) : Int) ∧ Gives w wr out (be k n)) (fun _ _ i _ => size - (intOf i).toNat)
  case atStart => exact ⟨0, Nat.zero_le _, rfl, by simp, Gives.nil w⟩
  case round =>
    obtain ⟨k, hk, rfl, rfl, A, c, rfl, hown, hB⟩ := hrel
    have hq : n / 256 ^ k < 18446744073709551616 := Nat.lt_of_le_of_lt (Nat.div_le_self _ _) hn
    have hbl := be_length k n
    by_cases hlt : k < size
    · have HO := Lib.hid hown
      have HB := Lib.hid hB
      have HL := Lib.hid hbl
      clear hown hB hbl
      obtain ⟨q, hqq⟩ : ∃ q : Nat, n / 256 ^ k = q := ⟨_, rfl⟩
      have hx : bv (lowByte n k) = .int .u8 ((q : Int) % 256) := by
        unfold bv
        rw [lowByte_toNat, hqq]
        simp
      have hq2 : n / 256 ^ (k + 1) = q / 256 := by rw [Nat.pow_succ, ← Nat.div_div_eq_div_mul, hqq]
      rw [hqq]
      rw [hqq] at hq
      have HX := Lib.hid hx
      have HQ := Lib.hid hq2
      clear hx hqq hq2
      have hr := Reads.of_own HO.out
      have HR := Lib.hid hr
      have hob := own_one wr w.heap.size HB.out.size (.int .u8 ((q : Int) % 256))
      have HOB := Lib.hid hob
      clear hr hob
      go_wp2_with (at_builtin; refine wpList_append_any _ rfl _ _ 24 rfl w.heap.size 5 i0 (.int .u8 0) 1 1 Try.underlying24 hi hz0 hz1 hz2 rfl (by decide) _ 1 [.int .u8 ((q : Int) % 256)] rfl HOB.out wr.heap.size A (be k n).length c ((be k n).map bv) rfl (HR.out.alloc (Nat.le_refl _) _) (bv_one _) (by rw [HL.out]; unfold maxLen; omega) (by rw [HL.out]; omega) (by simp; exact Nat.le_succ_of_le HB.out.size) ?_)
      intro v' w1 hown hgrow hat
      have hg2 : Gives w w1 v' (be (k + 1) n) := by
        rw [HL.out] at hown
        have hB1 : Below w.heap.size w w1 := (HB.out.alloc HB.out.size _).grown hgrow (by simp; exact Nat.le_succ_of_le HB.out.size) (by intro g e; simp [Value.ownBlock] at e; have := HB.out.size; omega)
        rw [← HX.out, ← List.map_cons, ← be_succ, Nat.add_comm] at hown
        rcases hown.2 with ⟨_, h0⟩ | ⟨g, cap, cur, e, _⟩
        · omega
        · refine ⟨some ⟨g, 0, none⟩, cap, by rw [be_length]; exact e, ?_, hB1⟩
          rw [be_length, ← e]
          exact hown
      have HG2 := Lib.hid hg2
      clear hown hgrow hat hg2
      go_wp2
      refine ⟨⟨k + 1, by omega, by go_num, by rw [HQ.out]; go_num, HG2.out⟩, by simp [intOf]; omega⟩
    · obtain rfl : k = size := by omega
      have HG : Hid (Gives w wr (.slice A (be k n).length c) (be k n)) := Lib.hid ⟨A, c, rfl, hown, hB⟩
      clear hown hB hbl
      by_cases hf : n < 256 ^ k
      · have hq0 : n / 256 ^ k = 0 := Nat.div_eq_of_lt hf
        have he : numErr k n = 0 := by simp [numErr, HZ.out, fitsB, hf]
        have ho : numOut k n = be k n := by simp [numOut, he]
        have HE := Lib.hid he
        have HO := Lib.hid ho
        rw [hq0]
        clear he ho hq0 hf hq
        go_wp2
        go_ret2
        exact ⟨_, by rw [HE.out]; rfl, by rw [HO.out]; exact HG.out⟩
      · have hq0 : 1 ≤ n / 256 ^ k := Nat.div_pos (by omega) (Nat.pow_pos (by decide))
        have he : numErr k n = 10 := by simp [numErr, HZ.out, fitsB, hf]
        have ho : numOut k n = [] := by simp [numOut, he]
        have HE := Lib.hid he
        have HO := Lib.hid ho
        obtain ⟨q, hqq⟩ : ∃ q : Nat, n / 256 ^ k = q := ⟨_, rfl⟩
        rw [hqq] at hq0 hq ⊢
        clear he ho hf hqq
        go_wp2
        go_ret2
        refine ⟨_, by rw [HE.out]; rfl, ?_⟩
        rw [HO.out]
        obtain ⟨_, _, _, _, hB⟩ := HG.out
        exact ⟨none, 0, rfl, World.ownsRow_nil _ _ _ _, hB⟩

theorem refnum_any (w : World) (size : Int) (n : Nat) (h1 : -9223372036854775808 ≤ size) (h2 : size ≤ 9223372036854775807) (hn : n < 18446744073709551616) :
    Calls Try.prog 32 #[.int .i64 size, .int .u64 n] w fun e w' => ∃ v, e = .returned (.tuple #[v, .int .i64 (numErr size n)]) ∧ Gives w w' v (numOut size n) := by
  cases hs : sized size
  · have HS := Lib.hid (sizedR_any size w h1 h2)
    rw [hs] at HS
    have he : numErr size n = 2 := by simp [numErr, hs]
    have ho : numOut size n = [] := by simp [numOut, he]
    have HE := Lib.hid he
    have HO := Lib.hid ho
    clear he ho hs
    go_enter Try.func32, Try.ntmps32
    go_wp2_with (go_at_call 47; refine HS.out.mono ?_; rintro e w' ⟨rfl, rfl⟩)
    go_ret2
    exact ⟨_, by rw [HE.out]; rfl, by rw [HO.out]; exact Gives.nil w⟩
  · obtain ⟨k, rfl, hk⟩ := sized_nat hs
    exact refnum_loop w k n hk hn

theorem refint_any (w : World) (n : Int) :
    Calls Try.prog 33 #[.int .i64 n] w fun e w' => ∃ v, e = .returned v ∧ Gives w w' v (be 8 (n % 18446744073709551616).toNat) := by
  have hc := refnum_any w 8 (n % 18446744073709551616).toNat (by omega) (by omega) (by omega)
  have he : numErr 8 (n % 18446744073709551616).toNat = 0 := by
    simp [numErr, sized, fitsB]
    omega
  have ho : numOut 8 (n % 18446744073709551616).toNat = be 8 (n % 18446744073709551616).toNat := by simp [numOut, he]
  rw [he, ho, ← wrap_u64] at hc
  have H := Lib.hid hc
  clear hc he ho
  go_enter Try.func33, Try.ntmps33
  go_wp2_with (go_at_call 32; refine H.out.mono ?_; rintro e w1 ⟨v, rfl, hg⟩)
  go_ret
  exact ⟨_, rfl, hg⟩

/-- A text's error and bytes. -/
def textErr (s : ByteArray) : Int := if 65535 < s.size then 10 else 0
def textOut (s : ByteArray) : List UInt8 := if 65535 < s.size then [] else be 2 s.size ++ s.data.toList

end Go.Proofs.Ytdjneiboeehclaa

namespace Go.Proofs.Ytdjneiboeehclaa
open Go.RowKit

set_option maxHeartbeats 1000000 in
theorem whole_any (w : World) (A : Option Addr) (c : Nat) (l : List UInt8) (hr : Reads w w.heap.size 1 A l.length (l.map bv)) (hl : l.length ≤ 8) :
    Calls Try.prog 35 #[.slice A l.length c] w fun e w' => e = .returned (.int .u64 (num l)) ∧ w = w' := by
  have HR := Lib.hid hr
  clear hr
  go_enter Try.func35, Try.ntmps35
  go_wp2
  go_loop [3, 4] (fun m i => ∃ k, k ≤ l.length ∧ i = .int .i64 k ∧ m = .int .u64 (num (l.take k))) (fun _ i => l.length - (intOf i).toNat)
  case atStart => exact ⟨0, Nat.zero_le _, rfl, rfl⟩
  case round =>
    obtain ⟨k, hk, rfl, rfl⟩ := hrel
    by_cases hlt : k < l.length
    · obtain ⟨ad, v, rfl, _, hx, hc⟩ := HR.out.at_ hlt
      have hv : v = .int .u8 (l[k].toNat : Int) := by
        rw [List.getElem?_map, List.getElem?_eq_getElem hlt, Option.map_some] at hx
        injection hx with hx
        exact hx.symm
      subst hv
      have hb : num (l.take k) ≤ 72057594037927935 := by
        have h1 := num_lt (l.take k)
        have h2 : (l.take k).length ≤ 7 := by rw [List.length_take]; omega
        have h3 : 256 ^ (l.take k).length ≤ 256 ^ 7 := Nat.pow_le_pow_right (by omega) h2
        omega
      have hx8 : l[k].toNat < 256 := l[k].toNat_lt
      have HS : Hid (num (l.take (k + 1)) = num (l.take k) * 256 + l[k].toNat) := by
        have : l.take (k + 1) = l.take k ++ [l[k]] := List.take_succ_eq_append_getElem hlt
        exact Lib.hid (by rw [this, num_snoc])
      clear hx
      go_wp2
      refine ⟨⟨k + 1, by omega, by go_num, by rw [HS.out]; go_num⟩, by simp [intOf]; omega⟩
    · obtain rfl : k = l.length := by omega
      have HS : Hid (num (l.take l.length) = num l) := Lib.hid (by rw [List.take_length])
      rw [HS.out]
      go_wp2
      go_ret
      exact ⟨rfl, rfl⟩

end Go.Proofs.Ytdjneiboeehclaa

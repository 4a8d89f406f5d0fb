/-
  The document's own answers for what is read: Take, Whole, Get, GetText, GetRaw.
-/
import Derived.Test.YtlonejpphmpnjaaRef
namespace Go.Proofs.Ytlonejpphmpnjaa
open Go.RowKit

/-- A slice of bytes as an argument. -/
structure Arg (w : World) (A : Option Addr) (c : Nat) (l : List UInt8) : Prop where
  reads : Reads w w.heap.size 1 A l.length (l.map bv)
  cap : l.length ≤ c
  big : c ≤ 140737488355328
theorem Arg.below {w w' : World} {A : Option Addr} {c : Nat} {l : List UInt8} (h : Arg w A c l) (hb : Below w.heap.size w w') : Arg w' A c l := ⟨(h.reads.below hb).more hb.size, h.cap, h.big⟩

theorem take_no (w : World) (A : Option Addr) (c : Nat) (l : List UInt8) (h : Arg w A c l) (at_ n : Nat) (ha : at_ ≤ l.length) (hn : l.length - at_ < n) (hn2 : n ≤ 9223372036854775807) :
    Calls Try.prog 41 #[.slice A l.length c, .int .i64 at_, .int .i64 n] w fun e w' => e = .returned (.tuple #[.slice none 0 0, .bool false]) ∧ w = w' := by
  have h1 := h.cap
  have h2 := h.big
  have h3 : (l.length : Int) - at_ < n := by omega
  clear h
  go_enter Try.func41, Try.ntmps41
  go_wp2
  go_ret2
  exact ⟨rfl, rfl⟩

set_option maxHeartbeats 1000000 in
theorem take_yes (w : World) (A : Option Addr) (c : Nat) (l : List UInt8) (h : Arg w A c l) (at_ n : Nat) (hn : at_ + n ≤ l.length) :
    Calls Try.prog 41 #[.slice A l.length c, .int .i64 at_, .int .i64 n] w fun e w' => ∃ v, e = .returned (.tuple #[v, .bool true]) ∧ Gives w w' v ((l.drop at_).take n) := by
  obtain ⟨i0, hi, hz0, hz1, hz2⟩ := info_parts infoU8
  have h1 := h.cap
  have h2 := h.big
  have h3 : (n : Int) ≤ (l.length : Int) - at_ := by omega
  have hr := h.reads.cut (k := at_) (cap := c) (by omega) h1
  rw [Nat.mul_one, ← List.map_drop] at hr
  have hf := hr.front (k := n) (by omega)
  have hll : ((l.drop at_).take n).length = n := by rw [List.length_take, List.length_drop]; omega
  have HLL := Lib.hid hll
  have hf2 : Reads w w.heap.size 1 (if c = at_ then A else A.map (·.add at_)) (at_ + n - at_) (((l.drop at_).take n).map bv) := by rw [Nat.add_sub_cancel_left]; exact hf
  have HF := Lib.hid hf2
  clear hr hf hf2 hll h
  by_cases hc : c = at_
  · rw [if_pos hc] at HF
    subst hc
    go_enter Try.func41, Try.ntmps41
    go_wp2_with (at_builtin; refine wpList_append_any _ rfl _ _ 24 rfl w.heap.size 5 i0 (.int .u8 0) 1 1 Try.underlying24 hi hz0 hz1 hz2 rfl (by decide) _ 0 [] rfl (World.ownsRow_nil _ _ _ _) w.heap.size A (c + n - c) 0 (((l.drop c).take n).map bv) rfl HF.out (bv_one _) (by unfold maxLen; omega) (by omega) (Nat.le_refl _) ?_)
    intro v' w1 hown hgrow hat
    have HG : Hid (Gives w w1 v' ((l.drop c).take n)) := Lib.hid (Gives.of (n := n) (by simpa using hown) HLL.out ((Below.refl _ w).grown hgrow (Nat.le_refl _) (fun k e => by simp [Value.ownBlock] at e)))
    clear hown hgrow hat
    go_wp2
    go_ret2
    exact ⟨_, rfl, HG.out⟩
  · rw [if_neg hc] at HF
    have hc2 : at_ < c := by omega
    go_enter Try.func41, Try.ntmps41
    go_wp2_with (at_builtin; refine wpList_append_any _ rfl _ _ 24 rfl w.heap.size 5 i0 (.int .u8 0) 1 1 Try.underlying24 hi hz0 hz1 hz2 rfl (by decide) _ 0 [] rfl (World.ownsRow_nil _ _ _ _) w.heap.size (A.map (·.add at_)) (at_ + n - at_) (c - at_) (((l.drop at_).take n).map bv) rfl HF.out (bv_one _) (by unfold maxLen; omega) (by omega) (Nat.le_refl _) ?_)
    intro v' w1 hown hgrow hat
    have HG : Hid (Gives w w1 v' ((l.drop at_).take n)) := Lib.hid (Gives.of (n := n) (by simpa using hown) HLL.out ((Below.refl _ w).grown hgrow (Nat.le_refl _) (fun k e => by simp [Value.ownBlock] at e)))
    clear hown hgrow hat
    go_wp2
    go_ret2
    exact ⟨_, rfl, HG.out⟩

set_option maxHeartbeats 1000000 in
theorem whole_any (w : World) (A : Option Addr) (c : Nat) (l : List UInt8) (hr : Reads w w.heap.size 1 A l.length (l.map bv)) (hl : l.length ≤ 8) :
    Calls Try.prog 42 #[.slice A l.length c] w fun e w' => e = .returned (.int .u64 (num l)) ∧ w = w' := by
  have HR := Lib.hid hr
  clear hr
  go_enter Try.func42, Try.ntmps42
  go_wp2
  go_loop [3, 4] (fun m i => ∃ k, k ≤ l.length ∧ i = .int .i64 k ∧ m = .int .u64 (num (l.take k))) (fun _ i => l.length - (intOf i).toNat)
  case atStart => exact ⟨0, Nat.zero_le _, rfl, rfl⟩
  case round =>
    obtain ⟨k, hk, rfl, rfl⟩ := hrel
    by_cases hlt : k < l.length
    · obtain ⟨ad, v, rfl, _, hx, hc⟩ := HR.out.at_ hlt
      have hv : v = .int .u8 (l[k].toNat : Int) := by
        rw [List.getElem?_map, List.getElem?_eq_getElem hlt, Option.map_some] at hx
        injection hx with hx
        exact hx.symm
      subst hv
      have hb : num (l.take k) ≤ 72057594037927935 := by
        have h1 := num_lt (l.take k)
        have h2 : (l.take k).length ≤ 7 := by rw [List.length_take]; omega
        have h3 : 256 ^ (l.take k).length ≤ 256 ^ 7 := Nat.pow_le_pow_right (by omega) h2
        omega
      have hx8 : l[k].toNat < 256 := l[k].toNat_lt
      have HS : Hid (num (l.take (k + 1)) = num (l.take k) * 256 + l[k].toNat) := by
        have : l.take (k + 1) = l.take k ++ [l[k]] := List.take_succ_eq_append_getElem hlt
        exact Lib.hid (by rw [this, num_snoc])
      clear hx
      go_wp2
      refine ⟨⟨k + 1, by omega, by go_num, by rw [HS.out]; go_num⟩, by simp [intOf]; omega⟩
    · obtain rfl : k = l.length := by omega
      have HS : Hid (num (l.take l.length) = num l) := Lib.hid (by rw [List.take_length])
      rw [HS.out]
      go_wp2
      go_ret
      exact ⟨rfl, rfl⟩

set_option maxHeartbeats 1000000 in
/-- Get, at a place of l. -/
theorem get_any (w : World) (A : Option Addr) (c : Nat) (l : List UInt8) (h : Arg w A c l) (at_ : Nat) (ha : at_ ≤ l.length) (size : Int) (h1 : -9223372036854775808 ≤ size) (h2 : size ≤ 9223372036854775807) :
    Calls Try.prog 21 #[.slice A l.length c, .int .i64 at_, .int .i64 size] w fun e w' =>
      e = .returned (.tuple #[.int .u64 (num ((l.drop at_).take (taken (rnumErr size (l.drop at_)) size.toNat))), .int .i64 ((at_ + taken (rnumErr size (l.drop at_)) size.toNat : Nat) : Int), .int .i64 (rnumErr size (l.drop at_))]) ∧ Below w.heap.size w w' := by
  have hb := h.big
  have hcap := h.cap
  have hld : (l.drop at_).length = l.length - at_ := List.length_drop
  have HS := Lib.hid (sizedR_any size w h1 h2)
  cases hs : sized size
  · rw [hs] at HS
    have he : rnumErr size (l.drop at_) = 2 := by simp [rnumErr, hs]
    have HE := Lib.hid he
    have HT : Hid (taken 2 size.toNat = 0) := Lib.hid rfl
    clear he hs hld h
    go_enter Try.func21, Try.ntmps21
    go_wp2_with (go_at_call 36; refine HS.out.mono ?_; rintro e w' ⟨rfl, rfl⟩)
    go_ret3
    rw [HE.out, HT.out]
    exact ⟨rfl, Below.refl _ _⟩
  · obtain ⟨k, rfl, hk⟩ := sized_nat hs
    rw [hs] at HS
    have hk8 : k ≤ 8 := by omega
    have HK := Lib.hid hk
    by_cases hl : l.length - at_ < k
    · have he : rnumErr k (l.drop at_) = 10 := by simp [rnumErr, hs, hl]
      have HE := Lib.hid he
      have HT : Hid (taken 10 ((k : Int)).toNat = 0) := Lib.hid rfl
      have HN := Lib.hid (take_no w A c l h at_ k ha hl (by omega))
      clear he hs hk hld h hl
      go_enter Try.func21, Try.ntmps21
      go_wp2_with (first
        | (go_at_call 36; refine HS.out.mono ?_; rintro e w' ⟨rfl, rfl⟩)
        | (go_at_call 41; refine HN.out.mono ?_; rintro e w' ⟨rfl, rfl⟩))
      go_ret3
      rw [HE.out, HT.out]
      exact ⟨rfl, Below.refl _ _⟩
    · have he : rnumErr k (l.drop at_) = 0 := by simp [rnumErr, hs, hl]
      have HE := Lib.hid he
      have HT : Hid (taken 0 ((k : Int)).toNat = k) := Lib.hid (by simp [taken])
      have HY := Lib.hid (take_yes w A c l h at_ k (by omega))
      have hlk : ((l.drop at_).take k).length ≤ 8 := by rw [List.length_take]; omega
      obtain ⟨lx, hlx⟩ : ∃ lx, (l.drop at_).take k = lx := ⟨_, rfl⟩
      rw [hlx] at HY hlk
      have HLX := Lib.hid hlx
      have HLK := Lib.hid hlk
      clear he hs hk hld h hl hlk hlx
      go_enter Try.func21, Try.ntmps21
      go_wp2_with (first
        | (go_at_call 36; refine HS.out.mono ?_; rintro e w' ⟨rfl, rfl⟩)
        | (go_at_call 41; refine HY.out.mono ?_; rintro e w1 ⟨v, rfl, hg⟩; have HG := Lib.hid hg; obtain ⟨A1, c1, rfl, ho, hB⟩ := hg; have HW := Lib.hid (whole_any w1 A1 c1 _ (Reads.of_own ho) HLK.out); have HB := Lib.hid hB; clear ho hB)
        | (go_at_call 42; refine HW.out.mono ?_; rintro e w' ⟨rfl, rfl⟩))
      go_ret3
      rw [HE.out, HT.out, HLX.out]
      exact ⟨rfl, HB.out⟩

set_option maxHeartbeats 1000000 in
theorem getraw_any (w : World) (A : Option Addr) (c : Nat) (l : List UInt8) (h : Arg w A c l) (at_ : Nat) (ha : at_ ≤ l.length) (n : Int) (h1 : -9223372036854775808 ≤ n) (h2 : n ≤ 9223372036854775807) :
    Calls Try.prog 26 #[.slice A l.length c, .int .i64 at_, .int .i64 n] w fun e w' => ∃ v,
      e = .returned (.tuple #[v, .int .i64 ((at_ + taken (rrawErr n (l.drop at_)) n.toNat : Nat) : Int), .int .i64 (rrawErr n (l.drop at_))]) ∧ Gives w w' v ((l.drop at_).take (taken (rrawErr n (l.drop at_)) n.toNat)) := by
  have hb := h.big
  have hcap := h.cap
  have hld : (l.drop at_).length = l.length - at_ := List.length_drop
  by_cases hn : n < 0
  · have he : rrawErr n (l.drop at_) = 2 := by simp [rrawErr, hn]
    have HE := Lib.hid he
    have HT : Hid (taken 2 n.toNat = 0) := Lib.hid rfl
    clear he hld h
    go_enter Try.func26, Try.ntmps26
    go_wp2
    go_ret3
    rw [HE.out, HT.out]
    exact ⟨_, rfl, Gives.nil w⟩
  · obtain ⟨k, rfl⟩ := Int.eq_ofNat_of_zero_le (a := n) (by omega)
    by_cases hl : l.length - at_ < k
    · have he : rrawErr k (l.drop at_) = 10 := by simp [rrawErr]; omega
      have HE := Lib.hid he
      have HT : Hid (taken 10 ((k : Int)).toNat = 0) := Lib.hid rfl
      have HN := Lib.hid (take_no w A c l h at_ k ha hl (by omega))
      clear he hld h hl hn
      go_enter Try.func26, Try.ntmps26
      go_wp2_with (go_at_call 41; refine HN.out.mono ?_; rintro e w' ⟨rfl, rfl⟩)
      go_ret3
      rw [HE.out, HT.out]
      exact ⟨_, rfl, Gives.nil w⟩
    · have he : rrawErr k (l.drop at_) = 0 := by simp [rrawErr]; omega
      have HE := Lib.hid he
      have HT : Hid (taken 0 ((k : Int)).toNat = k) := Lib.hid (by simp [taken])
      have HY := Lib.hid (take_yes w A c l h at_ k (by omega))
      have hk2 : at_ + k ≤ l.length := by omega
      clear he hld h hl hn
      go_enter Try.func26, Try.ntmps26
      go_wp2_with (go_at_call 41; refine HY.out.mono ?_; rintro e w1 ⟨v, rfl, hg⟩; have HG := Lib.hid hg; clear hg)
      go_ret3
      rw [HE.out, HT.out]
      exact ⟨_, rfl, HG.out⟩

set_option maxHeartbeats 1000000 in
theorem gettext_any (w : World) (A : Option Addr) (c : Nat) (l : List UInt8) (h : Arg w A c l) (at_ : Nat) (ha : at_ ≤ l.length) :
    Calls Try.prog 24 #[.slice A l.length c, .int .i64 at_] w fun e w' =>
      e = .returned (.tuple #[.string ⟨(((l.drop at_).drop 2).take (taken (rtextErr (l.drop at_)) (num ((l.drop at_).take 2)))).toArray⟩, .int .i64 ((at_ + taken (rtextErr (l.drop at_)) (2 + num ((l.drop at_).take 2)) : Nat) : Int), .int .i64 (rtextErr (l.drop at_))]) ∧ Below w.heap.size w w' := by
  have hb := h.big
  have hcap := h.cap
  have hld : (l.drop at_).length = l.length - at_ := List.length_drop
  have hg := get_any w A c l h at_ ha 2 (by omega) (by omega)
  by_cases h2 : l.length - at_ < 2
  · have he1 : rnumErr 2 (l.drop at_) = 10 := by simp [rnumErr, sized, h2]
    have he : rtextErr (l.drop at_) = 10 := by simp [rtextErr, h2]
    rw [he1, show taken 10 (2 : Int).toNat = 0 from rfl] at hg
    rw [he, show ∀ n, taken 10 n = 0 from fun n => rfl, show ∀ n, taken 10 n = 0 from fun n => rfl]
    have HG := Lib.hid hg
    clear hg he1 he hld h h2
    go_enter Try.func24, Try.ntmps24
    go_wp2_with (go_at_call 21; refine HG.out.mono ?_; rintro e w1 ⟨rfl, hB⟩)
    go_ret3
    exact ⟨rfl, hB⟩
  · have he1 : rnumErr 2 (l.drop at_) = 0 := by simp [rnumErr, sized]; omega
    rw [he1, show taken 0 (2 : Int).toNat = 2 from rfl] at hg
    have hn := conv_num (l.drop at_)
    have hdd : (l.drop at_).drop 2 = l.drop (at_ + 2) := by rw [List.drop_drop]
    obtain ⟨m, hm⟩ : ∃ m, num ((l.drop at_).take 2) = m := ⟨_, rfl⟩
    rw [hm] at hg hn ⊢
    have HM := Lib.hid hm
    by_cases h3 : l.length - at_ - 2 < m
    · have he : rtextErr (l.drop at_) = 10 := by simp [rtextErr, HM.out, h3]
      rw [he, show ∀ n, taken 10 n = 0 from fun n => rfl, show ∀ n, taken 10 n = 0 from fun n => rfl]
      have HG := Lib.hid hg
      have HA := Lib.hid h
      have hlt : l.length - (at_ + 2) < m := by omega
      have hle : at_ + 2 ≤ l.length := by omega
      have HLT := Lib.hid hlt
      have HLE := Lib.hid hle
      clear hg he1 he hld h h2 h3 hm hdd hlt hle
      go_enter Try.func24, Try.ntmps24
      go_wp2_with (first
        | (go_at_call 21; refine HG.out.mono ?_; rintro e w1 ⟨rfl, hB⟩; have HN := Lib.hid (take_no w1 A c l (HA.out.below hB) (at_ + 2) m HLE.out HLT.out (by omega)); have HB := Lib.hid hB; clear hB)
        | (go_at_call 41; refine HN.out.mono ?_; rintro e w' ⟨rfl, rfl⟩))
      go_ret3
      exact ⟨rfl, HB.out⟩
    · have he : rtextErr (l.drop at_) = 0 := by
        simp [rtextErr, HM.out, h3]
        omega
      rw [he, hdd, show ∀ n, taken 0 n = n from fun n => rfl, show ∀ n, taken 0 n = n from fun n => rfl]
      have HG := Lib.hid hg
      have HA := Lib.hid h
      have hle : at_ + 2 + m ≤ l.length := by omega
      have HLE := Lib.hid hle
      obtain ⟨lx, hlx⟩ : ∃ lx, (l.drop (at_ + 2)).take m = lx := ⟨_, rfl⟩
      have HLX := Lib.hid hlx
      rw [hlx]
      have hp : ((at_ + (2 + m) : Nat) : Int) = (at_ : Int) + 2 + m := by omega
      have HP := Lib.hid hp
      have hb2 : at_ + 2 ≤ 140737488355328 := by omega
      clear hg he1 he hld h h2 h3 hm hdd hle hlx hp
      go_enter Try.func24, Try.ntmps24
      go_wp2_with (first
        | (go_at_call 21; refine HG.out.mono ?_; rintro e w1 ⟨rfl, hB⟩; have hY := take_yes w1 A c l (HA.out.below hB) (at_ + 2) m HLE.out; rw [HLX.out] at hY; have HY := Lib.hid hY; have HB := Lib.hid hB; clear hB hY)
        | (go_at_call 41; refine HY.out.mono ?_; rintro e w2 ⟨v, rfl, A2, c2, rfl, ho, hB2⟩; have cv : (convert 24 9 (.slice A2 lx.length c2)).run Try.prog w2 = .ok (.string ⟨lx.toArray⟩) w2 := conv_reads c2 (Reads.of_own ho); have HB2 := Lib.hid hB2; clear ho hB2))
      go_ret3
      refine ⟨?_, HB.out.trans (HB2.out.mono HB.out.size)⟩
      rw [HP.out]
      rfl

end Go.Proofs.Ytlonejpphmpnjaa

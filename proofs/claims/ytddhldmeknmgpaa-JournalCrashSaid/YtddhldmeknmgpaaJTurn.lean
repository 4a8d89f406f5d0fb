/-
  Layer 8 without any program: a record's sector of which one byte is turned is none any more.
-/
import Derived.Test.YtddhldmeknmgpaaJDec2
import Derived.Test.YtddhldmeknmgpaaCrcB
namespace Go.Proofs.Ytddhldmeknmgpaa.journal
open Go.RowKit Go.Proofs.Ytddhldmeknmgpaa.crc Go.Proofs.Ytddhldmeknmgpaa.root

theorem bit_ext {l m : List UInt8} (hl : l.length = m.length) (h : ∀ q, q < 8 * l.length → bit l q = bit m q) : l = m := by
  apply List.ext_getElem hl
  intro i h1 h2
  apply UInt8.toNat_inj.1
  apply Nat.eq_of_testBit_eq
  intro j
  by_cases hj : j < 8
  · have := h (8 * i + j) (by omega)
    unfold bit at this
    rw [show (8 * i + j) / 8 = i by omega, show (8 * i + j) % 8 = j by omega, List.getElem?_eq_getElem h1, List.getElem?_eq_getElem h2] at this
    exact this
  · have b1 := (l[i]).toNat_lt
    have b2 := (m[i]).toNat_lt
    rw [Nat.testBit_lt_two_pow (Nat.lt_of_lt_of_le b1 (Nat.pow_le_pow_right (by omega) (by omega : 8 ≤ j))), Nat.testBit_lt_two_pow (Nat.lt_of_lt_of_le b2 (Nat.pow_le_pow_right (by omega) (by omega : 8 ≤ j)))]
theorem bit_set (l : List UInt8) (p : Nat) (x b : UInt8) (hx : l[p]? = some x) (q : Nat) : bit (l.set p (x ^^^ b)) q = (bit l q ^^ (decide (q / 8 = p) && b.toNat.testBit (q % 8))) := by
  unfold bit
  have hp := (List.getElem?_eq_some_iff.1 hx).1
  by_cases h : q / 8 = p
  · rw [h, List.getElem?_set_self hp, hx]
    simp [Nat.testBit_xor]
  · rw [List.getElem?_set_ne (fun e => h e.symm), decide_eq_false h]
    simp
/-- One byte turned is a burst. -/
theorem set_turned (l : List UInt8) (p : Nat) (x b : UInt8) (hx : l[p]? = some x) (p0 : Nat) (h1 : p0 ≤ p) (h2 : p < p0 + 4) (h3 : p0 + 4 ≤ l.length) : l.set p (x ^^^ b) = turned l (8 * p0) (b.toNat <<< (8 * (p - p0))) 32 := by
  have hb := b.toNat_lt
  refine bit_ext (by rw [List.length_set, turned_length]) (fun q hq => ?_)
  rw [bit_set l p x b hx, bit_turned _ _ _ _ 32 (by omega)]
  congr 1
  rw [Nat.testBit_shiftLeft]
  by_cases h : q / 8 = p
  · have e1 : q - 8 * p0 - 8 * (p - p0) = q % 8 := by omega
    rw [decide_eq_true h, decide_eq_true (show 8 * p0 ≤ q ∧ q < 8 * p0 + 32 by omega), decide_eq_true (show q - 8 * p0 ≥ 8 * (p - p0) by omega), e1]
    simp
  · rw [decide_eq_false h, Bool.false_and]
    symm
    by_cases h4 : 8 * p0 ≤ q ∧ q < 8 * p0 + 32
    · rw [decide_eq_true h4, Bool.true_and]
      by_cases h5 : q - 8 * p0 ≥ 8 * (p - p0)
      · rw [decide_eq_true h5, Bool.true_and]
        refine Nat.testBit_lt_two_pow (Nat.lt_of_lt_of_le hb ?_)
        exact Nat.pow_le_pow_right (by omega) (show 8 ≤ _ by omega)
      · rw [decide_eq_false h5, Bool.false_and]
    · rw [decide_eq_false h4, Bool.false_and]
theorem flip_append' (l m : List UInt8) (p : Nat) (h : p < 8 * l.length) : crc.flip (l ++ m) p = crc.flip l p ++ m := by
  unfold crc.flip
  have hp : p / 8 < l.length := by omega
  rw [List.getElem?_append_left hp, List.set_append_left _ _ hp]
theorem turned_append' (l m : List UInt8) (at_ t : Nat) : ∀ i, at_ + i ≤ 8 * l.length → turned (l ++ m) at_ t i = turned l at_ t i ++ m
  | 0, _ => rfl
  | i + 1, h => by
    unfold turned
    rw [turned_append' l m at_ t i (by omega)]
    split
    · rw [flip_append' _ _ _ (by rw [turned_length]; omega)]
    · rfl
theorem body_turned' (l : List UInt8) (at_ t : Nat) (h : at_ + 32 ≤ 8 * l.length) (ht : t < 4294967296) (h0 : t ≠ 0) : isSealed (turned (l ++ four (sum (bitsB l))) at_ t 32) = false := by
  obtain ⟨a, b, c, d, h4, _⟩ := four_split (sum (bitsB l))
  rw [turned_append' _ _ _ _ _ h, h4]
  have hb := sealed_burst l at_ t (by omega) ht (turned l at_ t 32) a b c d (by rw [h4, turned_append' _ _ _ _ _ h]; rfl)
  rw [hb]
  exact decide_eq_false h0
theorem xor_ne {x b : UInt8} (h : b ≠ 0) : x ^^^ b ≠ x := fun e => h (by
  have : x ^^^ (x ^^^ b) = x ^^^ x := by rw [e]
  rwa [← UInt8.xor_assoc, UInt8.xor_self, UInt8.zero_xor] at this)
/-- What the record of bytes is told by: the first 108 of them. -/
theorem cand_front {l m : List UInt8} (h : l.take 108 = m.take 108) (hlen : lenJ l ≤ 64) : candJ l = candJ m := by
  have hd : ∀ a k, a + k ≤ 108 → (l.drop a).take k = (m.drop a).take k := fun a k hk => by
    have e : ∀ x : List UInt8, (x.drop a).take k = ((x.take 108).drop a).take k := fun x => by
      rw [List.drop_take, List.take_take, Nat.min_eq_left (by omega)]
    rw [e l, e m, h]
  have hL : lenJ l = lenJ m := by unfold lenJ; rw [hd 3 1 (by omega)]
  unfold candJ
  rw [← hL, if_pos (by omega), if_pos (by omega)]
  simp only [List.drop_drop]
  rw [hd (3 + 1) 8 (by omega), hd (3 + 1 + 8) 8 (by omega), hd (3 + 1 + 8 + 8) (lenJ l) (by omega)]
/-- A record's sector with one byte turned is none. -/
theorem turned_bad {r : JV} (hok : okJ r = true) (hf : r.Fine) {p : Nat} {x b : UInt8} (hx : (sectJ r)[p]? = some x) (hb : b ≠ 0) : goodJ ((sectJ r).set p (x ^^^ b)) = false := by
  have h64 := (okJ_iff.1 hok).2
  have hls := sectJ_length h64
  have hp : p < 128 := by have := (List.getElem?_eq_some_iff.1 hx).1; omega
  have hne : (sectJ r).set p (x ^^^ b) ≠ sectJ r := fun e => by
    have h1 : ((sectJ r).set p (x ^^^ b))[p]? = some (x ^^^ b) := List.getElem?_set_self (by omega)
    rw [e, hx] at h1
    injection h1 with h1
    exact xor_ne hb h1.symm
  cases hg : goodJ ((sectJ r).set p (x ^^^ b))
  · rfl
  · exfalso
    have hg2 := goodJ_of hg
    by_cases h108 : 108 ≤ p
    · have htk : ((sectJ r).set p (x ^^^ b)).take 108 = (sectJ r).take 108 := by
        apply List.ext_getElem?
        intro i
        by_cases hi : i < 108
        · rw [List.getElem?_take_of_lt hi, List.getElem?_take_of_lt hi, List.getElem?_set_ne (by omega)]
        · rw [List.getElem?_eq_none (by rw [List.length_take]; omega), List.getElem?_eq_none (by rw [List.length_take]; omega)]
      have hc := cand_front htk (lenJ_good hg)
      rw [candJ_sect hok hf] at hc
      rw [hc] at hg2
      exact hne hg2.2.2.symm
    · have hsplit : sectJ r = bodyJ r ++ (be 8 r.ep ++ be 8 r.n) := by unfold sectJ; rw [List.append_assoc]
      have hbl := bodyJ_length h64
      have hhl := headJ_length h64
      have hset : (sectJ r).set p (x ^^^ b) = (bodyJ r).set p (x ^^^ b) ++ (be 8 r.ep ++ be 8 r.n) := by rw [hsplit, List.set_append_left _ _ (by omega)]
      have hxb : (bodyJ r)[p]? = some x := by rw [hsplit, List.getElem?_append_left (by omega)] at hx; exact hx
      have hbt := b.toNat_lt
      have hb0 : b.toNat ≠ 0 := fun e => hb (UInt8.toNat_inj.1 e)
      obtain ⟨p0, hp0, hp1, hp2⟩ : ∃ p0, p0 ≤ p ∧ p < p0 + 4 ∧ p0 + 4 ≤ 108 := by
        by_cases h : p ≤ 104
        · exact ⟨p, by omega, by omega, by omega⟩
        · exact ⟨104, by omega, by omega, by omega⟩
      have hun : isSealed ((bodyJ r).set p (x ^^^ b)) = false := by
        rw [set_turned (bodyJ r) p x b hxb p0 hp0 hp1 (by omega)]
        refine body_turned' (headJ r) (8 * p0) _ (by rw [hhl]; omega) ?_ ?_
        · rw [Nat.shiftLeft_eq]
          have : 2 ^ (8 * (p - p0)) ≤ 2 ^ 24 := Nat.pow_le_pow_right (by omega) (by omega)
          calc b.toNat * 2 ^ (8 * (p - p0)) ≤ 255 * 2 ^ 24 := Nat.mul_le_mul (by omega) this
            _ < 4294967296 := by decide
        · rw [Nat.shiftLeft_eq]
          exact Nat.mul_ne_zero hb0 (Nat.pos_iff_ne_zero.1 (Nat.pow_pos (by decide)))
      have h3 := hg2.2.2
      rw [hset] at h3
      obtain ⟨r', hr'⟩ : ∃ r', candJ ((bodyJ r).set p (x ^^^ b) ++ (be 8 r.ep ++ be 8 r.n)) = r' := ⟨_, rfl⟩
      have hok' := hg2.2.1
      rw [hset, hr'] at hok'
      rw [hr'] at h3
      have hsplit' : sectJ r' = bodyJ r' ++ (be 8 r'.ep ++ be 8 r'.n) := by unfold sectJ; rw [List.append_assoc]
      rw [hsplit'] at h3
      have hbl' := bodyJ_length (okJ_iff.1 hok').2
      have hE : bodyJ r' = (bodyJ r).set p (x ^^^ b) := (List.append_inj h3 (by rw [List.length_set]; omega)).1
      have hs := sealed_seal (headJ r')
      rw [show headJ r' ++ four (sum (bitsB (headJ r'))) = bodyJ r' from rfl, hE, hun] at hs
      cases hs
end Go.Proofs.Ytddhldmeknmgpaa.journal

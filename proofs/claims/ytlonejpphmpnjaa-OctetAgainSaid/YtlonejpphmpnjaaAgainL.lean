/-
  Words for OctetAgain: what was read, written again, is the bytes that were read.
-/
import Derived.Test.YtlonejpphmpnjaaReadL
namespace Go.Proofs.Ytlonejpphmpnjaa
open Go.RowKit

/-- o: the call with what was read off lx put into it; er: the error; T: how many bytes were taken. -/
def Got (o : Cal) (lx : List UInt8) (er : Int) (T : Nat) : Prop :=
  (er = 0 → okOf o = true ∧ outOf o = lx.take T ∧ T ≤ lx.length) ∧ (er ≠ 0 → T = 0)

theorem got_num (sz : Int) (tx : ByteArray) (lx : List UInt8) : Got ⟨0, sz, num (lx.take (taken (rnumErr sz lx) sz.toNat)), tx⟩ lx (rnumErr sz lx) (taken (rnumErr sz lx) sz.toNat) := by
  constructor
  · intro he
    have hle := rnum_le sz lx
    rw [he] at hle ⊢
    rw [show taken 0 sz.toNat = sz.toNat from by simp [taken]] at hle ⊢
    have hs : sized sz = true := by
      unfold rnumErr at he
      by_cases hs : sized sz = true
      · exact hs
      · rw [if_neg hs] at he; omega
    have hl : (lx.take sz.toNat).length = sz.toNat := by rw [List.length_take]; omega
    have hn := num_lt (lx.take sz.toNat)
    rw [hl] at hn
    have hz : numErr sz (num (lx.take sz.toNat)) = 0 := by
      unfold numErr fitsB
      rw [if_pos hs, if_pos (by simpa using hn)]
    have hb := be_num (lx.take sz.toNat)
    rw [hl] at hb
    refine ⟨by simp [okOf, hz], ?_, hle⟩
    show numOut sz (num (lx.take sz.toNat)) = _
    unfold numOut
    rw [if_pos hz, hb]
  · intro he
    simp [taken, he]

theorem got_int (sz : Int) (tx : ByteArray) (lx : List UInt8) :
    Got ⟨1, sz, (wrap64 (num (lx.take (taken (rnumErr 8 lx) 8))) % 18446744073709551616).toNat, tx⟩ lx (rnumErr 8 lx) (taken (rnumErr 8 lx) 8) := by
  constructor
  · intro he
    have hle := rnum_le 8 lx
    rw [show ((8 : Int)).toNat = 8 from rfl] at hle
    rw [he] at hle ⊢
    rw [show taken 0 8 = 8 from by simp [taken]] at hle ⊢
    have hl : (lx.take 8).length = 8 := by rw [List.length_take]; omega
    have hn := num_lt (lx.take 8)
    rw [hl] at hn
    have hb := be_num (lx.take 8)
    rw [hl] at hb
    refine ⟨rfl, ?_, hle⟩
    show be 8 (wrap64 (((wrap64 (num (lx.take 8)) % 18446744073709551616).toNat : Nat) : Int) % 18446744073709551616).toNat = _
    rw [wrap64_mod _ (wrap64_bounds _).1 (wrap64_bounds _).2]
    have : (wrap64 ((num (lx.take 8) : Nat) : Int) % 18446744073709551616).toNat = num (lx.take 8) := by
      unfold wrap64
      omega
    rw [this, hb]
  · intro he
    simp [taken, he]

theorem got_text (sz : Int) (nn : Nat) (lx : List UInt8) :
    Got ⟨2, sz, nn, ⟨((lx.drop 2).take (taken (rtextErr lx) (num (lx.take 2)))).toArray⟩⟩ lx (rtextErr lx) (taken (rtextErr lx) (2 + num (lx.take 2))) := by
  constructor
  · intro he
    have hle := rtext_le lx
    rw [he] at hle ⊢
    rw [show taken 0 (num (lx.take 2)) = num (lx.take 2) from by simp [taken], show taken 0 (2 + num (lx.take 2)) = 2 + num (lx.take 2) from by simp [taken]] at *
    have hl : (lx.take 2).length = 2 := by rw [List.length_take]; omega
    have hn := num_lt (lx.take 2)
    rw [hl] at hn
    have hb := be_num (lx.take 2)
    rw [hl] at hb
    have hsz : (⟨((lx.drop 2).take (num (lx.take 2))).toArray⟩ : ByteArray).size = num (lx.take 2) := by
      show (((lx.drop 2).take (num (lx.take 2))).toArray).size = _
      rw [List.size_toArray, List.length_take, List.length_drop]
      omega
    have hz : textErr ⟨((lx.drop 2).take (num (lx.take 2))).toArray⟩ = 0 := by
      unfold textErr
      rw [hsz, if_neg (by omega)]
    refine ⟨by simp [okOf, hz], ?_, hle⟩
    show textOut ⟨((lx.drop 2).take (num (lx.take 2))).toArray⟩ = _
    unfold textOut
    rw [hsz, if_neg (by omega), hb, List.take_add]
  · intro he
    simp [taken, he]

theorem got_raw (sz : Int) (nn : Nat) (lx : List UInt8) : Got ⟨3, sz, nn, ⟨(lx.take (taken (rrawErr sz lx) sz.toNat)).toArray⟩⟩ lx (rrawErr sz lx) (taken (rrawErr sz lx) sz.toNat) :=
  ⟨fun _ => ⟨rfl, rfl, rraw_le sz lx⟩, fun he => by simp [taken, he]⟩

theorem got_none (o : Cal) (lx : List UInt8) : Got o lx 2 0 := ⟨fun h => absurd h (by omega), fun _ => rfl⟩

/-- The Reader at b has lr left, the Writer at bw has written lw; both stand on what is newer than N, apart from one another; what lay in N lies. -/
def Sa (N W : World) (b bw : Nat) (lr lw : List UInt8) : Prop :=
  ∃ A c Aw cw u, Rd W b A c lr ∧ Wr W bw Aw cw u lw ∧ N.heap.size ≤ b ∧ (∀ ad, A = some ad → N.heap.size ≤ ad.block) ∧ (∀ k, foot bw Aw u k → N.heap.size ≤ k) ∧
    ¬ foot bw Aw u b ∧ (∀ ad, A = some ad → ¬ foot bw Aw u ad.block) ∧ Below N.heap.size N W

/-- The Reader goes on. -/
theorem Sa.took {N w w1 w2 : World} {b bw : Nat} {lr' lw : List UInt8} {A Aw u : Option Addr} {cw : Nat} (h2 : Wr w bw Aw cw u lw) (h3 : N.heap.size ≤ b) (h4 : ∀ ad, A = some ad → N.heap.size ≤ ad.block)
    (h5 : ∀ k, foot bw Aw u k → N.heap.size ≤ k) (h6 : ¬ foot bw Aw u b) (h7 : ∀ ad, A = some ad → ¬ foot bw Aw u ad.block) (h8 : Below N.heap.size N w) (hb : Below w.heap.size w w1) (hT : Took w1 w2 b A lr') : Sa N w2 b bw lr' lw := by
  obtain ⟨A', c', g1, g2, g3⟩ := hT
  have k1 : Keep (fun k => k = b) w w2 := (Keep.of_below (S := fun k => k = b) hb).trans g3 (fun _ _ h => h)
  refine ⟨A', c', Aw, cw, u, g1, h2.keep k1 (fun k hk e => h6 (e ▸ hk)), h3, fun ad e => ?_, h5, h6, fun ad e => ?_, h8.trans (k1.below h8.size (fun i hi e => by have e' : i = b := e; omega))⟩
  · obtain ⟨ad0, e0, hb0⟩ := g2 ad e
    rw [hb0]; exact h4 ad0 e0
  · obtain ⟨ad0, e0, hb0⟩ := g2 ad e
    rw [hb0]; exact h7 ad0 e0

/-- .. and then the block at the end of what there was may turn. -/
theorem Sa.tookS {N w w1 w2 : World} {b bw c : Nat} {lr lr' lw : List UInt8} {A Aw u : Option Addr} {cw : Nat} (h1 : Rd w b A c lr) (h2 : Wr w bw Aw cw u lw) (h3 : N.heap.size ≤ b) (h4 : ∀ ad, A = some ad → N.heap.size ≤ ad.block)
    (h5 : ∀ k, foot bw Aw u k → N.heap.size ≤ k) (h6 : ¬ foot bw Aw u b) (h7 : ∀ ad, A = some ad → ¬ foot bw Aw u ad.block) (h8 : Below N.heap.size N w) (hb : Below w.heap.size w w1) (hT : Took w1 w2 b A lr') :
    ∀ w4, Keep (fun k => k = w.heap.size) w2 w4 → Sa N w4 b bw lr' lw := by
  intro w4 hk
  obtain ⟨A', c', g1, g2, g3⟩ := hT
  have k1 : Keep (fun k => k = b) w w2 := (Keep.of_below (S := fun k => k = b) hb).trans g3 (fun _ _ h => h)
  have hlt := h1.blk.lt
  refine ⟨A', c', Aw, cw, u, g1.keep hk (fun e => by omega) (fun ad e h => ?_), (h2.keep k1 (fun k hk e => h6 (e ▸ hk))).keep hk (fun k h e => by have := h2.foot_lt k h; omega), h3, fun ad e => ?_, h5, h6, fun ad e => ?_,
    (h8.trans (k1.below h8.size (fun i hi e => by have e' : i = b := e; omega))).trans (hk.below (Nat.le_trans h8.size k1.size) (fun i hi e => by have e' : i = w.heap.size := e; have := h8.size; omega))⟩
  · obtain ⟨ad0, e0, hb0⟩ := g2 ad e
    have := h1.lt ad0 e0
    omega
  · obtain ⟨ad0, e0, hb0⟩ := g2 ad e
    rw [hb0]; exact h4 ad0 e0
  · obtain ⟨ad0, e0, hb0⟩ := g2 ad e
    rw [hb0]; exact h7 ad0 e0

theorem vnum_lt (sz : Int) (lx : List UInt8) : num (lx.take (taken (rnumErr sz lx) sz.toNat)) < 18446744073709551616 := by
  have h := num_lt (lx.take (taken (rnumErr sz lx) sz.toNat))
  have hk : (lx.take (taken (rnumErr sz lx) sz.toNat)).length ≤ 8 := by
    rw [List.length_take]
    unfold taken rnumErr
    by_cases hs : sized sz = true
    · obtain ⟨k, rfl, hk⟩ := sized_nat hs
      have : ∀ e : Int, (if e = 0 then ((k : Int)).toNat else 0) ≤ 8 := fun e => by split <;> omega
      exact Nat.le_trans (Nat.min_le_left _ _) (this _)
    · rw [if_neg hs]; simp
  exact Nat.lt_of_lt_of_le h (Nat.le_trans (Nat.pow_le_pow_right (by omega) hk) (by decide))

/-- The Writer goes on. -/
theorem Sa.wrote {N w w2 : World} {b bw c : Nat} {lr lw' : List UInt8} {A Aw u : Option Addr} (h1 : Rd w b A c lr) (h3 : N.heap.size ≤ b) (h4 : ∀ ad, A = some ad → N.heap.size ≤ ad.block)
    (h5 : ∀ k, foot bw Aw u k → N.heap.size ≤ k) (h6 : ¬ foot bw Aw u b) (h7 : ∀ ad, A = some ad → ¬ foot bw Aw u ad.block) (h8 : Below N.heap.size N w) (hW : Wrote w w2 bw Aw u lw') : Sa N w2 b bw lr lw' := by
  obtain ⟨A', c', u', g1, g2, g3⟩ := hW
  have hlt := h1.blk.lt
  refine ⟨A, c, A', c', u', h1.keep g3 h6 (fun ad e => h7 ad e), g1, h3, h4, fun k h => ?_, fun h => ?_, fun ad e h => ?_, h8.trans (g3.below h8.size (fun i hi h => by have := h5 i h; omega))⟩
  · rcases g2 k h with h | h
    · exact h5 k h
    · have := h8.size; omega
  · rcases g2 _ h with h | h
    · exact h6 h
    · omega
  · rcases g2 _ h with h | h
    · exact h7 ad e h
    · have := h1.lt ad e; omega

/-- Nothing of it turns. -/
theorem Sa.below {N w w1 : World} {b bw : Nat} {lr lw : List UInt8} (h : Sa N w b bw lr lw) (hb : Below w.heap.size w w1) : Sa N w1 b bw lr lw := by
  obtain ⟨A, c, Aw, cw, u, h1, h2, h3, h4, h5, h6, h7, h8⟩ := h
  have k : Keep (fun _ => False) w w1 := Keep.of_below hb
  exact ⟨A, c, Aw, cw, u, h1.keep k (fun h => h) (fun _ _ h => h), h2.keep k (fun _ _ h => h), h3, h4, h5, h6, h7, h8.trans (hb.mono h8.size)⟩

end Go.Proofs.Ytlonejpphmpnjaa

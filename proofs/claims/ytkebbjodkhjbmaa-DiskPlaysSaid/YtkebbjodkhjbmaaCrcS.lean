/-
  The code of layer 2: Of, Seal, Open.
-/
import Derived.Test.YtkebbjodkhjbmaaCrcZ
import Derived.Test.YtkebbjodkhjbmaaRef2b
import Derived.Test.YtkebbjodkhjbmaaRText
namespace Go.Proofs.Ytkebbjodkhjbmaa.crc
open Go.RowKit

theorem be_four (s : BitVec 32) : be 4 s.toNat = four s := by
  have hs := s.isLt
  have h : be 4 s.toNat = [lowByte s.toNat 3, lowByte s.toNat 2, lowByte s.toNat 1, lowByte s.toNat 0] := rfl
  rw [h]
  unfold four lowByte
  rw [show (256 : Nat) ^ 3 = 16777216 from rfl, show (256 : Nat) ^ 2 = 65536 from rfl, Nat.pow_one, Nat.pow_zero, Nat.div_one, Nat.mod_eq_of_lt (show s.toNat / 16777216 < 256 by omega)]

theorem reads_sep {w : World} {A : Option Addr} {n B size : Nat} {xs : List Value} (h : Reads w B size A n xs) : 0 < n → ∀ ad, A = some ad → ad.block ≠ B := by
  intro h0 ad e
  obtain ⟨ad', e', hlt, _⟩ := h.2 h0
  rw [e] at e'
  injection e' with e'
  subst e'
  omega

theorem own_mono {w : World} {base base' : Nat} {e : TypeId} {size : Nat} {v : Value} {n : Nat} {xs : List Value} (h : w.ownsRow base e size v n xs) (hb : base' ≤ base) : w.ownsRow base' e size v n xs :=
  ⟨h.1, h.2.imp id fun ⟨g, cap, cur, h1, h2, h3⟩ => ⟨g, cap, cur, h1, Nat.le_trans hb h2, h3⟩⟩

theorem num_four (s : BitVec 32) (d : List UInt8) (hd : d.length = 4) : num d = s.toNat ↔ four s = d := by
  obtain ⟨a, b, c, e, rfl⟩ : ∃ a b c e, d = [a, b, c, e] := by
    match d, hd with
    | [a, b, c, e], _ => exact ⟨a, b, c, e, rfl⟩
  have ha := a.toNat_lt
  have hb := b.toNat_lt
  have hc := c.toNat_lt
  have he := e.toNat_lt
  have hs := s.isLt
  have hn : num [a, b, c, e] = ((a.toNat * 256 + b.toNat) * 256 + c.toNat) * 256 + e.toNat := by simp [num]
  rw [hn]
  unfold four
  constructor
  · intro h
    have e1 : s.toNat / 16777216 = a.toNat := by omega
    have e2 : s.toNat / 65536 % 256 = b.toNat := by omega
    have e3 : s.toNat / 256 % 256 = c.toNat := by omega
    have e4 : s.toNat % 256 = e.toNat := by omega
    rw [e1, e2, e3, e4, UInt8.ofNat_toNat, UInt8.ofNat_toNat, UInt8.ofNat_toNat, UInt8.ofNat_toNat]
  · intro h
    have g : ∀ (n : Nat) (x : UInt8), n < 256 → UInt8.ofNat n = x → n = x.toNat := fun n x hn e => by
      rw [← e, UInt8.toNat_ofNat', Nat.mod_eq_of_lt (by omega)]
    rw [List.cons.injEq, List.cons.injEq, List.cons.injEq, List.cons.injEq] at h
    obtain ⟨h1, h2, h3, h4, _⟩ := h
    have h1 := g _ _ (by omega) h1
    have h2 := g _ _ (by omega) h2
    have h3 := g _ _ (by omega) h3
    have h4 := g _ _ (by omega) h4
    omega

end Go.Proofs.Ytkebbjodkhjbmaa.crc

/-
  The code of layer 2: Of, Seal, Open.
-/
import Derived.Test.YtdjneiboeehclaaCrcZ
import Derived.Test.YtdjneiboeehclaaRef2b
import Derived.Test.YtdjneiboeehclaaRText
namespace Go.Proofs.Ytdjneiboeehclaa.crc
open Go.RowKit

theorem be_four (s : BitVec 32) : be 4 s.toNat = four s := by
  have hs := s.isLt
  have h : be 4 s.toNat = [lowByte s.toNat 3, lowByte s.toNat 2, lowByte s.toNat 1, lowByte s.toNat 0] := rfl
  rw [h]
  unfold four lowByte
  rw [show (256 : Nat) ^ 3 = 16777216 from rfl, show (256 : Nat) ^ 2 = 65536 from rfl, Nat.pow_one, Nat.pow_zero, Nat.div_one, Nat.mod_eq_of_lt (show s.toNat / 16777216 < 256 by omega)]

theorem reads_sep {w : World} {A : Option Addr} {n B size : Nat} {xs : List Value} (h : Reads w B size A n xs) : 0 < n → ∀ ad, A = some ad → ad.block ≠ B := by
  intro h0 ad e
  obtain ⟨ad', e', hlt, _⟩ := h.2 h0
  rw [e] at e'
  injection e' with e'
  subst e'
  omega

theorem own_mono {w : World} {base base' : Nat} {e : TypeId} {size : Nat} {v : Value} {n : Nat} {xs : List Value} (h : w.ownsRow base e size v n xs) (hb : base' ≤ base) : w.ownsRow base' e size v n xs :=
  ⟨h.1, h.2.imp id fun ⟨g, cap, cur, h1, h2, h3⟩ => ⟨g, cap, cur, h1, Nat.le_trans hb h2, h3⟩⟩

/-- A Writer of the call's own: all that it stands on is newer than N. -/
def WrN (N w : World) (b : Nat) (l : List UInt8) : Prop := ∃ A c u, Wr w b A c u l ∧ (∀ k, foot b A u k → N.heap.size ≤ k) ∧ Below N.heap.size N w
theorem WrN.wrote {N w w' : World} {b : Nat} {A u : Option Addr} {l' : List UInt8} (hf : ∀ k, foot b A u k → N.heap.size ≤ k) (hB : Below N.heap.size N w) (h : Wrote w w' b A u l') : WrN N w' b l' := by
  obtain ⟨A', c', u', h1, h2, h3⟩ := h
  refine ⟨A', c', u', h1, fun k hk => ?_, hB.trans (h3.below hB.size (fun i hi h => by have := hf i h; omega))⟩
  rcases h2 k hk with h | h
  · exact hf k h
  · exact Nat.le_trans hB.size h
theorem WrN.made (N : World) : WrN N (N.alloc (.cells #[.slice none 0 0, .pointer none] 59)) N.heap.size [] :=
  ⟨none, 0, none, Wr.made N, fun k hk => by rw [foot_new hk]; omega, (Below.refl _ _).alloc (Nat.le_refl _) _⟩
theorem WrN.below {N w w' : World} {b : Nat} {l : List UInt8} (h : WrN N w b l) (hb : Below w.heap.size w w') : WrN N w' b l := by
  obtain ⟨A, c, u, h1, h2, h3⟩ := h
  exact ⟨A, c, u, h1.keep (Keep.of_below (S := fun _ => False) hb) (fun _ _ h => h), h2, h3.trans (hb.mono h3.size)⟩
theorem WrN.frame {N w : World} {b : Nat} {l : List UInt8} (h : WrN N w b l) : Below N.heap.size N w := by
  obtain ⟨A, c, u, h1, h2, h3⟩ := h
  exact h3
theorem WrN.num {N w : World} {b : Nat} {l : List UInt8} (h : WrN N w b l) (size n : Nat) (hs : size = 1 ∨ size = 2 ∨ size = 4 ∨ size = 8) (hf : fitsB size n = true) (hn : n < 18446744073709551616) (hlen : l.length + size ≤ 140737488355328) :
    Calls Try.prog 29 #[.pointer (some ⟨b, 0, none⟩), .int .i64 size, .int .u64 n] w fun e w' => e = .returned (.int .i64 0) ∧ WrN N w' b (l ++ be size n) := by
  obtain ⟨A, c, u, h1, h2, h3⟩ := h
  refine (wnum_ok w b A c u l h1 size n hs hf hn hlen).mono ?_
  rintro e w' ⟨rfl, hq⟩
  exact ⟨rfl, WrN.wrote h2 h3 hq⟩
theorem WrN.bytes {N w : World} {b : Nat} {l : List UInt8} (h : WrN N w b l) (hn : l.length ≤ 140737488355328) :
    Calls Try.prog 31 #[.pointer (some ⟨b, 0, none⟩)] w fun e w' => ∃ v, e = .returned v ∧ Gives N w' v l := by
  obtain ⟨A, c, u, h1, h2, h3⟩ := h
  refine (wbytes_any w b A c u l h1 hn).mono ?_
  rintro e w' ⟨A', c', rfl, g1, g2⟩
  exact ⟨_, rfl, A', c', rfl, own_mono g1 h3.size, h3.trans (g2.mono h3.size)⟩

/-- A Reader of the call's own. -/
def RdN (N w : World) (b : Nat) (l : List UInt8) : Prop := ∃ A c, Rd w b A c l ∧ N.heap.size ≤ b ∧ Below N.heap.size N w
theorem RdN.took {N w w' : World} {b : Nat} {A : Option Addr} {l' : List UInt8} (hb : N.heap.size ≤ b) (hB : Below N.heap.size N w) (h : Took w w' b A l') : RdN N w' b l' := by
  obtain ⟨A', c', h1, _, h3⟩ := h
  exact ⟨A', c', h1, hb, hB.trans (h3.below hB.size (fun i hi h => by omega))⟩
theorem RdN.frame {N w : World} {b : Nat} {l : List UInt8} (h : RdN N w b l) : Below N.heap.size N w := by
  obtain ⟨A, c, _, _, h3⟩ := h
  exact h3
theorem RdN.read (w : World) (A : Option Addr) (c : Nat) (l : List UInt8) (hr : Reads w w.heap.size 1 A l.length (l.map bv)) (hl : l.length ≤ 140737488355328) :
    Calls Try.prog 48 #[.slice A l.length c] w fun e w' => ∃ b, e = .returned (.pointer (some ⟨b, 0, none⟩)) ∧ RdN w w' b l := by
  refine (rd_of A l.length c l w hr hl).mono ?_
  rintro e w' ⟨b, A', c', rfl, h1, h2, _, h4⟩
  exact ⟨b, rfl, A', c', h1, h2, h4⟩
theorem RdN.num {N w : World} {b : Nat} {l : List UInt8} (h : RdN N w b l) (n : Nat) (hs : n = 1 ∨ n = 2 ∨ n = 4 ∨ n = 8) (hn : n ≤ l.length) :
    Calls Try.prog 49 #[.pointer (some ⟨b, 0, none⟩), .int .i64 n] w fun e w' => e = .returned (.tuple #[.int .u64 (num (l.take n)), .int .i64 0]) ∧ RdN N w' b (l.drop n) ∧ Keep (fun k => k = b) w w' := by
  obtain ⟨A, c, h, hb, hB⟩ := h
  refine (rnum_total w b c A _ h n (by omega) (by omega)).mono ?_
  rintro e w' ⟨he, ht⟩
  have e2 : rnumErr n l = 0 := by
    unfold rnumErr
    rw [sized_of hs]
    simp
    omega
  rw [e2] at he ht
  obtain ⟨A', c', h1, h2, h3⟩ := ht
  exact ⟨he, RdN.took hb hB ⟨A', c', h1, h2, h3⟩, h3⟩

theorem num_four (s : BitVec 32) (d : List UInt8) (hd : d.length = 4) : num d = s.toNat ↔ four s = d := by
  obtain ⟨a, b, c, e, rfl⟩ : ∃ a b c e, d = [a, b, c, e] := by
    match d, hd with
    | [a, b, c, e], _ => exact ⟨a, b, c, e, rfl⟩
  have ha := a.toNat_lt
  have hb := b.toNat_lt
  have hc := c.toNat_lt
  have he := e.toNat_lt
  have hs := s.isLt
  have hn : num [a, b, c, e] = ((a.toNat * 256 + b.toNat) * 256 + c.toNat) * 256 + e.toNat := by simp [num]
  rw [hn]
  unfold four
  constructor
  · intro h
    have e1 : s.toNat / 16777216 = a.toNat := by omega
    have e2 : s.toNat / 65536 % 256 = b.toNat := by omega
    have e3 : s.toNat / 256 % 256 = c.toNat := by omega
    have e4 : s.toNat % 256 = e.toNat := by omega
    rw [e1, e2, e3, e4, UInt8.ofNat_toNat, UInt8.ofNat_toNat, UInt8.ofNat_toNat, UInt8.ofNat_toNat]
  · intro h
    have g : ∀ (n : Nat) (x : UInt8), n < 256 → UInt8.ofNat n = x → n = x.toNat := fun n x hn e => by
      rw [← e, UInt8.toNat_ofNat', Nat.mod_eq_of_lt (by omega)]
    rw [List.cons.injEq, List.cons.injEq, List.cons.injEq, List.cons.injEq] at h
    obtain ⟨h1, h2, h3, h4, _⟩ := h
    have h1 := g _ _ (by omega) h1
    have h2 := g _ _ (by omega) h2
    have h3 := g _ _ (by omega) h3
    have h4 := g _ _ (by omega) h4
    omega

end Go.Proofs.Ytdjneiboeehclaa.crc

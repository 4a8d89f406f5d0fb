/-
  Layer 5 without any program: a tile, when it may be, its bytes, the tile of bytes; a tile is read from its bytes as it was; bits turned ahead of the sum.
-/
import Derived.Test.YtpededkfgjmhcaaDOps
import Derived.Test.YtpededkfgjmhcaaCrcB
import Derived.Test.YtpededkfgjmhcaaReadL
namespace Go.Proofs.Ytpededkfgjmhcaa.tile
open Go.RowKit Go.Proofs.Ytpededkfgjmhcaa.crc

structure TV where
  file : Int
  no : Int
  kind : Int
  el : List Int

structure TV.Fine (t : TV) : Prop where
  file : i64ok t.file
  no : i64ok t.no
  kind : i64ok t.kind
  el : ∀ x ∈ t.el, i64ok x

def inT (s : Int) : Bool := decide (1 ≤ s) && decide (s ≤ 64)
def fitT (s : Int) : Int := if inT s = true then (s * 128 - 24) / 8 else 0
def charT (x : Int) : Bool := decide (0 ≤ x) && decide (x ≤ 1114111)
def kindT (k : Int) (l : List Int) : Bool := decide (k = 1) || (decide (k = 2) && l.all charT)
def headOk (t : TV) (s : Int) : Bool := inT s && decide (1 ≤ t.file) && decide (0 ≤ t.no) && decide (t.no < 4096)
def okT (t : TV) (s : Int) : Bool := headOk t s && (decide ((t.el.length : Int) ≤ fitT s) && kindT t.kind t.el)
def errT (t : TV) (s : Int) : Int := if okT t s = true then 0 else 50

def i8 (x : Int) : List UInt8 := be 8 (x % 18446744073709551616).toNat
def elsB (l : List Int) : List UInt8 := l.flatMap i8
def headT (t : TV) : List UInt8 := [81, 84, 1] ++ be 1 t.kind.toNat ++ be 8 t.file.toNat ++ be 4 t.no.toNat ++ be 4 t.el.length
def bodyT (t : TV) (s : Nat) : List UInt8 := headT t ++ elsB t.el ++ List.replicate (s * 128 - 4 - (20 + 8 * t.el.length)) 0
def bytesT (t : TV) (s : Nat) : List UInt8 := bodyT t s ++ four (sum (bitsB (bodyT t s)))
def outT (t : TV) (s : Int) : List UInt8 := if okT t s = true then bytesT t s.toNat else []

theorem i8_length (x : Int) : (i8 x).length = 8 := be_length ..
theorem elsB_length : ∀ l : List Int, (elsB l).length = 8 * l.length
  | [] => rfl
  | x :: l => by
    show (i8 x ++ elsB l).length = _
    rw [List.length_append, i8_length, elsB_length l, List.length_cons]
    omega
theorem elsB_snoc (l : List Int) (x : Int) : elsB (l ++ [x]) = elsB l ++ i8 x := by simp [elsB]
theorem headT_length (t : TV) : (headT t).length = 20 := by simp [headT, be_length]

theorem inT_iff {s : Int} : inT s = true ↔ 1 ≤ s ∧ s ≤ 64 := by simp [inT]
theorem okT_of {t : TV} {s : Int} (h : okT t s = true) : (1 ≤ s ∧ s ≤ 64) ∧ 1 ≤ t.file ∧ 0 ≤ t.no ∧ t.no < 4096 ∧ 24 + 8 * t.el.length ≤ 128 * s.toNat ∧ (t.kind = 1 ∨ t.kind = 2) ∧ kindT t.kind t.el = true := by
  unfold okT headOk at h
  simp only [Bool.and_eq_true, decide_eq_true_eq] at h
  obtain ⟨⟨⟨⟨h1, h2⟩, h3⟩, h4⟩, h5, h6⟩ := h
  have hs := inT_iff.1 h1
  refine ⟨hs, h2, h3, h4, ?_, ?_, h6⟩
  · unfold fitT at h5
    rw [if_pos h1] at h5
    omega
  · unfold kindT at h6
    simp only [Bool.or_eq_true, Bool.and_eq_true, decide_eq_true_eq] at h6
    rcases h6 with h | h
    · exact .inl h
    · exact .inr h.1

theorem bodyT_length {t : TV} {s : Nat} (h : 24 + 8 * t.el.length ≤ 128 * s) : (bodyT t s).length = 128 * s - 4 := by
  unfold bodyT
  rw [List.length_append, List.length_append, headT_length, elsB_length, List.length_replicate]
  omega
theorem bytesT_length {t : TV} {s : Nat} (h : 24 + 8 * t.el.length ≤ 128 * s) : (bytesT t s).length = 128 * s := by
  unfold bytesT
  rw [List.length_append, bodyT_length h, four_length]
  omega

/-! ### The tile of bytes -/
def secs (l : List UInt8) : Nat := if l.length % 128 = 0 ∧ inT ((l.length / 128 : Nat) : Int) = true then l.length / 128 else 0
def chunks : Nat → List UInt8 → List Int
  | 0, _ => []
  | n + 1, l => if l.length < 8 then [] else wrap64 (num (l.take 8)) :: chunks n (l.drop 8)
def candT (l : List UInt8) : TV :=
  ⟨wrap64 (num ((((l.drop 3).drop 1)).take 8)), (num ((((l.drop 3).drop 1).drop 8).take 4) : Int), (num ((l.drop 3).take 1) : Int), chunks (num (((((l.drop 3).drop 1).drop 8).drop 4).take 4)) (((((l.drop 3).drop 1).drop 8).drop 4).drop 4)⟩
def goodB (l : List UInt8) : Bool := decide (secs l ≠ 0) && (okT (candT l) (secs l) && (bytesT (candT l) (secs l) == l))
def noT : TV := ⟨0, 0, 0, []⟩
def decT (l : List UInt8) : TV := if goodB l = true then candT l else noT
def decErr (l : List UInt8) : Int := if goodB l = true then 0 else 50
def soundB (l : List UInt8) : Bool := decide (secs l ≠ 0) && isSealed l

theorem chunks_els : ∀ (el : List Int) (r : List UInt8), (∀ x ∈ el, i64ok x) → chunks el.length (elsB el ++ r) = el
  | [], _, _ => rfl
  | x :: el, r, h => by
    have hx := h x List.mem_cons_self
    have e : elsB (x :: el) ++ r = i8 x ++ (elsB el ++ r) := by
      show (i8 x ++ elsB el) ++ r = _
      rw [List.append_assoc]
    have h8 := i8_length x
    show (if (elsB (x :: el) ++ r).length < 8 then [] else wrap64 (num ((elsB (x :: el) ++ r).take 8)) :: chunks el.length ((elsB (x :: el) ++ r).drop 8)) = _
    rw [e, if_neg (by rw [List.length_append, h8]; omega), List.take_left' h8, List.drop_left' h8, chunks_els el r (fun y hy => h y (List.mem_cons_of_mem _ hy))]
    have hn : num (i8 x) = (x % 18446744073709551616).toNat := by
      unfold i8
      rw [num_be, Nat.mod_eq_of_lt (by omega)]
    rw [hn, wrap64_mod x hx.1 hx.2]

theorem secs_of {l : List UInt8} {s : Nat} (h : l.length = 128 * s) (hs : 1 ≤ s ∧ s ≤ 64) : secs l = s := by
  have h1 : l.length / 128 = s := by omega
  unfold secs
  rw [if_pos ⟨by omega, by rw [h1, inT_iff]; omega⟩, h1]
theorem secs_some {l : List UInt8} (h : secs l ≠ 0) : l.length = 128 * secs l ∧ 1 ≤ secs l ∧ secs l ≤ 64 := by
  unfold secs at h ⊢
  by_cases hc : l.length % 128 = 0 ∧ inT ((l.length / 128 : Nat) : Int) = true
  · rw [if_pos hc]
    have := inT_iff.1 hc.2
    omega
  · rw [if_neg hc] at h
    exact absurd rfl h

theorem cand_bytes {t : TV} {s : Int} (hok : okT t s = true) (hf : t.Fine) : candT (bytesT t s.toNat) = t := by
  obtain ⟨hs, h1, h2, h3, h4, h5, _⟩ := okT_of hok
  have e : bytesT t s.toNat = [81, 84, 1] ++ (be 1 t.kind.toNat ++ (be 8 t.file.toNat ++ (be 4 t.no.toNat ++ (be 4 t.el.length ++ (elsB t.el ++ (List.replicate (s.toNat * 128 - 4 - (20 + 8 * t.el.length)) 0 ++ four (sum (bitsB (bodyT t s.toNat))))))))) := by
    show bodyT t s.toNat ++ four _ = _
    conv => lhs; arg 1; unfold bodyT headT
    simp only [List.append_assoc]
  have d3 : ∀ r : List UInt8, ([81, 84, 1] ++ r).drop 3 = r := fun r => rfl
  have hfl := hf.file
  unfold i64ok at hfl
  have hfile : wrap64 ((t.file.toNat : Nat) : Int) = t.file := by unfold wrap64; omega
  have hel : t.el.length < 4294967296 := by omega
  unfold candT
  rw [e, d3, List.take_left' (be_length ..), List.drop_left' (be_length ..), List.take_left' (be_length ..), List.drop_left' (be_length ..), List.take_left' (be_length ..), List.drop_left' (be_length ..), List.take_left' (be_length ..), List.drop_left' (be_length ..)]
  rw [num_be, num_be, num_be, num_be, Nat.mod_eq_of_lt (show t.kind.toNat < 256 ^ 1 by omega), Nat.mod_eq_of_lt (show t.file.toNat < 256 ^ 8 by omega), Nat.mod_eq_of_lt (show t.no.toNat < 256 ^ 4 by omega), Nat.mod_eq_of_lt (show t.el.length < 256 ^ 4 by omega)]
  rw [chunks_els _ _ hf.el, hfile, Int.toNat_of_nonneg (by omega), Int.toNat_of_nonneg (by omega)]

theorem good_bytes {t : TV} {s : Int} (hok : okT t s = true) (hf : t.Fine) : goodB (bytesT t s.toNat) = true ∧ candT (bytesT t s.toNat) = t ∧ secs (bytesT t s.toNat) = s.toNat := by
  obtain ⟨hs, _, _, _, h4, _, _⟩ := okT_of hok
  have hc := cand_bytes hok hf
  have hsec := secs_of (bytesT_length h4) (show 1 ≤ s.toNat ∧ s.toNat ≤ 64 by omega)
  refine ⟨?_, hc, hsec⟩
  unfold goodB
  rw [hc, hsec, decide_eq_true (show s.toNat ≠ 0 by omega), show ((s.toNat : Nat) : Int) = s by omega, hok]
  simp

theorem sealed_bytes (t : TV) (s : Nat) : isSealed (bytesT t s) = true := sealed_seal _
theorem good_sound {l : List UInt8} (h : goodB l = true) : soundB l = true ∧ okT (candT l) (secs l) = true ∧ bytesT (candT l) (secs l) = l ∧ secs l ≠ 0 := by
  unfold goodB at h
  simp only [Bool.and_eq_true, decide_eq_true_eq, beq_iff_eq] at h
  obtain ⟨h1, h2, h3⟩ := h
  refine ⟨?_, h2, h3, h1⟩
  unfold soundB
  rw [decide_eq_true h1, ← h3, sealed_bytes]
  rfl
theorem sound_bytes {t : TV} {s : Int} (hok : okT t s = true) : soundB (bytesT t s.toNat) = true := by
  obtain ⟨hs, _, _, _, h4, _, _⟩ := okT_of hok
  have hsec := secs_of (bytesT_length h4) (show 1 ≤ s.toNat ∧ s.toNat ≤ 64 by omega)
  unfold soundB
  rw [hsec, sealed_bytes, decide_eq_true (show s.toNat ≠ 0 by omega)]
  rfl

theorem bytes_inj {t u : TV} {s : Int} (h1 : okT t s = true) (h2 : okT u s = true) (f1 : t.Fine) (f2 : u.Fine) (h : bytesT t s.toNat = bytesT u s.toNat) : t = u := by
  rw [← cand_bytes h1 f1, h, cand_bytes h2 f2]

/-! ### Bits turned ahead of the sum -/
theorem flip_append (l r : List UInt8) (p : Nat) (h : p < 8 * l.length) : crc.flip (l ++ r) p = crc.flip l p ++ r := by
  unfold crc.flip
  have hl : p / 8 < l.length := by omega
  rw [List.set_append_left _ _ hl, List.getElem?_append_left hl]
theorem turned_append (l r : List UInt8) (at_ t : Nat) : ∀ i, at_ + i ≤ 8 * l.length → turned (l ++ r) at_ t i = turned l at_ t i ++ r
  | 0, _ => rfl
  | i + 1, h => by
    have ih := turned_append l r at_ t i (by omega)
    unfold turned
    rw [ih]
    split
    · rw [flip_append _ _ _ (by rw [turned_length]; omega)]
    · rfl
theorem body_turned (l : List UInt8) (at_ t : Nat) (h : at_ + 32 ≤ 8 * l.length) (ht : t < 4294967296) (h0 : t ≠ 0) : isSealed (turned (l ++ four (sum (bitsB l))) at_ t 32) = false := by
  obtain ⟨a, b, c, d, h4, _⟩ := four_split (sum (bitsB l))
  rw [turned_append _ _ _ _ _ h, h4]
  have hb := sealed_burst l at_ t (by omega) ht (turned l at_ t 32) a b c d (by rw [h4, turned_append _ _ _ _ _ h]; rfl)
  rw [hb]
  exact decide_eq_false h0
theorem bad_of_unsealed {l : List UInt8} (h : isSealed l = false) : soundB l = false ∧ goodB l = false := by
  have hs : soundB l = false := by unfold soundB; rw [h, Bool.and_false]
  refine ⟨hs, ?_⟩
  cases hg : goodB l
  · rfl
  · have := (good_sound hg).1
    rw [hs] at this
    cases this

end Go.Proofs.Ytpededkfgjmhcaa.tile

/-
  CRC-32, without any program: a register, its steps, sums that are joined, and why a burst of 32 bits is never lost.
  The document's own answers for layer 2: a register's step, sums, a sum's bytes, what is sealed, what is opened.
-/
import Derived.Test.YtdjneiboeehclaaBase
import Derived.Test.YtdjneiboeehclaaByt
import Derived.Laws.BitsAllLaws
namespace Go.Proofs.Ytdjneiboeehclaa.crc

/-- EDB88320. -/
def poly : BitVec 32 := 3988292384#32
def ones : BitVec 32 := 4294967295#32

def sel (b : Bool) : BitVec 32 := if b = true then poly else 0#32
/-- A register, with a bit. -/
def stp (c : BitVec 32) (b : Bool) : BitVec 32 := (c >>> 1) ^^^ sel (c.getLsbD 0 ^^ b)
def run (c : BitVec 32) (l : List Bool) : BitVec 32 := l.foldl stp c

theorem run_nil (c : BitVec 32) : run c [] = c := rfl
theorem run_cons (c : BitVec 32) (b : Bool) (l : List Bool) : run c (b :: l) = run (stp c b) l := rfl
theorem run_append (c : BitVec 32) (l m : List Bool) : run c (l ++ m) = run (run c l) m := List.foldl_append

theorem xor_swap (a b c d : BitVec 32) : (a ^^^ b) ^^^ (c ^^^ d) = (a ^^^ c) ^^^ (b ^^^ d) := by
  rw [BitVec.xor_assoc, BitVec.xor_assoc, ← BitVec.xor_assoc b c d, BitVec.xor_comm b c, BitVec.xor_assoc c b d]
theorem sel_xor (a b : Bool) : sel (a ^^ b) = sel a ^^^ sel b := by
  cases a <;> cases b <;> simp [sel]

theorem stp_linear (c d : BitVec 32) (a b : Bool) : stp (c ^^^ d) (a ^^ b) = stp c a ^^^ stp d b := by
  unfold stp
  rw [BitVec.getLsbD_xor, BitVec.ushiftRight_xor_distrib, xor_swap, ← sel_xor]
  congr 2
  cases c.getLsbD 0 <;> cases d.getLsbD 0 <;> cases a <;> cases b <;> rfl

theorem run_linear : ∀ (l m : List Bool) (c d : BitVec 32), l.length = m.length → run (c ^^^ d) (List.zipWith Bool.xor l m) = run c l ^^^ run d m
  | [], [], c, d, _ => rfl
  | a :: l, b :: m, c, d, h => by
    rw [List.zipWith_cons_cons, run_cons, run_cons, run_cons, stp_linear]
    exact run_linear l m _ _ (by simpa using h)
  | [], _ :: _, _, _, h => by simp at h
  | _ :: _, [], _, _, h => by simp at h

theorem stp_zero : stp 0#32 false = 0#32 := by decide
theorem run_zero (n : Nat) : run 0#32 (List.replicate n false) = 0#32 := by
  induction n with
  | zero => rfl
  | succ n ih => rw [List.replicate_succ, run_cons, stp_zero, ih]

/-- A nought's step loses nothing. -/
theorem stp_eq_zero {c : BitVec 32} (h : stp c false = 0#32) : c = 0#32 := by
  unfold stp at h
  rw [Bool.xor_false] at h
  cases h0 : c.getLsbD 0
  · rw [h0] at h
    simp only [sel, Bool.false_eq_true, if_false, BitVec.xor_zero] at h
    apply BitVec.eq_of_getLsbD_eq
    intro i hi
    rcases i with _ | i
    · rw [h0]; simp
    · have := congrArg (fun x => x.getLsbD i) h
      simp only [BitVec.getLsbD_ushiftRight] at this
      rw [Nat.add_comm] at this
      rw [this]
      simp
  · rw [h0] at h
    have := congrArg (fun x => x.getLsbD 31) h
    simp only [sel, if_true, BitVec.getLsbD_xor, BitVec.getLsbD_ushiftRight] at this
    rw [BitVec.getLsbD_of_ge c 32 (by omega)] at this
    exact absurd this (by decide)
theorem run_zeros_eq_zero : ∀ (n : Nat) (c : BitVec 32), run c (List.replicate n false) = 0#32 → c = 0#32
  | 0, _, h => h
  | n + 1, c, h => by
    rw [List.replicate_succ, run_cons] at h
    exact stp_eq_zero (run_zeros_eq_zero n _ h)
theorem run_zeros_linear (n : Nat) (c d : BitVec 32) : run (c ^^^ d) (List.replicate n false) = run c (List.replicate n false) ^^^ run d (List.replicate n false) := by
  rw [← run_linear _ _ c d rfl, List.zipWith_replicate]
  simp

/-- The lowest k bits of w, the lowest one first. -/
def bitsOf (w : Nat) (k : Nat) : List Bool := (List.range k).map w.testBit
theorem bitsOf_length (w k : Nat) : (bitsOf w k).length = k := by simp [bitsOf]
theorem bitsOf_succ (w k : Nat) : bitsOf w (k + 1) = w.testBit 0 :: bitsOf (w / 2) k := by
  unfold bitsOf
  rw [List.range_succ_eq_map, List.map_cons, List.map_map]
  congr 1
  apply List.map_congr_left
  intro i _
  simp [Nat.testBit_succ]

/-- So many bits, fed in, are so many noughts' steps behind what they are laid over. -/
theorem run_bits : ∀ (k : Nat) (c : BitVec 32) (w : Nat), k ≤ 32 → run c (bitsOf w k) = run (c ^^^ BitVec.ofNat 32 (w % 2 ^ k)) (List.replicate k false)
  | 0, c, w, _ => by
    rw [Nat.pow_zero, Nat.mod_one]
    simp [bitsOf]
    try rfl
  | k + 1, c, w, h => by
    rw [bitsOf_succ, run_cons, run_bits k _ _ (by omega), List.replicate_succ, run_cons]
    congr 1
    have h1 : stp (c ^^^ BitVec.ofNat 32 (w % 2 ^ (k + 1))) (w.testBit 0 ^^ w.testBit 0) = stp c (w.testBit 0) ^^^ stp (BitVec.ofNat 32 (w % 2 ^ (k + 1))) (w.testBit 0) := stp_linear _ _ _ _
    rw [Bool.xor_self] at h1
    rw [h1]
    congr 1
    have hlt : w % 2 ^ (k + 1) < 2 ^ 32 := Nat.lt_of_lt_of_le (Nat.mod_lt _ (Nat.pow_pos (by omega))) (Nat.pow_le_pow_right (by omega) h)
    unfold stp
    have hb : (BitVec.ofNat 32 (w % 2 ^ (k + 1))).getLsbD 0 = w.testBit 0 := by
      rw [BitVec.getLsbD_ofNat, Nat.testBit_mod_two_pow]
      simp
    rw [hb, Bool.xor_self]
    simp only [sel, Bool.false_eq_true, if_false, BitVec.xor_zero]
    apply BitVec.eq_of_toNat_eq
    rw [BitVec.toNat_ushiftRight, BitVec.toNat_ofNat, BitVec.toNat_ofNat, Nat.mod_eq_of_lt hlt, Nat.shiftRight_eq_div_pow, Nat.pow_one]
    have e1 : w % 2 ^ (k + 1) / 2 = w / 2 % 2 ^ k := by
      rw [Nat.pow_succ, Nat.mul_comm, Nat.mod_mul_right_div_self]
    rw [e1, Nat.mod_eq_of_lt]
    omega

/-- The sum of bits behind a register that is told by its sum. -/
def more (s : BitVec 32) (l : List Bool) : BitVec 32 := run (s ^^^ ones) l ^^^ ones
/-- The sum of bits. -/
def sum (l : List Bool) : BitVec 32 := more 0#32 l
def join (f s : BitVec 32) (n : Nat) : BitVec 32 := run f (List.replicate n false) ^^^ s

theorem xor_xor (a b : BitVec 32) : a ^^^ b ^^^ b = a := by rw [BitVec.xor_assoc, BitVec.xor_self, BitVec.xor_zero]
theorem more_append (s : BitVec 32) (l m : List Bool) : more (more s l) m = more s (l ++ m) := by
  unfold more
  rw [xor_xor, run_append]
theorem zip_false (l : List Bool) : List.zipWith Bool.xor l (List.replicate l.length false) = l := by
  induction l with
  | nil => rfl
  | cons a l ih => rw [List.length_cons, List.replicate_succ, List.zipWith_cons_cons, ih, Bool.xor_false]
theorem join_more (f : BitVec 32) (l : List Bool) : join f (sum l) l.length = more f l := by
  unfold join sum more
  have h := run_linear l (List.replicate l.length false) ones f (by simp)
  rw [zip_false] at h
  rw [BitVec.xor_comm f ones, h, BitVec.zero_xor]
  rw [BitVec.xor_comm (run ones l) (run f _), BitVec.xor_assoc]
theorem join_join (f s t : BitVec 32) (n m : Nat) : join (join f s n) t m = join f (join s t m) (n + m) := by
  unfold join
  rw [run_zeros_linear, ← run_append, List.replicate_append_replicate, BitVec.xor_assoc]
theorem sum_linear (a b c : List Bool) (h1 : a.length = b.length) (h2 : a.length = c.length) : sum (List.zipWith Bool.xor (List.zipWith Bool.xor a b) c) = sum a ^^^ sum b ^^^ sum c := by
  unfold sum more
  have e : 0#32 ^^^ ones = ones ^^^ ones ^^^ ones := by decide
  rw [e, run_linear _ _ _ _ (by rw [List.length_zipWith]; omega), run_linear _ _ _ _ h1, ← e, BitVec.zero_xor]
  have e2 : ones = ones ^^^ ones ^^^ ones := by decide
  have e3 : ∀ x y z : BitVec 32, x ^^^ y ^^^ z ^^^ (ones ^^^ ones ^^^ ones) = x ^^^ ones ^^^ (y ^^^ ones) ^^^ (z ^^^ ones) := fun x y z => by
    rw [xor_swap (x ^^^ y) z, xor_swap x y]
  rw [← e3, ← e2]

/-- Bits l, with w behind them, are sealed: w is l's sum. -/
theorem sealed_iff (l : List Bool) (w : BitVec 32) : sum l = w ↔ run ones (l ++ bitsOf (w ^^^ ones).toNat 32) = 0#32 := by
  rw [run_append, run_bits 32 _ _ (Nat.le_refl _), Nat.mod_eq_of_lt (BitVec.isLt _), BitVec.ofNat_toNat, BitVec.setWidth_eq]
  unfold sum more
  rw [BitVec.zero_xor]
  constructor
  · rintro rfl
    rw [xor_xor, BitVec.xor_self, run_zero]
  · intro h
    have := run_zeros_eq_zero _ _ h
    rw [← BitVec.xor_assoc] at this
    have h2 := congrArg (· ^^^ w) (show (run ones l ^^^ ones) ^^^ w = 0#32 by rw [BitVec.xor_assoc, BitVec.xor_comm ones w, ← BitVec.xor_assoc]; exact this)
    try dsimp only at h2
    rw [xor_xor, BitVec.zero_xor] at h2
    exact h2

/-- A burst is not lost. -/
theorem run_burst (p q : Nat) (w : Nat) : run 0#32 (List.replicate p false ++ bitsOf w 32 ++ List.replicate q false) = 0#32 ↔ w % 4294967296 = 0 := by
  rw [run_append, run_append, run_zero, run_bits 32 _ _ (Nat.le_refl _), BitVec.zero_xor]
  constructor
  · intro h
    have := run_zeros_eq_zero _ _ (run_zeros_eq_zero _ _ h)
    have h3 := congrArg BitVec.toNat this
    rw [BitVec.toNat_ofNat] at h3
    have h4 : (0#32).toNat = 0 := rfl
    rw [h4] at h3
    have h5 : (2 : Nat) ^ 32 = 4294967296 := by decide
    rw [h5] at h3
    omega
  · intro h
    rw [show (2 ^ 32 : Nat) = 4294967296 from rfl, h]
    rw [show BitVec.ofNat 32 0 = 0#32 from rfl, run_zero, run_zero]

theorem bitsOf_not (w : BitVec 32) : bitsOf (w ^^^ ones).toNat 32 = List.zipWith Bool.xor (bitsOf w.toNat 32) (List.replicate 32 true) := by
  apply List.ext_getElem?
  intro i
  rw [List.getElem?_zipWith]
  unfold bitsOf
  by_cases hi : i < 32
  · rw [List.getElem?_map, List.getElem?_map, List.getElem?_range hi, List.getElem?_replicate, if_pos hi]
    simp only [Option.map_some, BitVec.toNat_xor, Nat.testBit_xor]
    have : ones.toNat.testBit i = true := by
      have h9 : ones.toNat = 2 ^ 32 - 1 := rfl
      rw [h9, Nat.testBit_two_pow_sub_one]
      simpa using hi
    rw [this]
  · rw [List.getElem?_eq_none (by simp; omega), List.getElem?_eq_none (by simp; omega)]

/-- Sealed bits (the sum's bits the lowest first), some of them turned: they are sealed just if what was turned, run from nothing, comes to nothing. -/
theorem turned_iff (l l' : List Bool) (w w' : BitVec 32) (E : List Bool) (hl : l'.length = l.length) (hE : E.length = l.length + 32) (h : l' ++ bitsOf w'.toNat 32 = List.zipWith Bool.xor (l ++ bitsOf w.toNat 32) E) (hs : sum l = w) :
    sum l' = w' ↔ run 0#32 E = 0#32 := by
  have h1 := (sealed_iff l w).1 hs
  have hx : ∀ (m : List Bool) (v : BitVec 32), m ++ bitsOf (v ^^^ ones).toNat 32 = List.zipWith Bool.xor (m ++ bitsOf v.toNat 32) (List.replicate m.length false ++ List.replicate 32 true) := fun m v => by
    rw [List.zipWith_append (by simp), zip_false, bitsOf_not]
  have hz : l' ++ bitsOf (w' ^^^ ones).toNat 32 = List.zipWith Bool.xor (l ++ bitsOf (w ^^^ ones).toNat 32) E := by
    rw [hx l', hx l, h, hl]
    generalize l ++ bitsOf w.toNat 32 = X
    generalize List.replicate l.length false ++ List.replicate 32 true = Y
    apply List.ext_getElem?
    intro i
    simp only [List.getElem?_zipWith]
    cases X[i]? <;> cases Y[i]? <;> cases E[i]? <;> simp
    rename_i a b c
    cases a <;> cases b <;> cases c <;> rfl
  have hr := run_linear (l ++ bitsOf (w ^^^ ones).toNat 32) E ones 0#32 (by rw [List.length_append, bitsOf_length, hE])
  rw [BitVec.xor_zero, ← hz, h1, BitVec.zero_xor] at hr
  rw [sealed_iff, hr]

end Go.Proofs.Ytdjneiboeehclaa.crc

namespace Go.Proofs.Ytdjneiboeehclaa.crc
open Go.RowKit

/-- A register as a value. -/
def rv (c : BitVec 32) : Value := .int .u32 (c.toNat : Int)

theorem stp_nat (c : BitVec 32) (b : Bool) : ((stp c b).toNat : Nat) = if (c.toNat ^^^ b.toNat) % 2 = 1 then (c.toNat / 2) ^^^ 3988292384 else c.toNat / 2 := by
  have hb : (c.getLsbD 0 ^^ b) = decide ((c.toNat ^^^ b.toNat) % 2 = 1) := by
    rw [← Nat.testBit_zero, Nat.testBit_xor]
    congr 1
    cases b <;> rfl
  unfold stp
  rw [hb, BitVec.toNat_xor, BitVec.toNat_ushiftRight, Nat.shiftRight_eq_div_pow, Nat.pow_one]
  by_cases h : (c.toNat ^^^ b.toNat) % 2 = 1
  · rw [if_pos h]
    simp [h, sel]
    rfl
  · rw [if_neg h]
    simp [h, sel]

/-- The bits of bytes, each byte's lowest one first. -/
def bitsB (l : List UInt8) : List Bool := l.flatMap fun x => bitsOf x.toNat 8
theorem bitsB_append (l m : List UInt8) : bitsB (l ++ m) = bitsB l ++ bitsB m := List.flatMap_append
theorem bitsB_length (l : List UInt8) : (bitsB l).length = 8 * l.length := by
  induction l with
  | nil => rfl
  | cons x l ih =>
    show (bitsOf x.toNat 8 ++ bitsB l).length = _
    rw [List.length_append, bitsOf_length, ih, List.length_cons]
    omega
theorem bitsOf_snoc (w k : Nat) : bitsOf w (k + 1) = bitsOf w k ++ [w.testBit k] := by
  unfold bitsOf
  rw [List.range_succ, List.map_append]
  rfl
theorem run_snoc (c : BitVec 32) (l : List Bool) (b : Bool) : run c (l ++ [b]) = stp (run c l) b := by
  rw [run_append]
  rfl

end Go.Proofs.Ytdjneiboeehclaa.crc

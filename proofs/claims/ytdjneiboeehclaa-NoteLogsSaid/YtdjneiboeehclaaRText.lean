/-
  The chapter's first example holds: 'alive' answers true, and what lay there lies.
  THE READER: what is left to read, where that lies; the calls valid, next, join.
  The Writer's Num for whatever size and number in one word; and plain facts on big-endian bytes.
  The Reader's calls: Read, Num, Int, Raw, Left, End (Text lies in a text of its own).
  The Reader's Raw and Text.
-/
import Derived.Test.YtdjneiboeehclaaWriter
import Derived.Laws.Bits64b
namespace Go.Proofs.Ytdjneiboeehclaa
open Go.RowKit

theorem Wr.made (w : World) : Wr (w.alloc (.cells #[.slice none 0 0, .pointer none] 59)) w.heap.size none 0 none [] := Wr.zero (Blk.new w _ _)
theorem foot_new {b k : Nat} (h : foot b none none k) : k = b := by
  rcases h with h | ⟨ad, e, _⟩ | ⟨p, e, _⟩
  · exact h
  · cases e
  · cases e

theorem alive_bytes : ([] : List UInt8) ++ be 2 258 ++ be 8 ((-2 : Int) % 18446744073709551616).toNat ++ be 2 2 ++ [97, 98] = [1, 2, 255, 255, 255, 255, 255, 255, 255, 254, 0, 2, 97, 98] := by decide +kernel

end Go.Proofs.Ytdjneiboeehclaa

namespace Go.Proofs.Ytdjneiboeehclaa
open Go.RowKit

/-- The Reader at block b has l left to read. -/
structure Rd (w : World) (b : Nat) (A : Option Addr) (c : Nat) (l : List UInt8) : Prop where
  blk : Blk w b 100 #[.slice A l.length c, .bool true]
  reads : Reads w w.heap.size 1 A l.length (l.map bv)
  sep : ∀ ad, A = some ad → ad.block ≠ b
  lt : ∀ ad, A = some ad → ad.block < w.heap.size
  cap : l.length ≤ c
  big : c ≤ 9223372036854775807

theorem Rd.keep {w w' : World} {b c : Nat} {A : Option Addr} {l : List UInt8} {S : Nat → Prop} (h : Rd w b A c l) (hk : Keep S w w') (hb : ¬ S b) (hA : ∀ ad, A = some ad → ¬ S ad.block) : Rd w' b A c l :=
  ⟨hk.blk h.blk hb, (h.reads.keepS hk (Nat.le_refl _) hA).more hk.size, h.sep, fun ad e => Nat.lt_of_lt_of_le (h.lt ad e) hk.size, h.cap, h.big⟩

/-- From w to w' the Reader at b (its row at A) has moved on, l' is left; nothing else that lay there has turned. -/
def Took (w w' : World) (b : Nat) (A : Option Addr) (l' : List UInt8) : Prop :=
  ∃ A' c', Rd w' b A' c' l' ∧ (∀ ad, A' = some ad → ∃ ad0, A = some ad0 ∧ ad.block = ad0.block) ∧ Keep (fun k => k = b) w w'

theorem Took.same {w : World} {b c : Nat} {A : Option Addr} {l : List UInt8} (h : Rd w b A c l) : Took w w b A l := ⟨A, c, h, fun ad e => ⟨ad, e, rfl⟩, Keep.refl _ _⟩
theorem Took.trans {w w1 w2 : World} {b : Nat} {A A1 : Option Addr} {l2 : List UInt8} (hA : ∀ ad, A1 = some ad → ∃ ad0, A = some ad0 ∧ ad.block = ad0.block) (hk : Keep (fun k => k = b) w w1) (h : Took w1 w2 b A1 l2) : Took w w2 b A l2 := by
  obtain ⟨A', c', h1, h2, h3⟩ := h
  refine ⟨A', c', h1, fun ad e => ?_, hk.trans h3 (fun _ _ h => h)⟩
  obtain ⟨ad1, e1, f1⟩ := h2 ad e
  obtain ⟨ad0, e0, f0⟩ := hA ad1 e1
  exact ⟨ad0, e0, f1.trans f0⟩

theorem cut_block {A A' : Option Addr} {c k : Nat} (hA : A' = if c = k then A else A.map (·.add k)) : ∀ ad, A' = some ad → ∃ ad0, A = some ad0 ∧ ad.block = ad0.block := by
  intro ad e
  subst hA
  by_cases h : c = k
  · rw [if_pos h] at e; exact ⟨ad, e, rfl⟩
  · rw [if_neg h] at e
    rcases A with _ | ad0
    · cases e
    · injection e with e; subst e
      exact ⟨ad0, rfl, block_of_add _ _⟩

/-- The Reader moved on by k bytes. -/
theorem Rd.moved {w w1 : World} {b c k n : Nat} {A A' : Option Addr} {l : List UInt8} (h : Rd w1 b A c l) (hk : k ≤ l.length) (hw : Keep (fun k => k = b) w w1) (hA : A' = if c = k then A else A.map (·.add k)) (hn : n = l.length - k) :
    Took w (w1.setCell ⟨b, 0, none⟩ (.slice A' n (c - k))) b A (l.drop k) := by
  have hr := h.reads.cut (cap := c) hk h.cap
  rw [Nat.mul_one, ← hA, ← List.map_drop] at hr
  have hk1 : Keep (fun k => k = b) w1 (w1.setCell ⟨b, 0, none⟩ (.slice A' n (c - k))) := (Keep.refl (fun k => k = b) w1).setCell ⟨b, 0, none⟩ _ (fun _ => rfl)
  have hb := cut_block hA
  subst hn
  refine ⟨A', c - k, ⟨?_, ?_, ?_, ?_, ?_, ?_⟩, hb, hw.trans hk1 (fun _ _ h => h)⟩
  · have := h.blk.set_ 0 (.slice A' (l.length - k) (c - k))
    simpa using this
  · have h2 := (hr.keepS hk1 (Nat.le_refl _) (fun ad e => by obtain ⟨ad0, e0, f0⟩ := hb ad e; rw [f0]; exact h.sep ad0 e0)).more hk1.size
    rw [List.length_drop]
    exact h2
  · intro ad e
    obtain ⟨ad0, e0, f0⟩ := hb ad e
    rw [f0]
    exact h.sep ad0 e0
  · intro ad e
    obtain ⟨ad0, e0, f0⟩ := hb ad e
    rw [f0]
    exact Nat.lt_of_lt_of_le (h.lt ad0 e0) hk1.size
  · rw [List.length_drop]; have := h.cap; omega
  · have := h.big; omega

/-- A copy in a block of its own. -/
theorem Rd.copy {w : World} {b c : Nat} {A : Option Addr} {l : List UInt8} (h : Rd w b A c l) : Rd (w.alloc (.cells #[.slice A l.length c, .bool true] 100)) w.heap.size A c l :=
  ⟨Blk.new w _ _, (h.reads.alloc (Nat.le_refl _) _).more (by simp), fun ad e => by have := h.lt ad e; omega, fun ad e => by have := h.lt ad e; simp; omega, h.cap, h.big⟩

/-- The copy moved on, the Reader did not. -/
theorem Rd.side {w w1 : World} {b c : Nat} {A : Option Addr} {l : List UInt8} {o : Obj} (h : Rd w b A c l) (hk : Keep (fun k => k = w.heap.size) (w.alloc o) w1) : Took w w1 b A l := by
  have h0 : Keep (fun k => k = b) w (w.alloc o) := (Keep.refl _ w).alloc o
  have hlt := h.blk.lt
  have h2 : Keep (fun _ => False) w w1 := ((Keep.refl (fun _ => False) w).alloc o).trans hk (fun i hi e => by omega)
  exact ⟨A, c, h.keep h2 (fun h => h) (fun _ _ h => h), fun ad e => ⟨ad, e, rfl⟩, h0.trans hk (fun i hi e => by omega)⟩

/-- The copy's state taken over. -/
theorem Rd.back {w2 : World} {b bA c3 : Nat} {A3 : Option Addr} {l3 : List UInt8} {x y : Value} (hb : Blk w2 b 100 #[x, y]) (h : Rd w2 bA A3 c3 l3) (hs : ∀ ad, A3 = some ad → ad.block ≠ b) :
    Rd ((w2.setCell ⟨b, 0, none⟩ (.slice A3 l3.length c3)).setCell ⟨b, 1, none⟩ (.bool true)) b A3 c3 l3 := by
  have hk : Keep (fun k => k = b) w2 ((w2.setCell ⟨b, 0, none⟩ (.slice A3 l3.length c3)).setCell ⟨b, 1, none⟩ (.bool true)) := ((Keep.refl (fun k => k = b) w2).setCell ⟨b, 0, none⟩ _ (fun _ => rfl)).setCell ⟨b, 1, none⟩ _ (fun _ => rfl)
  exact ⟨(hb.set_ 0 (.slice A3 l3.length c3)).set_ 1 (.bool true), (h.reads.keepS hk (Nat.le_refl _) hs).more hk.size, hs, fun ad e => Nat.lt_of_lt_of_le (h.lt ad e) hk.size, h.cap, h.big⟩

theorem valid_nil (w : World) : Calls Try.prog 54 #[.pointer none] w fun e w' => e = .returned (.bool false) ∧ w = w' := by
  go_enter Try.func54, Try.ntmps54
  go_wp2
  go_ret
  exact ⟨rfl, rfl⟩

theorem valid_any (b : Nat) (v : Value) (m : Bool) (w : World) (h : Blk w b 100 #[v, .bool m]) : Calls Try.prog 54 #[.pointer (some ⟨b, 0, none⟩)] w fun e w' => e = .returned (.bool m) ∧ w = w' := by
  have c1 : w.cell? ⟨b, 1, none⟩ = some (.bool m) := h.cell 1
  clear h
  go_enter Try.func54, Try.ntmps54
  go_wp2
  go_ret
  exact ⟨rfl, rfl⟩

theorem next_any (w : World) (b c : Nat) (A : Option Addr) (x : UInt8) (l : List UInt8) (h : Rd w b A c (x :: l)) :
    Calls Try.prog 56 #[.pointer (some ⟨b, 0, none⟩)] w fun e w' => e = .returned (.int .u8 (x.toNat : Int)) ∧ Took w w' b A l := by
  obtain ⟨ad, v, rfl, hlt, hx, hc⟩ := h.reads.at_ (k := 0) (by simp)
  have c0 : w.cell? ⟨b, 0, none⟩ = some (.slice (some ad) (l.length + 1) c) := h.blk.cell 0
  have f0 := h.blk.frozen 0
  have hcap : l.length + 1 ≤ c := h.cap
  have hbig := h.big
  obtain rfl : bv x = v := by simpa using hx
  have hc' : w.cell? ad = some (.int .u8 (x.toNat : Int)) := hc
  have H := Lib.hid h
  clear h hx hc
  by_cases h1 : c = 1
  · subst h1
    have hl0 : l.length = 0 := by omega
    have hl : l = [] := List.eq_nil_of_length_eq_zero hl0
    subst hl
    clear hl0 hcap hbig
    go_enter Try.func56, Try.ntmps56
    go_wp2
    go_ret
    exact ⟨rfl, H.out.moved (k := 1) (by simp) (Keep.refl _ w) (by rw [if_pos rfl]) (by simp)⟩
  · have h2 : 2 ≤ c := by omega
    go_enter Try.func56, Try.ntmps56
    go_wp2
    go_ret
    exact ⟨rfl, H.out.moved (k := 1) (by simp) (Keep.refl _ w) (by rw [if_neg h1]; rfl) (by simp)⟩

/-- The number that bytes are, the highest one first. -/
def num (l : List UInt8) : Nat := l.foldl (fun n b => n * 256 + b.toNat) 0
theorem num_snoc (l : List UInt8) (x : UInt8) : num (l ++ [x]) = num l * 256 + x.toNat := by simp [num]
theorem num_lt (l : List UInt8) : num l < 256 ^ l.length := by
  have : ∀ (n : Nat) (l : List UInt8), l.foldl (fun n b => n * 256 + b.toNat) n < (n + 1) * 256 ^ l.length := by
    intro n l
    induction l generalizing n with
    | nil => simp
    | cons x l ih =>
      have h := ih (n * 256 + x.toNat)
      have hx := x.toNat_lt
      simp only [List.foldl_cons, List.length_cons]
      refine Nat.lt_of_lt_of_le h ?_
      rw [Nat.pow_succ', ← Nat.mul_assoc]
      exact Nat.mul_le_mul_right _ (by omega)
  have h := this 0 l
  simpa [num] using h

theorem bits_or (n x : Nat) (hn : n ≤ 72057594037927935) (hx : x < 256) : bits BinOp.or IntKind.u64 ((n : Int) * 256) (x : Int) = ((n * 256 + x : Nat) : Int) := by
  have h1 : ((n : Int) * 256) = ((n * 256 : Nat) : Int) := by simp
  rw [h1, bits_or_u64_nat (n * 256) x (by omega) (by omega)]
  have h2 := Nat.shiftLeft_add_eq_or_of_lt (b := x) (i := 8) (by simpa using hx) n
  rw [Nat.shiftLeft_eq] at h2
  rw [← h2]

set_option maxHeartbeats 1000000 in
/-- join: the number of the next bytes. -/
theorem join_any (w : World) (b c : Nat) (A : Option Addr) (l : List UInt8) (h : Rd w b A c l) (size : Nat) (hs : size ≤ 8) (hl : size ≤ l.length) :
    Calls Try.prog 55 #[.int .i64 size, .func (.func 56) #[.pointer (some ⟨b, 0, none⟩)] #[]] w fun e w' => e = .returned (.int .u64 (num (l.take size))) ∧ Took w w' b A (l.drop size) := by
  go_enter Try.func55, Try.ntmps55
  go_wp2
  go_loopw [5, 7] (fun n i wr => ∃ k, k ≤ size ∧ i = .int .i64 k ∧ n = .int .u64 (num (l.take k)) ∧ Took w wr b A (l.drop k)) (fun _ i _ => size - (intOf i).toNat)
  case atStart => exact ⟨0, Nat.zero_le _, rfl, rfl, Took.same h⟩
  case round =>
    obtain ⟨k, hk, rfl, rfl, A1, c1, hr, h2, h3⟩ := hrel
    by_cases hlt : k < size
    · have hkl : k < l.length := by omega
      rw [List.drop_eq_getElem_cons hkl] at hr
      have hn := next_any wr b c1 A1 l[k] (l.drop (k + 1)) hr
      have hb : num (l.take k) ≤ 72057594037927935 := by
        have h1 := num_lt (l.take k)
        have h2 : (l.take k).length ≤ 7 := by rw [List.length_take]; omega
        have h3 : 256 ^ (l.take k).length ≤ 256 ^ 7 := Nat.pow_le_pow_right (by omega) h2
        omega
      have hx : l[k].toNat < 256 := l[k].toNat_lt
      have HN := Lib.hid hn
      have HS : Hid (num (l.take (k + 1)) = num (l.take k) * 256 + l[k].toNat) := by
        have : l.take (k + 1) = l.take k ++ [l[k]] := List.take_succ_eq_append_getElem hkl
        exact Lib.hid (by rw [this, num_snoc])
      clear hn hr
      have HO := Lib.hid (bits_or (num (l.take k)) l[k].toNat hb hx)
      go_wp2_with (go_at_call 56; refine HN.out.mono ?_; rintro e w2 ⟨rfl, hT⟩)
      refine ⟨⟨k + 1, by omega, by go_num, by rw [HO.out, HS.out], Took.trans h2 h3 hT⟩, by simp [intOf]; omega⟩
    · obtain rfl : k = size := by omega
      go_wp2
      go_ret
      exact ⟨rfl, A1, c1, hr, h2, h3⟩

end Go.Proofs.Ytdjneiboeehclaa

namespace Go.Proofs.Ytdjneiboeehclaa
open Go.RowKit

def numErr (size : Int) (n : Nat) : Int := if sized size then (if fitsB size.toNat n then 0 else 10) else 2
def numOut (size : Int) (n : Nat) : List UInt8 := if numErr size n = 0 then be size.toNat n else []

theorem wnum_total (w : World) (b : Nat) (A : Option Addr) (c : Nat) (u : Option Addr) (l : List UInt8) (hw : Wr w b A c u l) (size : Int) (n : Nat) (h1 : -9223372036854775808 ≤ size) (h2 : size ≤ 9223372036854775807)
    (hn : n < 18446744073709551616) (hlen : l.length + 8 ≤ 140737488355328) :
    Calls Try.prog 29 #[.pointer (some ⟨b, 0, none⟩), .int .i64 size, .int .u64 n] w fun e w' => e = .returned (.int .i64 (numErr size n)) ∧ Wrote w w' b A u (l ++ numOut size n) := by
  cases hs : sized size
  · refine (wnum_arg b size n w h1 h2 hs).mono ?_
    rintro e w' ⟨rfl, rfl⟩
    refine ⟨by simp [numErr, hs], ?_⟩
    have : numOut size n = [] := by simp [numOut, numErr, hs]
    rw [this, List.append_nil]
    exact Wrote.same hw
  · have hc : ∃ k : Nat, size = k ∧ (k = 1 ∨ k = 2 ∨ k = 4 ∨ k = 8) := by
      unfold sized at hs
      simp at hs
      exact ⟨size.toNat, by omega, by omega⟩
    obtain ⟨k, rfl, hk⟩ := hc
    cases hf : fitsB k n
    · refine (wnum_much b k n w hk hf).mono ?_
      rintro e w' ⟨rfl, rfl⟩
      refine ⟨by simp [numErr, hs, hf], ?_⟩
      have : numOut k n = [] := by simp [numOut, numErr, hs, hf]
      rw [this, List.append_nil]
      exact Wrote.same hw
    · refine (wnum_ok w b A c u l hw k n hk hf hn (by omega)).mono ?_
      rintro e w' ⟨rfl, hq⟩
      refine ⟨by simp [numErr, hs, hf], ?_⟩
      have : numOut k n = be k n := by simp [numOut, numErr, hs, hf]
      rw [this]
      exact hq

/-! ### PLAIN: big-endian bytes are ordered as the numbers are -/
theorem be_succ (k n : Nat) : be (k + 1) n = lowByte n k :: be k n := by
  unfold be
  rw [List.range_succ_eq_map, List.map_cons, List.map_map]
  congr 1
  apply List.map_congr_left
  intro i hi
  simp only [Function.comp, Nat.add_sub_cancel]
  congr 1
  omega

theorem be_mod (k n : Nat) : ∀ j, k ≤ j → be k (n % 256 ^ j) = be k n := by
  intro j hj
  unfold be
  apply List.map_congr_left
  intro i hi
  have hi' : i < k := List.mem_range.1 hi
  unfold lowByte
  congr 1
  obtain ⟨d, rfl⟩ : ∃ d, j = (k - 1 - i) + 1 + d := ⟨j - (k - 1 - i) - 1, by omega⟩
  rw [Nat.pow_add, Nat.pow_succ, Nat.mul_assoc, Nat.mod_mul_right_div_self, Nat.mod_mul_right_mod]

theorem lowByte_top (k n : Nat) (h : n < 256 ^ (k + 1)) : (lowByte n k).toNat = n / 256 ^ k := by
  rw [lowByte_toNat]
  exact Nat.mod_eq_of_lt (by rw [Nat.div_lt_iff_lt_mul (Nat.pow_pos (by decide))]; rwa [Nat.pow_succ, Nat.mul_comm] at h)

/-- The greater number has the greater bytes; the same number the same ones. -/
theorem be_order (k : Nat) : ∀ n m, n < 256 ^ k → m < 256 ^ k → Op.bytesLess (be k n) (be k m) = decide (n < m) ∧ (be k n = be k m ↔ n = m) := by
  induction k with
  | zero =>
    intro n m hn hm
    simp at hn hm
    subst hn hm
    simp [be, Op.bytesLess]
  | succ k ih =>
    intro n m hn hm
    have hp : 0 < 256 ^ k := Nat.pow_pos (by decide)
    obtain ⟨h1, h2⟩ := ih (n % 256 ^ k) (m % 256 ^ k) (Nat.mod_lt _ hp) (Nat.mod_lt _ hp)
    rw [be_mod k n k (Nat.le_refl _), be_mod k m k (Nat.le_refl _)] at h1 h2
    have tn := lowByte_top k n hn
    have tm := lowByte_top k m hm
    have dn := Nat.div_add_mod n (256 ^ k)
    have dm := Nat.div_add_mod m (256 ^ k)
    have ln := Nat.mod_lt n hp
    have lm := Nat.mod_lt m hp
    rw [be_succ, be_succ]
    have hlt : (lowByte n k < lowByte m k) ↔ n / 256 ^ k < m / 256 ^ k := by rw [UInt8.lt_iff_toNat_lt, tn, tm]
    have heq : (lowByte n k = lowByte m k) ↔ n / 256 ^ k = m / 256 ^ k := by rw [← UInt8.toNat_inj, tn, tm]
    generalize 256 ^ k = p at *
    have key : n / p < m / p → n < m := fun h => by
      have : p * (n / p) + p ≤ p * (m / p) := by rw [← Nat.mul_succ]; exact Nat.mul_le_mul_left _ h
      omega
    have key' : m / p < n / p → m < n := fun h => by
      have : p * (m / p) + p ≤ p * (n / p) := by rw [← Nat.mul_succ]; exact Nat.mul_le_mul_left _ h
      omega
    constructor
    · unfold Op.bytesLess
      rw [h1, Bool.eq_iff_iff]
      simp only [Bool.or_eq_true, Bool.and_eq_true, decide_eq_true_eq, beq_iff_eq]
      rw [hlt, heq]
      constructor
      · rintro (h | ⟨h, g⟩)
        · exact key h
        · rw [h] at dn; omega
      · intro h
        rcases Nat.lt_trichotomy (n / p) (m / p) with g | g | g
        · exact .inl g
        · rw [g] at dn; exact .inr ⟨g, by omega⟩
        · have := key' g; omega
    · rw [List.cons.injEq, heq, h2]
      constructor
      · rintro ⟨h, g⟩
        rw [h, g] at dn
        omega
      · rintro rfl
        exact ⟨rfl, rfl⟩

end Go.Proofs.Ytdjneiboeehclaa

namespace Go.Proofs.Ytdjneiboeehclaa
open Go.RowKit

/-- How many bytes a call takes, its error being e. -/
def taken (e : Int) (k : Nat) : Nat := if e = 0 then k else 0
def rnumErr (size : Int) (l : List UInt8) : Int := if sized size then (if l.length < size.toNat then 10 else 0) else 2
def rrawErr (n : Int) (l : List UInt8) : Int := if n < 0 then 2 else if (l.length : Int) < n then 10 else 0

theorem sized_nat {size : Int} (hs : sized size = true) : ∃ k : Nat, size = k ∧ (k = 1 ∨ k = 2 ∨ k = 4 ∨ k = 8) := by
  unfold sized at hs
  simp at hs
  exact ⟨size.toNat, by omega, by omega⟩

theorem rd_of (B : Option Addr) (m d : Nat) (l : List UInt8) (w : World) (hr : Reads w w.heap.size 1 B m (l.map bv)) (hn : m ≤ 140737488355328) :
    Calls Try.prog 48 #[.slice B m d] w fun e w' => ∃ b A c, e = .returned (.pointer (some ⟨b, 0, none⟩)) ∧ Rd w' b A c l ∧ w.heap.size ≤ b ∧ (∀ ad, A = some ad → w.heap.size ≤ ad.block) ∧ Below w.heap.size w w' := by
  have H := Lib.hid (clone_any B m d l w hr hn)
  have hm : m = l.length := by have := hr.1; simp at this; omega
  have HM := Lib.hid hm
  clear hr hm
  go_enter Try.func48, Try.ntmps48
  go_wp2_with (go_at_call 46; refine H.out.mono ?_; rintro e w1 ⟨A', c', rfl, h1, h2⟩)
  go_ret
  have hm := HM.out
  subst hm
  have hcap : l.length ≤ c' ∧ c' ≤ 9223372036854775807 ∧ (∀ ad, A' = some ad → w.heap.size ≤ ad.block ∧ ad.block < w1.heap.size) := by
    rcases h1.2 with ⟨e, h0⟩ | ⟨g, cap, cur, e, hb, hh, hc, hcm, _⟩
    · injection e with e1 e2 e3
      subst e1 e3
      exact ⟨by omega, by omega, fun ad e => by cases e⟩
    · injection e with e1 e2 e3
      subst e1 e3
      refine ⟨hc, by unfold maxLen at hcm; omega, fun ad e => ?_⟩
      injection e with e
      subst e
      exact ⟨hb, (Array.getElem?_eq_some_iff.1 hh).1⟩
  obtain ⟨hc1, hc2, hc3⟩ := hcap
  refine ⟨w1.heap.size, A', c', rfl, ⟨Blk.new w1 _ _, ?_, fun ad e => by have := hc3 ad e; omega, fun ad e => by have := hc3 ad e; simp; omega, hc1, hc2⟩, h2.size, fun ad e => (hc3 ad e).1, h2.trans (((Below.refl _ w1).alloc (Nat.le_refl _) _).mono h2.size)⟩
  exact ((Reads.of_own h1).alloc (Nat.le_refl _) _).more (by simp)

set_option maxHeartbeats 1000000 in
theorem rnum_total (w : World) (b c : Nat) (A : Option Addr) (l : List UInt8) (h : Rd w b A c l) (size : Int) (h1 : -9223372036854775808 ≤ size) (h2 : size ≤ 9223372036854775807) :
    Calls Try.prog 49 #[.pointer (some ⟨b, 0, none⟩), .int .i64 size] w fun e w' =>
      e = .returned (.tuple #[.int .u64 (num (l.take (taken (rnumErr size l) size.toNat))), .int .i64 (rnumErr size l)]) ∧ Took w w' b A (l.drop (taken (rnumErr size l) size.toNat)) := by
  have c0 : w.cell? ⟨b, 0, none⟩ = some (.slice A l.length c) := h.blk.cell 0
  have hv := valid_any b _ _ w h.blk
  have HV := Lib.hid hv
  have H := Lib.hid h
  have hcl : l.length ≤ 9223372036854775807 := by have := h.cap; have := h.big; omega
  have HS := Lib.hid (isSize_any size w h1 h2)
  clear hv h
  cases hs : sized size
  · rw [hs] at HS
    have he : rnumErr size l = 2 := by simp [rnumErr, hs]
    have ht : taken (rnumErr size l) size.toNat = 0 := by simp [taken, he]
    have HE := Lib.hid he
    have HT := Lib.hid ht
    clear he ht hs
    go_enter Try.func49, Try.ntmps49
    go_wp2_with (first
      | (go_at_call 54; refine HV.out.mono ?_; rintro e w' ⟨rfl, rfl⟩)
      | (go_at_call 42; refine HS.out.mono ?_; rintro e w' ⟨rfl, rfl⟩))
    go_ret2
    rw [HT.out, HE.out]
    exact ⟨rfl, Took.same H.out⟩
  · obtain ⟨k, rfl, hk⟩ := sized_nat hs
    rw [hs] at HS
    have hk8 : k ≤ 8 := by omega
    have HK := Lib.hid hk
    by_cases hl : l.length < k
    · have he : rnumErr k l = 10 := by simp [rnumErr, hs, hl]
      have ht : taken (rnumErr k l) ((k : Int)).toNat = 0 := by simp [taken, he]
      have HE := Lib.hid he
      have HT := Lib.hid ht
      clear he ht hs hk
      go_enter Try.func49, Try.ntmps49
      go_wp2_with (first
        | (go_at_call 54; refine HV.out.mono ?_; rintro e w' ⟨rfl, rfl⟩)
        | (go_at_call 42; refine HS.out.mono ?_; rintro e w' ⟨rfl, rfl⟩))
      go_ret2
      rw [HT.out, HE.out]
      exact ⟨rfl, Took.same H.out⟩
    · have hl' : k ≤ l.length := by omega
      have he : rnumErr k l = 0 := by simp [rnumErr, hs, hl]
      have ht : taken (rnumErr k l) ((k : Int)).toNat = k := by simp [taken, he]
      have HJ := Lib.hid (join_any w b c A l H.out k hk8 hl')
      have HE := Lib.hid he
      have HT := Lib.hid ht
      clear he ht hs hk hl
      go_enter Try.func49, Try.ntmps49
      go_wp2_with (first
        | (go_at_call 54; refine HV.out.mono ?_; rintro e w' ⟨rfl, rfl⟩)
        | (go_at_call 42; refine HS.out.mono ?_; rintro e w' ⟨rfl, rfl⟩)
        | (go_at_call 55; refine HJ.out.mono ?_; rintro e w' ⟨rfl, hT⟩))
      go_ret2
      rw [HT.out, HE.out]
      exact ⟨rfl, hT⟩

theorem rnum_nil (size : Int) (w : World) : Calls Try.prog 49 #[.pointer none, .int .i64 size] w fun e w' => e = .returned (.tuple #[.int .u64 0, .int .i64 1]) ∧ w = w' := by
  go_enter Try.func49, Try.ntmps49
  go_wp2_with (go_at_call 54; refine (valid_nil _).mono ?_; rintro e w' ⟨rfl, rfl⟩)
  go_ret2
  exact ⟨rfl, rfl⟩
theorem rnum_zero (b : Nat) (v : Value) (size : Int) (w : World) (h : Blk w b 100 #[v, .bool false]) : Calls Try.prog 49 #[.pointer (some ⟨b, 0, none⟩), .int .i64 size] w fun e w' => e = .returned (.tuple #[.int .u64 0, .int .i64 1]) ∧ w = w' := by
  have HV := Lib.hid (valid_any b _ _ w h)
  clear h
  go_enter Try.func49, Try.ntmps49
  go_wp2_with (go_at_call 54; refine HV.out.mono ?_; rintro e w' ⟨rfl, rfl⟩)
  go_ret2
  exact ⟨rfl, rfl⟩

theorem rint_any (w : World) (b c : Nat) (A : Option Addr) (l : List UInt8) (h : Rd w b A c l) :
    Calls Try.prog 50 #[.pointer (some ⟨b, 0, none⟩)] w fun e w' =>
      e = .returned (.tuple #[.int .i64 (wrap64 (num (l.take (taken (rnumErr 8 l) 8)))), .int .i64 (rnumErr 8 l)]) ∧ Took w w' b A (l.drop (taken (rnumErr 8 l) 8)) := by
  have H := Lib.hid (rnum_total w b c A l h 8 (by omega) (by omega))
  clear h
  go_enter Try.func50, Try.ntmps50
  go_wp2_with (go_at_call 49; refine H.out.mono ?_; rintro e w' ⟨rfl, hT⟩)
  go_ret2
  exact ⟨rfl, hT⟩
theorem rint_zero (b : Nat) (v : Value) (w : World) (h : Blk w b 100 #[v, .bool false]) : Calls Try.prog 50 #[.pointer (some ⟨b, 0, none⟩)] w fun e w' => e = .returned (.tuple #[.int .i64 0, .int .i64 1]) ∧ w = w' := by
  have H := Lib.hid (rnum_zero b v 8 w h)
  clear h
  go_enter Try.func50, Try.ntmps50
  go_wp2_with (go_at_call 49; refine H.out.mono ?_; rintro e w' ⟨rfl, rfl⟩)
  go_ret2
  exact ⟨rfl, rfl⟩

def endErr (l : List UInt8) : Int := if l = [] then 0 else 10
end Go.Proofs.Ytdjneiboeehclaa

namespace Go.Proofs.Ytdjneiboeehclaa
open Go.RowKit

/-- What Raw has told. -/
def RawTold (w : World) (b : Nat) (A : Option Addr) (l : List UInt8) (n : Int) (e : Ending) (w' : World) : Prop :=
  ∃ A' c', e = .returned (.tuple #[.slice A' (taken (rrawErr n l) n.toNat) c', .int .i64 (rrawErr n l)]) ∧
    Took w w' b A (l.drop (taken (rrawErr n l) n.toNat)) ∧ w'.ownsRow w.heap.size 5 1 (.slice A' (taken (rrawErr n l) n.toNat) c') (taken (rrawErr n l) n.toNat) ((l.take (taken (rrawErr n l) n.toNat)).map bv)

theorem own_set {w w1 : World} {b e n m : Nat} {v : Value} {xs : List Value} {u : Value} {o : Nat} (h : w1.ownsRow w.heap.size e m v n xs) (hb : b < w.heap.size) : (w1.setCell ⟨b, o, none⟩ u).ownsRow w.heap.size e m v n xs :=
  ((Keep.refl (fun k => k = b) w1).setCell ⟨b, o, none⟩ u (fun _ => rfl)).own h (fun k hk e => by have := (h.lt k hk).1; omega)

/-! ### Text -/
def rtextErr (l : List UInt8) : Int := if l.length < 2 then 10 else if l.length - 2 < num (l.take 2) then 10 else 0

theorem conv_num (l : List UInt8) : num (l.take 2) ≤ 65535 := by
  have h1 := num_lt (l.take 2)
  have h2 : (l.take 2).length ≤ 2 := by rw [List.length_take]; omega
  have h3 : 256 ^ (l.take 2).length ≤ 256 ^ 2 := Nat.pow_le_pow_right (by omega) h2
  omega

end Go.Proofs.Ytdjneiboeehclaa

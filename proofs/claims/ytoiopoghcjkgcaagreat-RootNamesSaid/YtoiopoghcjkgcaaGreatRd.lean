/-
  THE READER: what is left to read, where that lies; the calls valid, next, join.
-/
import Derived.Test.YtoiopoghcjkgcaaGreatAlive
import Derived.Laws.Bits64b
namespace Go.Proofs.YtoiopoghcjkgcaaGreat
open Go.RowKit

/-- The Reader at block b has l left to read. -/
structure Rd (w : World) (b : Nat) (A : Option Addr) (c : Nat) (l : List UInt8) : Prop where
  blk : Blk w b 136 #[.slice A l.length c, .bool true]
  reads : Reads w w.heap.size 1 A l.length (l.map bv)
  sep : ∀ ad, A = some ad → ad.block ≠ b
  lt : ∀ ad, A = some ad → ad.block < w.heap.size
  cap : l.length ≤ c
  big : c ≤ 9223372036854775807

theorem Rd.keep {w w' : World} {b c : Nat} {A : Option Addr} {l : List UInt8} {S : Nat → Prop} (h : Rd w b A c l) (hk : Keep S w w') (hb : ¬ S b) (hA : ∀ ad, A = some ad → ¬ S ad.block) : Rd w' b A c l :=
  ⟨hk.blk h.blk hb, (h.reads.keepS hk (Nat.le_refl _) hA).more hk.size, h.sep, fun ad e => Nat.lt_of_lt_of_le (h.lt ad e) hk.size, h.cap, h.big⟩

/-- From w to w' the Reader at b (its row at A) has moved on, l' is left; nothing else that lay there has turned. -/
def Took (w w' : World) (b : Nat) (A : Option Addr) (l' : List UInt8) : Prop :=
  ∃ A' c', Rd w' b A' c' l' ∧ (∀ ad, A' = some ad → ∃ ad0, A = some ad0 ∧ ad.block = ad0.block) ∧ Keep (fun k => k = b) w w'

theorem Took.same {w : World} {b c : Nat} {A : Option Addr} {l : List UInt8} (h : Rd w b A c l) : Took w w b A l := ⟨A, c, h, fun ad e => ⟨ad, e, rfl⟩, Keep.refl _ _⟩
theorem Took.trans {w w1 w2 : World} {b : Nat} {A A1 : Option Addr} {l2 : List UInt8} (hA : ∀ ad, A1 = some ad → ∃ ad0, A = some ad0 ∧ ad.block = ad0.block) (hk : Keep (fun k => k = b) w w1) (h : Took w1 w2 b A1 l2) : Took w w2 b A l2 := by
  obtain ⟨A', c', h1, h2, h3⟩ := h
  refine ⟨A', c', h1, fun ad e => ?_, hk.trans h3 (fun _ _ h => h)⟩
  obtain ⟨ad1, e1, f1⟩ := h2 ad e
  obtain ⟨ad0, e0, f0⟩ := hA ad1 e1
  exact ⟨ad0, e0, f1.trans f0⟩

theorem cut_block {A A' : Option Addr} {c k : Nat} (hA : A' = if c = k then A else A.map (·.add k)) : ∀ ad, A' = some ad → ∃ ad0, A = some ad0 ∧ ad.block = ad0.block := by
  intro ad e
  subst hA
  by_cases h : c = k
  · rw [if_pos h] at e; exact ⟨ad, e, rfl⟩
  · rw [if_neg h] at e
    rcases A with _ | ad0
    · cases e
    · injection e with e; subst e
      exact ⟨ad0, rfl, block_of_add _ _⟩

/-- The Reader moved on by k bytes. -/
theorem Rd.moved {w w1 : World} {b c k n : Nat} {A A' : Option Addr} {l : List UInt8} (h : Rd w1 b A c l) (hk : k ≤ l.length) (hw : Keep (fun k => k = b) w w1) (hA : A' = if c = k then A else A.map (·.add k)) (hn : n = l.length - k) :
    Took w (w1.setCell ⟨b, 0, none⟩ (.slice A' n (c - k))) b A (l.drop k) := by
  have hr := h.reads.cut (cap := c) hk h.cap
  rw [Nat.mul_one, ← hA, ← List.map_drop] at hr
  have hk1 : Keep (fun k => k = b) w1 (w1.setCell ⟨b, 0, none⟩ (.slice A' n (c - k))) := (Keep.refl (fun k => k = b) w1).setCell ⟨b, 0, none⟩ _ (fun _ => rfl)
  have hb := cut_block hA
  subst hn
  refine ⟨A', c - k, ⟨?_, ?_, ?_, ?_, ?_, ?_⟩, hb, hw.trans hk1 (fun _ _ h => h)⟩
  · have := h.blk.set_ 0 (.slice A' (l.length - k) (c - k))
    simpa using this
  · have h2 := (hr.keepS hk1 (Nat.le_refl _) (fun ad e => by obtain ⟨ad0, e0, f0⟩ := hb ad e; rw [f0]; exact h.sep ad0 e0)).more hk1.size
    rw [List.length_drop]
    exact h2
  · intro ad e
    obtain ⟨ad0, e0, f0⟩ := hb ad e
    rw [f0]
    exact h.sep ad0 e0
  · intro ad e
    obtain ⟨ad0, e0, f0⟩ := hb ad e
    rw [f0]
    exact Nat.lt_of_lt_of_le (h.lt ad0 e0) hk1.size
  · rw [List.length_drop]; have := h.cap; omega
  · have := h.big; omega

/-- A copy in a block of its own. -/
theorem Rd.copy {w : World} {b c : Nat} {A : Option Addr} {l : List UInt8} (h : Rd w b A c l) : Rd (w.alloc (.cells #[.slice A l.length c, .bool true] 136)) w.heap.size A c l :=
  ⟨Blk.new w _ _, (h.reads.alloc (Nat.le_refl _) _).more (by simp), fun ad e => by have := h.lt ad e; omega, fun ad e => by have := h.lt ad e; simp; omega, h.cap, h.big⟩

/-- The copy moved on, the Reader did not. -/
theorem Rd.side {w w1 : World} {b c : Nat} {A : Option Addr} {l : List UInt8} {o : Obj} (h : Rd w b A c l) (hk : Keep (fun k => k = w.heap.size) (w.alloc o) w1) : Took w w1 b A l := by
  have h0 : Keep (fun k => k = b) w (w.alloc o) := (Keep.refl _ w).alloc o
  have hlt := h.blk.lt
  have h2 : Keep (fun _ => False) w w1 := ((Keep.refl (fun _ => False) w).alloc o).trans hk (fun i hi e => by omega)
  exact ⟨A, c, h.keep h2 (fun h => h) (fun _ _ h => h), fun ad e => ⟨ad, e, rfl⟩, h0.trans hk (fun i hi e => by omega)⟩

/-- The copy's state taken over. -/
theorem Rd.back {w2 : World} {b bA c3 : Nat} {A3 : Option Addr} {l3 : List UInt8} {x y : Value} (hb : Blk w2 b 136 #[x, y]) (h : Rd w2 bA A3 c3 l3) (hs : ∀ ad, A3 = some ad → ad.block ≠ b) :
    Rd ((w2.setCell ⟨b, 0, none⟩ (.slice A3 l3.length c3)).setCell ⟨b, 1, none⟩ (.bool true)) b A3 c3 l3 := by
  have hk : Keep (fun k => k = b) w2 ((w2.setCell ⟨b, 0, none⟩ (.slice A3 l3.length c3)).setCell ⟨b, 1, none⟩ (.bool true)) := ((Keep.refl (fun k => k = b) w2).setCell ⟨b, 0, none⟩ _ (fun _ => rfl)).setCell ⟨b, 1, none⟩ _ (fun _ => rfl)
  exact ⟨(hb.set_ 0 (.slice A3 l3.length c3)).set_ 1 (.bool true), (h.reads.keepS hk (Nat.le_refl _) hs).more hk.size, hs, fun ad e => Nat.lt_of_lt_of_le (h.lt ad e) hk.size, h.cap, h.big⟩

theorem valid_nil (w : World) : Calls Tryz.prog 83 #[.pointer none] w fun e w' => e = .returned (.bool false) ∧ w = w' := by
  go_enter Tryz.func83, Tryz.ntmps83
  go_wp2
  go_ret
  exact ⟨rfl, rfl⟩

theorem valid_any (b : Nat) (v : Value) (m : Bool) (w : World) (h : Blk w b 136 #[v, .bool m]) : Calls Tryz.prog 83 #[.pointer (some ⟨b, 0, none⟩)] w fun e w' => e = .returned (.bool m) ∧ w = w' := by
  have c1 : w.cell? ⟨b, 1, none⟩ = some (.bool m) := h.cell 1
  clear h
  go_enter Tryz.func83, Tryz.ntmps83
  go_wp2
  go_ret
  exact ⟨rfl, rfl⟩

theorem next_any (w : World) (b c : Nat) (A : Option Addr) (x : UInt8) (l : List UInt8) (h : Rd w b A c (x :: l)) :
    Calls Tryz.prog 85 #[.pointer (some ⟨b, 0, none⟩)] w fun e w' => e = .returned (.int .u8 (x.toNat : Int)) ∧ Took w w' b A l := by
  obtain ⟨ad, v, rfl, hlt, hx, hc⟩ := h.reads.at_ (k := 0) (by simp)
  have c0 : w.cell? ⟨b, 0, none⟩ = some (.slice (some ad) (l.length + 1) c) := h.blk.cell 0
  have f0 := h.blk.frozen 0
  have hcap : l.length + 1 ≤ c := h.cap
  have hbig := h.big
  obtain rfl : bv x = v := by simpa using hx
  have hc' : w.cell? ad = some (.int .u8 (x.toNat : Int)) := hc
  have H := Lib.hid h
  clear h hx hc
  by_cases h1 : c = 1
  · subst h1
    have hl0 : l.length = 0 := by omega
    have hl : l = [] := List.eq_nil_of_length_eq_zero hl0
    subst hl
    clear hl0 hcap hbig
    go_enter Tryz.func85, Tryz.ntmps85
    go_wp2
    go_ret
    exact ⟨rfl, H.out.moved (k := 1) (by simp) (Keep.refl _ w) (by rw [if_pos rfl]) (by simp)⟩
  · have h2 : 2 ≤ c := by omega
    go_enter Tryz.func85, Tryz.ntmps85
    go_wp2
    go_ret
    exact ⟨rfl, H.out.moved (k := 1) (by simp) (Keep.refl _ w) (by rw [if_neg h1]; rfl) (by simp)⟩

/-- The number that bytes are, the highest one first. -/
def num (l : List UInt8) : Nat := l.foldl (fun n b => n * 256 + b.toNat) 0
theorem num_snoc (l : List UInt8) (x : UInt8) : num (l ++ [x]) = num l * 256 + x.toNat := by simp [num]
theorem num_lt (l : List UInt8) : num l < 256 ^ l.length := by
  have : ∀ (n : Nat) (l : List UInt8), l.foldl (fun n b => n * 256 + b.toNat) n < (n + 1) * 256 ^ l.length := by
    intro n l
    induction l generalizing n with
    | nil => simp
    | cons x l ih =>
      have h := ih (n * 256 + x.toNat)
      have hx := x.toNat_lt
      simp only [List.foldl_cons, List.length_cons]
      refine Nat.lt_of_lt_of_le h ?_
      rw [Nat.pow_succ', ← Nat.mul_assoc]
      exact Nat.mul_le_mul_right _ (by omega)
  have h := this 0 l
  simpa [num] using h

theorem bits_or (n x : Nat) (hn : n ≤ 72057594037927935) (hx : x < 256) : bits BinOp.or IntKind.u64 ((n : Int) * 256) (x : Int) = ((n * 256 + x : Nat) : Int) := by
  have h1 : ((n : Int) * 256) = ((n * 256 : Nat) : Int) := by simp
  rw [h1, bits_or_u64_nat (n * 256) x (by omega) (by omega)]
  have h2 := Nat.shiftLeft_add_eq_or_of_lt (b := x) (i := 8) (by simpa using hx) n
  rw [Nat.shiftLeft_eq] at h2
  rw [← h2]

set_option maxHeartbeats 1000000 in
/-- join: the number of the next bytes. -/
theorem join_any (w : World) (b c : Nat) (A : Option Addr) (l : List UInt8) (h : Rd w b A c l) (size : Nat) (hs : size ≤ 8) (hl : size ≤ l.length) :
    Calls Tryz.prog 84 #[.int .i64 size, .func (.func 85) #[.pointer (some ⟨b, 0, none⟩)] #[]] w fun e w' => e = .returned (.int .u64 (num (l.take size))) ∧ Took w w' b A (l.drop size) := by
  go_enter Tryz.func84, Tryz.ntmps84
  go_wp2
  go_loopw [5, 7] (fun n i wr => ∃ k, k ≤ size ∧ i = .int .i64 k ∧ n = .int .u64 (num (l.take k)) ∧ Took w wr b A (l.drop k)) (fun _ i _ => size - (intOf i).toNat)
  case atStart => exact ⟨0, Nat.zero_le _, rfl, rfl, Took.same h⟩
  case round =>
    obtain ⟨k, hk, rfl, rfl, A1, c1, hr, h2, h3⟩ := hrel
    by_cases hlt : k < size
    · have hkl : k < l.length := by omega
      rw [List.drop_eq_getElem_cons hkl] at hr
      have hn := next_any wr b c1 A1 l[k] (l.drop (k + 1)) hr
      have hb : num (l.take k) ≤ 72057594037927935 := by
        have h1 := num_lt (l.take k)
        have h2 : (l.take k).length ≤ 7 := by rw [List.length_take]; omega
        have h3 : 256 ^ (l.take k).length ≤ 256 ^ 7 := Nat.pow_le_pow_right (by omega) h2
        omega
      have hx : l[k].toNat < 256 := l[k].toNat_lt
      have HN := Lib.hid hn
      have HS : Hid (num (l.take (k + 1)) = num (l.take k) * 256 + l[k].toNat) := by
        have : l.take (k + 1) = l.take k ++ [l[k]] := List.take_succ_eq_append_getElem hkl
        exact Lib.hid (by rw [this, num_snoc])
      clear hn hr
      have HO := Lib.hid (bits_or (num (l.take k)) l[k].toNat hb hx)
      go_wp2_with (go_at_call 85; refine HN.out.mono ?_; rintro e w2 ⟨rfl, hT⟩)
      refine ⟨⟨k + 1, by omega, by go_num, by rw [HO.out, HS.out], Took.trans h2 h3 hT⟩, by simp [intOf]; omega⟩
    · obtain rfl : k = size := by omega
      go_wp2
      go_ret
      exact ⟨rfl, A1, c1, hr, h2, h3⟩

end Go.Proofs.YtoiopoghcjkgcaaGreat

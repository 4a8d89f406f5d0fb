/-
  Layer 6 without any program: a root, when it may be, its sector, the root of bytes; and lemmas on rows of the call's own.
  The root of layer 6: isValid, head, Encode, slotOf, Area.
  The root of layer 6: candidate, Decode.
-/
import Derived.Test.YtdjneiboeehclaaCrcAlive
import Derived.Test.YtdjneiboeehclaaCrcB
import Derived.Test.YtdjneiboeehclaaDOps
import Derived.Test.YtdjneiboeehclaaHeads
import Derived.Deep.MidRow
namespace Go.Proofs.Ytdjneiboeehclaa.root
open Go.RowKit Go.Proofs.Ytdjneiboeehclaa.crc

structure RV where
  n : Nat
  len : Int
  sm : Nat

structure RV.Fine (r : RV) : Prop where
  n : r.n < 18446744073709551616
  len : i64ok r.len
  sm : r.sm < 4294967296

def okR (r : RV) : Bool := decide (1 ≤ r.n) && (decide (0 ≤ r.len) && decide (r.len ≤ 3072))
def errR (r : RV) : Int := if okR r = true then 0 else 60
def headR (r : RV) : List UInt8 := [81, 82, 1, 0] ++ be 8 r.n ++ be 4 r.len.toNat ++ be 4 r.sm ++ List.replicate 96 0
def bodyR (r : RV) : List UInt8 := headR r ++ four (sum (bitsB (headR r)))
def sectR (r : RV) : List UInt8 := bodyR r ++ be 8 r.n
def outR (r : RV) : List UInt8 := if okR r = true then sectR r else []
def candR (l : List UInt8) : RV := ⟨num ((l.drop 4).take 8), (num (((l.drop 4).drop 8).take 4) : Int), num ((((l.drop 4).drop 8).drop 4).take 4)⟩
def noR : RV := ⟨0, 0, 0⟩
def goodR (l : List UInt8) : Bool := decide (l.length = 128) && (okR (candR l) && (sectR (candR l) == l))
def decR (l : List UInt8) : RV := if goodR l = true then candR l else noR
def decErrR (l : List UInt8) : Int := if goodR l = true then 0 else 60
/-- A root as a value. -/
def rtv (r : RV) : Value := .agg #[.int .u64 r.n, .int .i64 r.len, .int .u32 r.sm]

theorem num_append (l m : List UInt8) : num (l ++ m) = num l * 256 ^ m.length + num m := by
  have : ∀ (m : List UInt8) (l : List UInt8), num (l ++ m) = num l * 256 ^ m.length + num m := by
    intro m
    induction m with
    | nil => intro l; simp [num]
    | cons x m ih =>
      intro l
      have h1 := ih (l ++ [x])
      have h2 := ih [x]
      rw [List.append_assoc] at h1
      simp only [List.cons_append, List.nil_append] at h1 h2
      rw [h1, h2, num_snoc, List.length_cons, Nat.pow_succ, Nat.add_mul]
      simp [num]
      rw [Nat.mul_assoc, Nat.mul_comm 256, Nat.add_assoc]
  exact this m l
theorem num_cons (x : UInt8) (l : List UInt8) : num (x :: l) = x.toNat * 256 ^ l.length + num l := by
  have := num_append [x] l
  simpa [num] using this
theorem num_be (k n : Nat) : num (be k n) = n % 256 ^ k := by
  induction k with
  | zero => simp [be, num, Nat.mod_one]
  | succ k ih =>
    rw [be_succ, num_cons, ih, be_length, lowByte_toNat, Nat.pow_succ, Nat.mod_mul, Nat.mul_comm]
    omega
theorem be_num (l : List UInt8) : be l.length (num l) = l := by
  induction l with
  | nil => rfl
  | cons x l ih =>
    have hl := num_lt l
    rw [List.length_cons, be_succ, num_cons]
    have h1 : be l.length (x.toNat * 256 ^ l.length + num l) = l := by
      rw [← be_mod l.length _ l.length (Nat.le_refl _), Nat.mul_comm, Nat.mul_add_mod, be_mod _ _ _ (Nat.le_refl _), ih]
    rw [h1]
    congr 1
    apply UInt8.toNat_inj.1
    rw [lowByte_toNat, Nat.mul_comm, Nat.mul_add_div (Nat.pow_pos (by decide)), Nat.div_eq_of_lt hl, Nat.add_zero]
    exact Nat.mod_eq_of_lt x.toNat_lt


theorem okR_iff {r : RV} : okR r = true ↔ 1 ≤ r.n ∧ 0 ≤ r.len ∧ r.len ≤ 3072 := by simp [okR]
theorem headR_length (r : RV) : (headR r).length = 116 := by simp [headR, be_length]
theorem bodyR_length (r : RV) : (bodyR r).length = 120 := by unfold bodyR; rw [List.length_append, headR_length, four_length]
theorem sectR_length (r : RV) : (sectR r).length = 128 := by unfold sectR; rw [List.length_append, bodyR_length, be_length]
theorem outR_length (r : RV) : (outR r).length ≤ 128 := by
  unfold outR
  split
  · rw [sectR_length]; omega
  · simp
theorem noR_fine : noR.Fine := ⟨by decide, by unfold i64ok noR; decide, by decide⟩
theorem num_take_lt (l : List UInt8) (k : Nat) : num (l.take k) < 256 ^ k := by
  have h := num_lt (l.take k)
  have hl : (l.take k).length ≤ k := by rw [List.length_take]; omega
  exact Nat.lt_of_lt_of_le h (Nat.pow_le_pow_right (by omega) hl)
theorem candR_fine (l : List UInt8) : (candR l).Fine := by
  have h1 := num_take_lt (l.drop 4) 8
  have h2 := num_take_lt ((l.drop 4).drop 8) 4
  have h3 := num_take_lt (((l.drop 4).drop 8).drop 4) 4
  refine ⟨h1, ?_, h3⟩
  have h2' : num (((l.drop 4).drop 8).take 4) < 4294967296 := h2
  unfold i64ok candR
  simp only
  omega
theorem decR_fine (l : List UInt8) : (decR l).Fine := by
  unfold decR
  split
  · exact candR_fine l
  · exact noR_fine

theorem cand_sect {r : RV} (hok : okR r = true) (hf : r.Fine) : candR (sectR r) = r := by
  obtain ⟨h1, h2, h3⟩ := okR_iff.1 hok
  have e : sectR r = [81, 82, 1, 0] ++ (be 8 r.n ++ (be 4 r.len.toNat ++ (be 4 r.sm ++ (List.replicate 96 0 ++ (four (sum (bitsB (headR r))) ++ be 8 r.n))))) := by
    show (headR r ++ four _) ++ be 8 r.n = _
    conv => lhs; arg 1; arg 1; unfold headR
    simp only [List.append_assoc]
  have d4 : ∀ s : List UInt8, ([81, 82, 1, 0] ++ s).drop 4 = s := fun s => rfl
  unfold candR
  rw [e, d4, List.take_left' (be_length ..), List.drop_left' (be_length ..), List.take_left' (be_length ..), List.drop_left' (be_length ..), List.take_left' (be_length ..)]
  rw [num_be, num_be, num_be, Nat.mod_eq_of_lt (show r.n < 256 ^ 8 from hf.n), Nat.mod_eq_of_lt (show r.len.toNat < 256 ^ 4 by omega), Nat.mod_eq_of_lt (show r.sm < 256 ^ 4 from hf.sm), Int.toNat_of_nonneg h2]
theorem good_sect {r : RV} (hok : okR r = true) (hf : r.Fine) : goodR (sectR r) = true ∧ candR (sectR r) = r := by
  have hc := cand_sect hok hf
  refine ⟨?_, hc⟩
  unfold goodR
  rw [hc, sectR_length, hok]
  simp
theorem good_of {l : List UInt8} (h : goodR l = true) : l.length = 128 ∧ okR (candR l) = true ∧ sectR (candR l) = l := by
  unfold goodR at h
  simp only [Bool.and_eq_true, decide_eq_true_eq, beq_iff_eq] at h
  exact h
theorem dec_sect {r : RV} (hok : okR r = true) (hf : r.Fine) : decR (sectR r) = r ∧ decErrR (sectR r) = 0 := by
  obtain ⟨h1, h2⟩ := good_sect hok hf
  unfold decR decErrR
  rw [if_pos h1, if_pos h1]
  exact ⟨h2, rfl⟩
/-- A sector's tail is its root's number. -/
theorem good_tail {l : List UInt8} (h : goodR l = true) : l.drop 120 = be 8 (candR l).n := by
  obtain ⟨_, _, h3⟩ := good_of h
  have e : l = bodyR (candR l) ++ be 8 (candR l).n := h3.symm
  conv => lhs; rw [e]
  rw [List.drop_left' (bodyR_length _)]

/-! ### Rows of the call's own -/
theorem tl (l : List UInt8) : (⟨l.toArray⟩ : ByteArray).toList = l := by rw [ByteArray.toList_eq]
theorem gives_len {w w1 : World} {v : Value} {L : List UInt8} {n : Nat} (h : Gives w w1 v L) (hn : L.length = n) : ∃ A c, v = .slice A n c ∧ w1.ownsRow w.heap.size 5 1 (.slice A n c) n (L.map bv) ∧ Below w.heap.size w w1 := by
  subst hn
  obtain ⟨A, c, rfl, ho, hb⟩ := h
  exact ⟨A, c, rfl, ho, hb⟩
theorem own_is {W : World} {base size n : Nat} {e : TypeId} {v : Value} {xs : List Value} (h : W.ownsRow base e size v n xs) : ∀ g, v.ownBlock = some g → base ≤ g ∧ g < W.heap.size ∧ ∃ cur, Blk W g e cur := by
  intro g hg
  rcases h.2 with ⟨rfl, h0⟩ | ⟨g', cap, cur, rfl, hb, hh, _⟩
  · simp [Value.ownBlock] at hg
  · have : g' = g := by simpa [Value.ownBlock] using hg
    subst this
    exact ⟨hb, (show Blk W g' e cur from hh).lt, cur, hh⟩
theorem own_at_block {w : World} {base e size n c : Nat} {ad : Addr} {xs : List Value} (h : w.ownsRow base e size (.slice (some ad) n c) n xs) : base ≤ ad.block := by
  rcases h.2 with ⟨e, _⟩ | ⟨g, cap, cur, e, hb, _⟩
  · cases e
  · injection e with e
    injection e with e
    subst e
    exact hb
theorem own_stay {w w1 : World} {base e size n : Nat} {v : Value} {xs : List Value} (h : w.ownsRow base e size v n xs) (hb : Below w.heap.size w w1) : w1.ownsRow base e size v n xs := (Keep.of_below (S := fun _ => False) hb).own h (fun _ _ h => h)
theorem own_past {N W W1 : World} {base e n c m : Nat} {A : Option Addr} {v : Value} {xs : List Value} (hP : ∀ g, (Value.slice A n c).ownBlock = some g → g < N.heap.size) (hR : W.ownsRow N.heap.size e base v m xs) (hg : W.grownBy W1 (Value.slice A n c).ownBlock) : W1.ownsRow N.heap.size e base v m xs :=
  ((Keep.refl (fun i => (Value.slice A n c).ownBlock = some i) W).grown hg (fun g e _ => e)).own hR (fun g e e2 => by have := hP g e2; have := (own_is hR g e).1; omega)
theorem app_out {w0 W W1 : World} {A : Option Addr} {n c m p : Nat} {v : Value} {L M K : List UInt8} (hb : Below w0.heap.size w0 W) (ho : W.ownsRow w0.heap.size 5 1 (.slice A n c) n (L.map bv))
    (hown : W1.ownsRow w0.heap.size 5 1 v (n + m) (L.map bv ++ M.map bv)) (hg : W.grownBy W1 (Value.slice A n c).ownBlock) (hp : n + m = p) (hK : L ++ M = K) :
    ∃ A' c', v = .slice A' p c' ∧ W1.ownsRow w0.heap.size 5 1 (.slice A' p c') p (K.map bv) ∧ Below w0.heap.size w0 W1 := by
  subst hp hK
  have hB := hb.grown hg hb.size (fun k e => (ho.lt k e).1)
  rw [← List.map_append] at hown
  rcases hown.2 with ⟨e, h0⟩ | ⟨g, cap, cur, e, hr⟩
  · subst e
    rw [h0] at hown ⊢
    exact ⟨none, 0, rfl, hown, hB⟩
  · subst e
    exact ⟨_, cap, rfl, hown, hB⟩
theorem own_cap {w : World} {base e n c : Nat} {A : Option Addr} {xs : List Value} (h : w.ownsRow base e 1 (.slice A n c) n xs) : n ≤ c ∧ c ≤ 9223372036854775807 := by
  rcases h.2 with ⟨e, h0⟩ | ⟨g, cap, cur, e, _, _, hc, hm, _⟩
  · injection e with _ _ e3
    omega
  · injection e with _ _ e3
    unfold maxLen at hm
    omega
theorem make_zeros {m : Nat} (hm : m ≤ 9000) (z : Int) (hz : z = (m : Int)) (w : World) : (Instr.makeSlice 24 (.int .i64 z) (.int .i64 z)).run Try.prog w = .ok (.slice (some ⟨w.heap.size, 0, none⟩) m m) (w.alloc (.cells (madeCells (Value.int .u8 0).cells (m * 1)) 5)) := by
  obtain ⟨i0, hi, hz0, hz1, hz2⟩ := info_parts infoU8
  subst hz
  have := run_make (P := Try.prog) w 24 5 i0 _ Try.underlying24 hi hz0 .i64 .i64 (m : Int) (m : Int) (by omega) (by omega) (by rw [hz2]; omega) (by omega)
  rw [hz1, Int.toNat_natCast] at this
  exact this
theorem own_zeros (m : Nat) (w : World) (h : m ≤ 9000) : (w.alloc (.cells (madeCells (Value.int .u8 0).cells (m * 1)) 5)).ownsRow w.heap.size 5 1 (.slice (some ⟨w.heap.size, 0, none⟩) m m) m ((List.replicate m (0 : UInt8)).map bv) := by
  have hl : (madeCells (Value.int .u8 0).cells (m * 1)).toList = List.replicate m (.int .u8 0) := by rw [Nat.mul_one]; exact toList_madeCells_one _ _
  have e : (List.replicate m (0 : UInt8)).map bv = List.replicate m (.int .u8 0) := by rw [List.map_replicate]; rfl
  rw [e]
  exact own_of_alloc w _ _ m (by rw [← hl]) (by simp) (by unfold maxLen; omega)
theorem zeros_made {m : Nat} (hm : m ≤ 9000) (z : Int) (hz : z = (m : Int)) : ∃ C : Array Value, ∀ w : World,
    (Instr.makeSlice 24 (.int .i64 z) (.int .i64 z)).run Try.prog w = .ok (.slice (some ⟨w.heap.size, 0, none⟩) m m) (w.alloc (.cells C 5)) ∧
    (w.alloc (.cells C 5)).ownsRow w.heap.size 5 1 (.slice (some ⟨w.heap.size, 0, none⟩) m m) m ((List.replicate m (0 : UInt8)).map bv) :=
  ⟨_, fun w => ⟨make_zeros hm z hz w, own_zeros m w hm⟩⟩
theorem wrn_lt {N w : World} {b : Nat} {l : List UInt8} (h : WrN N w b l) : b < w.heap.size := by
  obtain ⟨A, c, u, h1, h2, h3⟩ := h
  exact h1.blk.lt
theorem wrn_num {N w : World} {b : Nat} {l : List UInt8} (h : WrN N w b l) (size n : Nat) (z : Int) (hz : (size : Int) = z) (hs : size = 1 ∨ size = 2 ∨ size = 4 ∨ size = 8) (hf : fitsB size n = true) (hn : n < 18446744073709551616) (hlen : l.length + size ≤ 140737488355328) :
    Calls Try.prog 29 #[.pointer (some ⟨b, 0, none⟩), .int .i64 z, .int .u64 n] w fun e w' => e = .returned (.int .i64 0) ∧ WrN N w' b (l ++ be size n) := by
  subst hz
  exact h.num size n hs hf hn hlen
end Go.Proofs.Ytdjneiboeehclaa.root

namespace Go.Proofs.Ytdjneiboeehclaa.root
open Go.RowKit Go.Proofs.Ytdjneiboeehclaa.crc

def areaR (n : Nat) : Int := if n % 2 = 0 then 2 else 26
end Go.Proofs.Ytdjneiboeehclaa.root

namespace Go.Proofs.Ytdjneiboeehclaa.root
open Go.RowKit Go.Proofs.Ytdjneiboeehclaa.crc

theorem keep_root (W : World) (g : Nat) (x y z : Value) : Keep (fun k => k = g) W (((W.setCell ⟨g, 0, none⟩ x).setCell ⟨g, 1, none⟩ y).setCell ⟨g, 2, none⟩ z) := by
  have h1 : Keep (fun k => k = g) W (W.setCell ⟨g, 0, none⟩ x) := (Keep.refl _ _).setCell _ _ (fun _ => rfl)
  exact (h1.setCell _ _ (fun _ => rfl)).setCell _ _ (fun _ => rfl)
end Go.Proofs.Ytdjneiboeehclaa.root

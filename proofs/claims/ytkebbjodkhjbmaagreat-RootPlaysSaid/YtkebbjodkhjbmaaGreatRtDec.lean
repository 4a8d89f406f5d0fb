/-
  Layer 6 without any program: a root, when it may be, its sector, the root of bytes; and lemmas on rows of the call's own.
  The root of layer 6: isValid, head, Encode, slotOf, Area.
  The root of layer 6: candidate, Decode.
-/
import Derived.Test.YtkebbjodkhjbmaaGreatCrcAlive
import Derived.Test.YtkebbjodkhjbmaaGreatCrcB
import Derived.Test.YtkebbjodkhjbmaaGreatDOps
import Derived.Test.YtkebbjodkhjbmaaGreatHeads
import Derived.Deep.MidRow
namespace Go.Proofs.YtkebbjodkhjbmaaGreat.root
open Go.RowKit Go.Proofs.YtkebbjodkhjbmaaGreat.crc

structure RV where
  n : Nat
  len : Int
  sm : Nat

structure RV.Fine (r : RV) : Prop where
  n : r.n < 18446744073709551616
  len : i64ok r.len
  sm : r.sm < 4294967296

def okR (r : RV) : Bool := decide (1 ≤ r.n) && (decide (0 ≤ r.len) && decide (r.len ≤ 3072))
def errR (r : RV) : Int := if okR r = true then 0 else 60
def headR (r : RV) : List UInt8 := [81, 82, 1, 0] ++ be 8 r.n ++ be 4 r.len.toNat ++ be 4 r.sm ++ List.replicate 96 0
def bodyR (r : RV) : List UInt8 := headR r ++ four (sum (bitsB (headR r)))
def sectR (r : RV) : List UInt8 := bodyR r ++ be 8 r.n
def outR (r : RV) : List UInt8 := if okR r = true then sectR r else []
def candR (l : List UInt8) : RV := ⟨num ((l.drop 4).take 8), (num (((l.drop 4).drop 8).take 4) : Int), num ((((l.drop 4).drop 8).drop 4).take 4)⟩
def noR : RV := ⟨0, 0, 0⟩
def goodR (l : List UInt8) : Bool := decide (l.length = 128) && (okR (candR l) && (sectR (candR l) == l))
def decR (l : List UInt8) : RV := if goodR l = true then candR l else noR
def decErrR (l : List UInt8) : Int := if goodR l = true then 0 else 60
/-- A root as a value. -/
def rtv (r : RV) : Value := .agg #[.int .u64 r.n, .int .i64 r.len, .int .u32 r.sm]

theorem num_append (l m : List UInt8) : num (l ++ m) = num l * 256 ^ m.length + num m := by
  have : ∀ (m : List UInt8) (l : List UInt8), num (l ++ m) = num l * 256 ^ m.length + num m := by
    intro m
    induction m with
    | nil => intro l; simp [num]
    | cons x m ih =>
      intro l
      have h1 := ih (l ++ [x])
      have h2 := ih [x]
      rw [List.append_assoc] at h1
      simp only [List.cons_append, List.nil_append] at h1 h2
      rw [h1, h2, num_snoc, List.length_cons, Nat.pow_succ, Nat.add_mul]
      simp [num]
      rw [Nat.mul_assoc, Nat.mul_comm 256, Nat.add_assoc]
  exact this m l
theorem num_cons (x : UInt8) (l : List UInt8) : num (x :: l) = x.toNat * 256 ^ l.length + num l := by
  have := num_append [x] l
  simpa [num] using this
theorem num_be (k n : Nat) : num (be k n) = n % 256 ^ k := by
  induction k with
  | zero => simp [be, num, Nat.mod_one]
  | succ k ih =>
    rw [be_succ, num_cons, ih, be_length, lowByte_toNat, Nat.pow_succ, Nat.mod_mul, Nat.mul_comm]
    omega
theorem be_num (l : List UInt8) : be l.length (num l) = l := by
  induction l with
  | nil => rfl
  | cons x l ih =>
    have hl := num_lt l
    rw [List.length_cons, be_succ, num_cons]
    have h1 : be l.length (x.toNat * 256 ^ l.length + num l) = l := by
      rw [← be_mod l.length _ l.length (Nat.le_refl _), Nat.mul_comm, Nat.mul_add_mod, be_mod _ _ _ (Nat.le_refl _), ih]
    rw [h1]
    congr 1
    apply UInt8.toNat_inj.1
    rw [lowByte_toNat, Nat.mul_comm, Nat.mul_add_div (Nat.pow_pos (by decide)), Nat.div_eq_of_lt hl, Nat.add_zero]
    exact Nat.mod_eq_of_lt x.toNat_lt


theorem okR_iff {r : RV} : okR r = true ↔ 1 ≤ r.n ∧ 0 ≤ r.len ∧ r.len ≤ 3072 := by simp [okR]
theorem headR_length (r : RV) : (headR r).length = 116 := by simp [headR, be_length]
theorem bodyR_length (r : RV) : (bodyR r).length = 120 := by unfold bodyR; rw [List.length_append, headR_length, four_length]
theorem sectR_length (r : RV) : (sectR r).length = 128 := by unfold sectR; rw [List.length_append, bodyR_length, be_length]
theorem outR_length (r : RV) : (outR r).length ≤ 128 := by
  unfold outR
  split
  · rw [sectR_length]; omega
  · simp
theorem noR_fine : noR.Fine := ⟨by decide, by unfold i64ok noR; decide, by decide⟩
theorem num_take_lt (l : List UInt8) (k : Nat) : num (l.take k) < 256 ^ k := by
  have h := num_lt (l.take k)
  have hl : (l.take k).length ≤ k := by rw [List.length_take]; omega
  exact Nat.lt_of_lt_of_le h (Nat.pow_le_pow_right (by omega) hl)
theorem candR_fine (l : List UInt8) : (candR l).Fine := by
  have h1 := num_take_lt (l.drop 4) 8
  have h2 := num_take_lt ((l.drop 4).drop 8) 4
  have h3 := num_take_lt (((l.drop 4).drop 8).drop 4) 4
  refine ⟨h1, ?_, h3⟩
  have h2' : num (((l.drop 4).drop 8).take 4) < 4294967296 := h2
  unfold i64ok candR
  simp only
  omega
theorem decR_fine (l : List UInt8) : (decR l).Fine := by
  unfold decR
  split
  · exact candR_fine l
  · exact noR_fine

theorem cand_sect {r : RV} (hok : okR r = true) (hf : r.Fine) : candR (sectR r) = r := by
  obtain ⟨h1, h2, h3⟩ := okR_iff.1 hok
  have e : sectR r = [81, 82, 1, 0] ++ (be 8 r.n ++ (be 4 r.len.toNat ++ (be 4 r.sm ++ (List.replicate 96 0 ++ (four (sum (bitsB (headR r))) ++ be 8 r.n))))) := by
    show (headR r ++ four _) ++ be 8 r.n = _
    conv => lhs; arg 1; arg 1; unfold headR
    simp only [List.append_assoc]
  have d4 : ∀ s : List UInt8, ([81, 82, 1, 0] ++ s).drop 4 = s := fun s => rfl
  unfold candR
  rw [e, d4, List.take_left' (be_length ..), List.drop_left' (be_length ..), List.take_left' (be_length ..), List.drop_left' (be_length ..), List.take_left' (be_length ..)]
  rw [num_be, num_be, num_be, Nat.mod_eq_of_lt (show r.n < 256 ^ 8 from hf.n), Nat.mod_eq_of_lt (show r.len.toNat < 256 ^ 4 by omega), Nat.mod_eq_of_lt (show r.sm < 256 ^ 4 from hf.sm), Int.toNat_of_nonneg h2]
theorem good_sect {r : RV} (hok : okR r = true) (hf : r.Fine) : goodR (sectR r) = true ∧ candR (sectR r) = r := by
  have hc := cand_sect hok hf
  refine ⟨?_, hc⟩
  unfold goodR
  rw [hc, sectR_length, hok]
  simp
theorem good_of {l : List UInt8} (h : goodR l = true) : l.length = 128 ∧ okR (candR l) = true ∧ sectR (candR l) = l := by
  unfold goodR at h
  simp only [Bool.and_eq_true, decide_eq_true_eq, beq_iff_eq] at h
  exact h
theorem dec_sect {r : RV} (hok : okR r = true) (hf : r.Fine) : decR (sectR r) = r ∧ decErrR (sectR r) = 0 := by
  obtain ⟨h1, h2⟩ := good_sect hok hf
  unfold decR decErrR
  rw [if_pos h1, if_pos h1]
  exact ⟨h2, rfl⟩
/-- A sector's tail is its root's number. -/
theorem good_tail {l : List UInt8} (h : goodR l = true) : l.drop 120 = be 8 (candR l).n := by
  obtain ⟨_, _, h3⟩ := good_of h
  have e : l = bodyR (candR l) ++ be 8 (candR l).n := h3.symm
  conv => lhs; rw [e]
  rw [List.drop_left' (bodyR_length _)]

/-! ### Rows of the call's own -/
theorem tl (l : List UInt8) : (⟨l.toArray⟩ : ByteArray).toList = l := by rw [ByteArray.toList_eq]
theorem equal_any (A B : Option Addr) (n m c d : Nat) (l k : List UInt8) (w : World) (hl : Reads w w.heap.size 1 A n (l.map bv)) (hk : Reads w w.heap.size 1 B m (k.map bv)) :
    Calls Tryz.prog 208 #[.slice A n c, .slice B m d] w fun e w' => e = .returned (.bool (l == k)) ∧ w = w' := by
  have c1 := conv_reads c hl
  have c2 := conv_reads d hk
  have t1 := tl
  clear hl hk
  go_enter Tryz.func208, Tryz.ntmps208
  go_wp2
  go_ret
  exact ⟨rfl, rfl⟩
theorem gives_len {w w1 : World} {v : Value} {L : List UInt8} {n : Nat} (h : Gives w w1 v L) (hn : L.length = n) : ∃ A c, v = .slice A n c ∧ w1.ownsRow w.heap.size 5 1 (.slice A n c) n (L.map bv) ∧ Below w.heap.size w w1 := by
  subst hn
  obtain ⟨A, c, rfl, ho, hb⟩ := h
  exact ⟨A, c, rfl, ho, hb⟩
theorem own_is {W : World} {base size n : Nat} {e : TypeId} {v : Value} {xs : List Value} (h : W.ownsRow base e size v n xs) : ∀ g, v.ownBlock = some g → base ≤ g ∧ g < W.heap.size ∧ ∃ cur, Blk W g e cur := by
  intro g hg
  rcases h.2 with ⟨rfl, h0⟩ | ⟨g', cap, cur, rfl, hb, hh, _⟩
  · simp [Value.ownBlock] at hg
  · have : g' = g := by simpa [Value.ownBlock] using hg
    subst this
    exact ⟨hb, (show Blk W g' e cur from hh).lt, cur, hh⟩
theorem own_at_block {w : World} {base e size n c : Nat} {ad : Addr} {xs : List Value} (h : w.ownsRow base e size (.slice (some ad) n c) n xs) : base ≤ ad.block := by
  rcases h.2 with ⟨e, _⟩ | ⟨g, cap, cur, e, hb, _⟩
  · cases e
  · injection e with e
    injection e with e
    subst e
    exact hb
theorem own_stay {w w1 : World} {base e size n : Nat} {v : Value} {xs : List Value} (h : w.ownsRow base e size v n xs) (hb : Below w.heap.size w w1) : w1.ownsRow base e size v n xs := (Keep.of_below (S := fun _ => False) hb).own h (fun _ _ h => h)
theorem own_past {N W W1 : World} {base e n c m : Nat} {A : Option Addr} {v : Value} {xs : List Value} (hP : ∀ g, (Value.slice A n c).ownBlock = some g → g < N.heap.size) (hR : W.ownsRow N.heap.size e base v m xs) (hg : W.grownBy W1 (Value.slice A n c).ownBlock) : W1.ownsRow N.heap.size e base v m xs :=
  ((Keep.refl (fun i => (Value.slice A n c).ownBlock = some i) W).grown hg (fun g e _ => e)).own hR (fun g e e2 => by have := hP g e2; have := (own_is hR g e).1; omega)
theorem app_out {w0 W W1 : World} {A : Option Addr} {n c m p : Nat} {v : Value} {L M K : List UInt8} (hb : Below w0.heap.size w0 W) (ho : W.ownsRow w0.heap.size 5 1 (.slice A n c) n (L.map bv))
    (hown : W1.ownsRow w0.heap.size 5 1 v (n + m) (L.map bv ++ M.map bv)) (hg : W.grownBy W1 (Value.slice A n c).ownBlock) (hp : n + m = p) (hK : L ++ M = K) :
    ∃ A' c', v = .slice A' p c' ∧ W1.ownsRow w0.heap.size 5 1 (.slice A' p c') p (K.map bv) ∧ Below w0.heap.size w0 W1 := by
  subst hp hK
  have hB := hb.grown hg hb.size (fun k e => (ho.lt k e).1)
  rw [← List.map_append] at hown
  rcases hown.2 with ⟨e, h0⟩ | ⟨g, cap, cur, e, hr⟩
  · subst e
    rw [h0] at hown ⊢
    exact ⟨none, 0, rfl, hown, hB⟩
  · subst e
    exact ⟨_, cap, rfl, hown, hB⟩
theorem own_cap {w : World} {base e n c : Nat} {A : Option Addr} {xs : List Value} (h : w.ownsRow base e 1 (.slice A n c) n xs) : n ≤ c ∧ c ≤ 9223372036854775807 := by
  rcases h.2 with ⟨e, h0⟩ | ⟨g, cap, cur, e, _, _, hc, hm, _⟩
  · injection e with _ _ e3
    omega
  · injection e with _ _ e3
    unfold maxLen at hm
    omega
theorem make_zeros {m : Nat} (hm : m ≤ 9000) (z : Int) (hz : z = (m : Int)) (w : World) : (Instr.makeSlice 36 (.int .i64 z) (.int .i64 z)).run Tryz.prog w = .ok (.slice (some ⟨w.heap.size, 0, none⟩) m m) (w.alloc (.cells (madeCells (Value.int .u8 0).cells (m * 1)) 5)) := by
  obtain ⟨i0, hi, hz0, hz1, hz2⟩ := info_parts infoU8
  subst hz
  have := run_make (P := Tryz.prog) w 36 5 i0 _ Tryz.underlying36 hi hz0 .i64 .i64 (m : Int) (m : Int) (by omega) (by omega) (by rw [hz2]; omega) (by omega)
  rw [hz1, Int.toNat_natCast] at this
  exact this
theorem own_zeros (m : Nat) (w : World) (h : m ≤ 9000) : (w.alloc (.cells (madeCells (Value.int .u8 0).cells (m * 1)) 5)).ownsRow w.heap.size 5 1 (.slice (some ⟨w.heap.size, 0, none⟩) m m) m ((List.replicate m (0 : UInt8)).map bv) := by
  have hl : (madeCells (Value.int .u8 0).cells (m * 1)).toList = List.replicate m (.int .u8 0) := by rw [Nat.mul_one]; exact toList_madeCells_one _ _
  have e : (List.replicate m (0 : UInt8)).map bv = List.replicate m (.int .u8 0) := by rw [List.map_replicate]; rfl
  rw [e]
  exact own_of_alloc w _ _ m (by rw [← hl]) (by simp) (by unfold maxLen; omega)
theorem zeros_made {m : Nat} (hm : m ≤ 9000) (z : Int) (hz : z = (m : Int)) : ∃ C : Array Value, ∀ w : World,
    (Instr.makeSlice 36 (.int .i64 z) (.int .i64 z)).run Tryz.prog w = .ok (.slice (some ⟨w.heap.size, 0, none⟩) m m) (w.alloc (.cells C 5)) ∧
    (w.alloc (.cells C 5)).ownsRow w.heap.size 5 1 (.slice (some ⟨w.heap.size, 0, none⟩) m m) m ((List.replicate m (0 : UInt8)).map bv) :=
  ⟨_, fun w => ⟨make_zeros hm z hz w, own_zeros m w hm⟩⟩
theorem wrn_lt {N w : World} {b : Nat} {l : List UInt8} (h : WrN N w b l) : b < w.heap.size := by
  obtain ⟨A, c, u, h1, h2, h3⟩ := h
  exact h1.blk.lt
theorem wrn_num {N w : World} {b : Nat} {l : List UInt8} (h : WrN N w b l) (size n : Nat) (z : Int) (hz : (size : Int) = z) (hs : size = 1 ∨ size = 2 ∨ size = 4 ∨ size = 8) (hf : fitsB size n = true) (hn : n < 18446744073709551616) (hlen : l.length + size ≤ 140737488355328) :
    Calls Tryz.prog 143 #[.pointer (some ⟨b, 0, none⟩), .int .i64 z, .int .u64 n] w fun e w' => e = .returned (.int .i64 0) ∧ WrN N w' b (l ++ be size n) := by
  subst hz
  exact h.num size n hs hf hn hlen
theorem wrn_len {N w : World} {b : Nat} {l : List UInt8} (h : WrN N w b l) :
    Calls Tryz.prog 203 #[.pointer (some ⟨b, 0, none⟩)] w fun e w' => e = .returned (.int .i64 l.length) ∧ w = w' := by
  obtain ⟨A, c, u, h1, h2, h3⟩ := h
  exact wlen_any w b A c u l h1

end Go.Proofs.YtkebbjodkhjbmaaGreat.root

namespace Go.Proofs.YtkebbjodkhjbmaaGreat.root
open Go.RowKit Go.Proofs.YtkebbjodkhjbmaaGreat.crc

theorem rvalid_any (r : RV) (w : World) (hf : r.Fine) : Calls Tryz.prog 174 #[rtv r] w fun e w' => e = .returned (.bool (okR r)) ∧ Below w.heap.size w w' := by
  obtain ⟨n, len, s⟩ := r
  have hn := hf.n
  simp only at hn
  unfold okR rtv
  simp only
  have hb : Below w.heap.size w (w.alloc (.cells #[.int .u64 n, .int .i64 len, .int .u32 s] 35)) := (Below.refl _ _).alloc (Nat.le_refl _) _
  have HB := Lib.hid hb
  clear hb hf
  by_cases h1 : 1 ≤ n
  · have d1 : decide ((1 : Int) ≤ (n : Int)) = true := decide_eq_true (by omega)
    rw [decide_eq_true h1, Bool.true_and]
    by_cases h2 : 0 ≤ len
    · have d2 : decide (0 ≤ len) = true := decide_eq_true h2
      rw [d2, Bool.true_and]
      by_cases h3 : len ≤ 3072
      · have d3 : decide (len ≤ 3072) = true := decide_eq_true h3
        rw [d3]
        go_enter Tryz.func174, Tryz.ntmps174
        go_wp2
        go_ret
        exact ⟨rfl, HB.out⟩
      · have d3 : decide (len ≤ 3072) = false := decide_eq_false h3
        rw [d3]
        go_enter Tryz.func174, Tryz.ntmps174
        go_wp2
        go_ret
        exact ⟨rfl, HB.out⟩
    · have d2 : decide (0 ≤ len) = false := decide_eq_false h2
      rw [d2, Bool.false_and]
      go_enter Tryz.func174, Tryz.ntmps174
      go_wp2
      go_ret
      exact ⟨rfl, HB.out⟩
  · have h0 : n = 0 := by omega
    subst h0
    rw [decide_eq_false h1, Bool.false_and]
    go_enter Tryz.func174, Tryz.ntmps174
    go_wp2
    go_ret
    exact ⟨rfl, HB.out⟩

set_option maxRecDepth 100000 in
set_option maxHeartbeats 4000000 in
theorem rhead_any (r : RV) (w : World) (hf : r.Fine) (hok : okR r = true) : Calls Tryz.prog 176 #[rtv r] w fun e w' => ∃ v, e = .returned v ∧ Gives w w' v (headR r) := by
  obtain ⟨h1, h2, h3⟩ := okR_iff.1 hok
  obtain ⟨n, len, s⟩ := r
  simp only at h1 h2 h3
  have hn := hf.n
  have hs := hf.sm
  simp only at hn hs
  obtain ⟨k, rfl⟩ := Int.eq_ofNat_of_zero_le h2
  obtain ⟨L0, hL0⟩ : ∃ L, headR ⟨n, (k : Int), s⟩ = L := ⟨_, rfl⟩
  have hL : [81, 82, 1, 0] ++ be 8 n ++ be 4 k ++ be 4 s ++ List.replicate 96 0 = L0 := by rw [← hL0]; rfl
  have hLl : L0.length = 116 := by rw [← hL0]; exact headR_length _
  rw [hL0]
  obtain ⟨w0, hw0⟩ : ∃ w0, w.alloc (.cells #[.int .u64 n, .int .i64 (k : Int), .int .u32 s] 35) = w0 := ⟨_, rfl⟩
  have hx : Blk w0 w.heap.size 35 #[.int .u64 n, .int .i64 (k : Int), .int .u32 s] := by rw [← hw0]; exact Blk.new w _ _
  have hb0 : Below w.heap.size w w0 := by rw [← hw0]; exact (Below.refl _ _).alloc (Nat.le_refl _) _
  have k1 : IntKind.u64.wrap (k : Int) = (k : Int) := by rw [wrap_u64]; omega
  have k2 : IntKind.u64.wrap (s : Int) = (s : Int) := by rw [wrap_u64]; omega
  have f1 : fitsB 8 n = true := by simp [fitsB]; omega
  have f2 : fitsB 4 k = true := by simp [fitsB]; omega
  have f3 : fitsB 4 s = true := by simp [fitsB]; omega
  obtain ⟨B4, hB4⟩ : ∃ B, [] ++ [81, 82, 1, 0] ++ be 8 n = B := ⟨_, rfl⟩
  obtain ⟨C, hC⟩ := zeros_made (m := 96) (by omega) 96 rfl
  have hmk := fun W => (hC W).1
  have HRZ := Lib.hid (fun W => (hC W).2)
  have HZ := Lib.hid (WrN.made w0)
  have cv := conv_lit (w0.alloc (.cells #[.slice none 0 0, .pointer none] 181)) #[.int .u8 81, .int .u8 82, .int .u8 1, .int .u8 0] 4 4
  have hrm := reads_mark (w0.alloc (.cells #[.slice none 0 0, .pointer none] 181)) #[.int .u8 81, .int .u8 82, .int .u8 1, .int .u8 0] (4, 5) [81, 82, 1, 0] 4 rfl rfl
  simp only [World.size_alloc] at cv hrm
  have HRM := Lib.hid hrm
  have HX := Lib.hid hx
  have HB0 := Lib.hid hb0
  have HL := Lib.hid hL
  have HLL := Lib.hid hLl
  have XC : Hid (∀ W, Below w0.heap.size w0 W → W.cell? ⟨w.heap.size, 0, none⟩ = some (.int .u64 n) ∧ W.cell? ⟨w.heap.size, 1, none⟩ = some (.int .i64 (k : Int)) ∧ W.cell? ⟨w.heap.size, 2, none⟩ = some (.int .u32 s)) := Lib.hid (fun W h => by
    have hb := hx.below h hx.lt
    exact ⟨hb.cell 0, hb.cell 1, hb.cell 2⟩)
  clear hL0 hL hLl hx hb0 hC hrm hf hok h2 hB4
  unfold rtv
  simp only
  go_enter Tryz.func176, Tryz.ntmps176
  go_wp2_with (first
    | (go_at_call 143; (have l0 := G3.out; clear l0); (with_reducible refine (wrn_num G3.out 4 s 4 rfl (by omega) f3 (by omega) (by simp [be_length] <;> omega)).mono ?_); rintro e w4 ⟨rfl, g5⟩; have G4 := Lib.hid g5; clear g5)
    | (go_at_call 143; (have l0 := G2.out; clear l0); (with_reducible refine (wrn_num G2.out 4 k 4 rfl (by omega) f2 (by omega) (by simp [be_length] <;> omega)).mono ?_); rintro e w8 ⟨rfl, g4⟩; obtain ⟨x0, x1, x2⟩ := XC.out w8 g4.frame; have G3 := Lib.hid g4; clear g4)
    | (go_at_call 143; (have l0 := G1.out; clear l0); (with_reducible refine (wrn_num G1.out 8 n 8 rfl (by omega) f1 hn (by simp)).mono ?_); rintro e w3 ⟨rfl, g3⟩; obtain ⟨x0, x1, x2⟩ := XC.out w3 g3.frame; have G2 := Lib.hid g3; clear g3)
    | (go_at_call 142; (have l0 := HRM.out; clear l0); refine ((HZ.out.below (((Below.refl _ _).alloc (Nat.le_refl _) _))).raw (some ⟨w0.heap.size + 1, 0, none⟩) 4 4 [81, 82, 1, 0] (by simpa only [World.size_alloc] using HRM.out) (fun _ ad e => by injection e with e; subst e; simp) (by simp)).mono ?_; rintro e w2 ⟨rfl, g2⟩; clear HRM cv; obtain ⟨x0, x1, x2⟩ := XC.out w2 g2.frame; have G1 := Lib.hid g2; clear g2))
  have HLE := Lib.hid (wrn_len G4.out)
  have e20 : ([] ++ [81, 82, 1, 0] ++ be 8 n ++ be 4 k ++ be 4 s : List UInt8).length = 20 := by simp [be_length]
  rw [e20] at HLE
  have HN : Hid (w4.heap.size ≠ w0.heap.size) := Lib.hid (by have := wrn_lt G4.out; omega)
  clear e20
  go_wp2_with (first
    | (go_at_call 203; refine HLE.out.mono ?_; rintro e _ ⟨rfl, rfl⟩)
    | (go_at_call 142; refine ((G4.out.below ((Below.refl _ _).alloc (Nat.le_refl _) _)).raw (some ⟨w4.heap.size, 0, none⟩) 96 96 (List.replicate 96 0) (Reads.of_own (HRZ.out w4)) (fun _ ad e => by injection e with e; subst e; exact HN.out) (by simp [be_length])).mono ?_; rintro e w5 ⟨rfl, g5⟩; simp only [List.nil_append] at g5; rw [HL.out] at g5; have G5 := Lib.hid g5; clear g5)
    | (go_at_call 146; refine (G5.out.bytes (by rw [HLL.out]; omega)).mono ?_; rintro e w6 ⟨v, rfl, g6⟩; have G6 := Lib.hid g6; clear g6))
  go_ret
  obtain ⟨A, c, rfl, ho, hb⟩ := G6.out
  exact ⟨_, rfl, A, c, rfl, own_mono ho HB0.out.size, HB0.out.trans (hb.mono HB0.out.size)⟩

set_option maxRecDepth 100000 in
set_option maxHeartbeats 4000000 in
theorem rencode_ok (r : RV) (w : World) (hf : r.Fine) (hok : okR r = true) : Calls Tryz.prog 127 #[rtv r] w fun e w' => ∃ v, e = .returned (.tuple #[v, .int .i64 0]) ∧ Gives w w' v (sectR r) := by
  have hn := hf.n
  obtain ⟨H0, hH0⟩ : ∃ H, headR r = H := ⟨_, rfl⟩
  obtain ⟨B0, hB0⟩ : ∃ B, H0 ++ four (sum (bitsB H0)) = B := ⟨_, rfl⟩
  have hH : H0.length = 116 := by rw [← hH0]; exact headR_length r
  have hB : B0.length = 120 := by rw [← hB0, List.length_append, hH, four_length]
  have hS : B0 ++ be 8 r.n = sectR r := by rw [← hB0, ← hH0]; rfl
  obtain ⟨S0, hS0⟩ : ∃ S, sectR r = S := ⟨_, rfl⟩
  rw [hS0] at hS ⊢
  have hSl : S0.length = 128 := by rw [← hS0]; exact sectR_length r
  obtain ⟨w0, hw0⟩ : ∃ w0, w.alloc (.cells #[.int .u64 r.n, .int .i64 r.len, .int .u32 r.sm] 35) = w0 := ⟨_, rfl⟩
  have hx : Blk w0 w.heap.size 35 #[.int .u64 r.n, .int .i64 r.len, .int .u32 r.sm] := by rw [← hw0]; exact Blk.new w _ _
  have hb0 : Below w.heap.size w w0 := by rw [← hw0]; exact (Below.refl _ _).alloc (Nat.le_refl _) _
  have HV := Lib.hid (fun W => rvalid_any r W hf)
  have HH := Lib.hid (fun W => rhead_any r W hf hok)
  have HSL := Lib.hid (fun A c W h => cseal_any A c H0 W h (by omega))
  rw [hok] at HV
  rw [hH0] at HH
  rw [hB0, hH] at HSL
  have HZ := Lib.hid (WrN.made)
  have HX := Lib.hid hx
  have HB0 := Lib.hid hb0
  have HHL := Lib.hid hH
  have HBL := Lib.hid hB
  have HS := Lib.hid hS
  have HSS := Lib.hid hSl
  have f8 : fitsB 8 r.n = true := by simp [fitsB]; omega
  have XC : Hid (∀ W, Below w0.heap.size w0 W → W.cell? ⟨w.heap.size, 0, none⟩ = some (.int .u64 r.n) ∧ W.cell? ⟨w.heap.size, 1, none⟩ = some (.int .i64 r.len) ∧ W.cell? ⟨w.heap.size, 2, none⟩ = some (.int .u32 r.sm)) := Lib.hid (fun W h => by
    have hb := hx.below h hx.lt
    exact ⟨hb.cell 0, hb.cell 1, hb.cell 2⟩)
  clear hH0 hB0 hH hB hS hS0 hSl hx hb0 hf hok
  unfold rtv at HV HH ⊢
  obtain ⟨x0, x1, x2⟩ := XC.out w0 (Below.refl _ _)
  go_enter Tryz.func127, Tryz.ntmps127
  go_wp2_with (first
    | (go_at_call 174; refine (HV.out w0).mono ?_; rintro e w1 ⟨rfl, b1⟩; clear hw0; have K1 := Lib.hid b1; obtain ⟨x0, x1, x2⟩ := XC.out w1 b1; have z1 := HZ.out w1; have Z1 := Lib.hid z1; have k2 := b1.alloc b1.size (.cells #[.slice none 0 0, .pointer none] 181); have K2 := Lib.hid k2; obtain ⟨y0, y1, y2⟩ := XC.out _ k2; clear b1 z1 k2)
    | (go_at_call 176; refine (HH.out _).mono ?_; rintro e w3 ⟨v, rfl, g⟩; obtain ⟨A3, c3, rfl, o3, b3⟩ := gives_len g HHL.out; have K3 := Lib.hid (K2.out.trans (b3.mono K2.out.size)); have O3 := Lib.hid o3; have Z3 := Lib.hid (Z1.out.below b3); clear g o3 b3)
    | (go_at_call 175; refine (HSL.out A3 c3 w3 (Reads.of_own O3.out)).mono ?_; rintro e w4 ⟨v, rfl, g⟩; obtain ⟨A4, c4, rfl, o4, b4⟩ := gives_len g HBL.out; have K4 := Lib.hid (K3.out.trans (b4.mono K3.out.size)); have O4 := Lib.hid o4; have Z4 := Lib.hid (Z3.out.below b4); have N4 : Hid (w1.heap.size < w3.heap.size) := Lib.hid (wrn_lt Z3.out); clear g o4 b4)
    | (go_at_call 142; refine (Z4.out.raw A4 120 c4 B0 (Reads.of_own O4.out) (fun _ ad e => by subst e; have := N4.out; have := own_at_block O4.out; omega) (by simp)).mono ?_; rintro e w5 ⟨rfl, g5⟩; have K5 := Lib.hid (K1.out.trans (g5.frame.mono K1.out.size)); obtain ⟨x0, x1, x2⟩ := XC.out w5 K5.out; have G5 := Lib.hid g5; clear g5)
    | (go_at_call 143; ((with_reducible refine (wrn_num G5.out 8 r.n 8 rfl (by omega) f8 hn (by rw [List.nil_append, HBL.out]; omega)).mono ?_); rintro e w6 ⟨rfl, g6⟩; rw [List.nil_append, HS.out] at g6; have G6 := Lib.hid g6; clear g6))
    | (go_at_call 146; refine (G6.out.bytes (by rw [HSS.out]; omega)).mono ?_; rintro e w7 ⟨v, rfl, g7⟩; have G7 := Lib.hid g7; clear g7))
  go_ret2
  obtain ⟨A, c, rfl, ho, hb⟩ := G7.out
  have hk1 := HB0.out.trans (K1.out.mono HB0.out.size)
  exact ⟨_, rfl, A, c, rfl, own_mono ho hk1.size, hk1.trans (hb.mono hk1.size)⟩

theorem rencode_bad (r : RV) (w : World) (hf : r.Fine) (hok : okR r = false) : Calls Tryz.prog 127 #[rtv r] w fun e w' => e = .returned (.tuple #[.slice none 0 0, .int .i64 60]) ∧ Below w.heap.size w w' := by
  obtain ⟨w0, hw0⟩ : ∃ w0, w.alloc (.cells #[.int .u64 r.n, .int .i64 r.len, .int .u32 r.sm] 35) = w0 := ⟨_, rfl⟩
  have hb0 : Below w.heap.size w w0 := by rw [← hw0]; exact (Below.refl _ _).alloc (Nat.le_refl _) _
  have hx : Blk w0 w.heap.size 35 #[.int .u64 r.n, .int .i64 r.len, .int .u32 r.sm] := by rw [← hw0]; exact Blk.new w _ _
  have x0 := hx.cell 0
  have x1 := hx.cell 1
  have x2 := hx.cell 2
  have HV := Lib.hid (fun W => rvalid_any r W hf)
  rw [hok] at HV
  have HB0 := Lib.hid hb0
  clear hb0 hf hok hx
  unfold rtv at HV ⊢
  go_enter Tryz.func127, Tryz.ntmps127
  go_wp2_with (go_at_call 174; refine (HV.out w0).mono ?_; rintro e w1 ⟨rfl, b1⟩; clear hw0; have K1 := Lib.hid b1; clear b1)
  go_ret2
  exact ⟨rfl, HB0.out.trans (K1.out.mono HB0.out.size)⟩

theorem rencode_any (r : RV) (w : World) (hf : r.Fine) : Calls Tryz.prog 127 #[rtv r] w fun e w' => ∃ v, e = .returned (.tuple #[v, .int .i64 (errR r)]) ∧ Gives w w' v (outR r) := by
  unfold errR outR
  cases hok : okR r
  · rw [if_neg (by decide), if_neg (by decide)]
    refine (rencode_bad r w hf hok).mono ?_
    rintro e w' ⟨rfl, hb⟩
    exact ⟨_, rfl, none, 0, rfl, World.ownsRow_nil _ _ _ _, hb⟩
  · rw [if_pos rfl, if_pos rfl]
    exact rencode_ok r w hf hok

theorem rslotof_any (n : Nat) (w : World) (hn : n < 18446744073709551616) : Calls Tryz.prog 128 #[.int .u64 n] w fun e w' => e = .returned (.int .i64 ((n % 2 : Nat) : Int)) ∧ w = w' := by
  have e : IntKind.i64.wrap ((n : Int) % 2) = ((n % 2 : Nat) : Int) := by rw [show (n : Int) % 2 = ((n % 2 : Nat) : Int) by omega]; exact IntWalk.i64_in _ (by omega)
  go_enter Tryz.func128, Tryz.ntmps128
  go_wp2
  go_ret
  exact ⟨by go_num, rfl⟩

def areaR (n : Nat) : Int := if n % 2 = 0 then 2 else 26
theorem rarea_any (n : Nat) (w : World) (hn : n < 18446744073709551616) : Calls Tryz.prog 117 #[.int .u64 n] w fun e w' => e = .returned (.int .i64 (areaR n)) ∧ w = w' := by
  have H := Lib.hid (rslotof_any n w hn)
  unfold areaR
  rcases Nat.mod_two_eq_zero_or_one n with h | h
  · rw [h] at H ⊢
    clear h
    go_enter Tryz.func117, Tryz.ntmps117
    go_wp2_with (go_at_call 128; refine H.out.mono ?_; rintro e _ ⟨rfl, rfl⟩)
    go_ret
    exact ⟨rfl, rfl⟩
  · rw [h] at H ⊢
    clear h
    go_enter Tryz.func117, Tryz.ntmps117
    go_wp2_with (go_at_call 128; refine H.out.mono ?_; rintro e _ ⟨rfl, rfl⟩)
    go_ret
    exact ⟨rfl, rfl⟩

end Go.Proofs.YtkebbjodkhjbmaaGreat.root

namespace Go.Proofs.YtkebbjodkhjbmaaGreat.root
open Go.RowKit Go.Proofs.YtkebbjodkhjbmaaGreat.crc

theorem load_root (w : World) (g : Nat) (x y z : Value) (hb : Blk w g 35 #[x, y, z]) : (loadVar 35 ⟨g, 0, none⟩).run Tryz.prog w = .ok (.agg #[x, y, z]) w := by
  have h1 : w.rangeAt g 0 [x, y, z] := fun j v hv => by
    rw [Nat.zero_add, hb.cell]
    simpa using hv
  exact run_loadVar_mid w g 0 35 [x, y, z] _ h1 Tryz.underlying35 rfl (by kernel_rfl)
theorem results_root {fn : Func} {t : Tmp} {tmps : Array Value} {w : World} {g : Nat} {x y z : Value} (h : fn.results = #[.cell t 35]) (ht : tmps.getD t undef = .pointer (some ⟨g, 0, none⟩)) (hb : Blk w g 35 #[x, y, z]) : (results fn tmps).run Tryz.prog w = .ok (.agg #[x, y, z]) w := by
  have h1 := load_root w g x y z hb
  rw [Array.getD_eq_getD_getElem?] at ht
  simp [results, h, ht, h1, asAddr]
theorem results_root2 {fn : Func} {t i : Tmp} {tmps : Array Value} {w : World} {g : Nat} {x y z v : Value} (h : fn.results = #[.cell t 35, .tmp i]) (ht : tmps.getD t undef = .pointer (some ⟨g, 0, none⟩)) (hv : tmps.getD i undef = v) (hb : Blk w g 35 #[x, y, z]) : (results fn tmps).run Tryz.prog w = .ok (.tuple #[.agg #[x, y, z], v]) w := by
  have h1 := load_root w g x y z hb
  rw [Array.getD_eq_getD_getElem?] at ht hv
  simp [results, h, ht, h1, hv, asAddr]
theorem keep_root (W : World) (g : Nat) (x y z : Value) : Keep (fun k => k = g) W (((W.setCell ⟨g, 0, none⟩ x).setCell ⟨g, 1, none⟩ y).setCell ⟨g, 2, none⟩ z) := by
  have h1 : Keep (fun k => k = g) W (W.setCell ⟨g, 0, none⟩ x) := (Keep.refl _ _).setCell _ _ (fun _ => rfl)
  exact (h1.setCell _ _ (fun _ => rfl)).setCell _ _ (fun _ => rfl)
theorem blk_root {W : World} {g : Nat} {a b c : Value} (x y z : Value) (h : Blk W g 35 #[a, b, c]) : Blk (((W.setCell ⟨g, 0, none⟩ x).setCell ⟨g, 1, none⟩ y).setCell ⟨g, 2, none⟩ z) g 35 #[x, y, z] :=
  ((h.set_ 0 x).set_ 1 y).set_ 2 z

set_option maxRecDepth 100000 in
set_option maxHeartbeats 4000000 in
theorem rcand_any (A : Option Addr) (c : Nat) (l : List UInt8) (w : World) (hr : Reads w w.heap.size 1 A l.length (l.map bv)) (h1 : l.length = 128) :
    Calls Tryz.prog 207 #[.slice A 128 c] w fun e w' => e = .returned (rtv (candR l)) ∧ Below w.heap.size w w' := by
  obtain ⟨w0, hw0⟩ : ∃ w0, w.alloc (.cells #[.int .u64 0, .int .i64 0, .int .u32 0] 35) = w0 := ⟨_, rfl⟩
  have hx : Blk w0 w.heap.size 35 #[.int .u64 0, .int .i64 0, .int .u32 0] := by rw [← hw0]; exact Blk.new w _ _
  have hb0 : Below w.heap.size w w0 := by rw [← hw0]; exact (Below.refl _ _).alloc (Nat.le_refl _) _
  have HRD := Lib.hid (RdN.read w0 A c l ((hr.below hb0).more hb0.size) (by omega))
  rw [h1] at HRD
  obtain ⟨l4, hl4⟩ : ∃ x, l.drop 4 = x := ⟨_, rfl⟩
  obtain ⟨l12, hl12⟩ : ∃ x, l4.drop 8 = x := ⟨_, rfl⟩
  obtain ⟨l16, hl16⟩ : ∃ x, l12.drop 4 = x := ⟨_, rfl⟩
  obtain ⟨l20, hl20⟩ : ∃ x, l16.drop 4 = x := ⟨_, rfl⟩
  obtain ⟨f, hf⟩ : ∃ x, num (l4.take 8) = x := ⟨_, rfl⟩
  obtain ⟨m, hm⟩ : ∃ x, num (l12.take 4) = x := ⟨_, rfl⟩
  obtain ⟨s, hs⟩ : ∃ x, num (l16.take 4) = x := ⟨_, rfl⟩
  have n4 : l4.length = 124 := by rw [← hl4, List.length_drop]; omega
  have n12 : l12.length = 116 := by rw [← hl12, List.length_drop, n4]
  have n16 : l16.length = 112 := by rw [← hl16, List.length_drop, n12]
  have hcand : candR l = ⟨f, (m : Int), s⟩ := by
    unfold candR
    rw [hl4, hl12, hl16, hf, hm, hs]
  have hfb : f < 18446744073709551616 := by rw [← hf]; exact num_take_lt _ 8
  have hmb : m < 4294967296 := by rw [← hm]; exact num_take_lt _ 4
  have hsb : s < 4294967296 := by rw [← hs]; exact num_take_lt _ 4
  rw [hcand]
  have R4 : ∀ (N W : World) (b : Nat), RdN N W b l → Calls Tryz.prog 149 #[.pointer (some ⟨b, 0, none⟩), .int .i64 4] W fun e w' => (∃ v, e = .returned v) ∧ RdN N w' b l4 := fun N W b h => by
    refine (h.raw (by omega) 4 (by omega)).mono ?_
    rintro e w' ⟨A', c', rfl, _, _, h'⟩
    rw [hl4] at h'
    exact ⟨⟨_, rfl⟩, h'⟩
  have R12 : ∀ (N W : World) (b : Nat), RdN N W b l4 → Calls Tryz.prog 151 #[.pointer (some ⟨b, 0, none⟩), .int .i64 8] W fun e w' => e = .returned (.tuple #[.int .u64 f, .int .i64 0]) ∧ RdN N w' b l12 := fun N W b h => by
    have := h.num 8 (by omega) (by omega)
    rw [hl12, hf] at this
    exact this.mono fun e w' h => ⟨h.1, h.2.1⟩
  have R16 : ∀ (N W : World) (b : Nat), RdN N W b l12 → Calls Tryz.prog 151 #[.pointer (some ⟨b, 0, none⟩), .int .i64 4] W fun e w' => e = .returned (.tuple #[.int .u64 m, .int .i64 0]) ∧ RdN N w' b l16 := fun N W b h => by
    have := h.num 4 (by omega) (by omega)
    rw [hl16, hm] at this
    exact this.mono fun e w' h => ⟨h.1, h.2.1⟩
  have R20 : ∀ (N W : World) (b : Nat), RdN N W b l16 → Calls Tryz.prog 151 #[.pointer (some ⟨b, 0, none⟩), .int .i64 4] W fun e w' => e = .returned (.tuple #[.int .u64 s, .int .i64 0]) ∧ RdN N w' b l20 := fun N W b h => by
    have := h.num 4 (by omega) (by omega)
    rw [hl20, hs] at this
    exact this.mono fun e w' h => ⟨h.1, h.2.1⟩
  have R4 := Lib.hid R4
  have R12 := Lib.hid R12
  have R16 := Lib.hid R16
  have R20 := Lib.hid R20
  have k1 : IntKind.i64.wrap (m : Int) = (m : Int) := IntWalk.i64_in _ (by omega)
  have k2 : IntKind.u32.wrap (s : Int) = (s : Int) := by unfold IntKind.wrap; simp [IntKind.signed, IntKind.bits]; omega
  have HX := Lib.hid hx
  have HB0 := Lib.hid hb0
  unfold rtv
  simp only
  clear hr hb0 hx hcand hf hm hs n4 n12 n16 hl4 hl12 hl16 hl20 h1
  go_enter Tryz.func207, Tryz.ntmps207
  go_wp2_with (first
    | (go_at_call 148; refine HRD.out.mono ?_; rintro e w1 ⟨b, rfl, hg⟩; clear hw0; have G1 := Lib.hid hg; clear hg)
    | (go_at_call 149; refine (R4.out _ _ _ G1.out).mono ?_; rintro e w2 ⟨⟨v3, rfl⟩, hg⟩; have G2 := Lib.hid hg; clear hg)
    | (go_at_call 151; (have l0 := G4.out; clear l0); refine (R20.out _ _ _ G4.out).mono ?_; rintro e w5 ⟨rfl, hg⟩; have hx5 := HX.out.below hg.frame HX.out.lt; have x0 := hx5.cell 0; have x1 := hx5.cell 1; have x2 := hx5.cell 2; have f0 := hx5.frozen 0; have f1 := hx5.frozen 1; have f2 := hx5.frozen 2; have HX5 := Lib.hid hx5; have G5 := Lib.hid hg; clear hg hx5)
    | (go_at_call 151; (have l0 := G3.out; clear l0); refine (R16.out _ _ _ G3.out).mono ?_; rintro e w4 ⟨rfl, hg⟩; have G4 := Lib.hid hg; clear hg)
    | (go_at_call 151; refine (R12.out _ _ _ G2.out).mono ?_; rintro e w3 ⟨rfl, hg⟩; have G3 := Lib.hid hg; clear hg))
  refine bodyPost_ret (results_root rfl rfl (blk_root _ _ _ HX5.out)) rfl ?_
  have hk := keep_root w5 w.heap.size (.int .u64 f) (.int .i64 m) (.int .u32 s)
  have hb5 := G5.out.frame
  exact ⟨rfl, HB0.out.trans ((hb5.mono HB0.out.size).trans (hk.below (by have := HB0.out.size; have := hb5.size; omega) (fun i hi e => by omega)))⟩

set_option maxHeartbeats 2000000 in
theorem rdec_short (A : Option Addr) (c n : Nat) (w : World) (h1 : n ≠ 128) :
    Calls Tryz.prog 181 #[.slice A n c] w fun e w' => e = .returned (.tuple #[rtv noR, .int .i64 60]) ∧ Below w.heap.size w w' := by
  have hx := Blk.new w 35 #[.int .u64 0, .int .i64 0, .int .u32 0]
  have hb0 : Below w.heap.size w (w.alloc (.cells #[.int .u64 0, .int .i64 0, .int .u32 0] 35)) := (Below.refl _ _).alloc (Nat.le_refl _) _
  have hd : ((n : Int) != 128) = true := by rw [bne_iff_ne]; omega
  have HX := Lib.hid hx
  have HB0 := Lib.hid hb0
  clear hx hb0 h1
  go_enter Tryz.func181, Tryz.ntmps181
  go_wp2
  refine bodyPost_ret (results_root2 rfl rfl rfl HX.out) rfl ?_
  exact ⟨rfl, HB0.out⟩

set_option maxRecDepth 100000 in
set_option maxHeartbeats 4000000 in
theorem rdec_long (A : Option Addr) (c : Nat) (l : List UInt8) (w : World) (hr : Reads w w.heap.size 1 A l.length (l.map bv)) (h1 : l.length = 128) :
    Calls Tryz.prog 181 #[.slice A 128 c] w fun e w' => e = .returned (.tuple #[rtv (decR l), .int .i64 (decErrR l)]) ∧ Below w.heap.size w w' := by
  obtain ⟨w0, hw0⟩ : ∃ w0, w.alloc (.cells #[.int .u64 0, .int .i64 0, .int .u32 0] 35) = w0 := ⟨_, rfl⟩
  have hx : Blk w0 w.heap.size 35 #[.int .u64 0, .int .i64 0, .int .u32 0] := by rw [← hw0]; exact Blk.new w _ _
  have hb0 : Below w.heap.size w w0 := by rw [← hw0]; exact (Below.refl _ _).alloc (Nat.le_refl _) _
  have hr0 := (hr.below hb0).more hb0.size
  have HC := Lib.hid (rcand_any A c l w0 hr0 h1)
  have hgood : goodR l = (okR (candR l) && (sectR (candR l) == l)) := by unfold goodR; rw [decide_eq_true h1, Bool.true_and]
  have hcf := candR_fine l
  unfold decR decErrR
  rw [hgood]
  rw [h1] at hr0
  obtain ⟨T, hT⟩ : ∃ T, candR l = T := ⟨_, rfl⟩
  rw [hT] at HC hcf ⊢
  have ENC := Lib.hid (fun W => rencode_any T W hcf)
  unfold errR outR at ENC
  have HSL := Lib.hid (sectR_length T)
  have HX := Lib.hid hx
  have HB := Lib.hid hb0
  have HR := Lib.hid hr0
  clear hgood hr hr0 hx hb0 hT hcf h1
  cases hok : okR T
  · rw [hok] at ENC
    simp only [Bool.false_eq_true, if_false, Bool.false_and] at ENC ⊢
    clear hok
    unfold rtv at *
    go_enter Tryz.func181, Tryz.ntmps181
    go_wp2_with (first
      | (go_at_call 207; refine HC.out.mono ?_; rintro e w1 ⟨rfl, hb⟩; clear hw0; have HB1 := Lib.hid hb; clear hb)
      | (go_at_call 127; refine (ENC.out _).mono ?_; rintro e w2 ⟨v, rfl, g⟩; obtain ⟨A2, c2, rfl, o2, b2⟩ := gives_len g rfl
         have hb12 : Below w1.heap.size w1 w2 := ((Below.refl _ w1).alloc (Nat.le_refl _) _).trans (b2.mono (by simp))
         have hb02 := HB1.out.trans (hb12.mono HB1.out.size)
         have hx2 := HX.out.below hb02 HX.out.lt
         have x0 := hx2.cell 0; have x1 := hx2.cell 1; have x2 := hx2.cell 2; have f0 := hx2.frozen 0; have f1 := hx2.frozen 1; have f2 := hx2.frozen 2
         have HX2 := Lib.hid hx2; have HB02 := Lib.hid hb02
         clear g o2 b2 hb12 hb02 hx2))
    refine bodyPost_ret (results_root2 rfl rfl rfl (blk_root _ _ _ HX2.out)) rfl ?_
    have hk := keep_root w2 w.heap.size (.int .u64 0) (.int .i64 0) (.int .u32 0)
    exact ⟨rfl, HB.out.trans ((HB02.out.mono HB.out.size).trans (hk.below (by have := HB.out.size; have := HB02.out.size; omega) (fun i hi e => by omega)))⟩
  · rw [hok] at ENC
    simp only [if_true, Bool.true_and] at ENC ⊢
    clear hok
    generalize sectR T = BT at *
    cases heq : BT == l
    · simp only [Bool.false_eq_true, if_false]
      unfold rtv at *
      go_enter Tryz.func181, Tryz.ntmps181
      go_wp2_with (first
        | (go_at_call 207; refine HC.out.mono ?_; rintro e w1 ⟨rfl, hb⟩; clear hw0; have HB1 := Lib.hid hb; clear hb)
        | (go_at_call 127; refine (ENC.out _).mono ?_; rintro e w2 ⟨v, rfl, g⟩; obtain ⟨A2, c2, rfl, o2, b2⟩ := gives_len g HSL.out
           have hb12 : Below w1.heap.size w1 w2 := ((Below.refl _ w1).alloc (Nat.le_refl _) _).trans (b2.mono (by simp))
           have hb02 := HB1.out.trans (hb12.mono HB1.out.size)
           have hx2 := HX.out.below hb02 HX.out.lt
           have x0 := hx2.cell 0; have x1 := hx2.cell 1; have x2 := hx2.cell 2; have f0 := hx2.frozen 0; have f1 := hx2.frozen 1; have f2 := hx2.frozen 2
           have HX2 := Lib.hid hx2; have HB02 := Lib.hid hb02; have O2 := Lib.hid o2
           clear g o2 b2 hb12 hb02 hx2)
        | (go_at_call 208; refine (equal_any A2 A _ _ c2 c BT l w2 (Reads.of_own O2.out) ((HR.out.below HB02.out).more HB02.out.size)).mono ?_; rintro e _ ⟨rfl, rfl⟩))
      refine bodyPost_ret (results_root2 rfl rfl rfl (blk_root _ _ _ HX2.out)) rfl ?_
      have hk := keep_root w2 w.heap.size (.int .u64 0) (.int .i64 0) (.int .u32 0)
      exact ⟨rfl, HB.out.trans ((HB02.out.mono HB.out.size).trans (hk.below (by have := HB.out.size; have := HB02.out.size; omega) (fun i hi e => by omega)))⟩
    · simp only [if_true]
      unfold rtv at *
      go_enter Tryz.func181, Tryz.ntmps181
      go_wp2_with (first
        | (go_at_call 207; refine HC.out.mono ?_; rintro e w1 ⟨rfl, hb⟩; clear hw0; have HB1 := Lib.hid hb; clear hb)
        | (go_at_call 127; refine (ENC.out _).mono ?_; rintro e w2 ⟨v, rfl, g⟩; obtain ⟨A2, c2, rfl, o2, b2⟩ := gives_len g HSL.out
           have hb12 : Below w1.heap.size w1 w2 := ((Below.refl _ w1).alloc (Nat.le_refl _) _).trans (b2.mono (by simp))
           have hb02 := HB1.out.trans (hb12.mono HB1.out.size)
           have hx2 := HX.out.below hb02 HX.out.lt
           have x0 := hx2.cell 0; have x1 := hx2.cell 1; have x2 := hx2.cell 2; have f0 := hx2.frozen 0; have f1 := hx2.frozen 1; have f2 := hx2.frozen 2
           have hy2 := (Blk.new w1 35 #[.int .u64 T.n, .int .i64 T.len, .int .u32 T.sm]).below b2 (by simp)
           have y0 := hy2.cell 0; have y1 := hy2.cell 1; have y2 := hy2.cell 2
           have HX2 := Lib.hid hx2; have HB02 := Lib.hid hb02; have O2 := Lib.hid o2
           clear g o2 b2 hb12 hb02 hx2 hy2)
        | (go_at_call 208; refine (equal_any A2 A _ _ c2 c BT l w2 (Reads.of_own O2.out) ((HR.out.below HB02.out).more HB02.out.size)).mono ?_; rintro e _ ⟨rfl, rfl⟩))
      refine bodyPost_ret (results_root2 rfl rfl rfl (blk_root _ _ _ HX2.out)) rfl ?_
      have hk := keep_root w2 w.heap.size (.int .u64 T.n) (.int .i64 T.len) (.int .u32 T.sm)
      exact ⟨rfl, HB.out.trans ((HB02.out.mono HB.out.size).trans (hk.below (by have := HB.out.size; have := HB02.out.size; omega) (fun i hi e => by omega)))⟩

theorem rdecode_any (A : Option Addr) (c n : Nat) (l : List UInt8) (w : World) (hl : l.length = n) (hr : Reads w w.heap.size 1 A n (l.map bv)) :
    Calls Tryz.prog 181 #[.slice A n c] w fun e w' => e = .returned (.tuple #[rtv (decR l), .int .i64 (decErrR l)]) ∧ Below w.heap.size w w' := by
  subst hl
  by_cases h1 : l.length = 128
  · have := rdec_long A c l w hr h1
    rwa [← h1] at this
  · have hg : goodR l = false := by unfold goodR; rw [decide_eq_false h1, Bool.false_and]
    have hd : decR l = noR := by unfold decR; rw [hg]; rfl
    have he : decErrR l = 60 := by unfold decErrR; rw [hg]; rfl
    rw [hd, he]
    exact rdec_short A c l.length w h1

end Go.Proofs.YtkebbjodkhjbmaaGreat.root

/-
  CRC-32, without any program: a byte at once, and registers as polynomials: their product, and the powers that stand for noughts.
  The code of layer 2: a byte's bits, what a byte leaves of an empty register, a step.
  The code of layer 2: what a byte leaves of an empty register.
  The code of layer 2: products of registers, noughts, joins; sums.
  The code of layer 2: sums.
-/
import Derived.Test.YtddhldmeknmgpaaRef2
import Derived.Test.YtddhldmeknmgpaaWriter
namespace Go.Proofs.Ytddhldmeknmgpaa.crc

/-- Noughts' steps over noughts only shift. -/
theorem run_shift : ∀ (k : Nat) (h : BitVec 32), (∀ i, i < k → h.getLsbD i = false) → run h (List.replicate k false) = h >>> k
  | 0, h, _ => by simp [run_nil]
  | k + 1, h, h0 => by
    rw [List.replicate_succ, run_cons]
    have hs : stp h false = h >>> 1 := by
      unfold stp
      rw [h0 0 (by omega)]
      simp [sel]
    rw [hs, run_shift k _ (fun i hi => by rw [BitVec.getLsbD_ushiftRight, Nat.add_comm]; exact h0 _ (by omega))]
    apply BitVec.eq_of_getLsbD_eq
    intro i _
    simp only [BitVec.getLsbD_ushiftRight]
    congr 1
    omega

theorem run_byte (c : BitVec 32) (x : Nat) (hx : x < 256) : run c (bitsOf x 8) = (c >>> 8) ^^^ run 0#32 (bitsOf (c.toNat % 256 ^^^ x) 8) := by
  have hy : c.toNat % 256 ^^^ x < 2 ^ 8 := Nat.xor_lt_two_pow (by omega) (by omega)
  rw [run_bits 8 _ _ (by omega), run_bits 8 _ _ (by omega), Nat.mod_eq_of_lt (show x < 2 ^ 8 by omega), Nat.mod_eq_of_lt hy, BitVec.zero_xor, BitVec.ofNat_xor, run_zeros_linear, run_zeros_linear, ← BitVec.xor_assoc]
  congr 1
  have hc : c = (c ^^^ BitVec.ofNat 32 (c.toNat % 256)) ^^^ BitVec.ofNat 32 (c.toNat % 256) := by rw [xor_xor]
  have hlo : ∀ i, (BitVec.ofNat 32 (c.toNat % 256)).getLsbD i = (decide (i < 8) && c.getLsbD i) := by
    intro i
    rw [BitVec.getLsbD_ofNat, show (256 : Nat) = 2 ^ 8 from rfl, Nat.testBit_mod_two_pow, ← BitVec.testBit_toNat]
    by_cases h : i < 8
    · have : i < 32 := by omega
      simp [h, this]
    · simp [h]
  have h1 : run (c ^^^ BitVec.ofNat 32 (c.toNat % 256)) (List.replicate 8 false) = c >>> 8 := by
    rw [run_shift 8 _ (fun i hi => by rw [BitVec.getLsbD_xor, hlo]; simp [hi])]
    apply BitVec.eq_of_getLsbD_eq
    intro i hi
    rw [BitVec.getLsbD_ushiftRight, BitVec.getLsbD_ushiftRight, BitVec.getLsbD_xor, hlo]
    have : ¬ 8 + i < 8 := by omega
    simp [this]
  have h2 := run_zeros_linear 8 (c ^^^ BitVec.ofNat 32 (c.toNat % 256)) (BitVec.ofNat 32 (c.toNat % 256))
  rw [← hc, h1] at h2
  exact h2

/-- The power 0. -/
def one : BitVec 32 := 2147483648#32
/-- The power k. -/
def Z (k : Nat) : BitVec 32 := run one (List.replicate k false)
def prodTo (a b : BitVec 32) : Nat → BitVec 32
  | 0 => 0#32
  | i + 1 => prodTo a b i ^^^ (if a.getLsbD (31 - i) = true then run b (List.replicate i false) else 0#32)
def prod (a b : BitVec 32) : BitVec 32 := prodTo a b 32

theorem run_Z (k i : Nat) : run (Z k) (List.replicate i false) = Z (k + i) := by
  unfold Z
  rw [← run_append, List.replicate_append_replicate]
theorem prodTo_Z (a : BitVec 32) (k : Nat) : ∀ i, prodTo a (Z k) i = run (prodTo a one i) (List.replicate k false)
  | 0 => (run_zero k).symm
  | i + 1 => by
    unfold prodTo
    rw [run_zeros_linear, prodTo_Z a k i]
    congr 1
    split
    · rw [run_Z, Nat.add_comm, ← run_Z]
      rfl
    · exact (run_zero k).symm
theorem one_bit (i : Nat) : one.getLsbD i = decide (i = 31) := by
  by_cases h : i < 32
  · have : ∀ j : Fin 32, one.getLsbD j.val = decide (j.val = 31) := by decide
    exact this ⟨i, h⟩
  · rw [BitVec.getLsbD_of_ge _ _ (by omega)]
    have : ¬ i = 31 := by omega
    simp [this]
theorem prodTo_one (a : BitVec 32) : ∀ i, i ≤ 32 → ∀ j, j < 32 → (prodTo a one i).getLsbD j = (decide (32 ≤ i + j) && a.getLsbD j)
  | 0, _, j, hj => by
    have : decide (32 ≤ 0 + j) = false := by simp; omega
    rw [this]
    simp [prodTo]
  | i + 1, hi, j, hj => by
    unfold prodTo
    rw [BitVec.getLsbD_xor, prodTo_one a i (by omega) j hj]
    have hr : run one (List.replicate i false) = one >>> i := run_shift i one (fun k hk => by
      rw [one_bit]
      have : ¬ k = 31 := by omega
      simp [this])
    by_cases hj2 : j = 31 - i
    · subst hj2
      have h1 : ¬ 32 ≤ i + (31 - i) := by omega
      have h2 : 32 ≤ i + 1 + (31 - i) := by omega
      have h3 : i + (31 - i) = 31 := by omega
      by_cases ha : a.getLsbD (31 - i) = true
      · rw [if_pos ha, hr, BitVec.getLsbD_ushiftRight, one_bit, ha]
        simp [h2, h3]
      · rw [if_neg ha]
        simp [h1, h2, ha]
    · have h3 : (if a.getLsbD (31 - i) = true then run one (List.replicate i false) else 0#32).getLsbD j = false := by
        split
        · rw [hr, BitVec.getLsbD_ushiftRight, one_bit]
          have : ¬ i + j = 31 := by omega
          simp [this]
        · simp
      rw [h3, Bool.xor_false]
      have h4 : (32 ≤ i + 1 + j) = (32 ≤ i + j) := by
        apply propext
        constructor <;> intro h <;> omega
      simp only [h4]
theorem prod_one (a : BitVec 32) : prod a one = a := by
  apply BitVec.eq_of_getLsbD_eq
  intro j hj
  unfold prod
  rw [prodTo_one a 32 (Nat.le_refl _) j hj]
  have : 32 ≤ 32 + j := by omega
  simp [this]
/-- To multiply by the power k is to go on by k noughts. -/
theorem prod_Z (a : BitVec 32) (k : Nat) : prod a (Z k) = run a (List.replicate k false) := by
  have h := prodTo_Z a k 32
  have h1 : prodTo a one 32 = a := prod_one a
  rw [h1] at h
  exact h
theorem prod_ZZ (k i : Nat) : prod (Z k) (Z i) = Z (k + i) := by rw [prod_Z, run_Z]
theorem Z_zero : Z 0 = one := rfl
theorem Z_byte : Z 8 = 8388608#32 := by decide

theorem and_bit (a : BitVec 32) (i : Nat) : decide ((a.toNat &&& 2 ^ i) ≠ 0) = a.getLsbD i := by
  rw [← BitVec.testBit_toNat]
  cases h : a.toNat.testBit i
  · have : a.toNat &&& 2 ^ i = 0 := by
      apply Nat.eq_of_testBit_eq
      intro j
      rw [Nat.testBit_and, Nat.testBit_two_pow, Nat.zero_testBit]
      by_cases e : i = j
      · subst e; rw [h]; rfl
      · simp [e]
    simp [this]
  · have : a.toNat &&& 2 ^ i ≠ 0 := by
      intro e
      have h2 := congrArg (fun x => x.testBit i) e
      simp only [Nat.testBit_and, Nat.testBit_two_pow, Nat.zero_testBit, h] at h2
      simp at h2
    simp [this]

end Go.Proofs.Ytddhldmeknmgpaa.crc

namespace Go.Proofs.Ytddhldmeknmgpaa.crc
open Go.RowKit

theorem clow_any (x : Nat) (w : World) : Calls Try.prog 76 #[.int .u8 x] w fun e w' => e = .returned (.func (.func 79) #[] #[.pointer (some ⟨w.heap.size, 0, none⟩)]) ∧ w.alloc (.cells #[.int .u8 x] 5) = w' := by
  go_enter Try.func76, Try.ntmps76
  go_wp2
  go_ret
  exact ⟨rfl, rfl⟩

section
attribute [local go_sem] Oper.semAt_some
set_option maxRecDepth 100000 in
set_option maxHeartbeats 1000000 in
/-- The iterator of a byte's bits. -/
theorem clow_stops (F : Fence) (n : Nat) (h6 : F.fn 79) (hro : F.round = none) (h1 : 1 ≤ n) (C x : Nat) (w : World) (hC : C < w.heap.size) (hx : x < 256)
    (hc : w.cell? ⟨C, 0, none⟩ = some (.int .u8 x)) :
    SeqStopsK F n Try.prog 79 #[.pointer (some ⟨C, 0, none⟩)] (fun b : Bool => #[.int .u32 (b.toNat : Int)]) (fun W W' => W'.cell? ⟨C, 0, none⟩ = W.cell? ⟨C, 0, none⟩) (fun xs => xs = bitsOf x 8) (fun _ => True) 8 w := by
  intro l J Jx W hW _ _ hY h0
  have hC' : W.cell? ⟨C, 0, none⟩ = some (.int .u8 x) := (hW.cell (p := ⟨C, 0, none⟩) hC).trans hc
  refine callsIn_of_wp Try.func79 rfl h6 ?_ hro
  simp only [Try.ntmps79, List.size_toArray, List.length_cons, List.length_nil, Nat.reduceAdd, Nat.reduceSub, Array.replicate_succ, Array.replicate_zero, List.push_toArray, List.append_toArray, List.nil_append, List.cons_append]
  gi_wp2
  gi_loopw [4] (fun i wr => ∃ k, k ≤ 8 ∧ i = .int .i64 ((k : Nat) : Int) ∧ J (bitsOf x k) wr ∧ wr.cell? ⟨C, 0, none⟩ = some (.int .u8 x))
    (fun i wr => 8 - (intOf i).toNat)
  case atStart => exact ⟨0, by omega, rfl, h0, hC'⟩
  case round =>
    obtain ⟨k, hk, rfl, hJ, hc1⟩ := hrel
    by_cases hlt : k < 8
    · obtain ⟨fn, tmps, assign, body, hy, hR⟩ := hY (bitsOf x k) (x.testBit k) wr hJ (by rw [bitsOf_length]; exact hlt)
      have hm : bits .and .u32 ((x : Int) / 2 ^ k % 4294967296) 1 = ((x.testBit k).toNat : Int) := by
        rw [Nat.testBit_eq_decide_div_mod_eq]
        have h0 : ((x : Int) / 2 ^ k) = ((x / 2 ^ k : Nat) : Int) := by simp
        have hq : x / 2 ^ k < 256 := Nat.lt_of_le_of_lt (Nat.div_le_self _ _) hx
        rw [h0]
        generalize x / 2 ^ k = q at hq
        rw [show (q : Int) % 4294967296 = (q : Int) from by omega]
        have h := u32_and_nat q 1 (by omega) (by omega)
        rw [Nat.and_one_is_mod] at h
        refine h.trans ?_
        rcases Nat.mod_two_eq_zero_or_one q with h | h <;> simp [h]
      rw [← bitsOf_snoc] at hR
      generalize ((x.testBit k).toNat : Int) = B at hm hy
      have HR := Lib.hid hR
      clear hR
      gi_wp2
      refine HR.out.mono ?_
      rintro e W3 (⟨rfl, hJ3, hk3⟩ | ⟨rfl, hJx3⟩)
      · gi_wp2
        go_roundw
        case rel => exact ⟨k + 1, by omega, by go_num, hJ3, hk3.trans hc1⟩
        case measure => simp [intOf]; omega
      · gi_wp2
        refine bodyPost_ret (results_none rfl _ _ _) rfl ?_
        exact ⟨⟨_, rfl⟩, .inr ⟨_, trivial, hJx3⟩⟩
    · obtain rfl : k = 8 := by omega
      gi_wp2
      go_end0
      exact ⟨⟨_, rfl⟩, .inl ⟨_, rfl, hJ⟩⟩
end

end Go.Proofs.Ytddhldmeknmgpaa.crc

namespace Go.Proofs.Ytddhldmeknmgpaa.crc
open Go.RowKit

section
attribute [local go_sem] Oper.semAt_some
set_option maxRecDepth 100000 in
set_option maxHeartbeats 2000000 in
theorem behind_any (x : Nat) (hx : x < 256) (w : World) :
    Calls Try.prog 72 #[.int .u32 3988292384, .int .u8 x] w fun e w' => e = .returned (rv (run 0#32 (bitsOf x 8))) ∧ Below w.heap.size w w' := by
  refine (callsIn_wide (n := 5)).1 ?_
  refine callsIn_of_wp_marks Try.func72 rfl trivial ?_
  simp only [Try.ntmps72, List.size_toArray, List.length_cons, List.length_nil, Nat.reduceAdd, Nat.reduceSub, Array.replicate_succ, Array.replicate_zero, List.push_toArray, List.append_toArray, List.nil_append, List.cons_append]
  gi_wp2
  refine wpIn_scope_wide ?_
  gi_wp2
  refine wpIn_label ?_
  gi_wp2_with (refine ⟨trivial, ?_⟩; gi_at_call 76; refine (callsIn_wide.2 (clow_any _ _)).mono ?_; rintro e w' ⟨rfl, rfl⟩)
  obtain ⟨w3, hw3⟩ : ∃ w3, ((w.alloc (.cells #[.int .u32 3988292384] 114)).alloc (.cells #[.int .u32 0] 66)).alloc (.cells #[.int .u8 x] 5) = w3 := ⟨_, rfl⟩
  have hb3 : Below w.heap.size w w3 := by
    rw [← hw3]
    exact (((Below.refl _ w).alloc (Nat.le_refl _) _).alloc (by simp) _).alloc (by simp; omega) _
  have hz3 : w3.heap.size = w.heap.size + 3 := by rw [← hw3]; simp
  have hd3 : Blk w3 w.heap.size 114 #[.int .u32 3988292384] := by
    rw [← hw3]
    exact ((Blk.new w _ _).alloc _).alloc _
  have hr3 : Blk w3 (w.heap.size + 1) 66 #[rv 0#32] := by
    rw [← hw3]
    have := Blk.new (w.alloc (.cells #[.int .u32 3988292384] 114)) 66 #[.int .u32 0]
    simp only [World.size_alloc] at this
    exact this.alloc _
  have hc3 : w3.cell? ⟨w.heap.size + 1 + 1, 0, none⟩ = some (.int .u8 x) := by
    rw [← hw3]
    have := (Blk.new ((w.alloc (.cells #[.int .u32 3988292384] 114)).alloc (.cells #[.int .u32 0] 66)) 5 #[.int .u8 x]).cell 0
    simp only [World.size_alloc] at this
    exact this
  rw [hw3]
  clear hw3
  refine wpIn_rangeFunc_ownF rfl (by omega) (gf := 79) (lb := #[.pointer (some ⟨w.heap.size + 1 + 1, 0, none⟩)]) rfl trivial (enters_of Try.func79 (by kernel_rfl) rfl)
    (clow_stops Fence.wide 4 trivial rfl (by omega) (w.heap.size + 1 + 1) x w3 (by omega) hx hc3) (fun h k => k.trans h)
    (fun W l o o' hl ho _ _ => World.cell?_of_block (a := ⟨w.heap.size + 1 + 1, 0, none⟩) (World.putObj_heap_other (by dsimp only; omega))) (Below.refl _ _) (fun _ => rfl)
    (fun pre W => Blk W (w.heap.size + 1) 66 #[rv (run 0#32 pre)] ∧ Blk W w.heap.size 114 #[.int .u32 3988292384] ∧ Below w.heap.size w W)
    (fun _ _ _ => False)
    (fun s W W' row ⟨h2, h3, h4⟩ hg hr => ⟨blk_own h2 hg hr, blk_own h3 hg hr, h4.grown hg h4.size (fun k e => by have := (hr k e).1; omega)⟩)
    (fun _ _ _ _ _ hs _ _ => hs)
    ⟨hr3, hd3, hb3⟩
    (fun b => { tmps := #[.int .u32 3988292384, .int .u8 x, .pointer (some ⟨w.heap.size, 0, none⟩), undef, .int .u32 0, .pointer (some ⟨w.heap.size + 1, 0, none⟩), .int .u32 (b.toNat : Int), undef, .int .u8 x,
          .func (.func 79) #[] #[.pointer (some ⟨w.heap.size + 1 + 1, 0, none⟩)], .int .u32 (b.toNat : Int), undef, undef, undef, undef, undef, undef, undef, undef, undef, undef, undef, undef], defers := [] }) ?assign ?body ?done ?stop
  case assign =>
    intro l b W K hK
    gi_wp2
    exact hK
  case body =>
    rintro l pre b W ⟨h2, h3, h4⟩ _
    have c2 := h2.cell 0
    have c3 : W.cell? ⟨w.heap.size, 0, none⟩ = some (.int .u32 3988292384) := h3.cell 0
    have f2 := h2.frozen 0
    have hs := run_snoc 0#32 pre b
    generalize run 0#32 pre = r at *
    have hr := r.isLt
    have hn := stp_nat r b
    have hB : b.toNat < 2 := by cases b <;> decide
    have h1 : bits .and .u32 (r.toNat : Int) 1 = ((r.toNat % 2 : Nat) : Int) := by
      have h := u32_and_nat r.toNat 1 (by omega) (by omega)
      rw [Nat.and_one_is_mod] at h
      exact h
    have h5 := u32_xor_nat b.toNat (r.toNat % 2) (by omega) (by omega)
    have h6 : bits .xor .u32 ((r.toNat : Int) / 2) 3988292384 = ((r.toNat / 2 ^^^ 3988292384 : Nat) : Int) := by
      have h := u32_xor_nat (r.toNat / 2) 3988292384 (by omega) (by omega)
      exact h
    have h7 : b.toNat ^^^ r.toNat % 2 = (r.toNat ^^^ b.toNat) % 2 := by
      rw [Nat.xor_mod_two_pow (n := 1), Nat.xor_comm, Nat.mod_eq_of_lt (show b.toNat < 2 ^ 1 by omega)]
    rw [h7] at h5
    unfold rv at c2
    have HS : Hid (∀ v : Value, v = .int .u32 ((stp r b).toNat : Int) → v = rv (run 0#32 (pre ++ [b]))) := Lib.hid (fun v h => by rw [h, hs]; rfl)
    have H2 := Lib.hid h2
    have H3 := Lib.hid h3
    have H4 := Lib.hid h4
    clear hs h2 h3 h4
    have hne : w.heap.size ≠ w.heap.size + 1 := by omega
    generalize (stp r b).toNat = R' at *
    generalize r.toNat = R at *
    generalize b.toNat = B at *
    have fin : ∀ u : Int, u = R' → KeepsOthers W ((W.setCell ⟨w.heap.size + 1, 0, none⟩ (.int .u32 u))) := fun u _ => KeepsOthers.setCell _ _ _
    replace h1 : bits .and .u32 (R : Int) 1 = (R : Int) % 2 := h1
    replace h5 : bits .xor .u32 (B : Int) ((R : Int) % 2) = (((R ^^^ B) % 2 : Nat) : Int) := h5
    rcases Nat.mod_two_eq_zero_or_one (R ^^^ B) with e | e <;> rw [e] at hn h5
    · gi_wp2
      have hb1 : Below w.heap.size W (W.setCell ⟨w.heap.size + 1, 0, none⟩ (.int .u32 ((R : Int) / 2))) := (Below.refl _ W).setCell (p := ⟨w.heap.size + 1, 0, none⟩) (by simp) _
      have k1 := World.cell?_setCell_other W ⟨w.heap.size + 1, 0, none⟩ ⟨w.heap.size + 1 + 1, 0, none⟩ (.int .u32 ((R : Int) / 2)) (by intro e'; injection e' with e' _ _; omega)
      refine ⟨(KeepsOthers.setCell _ _ _), k1, ?_, ?_, H4.out.trans hb1⟩
      · have h := H2.out.set_ 0 (.int .u32 ((R : Int) / 2))
        rw [← HS.out (.int .u32 ((R : Int) / 2)) (by rw [hn]; rfl)]
        exact h
      · exact H3.out.far (p := ⟨w.heap.size + 1, 0, none⟩) hne _
    · gi_wp2
      obtain ⟨u, hu⟩ : ∃ u : Int, ((R / 2 ^^^ 3988292384 : Nat) : Int) = u := ⟨_, rfl⟩
      rw [hu]
      have hb1 : Below w.heap.size W ((W.setCell ⟨w.heap.size + 1, 0, none⟩ (.int .u32 ((R : Int) / 2))).setCell ⟨w.heap.size + 1, 0, none⟩ (.int .u32 u)) :=
        ((Below.refl _ W).setCell (p := ⟨w.heap.size + 1, 0, none⟩) (by simp) _).setCell (p := ⟨w.heap.size + 1, 0, none⟩) (by simp) _
      have k1 := (World.cell?_setCell_other (W.setCell ⟨w.heap.size + 1, 0, none⟩ (.int .u32 ((R : Int) / 2))) ⟨w.heap.size + 1, 0, none⟩ ⟨w.heap.size + 1 + 1, 0, none⟩ (.int .u32 u) (by intro e'; injection e' with e' _ _; omega)).trans
        (World.cell?_setCell_other W ⟨w.heap.size + 1, 0, none⟩ ⟨w.heap.size + 1 + 1, 0, none⟩ (.int .u32 ((R : Int) / 2)) (by intro e'; injection e' with e' _ _; omega))
      refine ⟨(KeepsOthers.setCell _ _ _).trans (KeepsOthers.setCell _ _ _), k1, ?_, ?_, H4.out.trans hb1⟩
      · have h := (H2.out.set_ 0 (.int .u32 ((R : Int) / 2))).set_ 0 (.int .u32 u)
        rw [← HS.out (.int .u32 u) (by rw [hn, ← hu]; rfl)]
        exact h
      · exact (H3.out.far (p := ⟨w.heap.size + 1, 0, none⟩) hne _).far (p := ⟨w.heap.size + 1, 0, none⟩) hne _
  case done =>
    rintro D xs W hD rfl ⟨h2, h3, h4⟩ hK
    have c2 := h2.cell 0
    gi_wp2
    rw [Exit.noGoto_ret]
    refine ⟨by simp, .inl ⟨_, _, rfl, run_takeDeferred hK, ?_⟩⟩
    refine ⟨_, results_tmp rfl _ _ _, rfl, ?_⟩
    exact h4.trans (belowK_b (w := w) (Nat.le_refl _) W D _ _ (by omega) hK rfl rfl)
  case stop =>
    rintro D c pre W hD _ hf
    exact hf.elim
end
end Go.Proofs.Ytddhldmeknmgpaa.crc

namespace Go.Proofs.Ytddhldmeknmgpaa.crc
open Go.RowKit

theorem and_pow (a : BitVec 32) (k : Nat) (hk : k < 32) : bits .and .u32 (a.toNat : Int) ((2147483648 : Int) / 2 ^ k) = ((a.toNat &&& 2 ^ (31 - k) : Nat) : Int) := by
  have h0 : ((2147483648 : Int) / 2 ^ k) = ((2 ^ (31 - k) : Nat) : Int) := by
    have h : (2147483648 : Nat) / 2 ^ k = 2 ^ (31 - k) := by rw [show (2147483648 : Nat) = 2 ^ 31 from rfl, Nat.pow_div (by omega) (by omega)]
    rw [← h]
    simp
  have h1 : 2 ^ (31 - k) ≤ 2 ^ 31 := Nat.pow_le_pow_right (by omega) (by omega)
  have ha := a.isLt
  rw [h0]
  exact u32_and_nat a.toNat (2 ^ (31 - k)) (by omega) (by omega)

theorem and_one_i64 (n : Int) : bits .and .i64 n 1 = n % 2 := by
  have h1 : (BitVec.ofInt 64 1).toNat = 2 ^ 1 - 1 := by decide
  have key : (BitVec.ofInt 64 n &&& BitVec.ofInt 64 1).toNat = (n % ((2 ^ 64 : Nat) : Int)).toNat % 2 ^ 1 := by
    rw [BitVec.toNat_and, BitVec.toNat_ofInt, h1, Nat.and_two_pow_sub_one_eq_mod]
  show IntKind.i64.wrap ((BitVec.ofInt 64 n &&& BitVec.ofInt 64 1).toNat : Nat) = n % 2
  rw [key, IntKind.wrap_i64]
  omega

end Go.Proofs.Ytddhldmeknmgpaa.crc

namespace Go.Proofs.Ytddhldmeknmgpaa.crc
open Go.RowKit

set_option maxHeartbeats 1000000 in
theorem cmore_any (s : BitVec 32) (A : Option Addr) (c : Nat) (l : List UInt8) (w : World) (hr : Reads w w.heap.size 1 A l.length (l.map bv)) (hl : l.length ≤ 140737488355328) :
    Calls Try.prog 63 #[rv s, .slice A l.length c] w fun e w' => e = .returned (rv (more s (bitsB l))) ∧ Below w.heap.size w w' := by
  have hneg : ∀ d : BitVec 32, bits .xor .u32 4294967295 (d.toNat : Int) = ((d ^^^ ones).toNat : Int) := by
    intro d
    have h := u32_xor_nat 4294967295 d.toNat (by omega) d.isLt
    rw [BitVec.xor_comm, BitVec.toNat_xor]
    exact h
  have hsg : IntKind.u32.signed = false := rfl
  have hmx : IntKind.u32.max = 4294967295 := rfl
  have hs := hneg s
  have HM : Hid (∀ m, (run (s ^^^ ones) m ^^^ ones) = more s m) := Lib.hid fun _ => rfl
  obtain ⟨s', hs'⟩ : ∃ s', s ^^^ ones = s' := ⟨_, rfl⟩
  rw [hs'] at hs HM
  have HR := Lib.hid hr
  have HN := Lib.hid hneg
  have hs3 := s.isLt
  clear hr hneg hs'
  unfold rv
  go_enter Try.func63, Try.ntmps63
  go_wp2
  go_loopw [5, 7, 12] (fun r _ i wr => ∃ k, k ≤ l.length ∧ i = .int .i64 k ∧ r = rv (run s' (bitsB (l.take k))) ∧ Below w.heap.size w wr) (fun _ _ i _ => l.length - (intOf i).toNat)
  case atStart => exact ⟨0, Nat.zero_le _, rfl, by rw [List.take_zero]; rfl, Below.refl _ _⟩
  case round =>
    obtain ⟨k, hk, rfl, rfl, hB⟩ := hrel
    by_cases hlt : k < l.length
    · obtain ⟨ad, u, rfl, hb, hu, hc⟩ := (HR.out.below hB).at_ hlt
      rw [List.getElem?_map, List.getElem?_eq_getElem hlt] at hu
      injection hu with hu
      subst hu
      have htk : run s' (bitsB (l.take (k + 1))) = run (run s' (bitsB (l.take k))) (bitsOf (l[k]).toNat 8) := by
        rw [List.take_succ_eq_append_getElem hlt, bitsB_append, run_append]
        congr 1
      have hx8 : (l[k]).toNat < 256 := UInt8.toNat_lt _
      unfold bv at hc
      generalize (l[k]).toNat = X at hc htk hx8
      generalize run s' (bitsB (l.take k)) = r at *
      rw [run_byte r X hx8] at htk
      generalize hr2 : run s' (bitsB (l.take (k + 1))) = r2 at htk
      have hy : r.toNat % 256 ^^^ X < 256 := Nat.xor_lt_two_pow (n := 8) (by omega) (by omega)
      have HBH := Lib.hid (behind_any (r.toNat % 256 ^^^ X) hy wr)
      have h1 := u8_xor_nat (r.toNat % 256) X (by omega) hx8
      generalize run 0#32 (bitsOf (r.toNat % 256 ^^^ X) 8) = y at *
      generalize r.toNat % 256 ^^^ X = Y at *
      have h2 := u32_xor_nat (r >>> 8).toNat y.toNat (r >>> 8).isLt y.isLt
      rw [← BitVec.toNat_xor, ← htk, BitVec.toNat_ushiftRight, Nat.shiftRight_eq_div_pow] at h2
      have HR2 := Lib.hid hr2
      clear htk hr2
      have hr3 := r.isLt
      unfold rv at HBH ⊢
      generalize r.toNat = R at *
      replace h1 : bits .xor .u8 ((R : Int) % 256) (X : Int) = (Y : Int) := h1
      replace h2 : bits .xor .u32 ((R : Int) / 256) (y.toNat : Int) = (r2.toNat : Int) := h2
      have HB := Lib.hid hB
      clear hB
      go_wp2_with (go_at_call 72; refine HBH.out.mono ?_; rintro e w5 ⟨rfl, hb5⟩)
      refine ⟨⟨k + 1, by omega, by go_num, by rw [HR2.out], HB.out.trans (hb5.mono HB.out.size)⟩, by simp [intOf]; omega⟩
    · have hkl : k = l.length := by omega
      have HE : Hid (more s (bitsB l) = run s' (bitsB (l.take k)) ^^^ ones) := Lib.hid (by rw [hkl, List.take_length, HM.out])
      have hn := HN.out (run s' (bitsB (l.take k)))
      rw [← HE.out] at hn
      generalize run s' (bitsB (l.take k)) = r1 at hn HE
      generalize hr2 : more s (bitsB l) = r2 at hn HE
      have HB := Lib.hid hB
      clear hB hs
      have hr13 := r1.isLt
      unfold rv
      go_wp2
      go_ret
      exact ⟨by rw [hr2]; rfl, HB.out⟩

end Go.Proofs.Ytddhldmeknmgpaa.crc

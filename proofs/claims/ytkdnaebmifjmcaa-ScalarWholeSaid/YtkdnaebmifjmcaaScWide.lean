/-
  Layer 12 (scalar): the statements' numbers of 128 bits.
-/
import Derived.Test.YtkdnaebmifjmcaaScLive
import Derived.Shelf.Bits.Mul64
import Derived.Laws.Externs
import Derived.Deep.RegionWith
import Derived.Deep.MidRow
namespace Go.Proofs.Ytkdnaebmifjmcaa.sc
open Go.RowKit

def hiN (v : Int) : Nat := (v % 340282366920938463463374607431768211456 / 18446744073709551616).toNat
def loN (v : Int) : Nat := (v % 18446744073709551616).toNat
abbrev wv (v : Int) : Value := .agg #[.int .u64 (hiN v : Int), .int .u64 (loN v : Int)]
theorem hiN_lt (v : Int) : hiN v < 18446744073709551616 := by unfold hiN; omega
theorem loN_lt (v : Int) : loN v < 18446744073709551616 := by unfold loN; omega
theorem low_add (a b : Int) : (loN a + loN b) % 18446744073709551616 = loN (a + b) := by unfold loN; omega
theorem high_add (a b : Int) : (hiN a + hiN b + (loN a + loN b) / 18446744073709551616) % 18446744073709551616 = hiN (a + b) := by unfold hiN loN; omega
theorem lo_eq {v : Int} : IntKind.u64.wrap v = (loN v : Int) := by rw [IntKind.wrap_u64]; unfold loN; omega
theorem hi_of {n : Int} (h : InR n) : hiN n = (if n < 0 then 18446744073709551615 else 0) := by unfold hiN InR at *; split <;> omega
theorem wrap_lo (v : Int) : wrap64 (loN v : Int) = wrap64 v := by unfold wrap64 loN; omega
theorem lo_wrap (v : Int) : loN (wrap64 v) = loN v := by unfold wrap64 loN; omega
theorem wrap_inR (v : Int) : InR (wrap64 v) := by unfold wrap64 InR; omega
theorem hi_other {v : Int} (hb : -170141183460469231731687303715884105728 ≤ v ∧ v < 170141183460469231731687303715884105728) (h : ¬ InR v) : hiN (wrap64 v) ≠ hiN v := by
  unfold hiN wrap64 InR at *
  omega
theorem hi_inj {a b : Int} (hb : -170141183460469231731687303715884105728 ≤ a ∧ a < 170141183460469231731687303715884105728) (hc : -170141183460469231731687303715884105728 ≤ b ∧ b < 170141183460469231731687303715884105728) (h1 : hiN a = hiN b) (h2 : loN a = loN b) : a = b := by
  unfold hiN loN at *
  omega

theorem add64_any (x y c : Nat) (hc : c ≤ 1) (w : World) :
    (callFunc 52 #[.int .u64 x, .int .u64 y, .int .u64 c]).run Try.prog w = .ok (.value (.tuple #[.int .u64 (((x + y + c) % 18446744073709551616 : Nat) : Int), .int .u64 (((x + y + c) / 18446744073709551616 : Nat) : Int)])) w := by
  rw [run_callFunc_extern Try.func52 (by kernel_rfl) (by kernel_rfl) (by kernel_rfl) (e := add64Entry) (by kernel_rfl), run_add64 x y c (by omega) (by omega) (by omega) (by omega)]
  simp only [Result.andThen]
  congr 5 <;> omega

set_option maxHeartbeats 1000000 in
theorem mul64_any (x y : Nat) (hx : x < 18446744073709551616) (hy : y < 18446744073709551616) (w : World) :
    Calls Try.prog 53 #[.int .u64 x, .int .u64 y] w fun e w' => e = .returned (.tuple #[.int .u64 ((x * y / 18446744073709551616 : Nat) : Int), .int .u64 ((x * y % 18446744073709551616 : Nat) : Int)]) ∧ w = w' := by
  obtain ⟨bd, bt, bw, hhi⟩ := Lib.mul64_hi x y hx hy
  have ba := Lib.half_mul_le (a := x / 4294967296) (b := y / 4294967296) (by omega) (by omega)
  have bb := Lib.half_mul_le (a := x / 4294967296) (b := y % 4294967296) (by omega) (by omega)
  have bc := Lib.half_mul_le (a := x % 4294967296) (b := y / 4294967296) (by omega) (by omega)
  have ba' : x / 4294967296 * (y / 4294967296) < 18446744073709551616 := by omega
  have bb' : x / 4294967296 * (y % 4294967296) < 18446744073709551616 := by omega
  have bc' : x % 4294967296 * (y / 4294967296) < 18446744073709551616 := by omega
  have bh1 : x / 4294967296 * (y / 4294967296) + (x / 4294967296 * (y % 4294967296) + x % 4294967296 * (y % 4294967296) / 4294967296) / 4294967296 < 18446744073709551616 := by omega
  have bh : x / 4294967296 * (y / 4294967296) + (x / 4294967296 * (y % 4294967296) + x % 4294967296 * (y % 4294967296) / 4294967296) / 4294967296 + ((x / 4294967296 * (y % 4294967296) + x % 4294967296 * (y % 4294967296) / 4294967296) % 4294967296 + x % 4294967296 * (y / 4294967296)) / 4294967296 < 18446744073709551616 := by omega
  go_enter Try.func53, Try.ntmps53
  go_wp2
  simp only [Mul64.maskN x hx, Mul64.maskN y hy, Mul64.divN, Mul64.mulN, Mul64.addN, Mul64.wrapN _ bd, Mul64.wrapN _ bb', Mul64.wrapN _ bt, Mul64.maskN _ bt, Mul64.wrapN _ bc', Mul64.wrapN _ bw, Mul64.wrapN _ ba', Mul64.wrapN _ bh1, Mul64.wrapN _ bh, Mul64.wrapM (x * y)]
  rw [hhi]
  go_ret2
  exact ⟨rfl, rfl⟩

theorem load_wide (w : World) (g : Nat) (x y : Value) (hb : Blk w g 50 #[x, y]) : (loadVar 50 ⟨g, 0, none⟩).run Try.prog w = .ok (.agg #[x, y]) w := by
  have h1 : w.rangeAt g 0 [x, y] := fun j v hv => by
    rw [Nat.zero_add, hb.cell]
    simpa using hv
  exact run_loadVar_mid w g 0 50 [x, y] _ h1 Try.underlying50 rfl (by kernel_rfl)
theorem results_wide {fn : Func} {t : Tmp} {tmps : Array Value} {w : World} {g : Nat} {x y : Value} (h : fn.results = #[.cell t 50]) (ht : tmps.getD t undef = .pointer (some ⟨g, 0, none⟩)) (hb : Blk w g 50 #[x, y]) : (results fn tmps).run Try.prog w = .ok (.agg #[x, y]) w := by
  have h1 := load_wide w g x y hb
  rw [Array.getD_eq_getD_getElem?] at ht
  simp [results, h, ht, h1, asAddr]
theorem blk_two {w : World} {g : Nat} {t : TypeId} {a b x y : Value} (h : Blk w g t #[a, b]) : Blk ((w.setCell ⟨g, 0, none⟩ x).setCell ⟨g, 1, none⟩ y) g t #[x, y] := (h.set_ 0 x).set_ 1 y
theorem blk_new2 (w : World) (a : Obj) (t : TypeId) (cs : Array Value) : Blk ((w.alloc a).alloc (.cells cs t)) (w.heap.size + 1) t cs := by
  have := Blk.new (w.alloc a) t cs
  rwa [World.size_alloc] at this
theorem blk_new3 (w : World) (a b : Obj) (t : TypeId) (cs : Array Value) : Blk (((w.alloc a).alloc b).alloc (.cells cs t)) (w.heap.size + 1 + 1) t cs := by
  have := Blk.new ((w.alloc a).alloc b) t cs
  rwa [World.size_alloc, World.size_alloc] at this
theorem below_2 (w : World) (a b : Obj) : Below w.heap.size w ((w.alloc a).alloc b) := (alloc_below w a).alloc (by simp) _
theorem below_3 (w : World) (a b c : Obj) : Below w.heap.size w (((w.alloc a).alloc b).alloc c) := (below_2 w a b).alloc (by simp; omega) _
theorem of_any (n : Int) (h : InR n) (w : World) : Calls Try.prog 24 #[.int .i64 n] w fun e w' => e = .returned (wv n) ∧ Below w.heap.size w w' := by
  have hlo := lo_eq (v := n)
  have hhi := hi_of h
  unfold wv
  generalize loN n = L at *
  generalize hiN n = H at *
  by_cases hn : n < 0
  · rw [if_pos hn] at hhi
    subst hhi
    have e1 : n / 9223372036854775808 = -1 := by unfold InR at h; omega
    have e2 : IntKind.u64.wrap (-1) = 18446744073709551615 := by decide
    clear h
    go_enter Try.func24, Try.ntmps24
    go_wp2
    refine bodyPost_ret (results_wide rfl rfl (Blk.new w _ _)) rfl ?_
    exact ⟨rfl, alloc_below _ _⟩
  · rw [if_neg hn] at hhi
    subst hhi
    have e1 : n / 9223372036854775808 = 0 := by unfold InR at h; omega
    have HLO : Hid (n = (L : Int)) := Lib.hid (by rw [← hlo]; unfold InR at h; exact (IntWalk.u64_in _ (by omega)).symm)
    clear h
    go_enter Try.func24, Try.ntmps24
    go_wp2
    refine bodyPost_ret (results_wide rfl rfl (Blk.new w _ _)) rfl ?_
    exact ⟨rfl, alloc_below _ _⟩
set_option maxHeartbeats 1000000 in
theorem plus_any (a b : Int) (w : World) : Calls Try.prog 25 #[wv a, wv b] w fun e w' => e = .returned (wv (a + b)) ∧ Below w.heap.size w w' := by
  have A1 : ∀ w, (callFunc 52 #[.int .u64 (loN a : Int), .int .u64 (loN b : Int), .int .u64 0]).run Try.prog w = .ok (.value (.tuple #[.int .u64 (loN (a + b) : Int), .int .u64 (((loN a + loN b) / 18446744073709551616 : Nat) : Int)])) w := fun w => by
    have h := add64_any (loN a) (loN b) 0 (by decide) w
    rw [Nat.add_zero, low_add] at h
    exact h
  obtain ⟨c2, hc2⟩ : ∃ c2, c2 = (((hiN a + hiN b + (loN a + loN b) / 18446744073709551616) / 18446744073709551616 : Nat) : Int) := ⟨_, rfl⟩
  have A3 : ∀ w, (callFunc 52 #[.int .u64 (hiN a : Int), .int .u64 (hiN b : Int), .int .u64 (((loN a + loN b) / 18446744073709551616 : Nat) : Int)]).run Try.prog w = .ok (.value (.tuple #[.int .u64 (hiN (a + b) : Int), .int .u64 c2])) w := fun w => by
    have h := add64_any (hiN a) (hiN b) ((loN a + loN b) / 18446744073709551616) (by have := loN_lt a; have := loN_lt b; omega) w
    rw [high_add, ← hc2] at h
    exact h
  clear hc2
  unfold wv
  generalize ((loN a + loN b) / 18446744073709551616 : Nat) = c at *
  generalize loN (a + b) = L at *
  generalize hiN (a + b) = H at *
  generalize loN a = la at *
  generalize loN b = lb at *
  generalize hiN a = ha at *
  generalize hiN b = hb at *
  go_enter Try.func25, Try.ntmps25
  go_wp2
  refine bodyPost_ret (results_wide rfl rfl (blk_new3 _ _ _ _ _)) rfl ?_
  exact ⟨rfl, below_3 _ _ _ _⟩
theorem not_u64 (h : Nat) (hh : h < 18446744073709551616) : bits .xor .u64 18446744073709551615 (h : Int) = ((18446744073709551615 - h : Nat) : Int) := by
  have e1 : BitVec.ofInt 64 18446744073709551615 = BitVec.allOnes 64 := by decide
  have e2 : BitVec.ofInt 64 (h : Int) = BitVec.ofNat 64 h := BitVec.ofInt_natCast 64 h
  show IntKind.u64.wrap ((BitVec.ofInt 64 18446744073709551615 ^^^ BitVec.ofInt 64 (h : Int)).toNat : Nat) = _
  rw [e1, e2, BitVec.allOnes_xor, BitVec.toNat_not, BitVec.toNat_ofNat, Nat.mod_eq_of_lt hh, IntKind.wrap_u64]
  omega
theorem minus_any (a : Int) (w : World) : Calls Try.prog 26 #[wv a] w fun e w' => e = .returned (wv (-a)) ∧ Below w.heap.size w w' := by
  have H : Hid (∀ W, Calls Try.prog 25 #[wv (-1 - a), .agg #[.int .u64 0, .int .u64 1]] W fun e w' => e = .returned (wv (-a)) ∧ Below W.heap.size W w') := Lib.hid (fun W => by
    have h := plus_any (-1 - a) 1 W
    rw [show (-1 - a) + 1 = -a by omega] at h
    exact h)
  have n1 : bits .xor .u64 18446744073709551615 (hiN a : Int) = (hiN (-1 - a) : Int) := by
    rw [not_u64 _ (hiN_lt a)]
    unfold hiN
    omega
  have n2 : bits .xor .u64 18446744073709551615 (loN a : Int) = (loN (-1 - a) : Int) := by
    rw [not_u64 _ (loN_lt a)]
    unfold loN
    omega
  have hsg : IntKind.u64.signed = false := rfl
  have hmx : IntKind.u64.max = 18446744073709551615 := by decide
  unfold wv at H ⊢
  generalize hiN (-1 - a) = H1 at *
  generalize loN (-1 - a) = L1 at *
  generalize hiN (-a) = H2 at *
  generalize loN (-a) = L2 at *
  generalize hiN a = h at *
  generalize loN a = l at *
  go_enter Try.func26, Try.ntmps26
  go_wp2_with (go_at_call 25; (with_reducible refine (H.out _).mono ?_); rintro e w2 ⟨rfl, b2⟩; have hb2 := blk_new2 w (.cells #[.int .u64 h, .int .u64 l] 50) 50 #[.int .u64 0, .int .u64 0]; have hb3 := hb2.below b2 hb2.lt; have g0 := hb3.cell 0; have g1 := hb3.cell 1; have f0 := hb3.frozen 0; have f1 := hb3.frozen 1; have HB3 := Lib.hid hb3; clear hb2 hb3)
  refine bodyPost_ret (results_wide rfl rfl (blk_two HB3.out)) rfl ?_
  refine ⟨rfl, ?_⟩
  exact ((below_on (below_2 _ _ _) b2).setCell (by simp) _).setCell (by simp) _
theorem eql_wide (a b c d : Int) (W : World) : (binOp .eql 50 (.agg #[.int .u64 a, .int .u64 b]) (.agg #[.int .u64 c, .int .u64 d])).run Try.prog W = .ok (.bool (decide (a = c ∧ b = d))) W := by
  go_simp
  by_cases h1 : a = c <;> by_cases h2 : b = d <;> simp [h1, h2]

end Go.Proofs.Ytkdnaebmifjmcaa.sc

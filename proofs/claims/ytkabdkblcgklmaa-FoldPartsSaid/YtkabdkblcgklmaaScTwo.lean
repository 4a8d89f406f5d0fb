/-
  Layer 12 (scalar): One, Two, Unary, Binary, Identity: a function's operation, chosen by its number.
-/
import Derived.Test.YtkabdkblcgklmaaScPow
namespace Go.Proofs.Ytkabdkblcgklmaa.sc
open Go.RowKit

def opsD : List Value := [.nilFunc, .func (.func 139) #[] #[], .func (.func 140) #[] #[], .func (.func 141) #[] #[], .func (.func 142) #[] #[], .func (.func 143) #[] #[], .func (.func 144) #[] #[], .func (.func 145) #[] #[], .func (.func 146) #[] #[], .func (.func 147) #[] #[], .func (.func 148) #[] #[], .func (.func 149) #[] #[], .func (.func 150) #[] #[], .func (.func 151) #[] #[], .func (.func 152) #[] #[], .func (.func 153) #[] #[], .func (.func 154) #[] #[]]
/-- A function beside none. -/
theorem run_fn {P : Program} {tp : TypeId} {a b c : _} (hp : P.underlying tp = some (.func a b c)) (g : Fn) (xs ys : Array Value) (w : World) :
    (binOp .eql tp .nilFunc .nilFunc).run P w = .ok (.bool true) w ∧ (binOp .neq tp .nilFunc .nilFunc).run P w = .ok (.bool false) w ∧
    (binOp .eql tp (.func g xs ys) .nilFunc).run P w = .ok (.bool false) w ∧ (binOp .neq tp (.func g xs ys) .nilFunc).run P w = .ok (.bool true) w := by
  have h : ∀ d : Nat, (Op.equalIn (d + 1) tp .nilFunc .nilFunc).run P w = .ok true w := fun d => by
    simp [Op.equalIn, run_underlying hp]
  have h2 : ∀ d : Nat, (Op.equalIn (d + 1) tp (.func g xs ys) .nilFunc).run P w = .ok false w := fun d => by
    simp [Op.equalIn, run_underlying hp]
  refine ⟨?_, ?_, ?_, ?_⟩
  · simp only [binOp]
    simp [Op.equal, Op.maxDepth, h 9999]
  · simp only [binOp]
    simp [Op.equal, Op.maxDepth, h 9999]
  · simp only [binOp]
    simp [Op.equal, Op.maxDepth, h2 9999]
  · simp only [binOp]
    simp [Op.equal, Op.maxDepth, h2 9999]
def chosenV (f : Int) (l : List Value) : Value := if 0 ≤ f ∧ f < (l.length : Int) then l.getD f.toNat .nilFunc else .nilFunc
theorem scchosen_any (f : Int) (g n : Nat) (l : List Value) (hl : l.length = n) (w : World) (hx : Blk w g 120 l.toArray) :
    Calls Try.prog 138 #[.int .i64 f, .slice (some ⟨g, 0, none⟩) n n] w fun e w' => e = .returned (chosenV f l) ∧ w = w' := by
  unfold chosenV
  rw [hl]
  by_cases h0 : f < 0
  · rw [if_neg (by omega)]
    clear hx hl
    go_enter Try.func138, Try.ntmps138
    go_wp2
    go_ret
    exact ⟨rfl, rfl⟩
  by_cases h1 : (n : Int) ≤ f
  · rw [if_neg (by omega)]
    clear hx hl
    go_enter Try.func138, Try.ntmps138
    go_wp2
    go_ret
    exact ⟨rfl, rfl⟩
  rw [if_pos (by omega)]
  obtain ⟨k, hk⟩ := Int.eq_ofNat_of_zero_le (a := f) (by omega)
  subst hk
  rw [Int.toNat_natCast]
  have hkn : k < n := by omega
  have hkl : k < l.length := by omega
  have ck := hx.cell k
  rw [List.getElem?_toArray, List.getElem?_eq_getElem hkl] at ck
  rw [List.getD_eq_getElem?_getD, List.getElem?_eq_getElem hkl, Option.getD_some]
  generalize l[k] = u at *
  clear hx hl hkl
  go_enter Try.func138, Try.ntmps138
  go_wp2
  go_ret
  exact ⟨rfl, rfl⟩
def dyV (f : Int) : Value := chosenV f opsD
theorem scdy_any (f : Int) (w : World) : Calls Try.prog 89 #[.int .i64 f] w fun e w' => e = .returned (dyV f) ∧ Below w.heap.size w w' := by
  have hc : Calls Try.prog 138 #[.int .i64 f, .slice (some ⟨w.heap.size, 0, none⟩) 17 17] (w.alloc (.cells opsD.toArray 120)) fun e w' => e = .returned (dyV f) ∧ w.alloc (.cells opsD.toArray 120) = w' := scchosen_any f w.heap.size 17 opsD rfl _ (Blk.new w _ _)
  unfold opsD at hc
  have HC := Lib.hid hc
  clear hc
  go_enter Try.func89, Try.ntmps89
  go_wp2_with (go_at_call 138; refine HC.out.mono ?_; rintro e _ ⟨rfl, rfl⟩)
  go_ret
  exact ⟨rfl, alloc_below _ _⟩
theorem dyV_no {f : Int} (h : ¬ (f = 1 ∨ f = 2 ∨ f = 3 ∨ f = 4 ∨ f = 5 ∨ f = 6 ∨ f = 7 ∨ f = 8 ∨ f = 9 ∨ f = 10 ∨ f = 11 ∨ f = 12 ∨ f = 13 ∨ f = 14 ∨ f = 15 ∨ f = 16)) : dyV f = .nilFunc := by
  unfold dyV chosenV
  split
  · rename_i h1
    have h2 : f < 17 := h1.2
    obtain ⟨k, hk⟩ := Int.eq_ofNat_of_zero_le h1.1
    subst hk
    rw [Int.toNat_natCast]
    have hk : k = 0 := by omega
    obtain rfl := hk <;> rfl
  · rfl
theorem bin_iff {f : Int} : binB f = true ↔ (f = 1 ∨ f = 2 ∨ f = 3 ∨ f = 4 ∨ f = 5 ∨ f = 6 ∨ f = 7 ∨ f = 8 ∨ f = 9 ∨ f = 10 ∨ f = 11 ∨ f = 12 ∨ f = 13 ∨ f = 14 ∨ f = 15 ∨ f = 16) := by
  unfold binB
  rw [Bool.and_eq_true, decide_eq_true_eq, decide_eq_true_eq]
  omega
theorem un_iff {f : Int} : unB f = true ↔ (f = 1 ∨ f = 2 ∨ f = 3 ∨ f = 5 ∨ f = 17) := by
  unfold unB
  simp only [Bool.or_eq_true, decide_eq_true_eq]
  omega
theorem two_no {f x y : Int} (h : binB f = false) : twoV f x y = 0 ∧ twoE f x y = 2 := by
  have hn : ¬ (1 ≤ f ∧ f ≤ 16) := by
    intro h1
    unfold binB at h
    rw [decide_eq_true h1.1, decide_eq_true h1.2] at h
    cases h
  unfold twoV twoE
  rw [if_neg (show ¬ f = 1 by omega), if_neg (show ¬ f = 1 by omega)]
  rw [if_neg (show ¬ f = 2 by omega), if_neg (show ¬ f = 2 by omega)]
  rw [if_neg (show ¬ f = 3 by omega), if_neg (show ¬ f = 3 by omega)]
  rw [if_neg (show ¬ f = 4 by omega), if_neg (show ¬ f = 4 by omega)]
  rw [if_neg (show ¬ f = 5 by omega), if_neg (show ¬ f = 5 by omega)]
  rw [if_neg (show ¬ f = 6 by omega), if_neg (show ¬ f = 6 by omega)]
  rw [if_neg (show ¬ f = 7 by omega), if_neg (show ¬ f = 7 by omega)]
  rw [if_neg (show ¬ f = 8 by omega), if_neg (show ¬ f = 8 by omega)]
  rw [if_neg (show ¬ f = 9 by omega), if_neg (show ¬ f = 9 by omega)]
  rw [if_neg (show ¬ f = 10 by omega), if_neg (show ¬ f = 10 by omega)]
  rw [if_neg (show ¬ f = 11 by omega), if_neg (show ¬ f = 11 by omega)]
  rw [if_neg (show ¬ f = 12 by omega), if_neg (show ¬ f = 12 by omega)]
  rw [if_neg (show ¬ f = 13 by omega), if_neg (show ¬ f = 13 by omega)]
  rw [if_neg (show ¬ f = 14 by omega), if_neg (show ¬ f = 14 by omega)]
  rw [if_neg (show ¬ f = 15 by omega), if_neg (show ¬ f = 15 by omega)]
  rw [if_neg (show ¬ f = 16 by omega), if_neg (show ¬ f = 16 by omega)]
  exact ⟨rfl, rfl⟩
theorem one_no {f y : Int} (h : unB f = false) : oneV f y = 0 ∧ oneE f y = 2 := by
  have hn : ¬ (f = 1 ∨ f = 2 ∨ f = 3 ∨ f = 5 ∨ f = 17) := by
    intro h1
    rw [un_iff.2 h1] at h
    cases h
  unfold oneV oneE
  rw [if_neg (show ¬ f = 1 by omega), if_neg (show ¬ f = 1 by omega)]
  rw [if_neg (show ¬ f = 2 by omega), if_neg (show ¬ f = 2 by omega)]
  rw [if_neg (show ¬ f = 3 by omega), if_neg (show ¬ f = 3 by omega)]
  rw [if_neg (show ¬ f = 5 by omega), if_neg (show ¬ f = 5 by omega)]
  rw [if_neg (show ¬ f = 17 by omega), if_neg (show ¬ f = 17 by omega)]
  exact ⟨rfl, rfl⟩
set_option maxRecDepth 100000 in
set_option maxHeartbeats 4000000 in
theorem sctwo_gen (f x y : Int) (V E : Int) (g : Nat) (hgf : ∀ args w, (callFunc g args).run Try.prog w = .ok (.enter g args) w) (hd : dyV f = .func (.func g) #[] #[])
    (h : ∀ W, Calls Try.prog g #[.agg #[.int .i64 x, .int .i64 y]] W fun e w' => e = .returned (.tuple #[.int .i64 V, .int .i64 E]) ∧ Below W.heap.size W w') (w : World) :
    Calls Try.prog 48 #[.int .i64 f, .int .i64 x, .int .i64 y] w fun e w' => e = .returned (.tuple #[.int .i64 V, .int .i64 E]) ∧ Below w.heap.size w w' := by
  have HD := Lib.hid (scdy_any f w)
  have H := Lib.hid h
  rw [hd] at HD
  clear h hd
  go_enter Try.func48, Try.ntmps48
  go_wp2_with (go_at_call 89; refine HD.out.mono ?_; rintro e w2 ⟨rfl, b2⟩)
  simp [(run_fn Try.underlying120 _ _ _ _).2.2.1]
  go_wp2_with ((with_reducible refine (H.out _).mono ?_); rintro e w3 ⟨rfl, b3⟩)
  go_ret2
  exact ⟨rfl, below_on b2 b3⟩
set_option maxRecDepth 100000 in
set_option maxHeartbeats 4000000 in
theorem sctwo_any (f x y : Int) (hx : InR x) (hy : InR y) (w : World) : Calls Try.prog 48 #[.int .i64 f, .int .i64 x, .int .i64 y] w fun e w' => e = .returned (.tuple #[.int .i64 (twoV f x y), .int .i64 (twoE f x y)]) ∧ Below w.heap.size w w' := by
  have HD := Lib.hid (scdy_any f w)
  cases hb : binB f
  · have hn : dyV f = .nilFunc := dyV_no (fun h => by rw [bin_iff.2 h] at hb; cases hb)
    rw [(two_no hb).1, (two_no hb).2]
    rw [hn] at HD
    clear hb hn hx hy
    go_enter Try.func48, Try.ntmps48
    go_wp2_with (go_at_call 89; refine HD.out.mono ?_; rintro e w2 ⟨rfl, b2⟩)
    simp [(run_fn Try.underlying120 (.func 0) #[] #[] _).1]
    go_wp2
    go_ret2
    exact ⟨rfl, b2⟩
  · rcases bin_iff.1 hb with rfl | rfl | rfl | rfl | rfl | rfl | rfl | rfl | rfl | rfl | rfl | rfl | rfl | rfl | rfl | rfl
    · exact sctwo_gen _ _ _ _ _ 139 (enters_of Try.func139 (by kernel_rfl) rfl) rfl (fun W => prsum_any x y hx hy W) w
    · exact sctwo_gen _ _ _ _ _ 140 (enters_of Try.func140 (by kernel_rfl) rfl) rfl (fun W => prdiff_any x y hx hy W) w
    · exact sctwo_gen _ _ _ _ _ 141 (enters_of Try.func141 (by kernel_rfl) rfl) rfl (fun W => prprod_any x y hx hy W) w
    · exact sctwo_gen _ _ _ _ _ 142 (enters_of Try.func142 (by kernel_rfl) rfl) rfl (fun W => prquo_any x y hx W) w
    · exact sctwo_gen _ _ _ _ _ 143 (enters_of Try.func143 (by kernel_rfl) rfl) rfl (fun W => prres_any x y hx W) w
    · exact sctwo_gen _ _ _ _ _ 144 (enters_of Try.func144 (by kernel_rfl) rfl) rfl (fun W => prmin_any x y W) w
    · exact sctwo_gen _ _ _ _ _ 145 (enters_of Try.func145 (by kernel_rfl) rfl) rfl (fun W => prmax_any x y W) w
    · exact sctwo_gen _ _ _ _ _ 146 (enters_of Try.func146 (by kernel_rfl) rfl) rfl (fun W => prpow_any x y hx hy W) w
    · exact sctwo_gen _ _ _ _ _ 147 (enters_of Try.func147 (by kernel_rfl) rfl) rfl (fun W => preq_any x y W) w
    · exact sctwo_gen _ _ _ _ _ 148 (enters_of Try.func148 (by kernel_rfl) rfl) rfl (fun W => prne_any x y W) w
    · exact sctwo_gen _ _ _ _ _ 149 (enters_of Try.func149 (by kernel_rfl) rfl) rfl (fun W => prlt_any x y W) w
    · exact sctwo_gen _ _ _ _ _ 150 (enters_of Try.func150 (by kernel_rfl) rfl) rfl (fun W => prle_any x y W) w
    · exact sctwo_gen _ _ _ _ _ 151 (enters_of Try.func151 (by kernel_rfl) rfl) rfl (fun W => prge_any x y W) w
    · exact sctwo_gen _ _ _ _ _ 152 (enters_of Try.func152 (by kernel_rfl) rfl) rfl (fun W => prgt_any x y W) w
    · exact sctwo_gen _ _ _ _ _ 153 (enters_of Try.func153 (by kernel_rfl) rfl) rfl (fun W => prand_any x y W) w
    · exact sctwo_gen _ _ _ _ _ 154 (enters_of Try.func154 (by kernel_rfl) rfl) rfl (fun W => pror_any x y W) w
set_option maxRecDepth 100000 in
theorem scbin_any (f : Int) (w : World) : Calls Try.prog 52 #[.int .i64 f] w fun e w' => e = .returned (.bool (binB f)) ∧ Below w.heap.size w w' := by
  have HD := Lib.hid (scdy_any f w)
  cases hb : binB f
  · have hn : dyV f = .nilFunc := dyV_no (fun h => by rw [bin_iff.2 h] at hb; cases hb)
    rw [hn] at HD
    clear hb hn
    go_enter Try.func52, Try.ntmps52
    go_wp2_with (go_at_call 89; refine HD.out.mono ?_; rintro e w2 ⟨rfl, b2⟩)
    simp [(run_fn Try.underlying120 (.func 0) #[] #[] _).2.1]
    go_wp2
    go_ret
    exact ⟨rfl, b2⟩
  · obtain ⟨g, hg⟩ : ∃ g, dyV f = .func (.func g) #[] #[] := by
      rcases bin_iff.1 hb with rfl | rfl | rfl | rfl | rfl | rfl | rfl | rfl | rfl | rfl | rfl | rfl | rfl | rfl | rfl | rfl <;> exact ⟨_, rfl⟩
    rw [hg] at HD
    clear hb hg
    go_enter Try.func52, Try.ntmps52
    go_wp2_with (go_at_call 89; refine HD.out.mono ?_; rintro e w2 ⟨rfl, b2⟩)
    simp [(run_fn Try.underlying120 _ _ _ _).2.2.2]
    go_wp2
    go_ret
    exact ⟨rfl, b2⟩
end Go.Proofs.Ytkabdkblcgklmaa.sc

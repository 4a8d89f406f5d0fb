/-
  Layer 12 (scalar): One, Two, Unary, Binary, Identity: a function's operation, chosen by its number.
-/
import Derived.Test.YtkdnaebmifjmcaaDoorScPow
namespace Go.Proofs.YtkdnaebmifjmcaaDoor.sc
open Go.RowKit

def opsD : List Value := [.nilFunc, .func (.func 60) #[] #[], .func (.func 61) #[] #[], .func (.func 62) #[] #[], .func (.func 63) #[] #[], .func (.func 64) #[] #[], .func (.func 65) #[] #[], .func (.func 66) #[] #[], .func (.func 67) #[] #[], .func (.func 68) #[] #[], .func (.func 69) #[] #[], .func (.func 70) #[] #[], .func (.func 71) #[] #[], .func (.func 72) #[] #[], .func (.func 73) #[] #[], .func (.func 74) #[] #[], .func (.func 75) #[] #[]]
def opsM : List Value := [.nilFunc, .func (.func 54) #[] #[], .func (.func 55) #[] #[], .func (.func 56) #[] #[], .nilFunc, .func (.func 57) #[] #[], .nilFunc, .nilFunc, .nilFunc, .nilFunc, .nilFunc, .nilFunc, .nilFunc, .nilFunc, .nilFunc, .nilFunc, .nilFunc, .func (.func 58) #[] #[]]
/-- A function beside none. -/
theorem run_fn {P : Program} {tp : TypeId} {a b c : _} (hp : P.underlying tp = some (.func a b c)) (g : Fn) (xs ys : Array Value) (w : World) :
    (binOp .eql tp .nilFunc .nilFunc).run P w = .ok (.bool true) w ∧ (binOp .neq tp .nilFunc .nilFunc).run P w = .ok (.bool false) w ∧
    (binOp .eql tp (.func g xs ys) .nilFunc).run P w = .ok (.bool false) w ∧ (binOp .neq tp (.func g xs ys) .nilFunc).run P w = .ok (.bool true) w := by
  have h : ∀ d : Nat, (Op.equalIn (d + 1) tp .nilFunc .nilFunc).run P w = .ok true w := fun d => by
    simp [Op.equalIn, run_underlying hp]
  have h2 : ∀ d : Nat, (Op.equalIn (d + 1) tp (.func g xs ys) .nilFunc).run P w = .ok false w := fun d => by
    simp [Op.equalIn, run_underlying hp]
  refine ⟨?_, ?_, ?_, ?_⟩
  · simp only [binOp]
    simp [Op.equal, Op.maxDepth, h 9999]
  · simp only [binOp]
    simp [Op.equal, Op.maxDepth, h 9999]
  · simp only [binOp]
    simp [Op.equal, Op.maxDepth, h2 9999]
  · simp only [binOp]
    simp [Op.equal, Op.maxDepth, h2 9999]
def chosenV (f : Int) (l : List Value) : Value := if 0 ≤ f ∧ f < (l.length : Int) then l.getD f.toNat .nilFunc else .nilFunc
theorem scchosen_any (f : Int) (g n : Nat) (l : List Value) (hl : l.length = n) (w : World) (hx : Blk w g 56 l.toArray) :
    Calls Tryd.prog 53 #[.int .i64 f, .slice (some ⟨g, 0, none⟩) n n] w fun e w' => e = .returned (chosenV f l) ∧ w = w' := by
  unfold chosenV
  rw [hl]
  by_cases h0 : f < 0
  · rw [if_neg (by omega)]
    clear hx hl
    go_enter Tryd.func53, Tryd.ntmps53
    go_wp2
    go_ret
    exact ⟨rfl, rfl⟩
  by_cases h1 : (n : Int) ≤ f
  · rw [if_neg (by omega)]
    clear hx hl
    go_enter Tryd.func53, Tryd.ntmps53
    go_wp2
    go_ret
    exact ⟨rfl, rfl⟩
  rw [if_pos (by omega)]
  obtain ⟨k, hk⟩ := Int.eq_ofNat_of_zero_le (a := f) (by omega)
  subst hk
  rw [Int.toNat_natCast]
  have hkn : k < n := by omega
  have hkl : k < l.length := by omega
  have ck := hx.cell k
  rw [List.getElem?_toArray, List.getElem?_eq_getElem hkl] at ck
  rw [List.getD_eq_getElem?_getD, List.getElem?_eq_getElem hkl, Option.getD_some]
  generalize l[k] = u at *
  clear hx hl hkl
  go_enter Tryd.func53, Tryd.ntmps53
  go_wp2
  go_ret
  exact ⟨rfl, rfl⟩
def dyV (f : Int) : Value := chosenV f opsD
def moV (f : Int) : Value := chosenV f opsM
theorem scdy_any (f : Int) (w : World) : Calls Tryd.prog 37 #[.int .i64 f] w fun e w' => e = .returned (dyV f) ∧ Below w.heap.size w w' := by
  have hc : Calls Tryd.prog 53 #[.int .i64 f, .slice (some ⟨w.heap.size, 0, none⟩) 17 17] (w.alloc (.cells opsD.toArray 56)) fun e w' => e = .returned (dyV f) ∧ w.alloc (.cells opsD.toArray 56) = w' := scchosen_any f w.heap.size 17 opsD rfl _ (Blk.new w _ _)
  unfold opsD at hc
  have HC := Lib.hid hc
  clear hc
  go_enter Tryd.func37, Tryd.ntmps37
  go_wp2_with (go_at_call 53; refine HC.out.mono ?_; rintro e _ ⟨rfl, rfl⟩)
  go_ret
  exact ⟨rfl, alloc_below _ _⟩
theorem scmo_any (f : Int) (w : World) : Calls Tryd.prog 32 #[.int .i64 f] w fun e w' => e = .returned (moV f) ∧ Below w.heap.size w w' := by
  have hc : Calls Tryd.prog 53 #[.int .i64 f, .slice (some ⟨w.heap.size, 0, none⟩) 18 18] (w.alloc (.cells opsM.toArray 56)) fun e w' => e = .returned (moV f) ∧ w.alloc (.cells opsM.toArray 56) = w' := scchosen_any f w.heap.size 18 opsM rfl _ (Blk.new w _ _)
  unfold opsM at hc
  have HC := Lib.hid hc
  clear hc
  go_enter Tryd.func32, Tryd.ntmps32
  go_wp2_with (go_at_call 53; refine HC.out.mono ?_; rintro e _ ⟨rfl, rfl⟩)
  go_ret
  exact ⟨rfl, alloc_below _ _⟩
theorem dyV_no {f : Int} (h : ¬ (f = 1 ∨ f = 2 ∨ f = 3 ∨ f = 4 ∨ f = 5 ∨ f = 6 ∨ f = 7 ∨ f = 8 ∨ f = 9 ∨ f = 10 ∨ f = 11 ∨ f = 12 ∨ f = 13 ∨ f = 14 ∨ f = 15 ∨ f = 16)) : dyV f = .nilFunc := by
  unfold dyV chosenV
  split
  · rename_i h1
    have h2 : f < 17 := h1.2
    obtain ⟨k, hk⟩ := Int.eq_ofNat_of_zero_le h1.1
    subst hk
    rw [Int.toNat_natCast]
    have hk : k = 0 := by omega
    obtain rfl := hk <;> rfl
  · rfl
theorem moV_no {f : Int} (h : ¬ (f = 1 ∨ f = 2 ∨ f = 3 ∨ f = 5 ∨ f = 17)) : moV f = .nilFunc := by
  unfold moV chosenV
  split
  · rename_i h1
    have h2 : f < 18 := h1.2
    obtain ⟨k, hk⟩ := Int.eq_ofNat_of_zero_le h1.1
    subst hk
    rw [Int.toNat_natCast]
    have hk : k = 0 ∨ k = 4 ∨ k = 6 ∨ k = 7 ∨ k = 8 ∨ k = 9 ∨ k = 10 ∨ k = 11 ∨ k = 12 ∨ k = 13 ∨ k = 14 ∨ k = 15 ∨ k = 16 := by omega
    rcases hk with rfl | rfl | rfl | rfl | rfl | rfl | rfl | rfl | rfl | rfl | rfl | rfl | rfl <;> rfl
  · rfl
theorem bin_iff {f : Int} : binB f = true ↔ (f = 1 ∨ f = 2 ∨ f = 3 ∨ f = 4 ∨ f = 5 ∨ f = 6 ∨ f = 7 ∨ f = 8 ∨ f = 9 ∨ f = 10 ∨ f = 11 ∨ f = 12 ∨ f = 13 ∨ f = 14 ∨ f = 15 ∨ f = 16) := by
  unfold binB
  rw [Bool.and_eq_true, decide_eq_true_eq, decide_eq_true_eq]
  omega
theorem un_iff {f : Int} : unB f = true ↔ (f = 1 ∨ f = 2 ∨ f = 3 ∨ f = 5 ∨ f = 17) := by
  unfold unB
  simp only [Bool.or_eq_true, decide_eq_true_eq]
  omega
theorem two_no {f x y : Int} (h : binB f = false) : twoV f x y = 0 ∧ twoE f x y = 2 := by
  have hn : ¬ (1 ≤ f ∧ f ≤ 16) := by
    intro h1
    unfold binB at h
    rw [decide_eq_true h1.1, decide_eq_true h1.2] at h
    cases h
  unfold twoV twoE
  rw [if_neg (show ¬ f = 1 by omega), if_neg (show ¬ f = 1 by omega)]
  rw [if_neg (show ¬ f = 2 by omega), if_neg (show ¬ f = 2 by omega)]
  rw [if_neg (show ¬ f = 3 by omega), if_neg (show ¬ f = 3 by omega)]
  rw [if_neg (show ¬ f = 4 by omega), if_neg (show ¬ f = 4 by omega)]
  rw [if_neg (show ¬ f = 5 by omega), if_neg (show ¬ f = 5 by omega)]
  rw [if_neg (show ¬ f = 6 by omega), if_neg (show ¬ f = 6 by omega)]
  rw [if_neg (show ¬ f = 7 by omega), if_neg (show ¬ f = 7 by omega)]
  rw [if_neg (show ¬ f = 8 by omega), if_neg (show ¬ f = 8 by omega)]
  rw [if_neg (show ¬ f = 9 by omega), if_neg (show ¬ f = 9 by omega)]
  rw [if_neg (show ¬ f = 10 by omega), if_neg (show ¬ f = 10 by omega)]
  rw [if_neg (show ¬ f = 11 by omega), if_neg (show ¬ f = 11 by omega)]
  rw [if_neg (show ¬ f = 12 by omega), if_neg (show ¬ f = 12 by omega)]
  rw [if_neg (show ¬ f = 13 by omega), if_neg (show ¬ f = 13 by omega)]
  rw [if_neg (show ¬ f = 14 by omega), if_neg (show ¬ f = 14 by omega)]
  rw [if_neg (show ¬ f = 15 by omega), if_neg (show ¬ f = 15 by omega)]
  rw [if_neg (show ¬ f = 16 by omega), if_neg (show ¬ f = 16 by omega)]
  exact ⟨rfl, rfl⟩
theorem one_no {f y : Int} (h : unB f = false) : oneV f y = 0 ∧ oneE f y = 2 := by
  have hn : ¬ (f = 1 ∨ f = 2 ∨ f = 3 ∨ f = 5 ∨ f = 17) := by
    intro h1
    rw [un_iff.2 h1] at h
    cases h
  unfold oneV oneE
  rw [if_neg (show ¬ f = 1 by omega), if_neg (show ¬ f = 1 by omega)]
  rw [if_neg (show ¬ f = 2 by omega), if_neg (show ¬ f = 2 by omega)]
  rw [if_neg (show ¬ f = 3 by omega), if_neg (show ¬ f = 3 by omega)]
  rw [if_neg (show ¬ f = 5 by omega), if_neg (show ¬ f = 5 by omega)]
  rw [if_neg (show ¬ f = 17 by omega), if_neg (show ¬ f = 17 by omega)]
  exact ⟨rfl, rfl⟩
set_option maxRecDepth 100000 in
set_option maxHeartbeats 4000000 in
theorem sctwo_gen (f x y : Int) (V E : Int) (g : Nat) (hgf : ∀ args w, (callFunc g args).run Tryd.prog w = .ok (.enter g args) w) (hd : dyV f = .func (.func g) #[] #[])
    (h : ∀ W, Calls Tryd.prog g #[.agg #[.int .i64 x, .int .i64 y]] W fun e w' => e = .returned (.tuple #[.int .i64 V, .int .i64 E]) ∧ Below W.heap.size W w') (w : World) :
    Calls Tryd.prog 7 #[.int .i64 f, .int .i64 x, .int .i64 y] w fun e w' => e = .returned (.tuple #[.int .i64 V, .int .i64 E]) ∧ Below w.heap.size w w' := by
  have HD := Lib.hid (scdy_any f w)
  have H := Lib.hid h
  rw [hd] at HD
  clear h hd
  go_enter Tryd.func7, Tryd.ntmps7
  go_wp2_with (go_at_call 37; refine HD.out.mono ?_; rintro e w2 ⟨rfl, b2⟩)
  simp [(run_fn Tryd.underlying56 _ _ _ _).2.2.1]
  go_wp2_with ((with_reducible refine (H.out _).mono ?_); rintro e w3 ⟨rfl, b3⟩)
  go_ret2
  exact ⟨rfl, below_on b2 b3⟩
set_option maxRecDepth 100000 in
set_option maxHeartbeats 4000000 in
theorem scone_gen (f y : Int) (V E : Int) (g : Nat) (hgf : ∀ args w, (callFunc g args).run Tryd.prog w = .ok (.enter g args) w) (hd : moV f = .func (.func g) #[] #[])
    (h : ∀ W, Calls Tryd.prog g #[.agg #[.int .i64 0, .int .i64 y]] W fun e w' => e = .returned (.tuple #[.int .i64 V, .int .i64 E]) ∧ Below W.heap.size W w') (w : World) :
    Calls Tryd.prog 5 #[.int .i64 f, .int .i64 y] w fun e w' => e = .returned (.tuple #[.int .i64 V, .int .i64 E]) ∧ Below w.heap.size w w' := by
  have HD := Lib.hid (scmo_any f w)
  have H := Lib.hid h
  rw [hd] at HD
  clear h hd
  go_enter Tryd.func5, Tryd.ntmps5
  go_wp2_with (go_at_call 32; refine HD.out.mono ?_; rintro e w2 ⟨rfl, b2⟩)
  simp [(run_fn Tryd.underlying56 _ _ _ _).2.2.1]
  go_wp2_with ((with_reducible refine (H.out _).mono ?_); rintro e w3 ⟨rfl, b3⟩)
  go_ret2
  exact ⟨rfl, below_on b2 b3⟩
set_option maxRecDepth 100000 in
set_option maxHeartbeats 4000000 in
theorem sctwo_any (f x y : Int) (hx : InR x) (hy : InR y) (w : World) : Calls Tryd.prog 7 #[.int .i64 f, .int .i64 x, .int .i64 y] w fun e w' => e = .returned (.tuple #[.int .i64 (twoV f x y), .int .i64 (twoE f x y)]) ∧ Below w.heap.size w w' := by
  have HD := Lib.hid (scdy_any f w)
  cases hb : binB f
  · have hn : dyV f = .nilFunc := dyV_no (fun h => by rw [bin_iff.2 h] at hb; cases hb)
    rw [(two_no hb).1, (two_no hb).2]
    rw [hn] at HD
    clear hb hn hx hy
    go_enter Tryd.func7, Tryd.ntmps7
    go_wp2_with (go_at_call 37; refine HD.out.mono ?_; rintro e w2 ⟨rfl, b2⟩)
    simp [(run_fn Tryd.underlying56 (.func 0) #[] #[] _).1]
    go_wp2
    go_ret2
    exact ⟨rfl, b2⟩
  · rcases bin_iff.1 hb with rfl | rfl | rfl | rfl | rfl | rfl | rfl | rfl | rfl | rfl | rfl | rfl | rfl | rfl | rfl | rfl
    · exact sctwo_gen _ _ _ _ _ 60 (enters_of Tryd.func60 (by kernel_rfl) rfl) rfl (fun W => prsum_any x y hx hy W) w
    · exact sctwo_gen _ _ _ _ _ 61 (enters_of Tryd.func61 (by kernel_rfl) rfl) rfl (fun W => prdiff_any x y hx hy W) w
    · exact sctwo_gen _ _ _ _ _ 62 (enters_of Tryd.func62 (by kernel_rfl) rfl) rfl (fun W => prprod_any x y hx hy W) w
    · exact sctwo_gen _ _ _ _ _ 63 (enters_of Tryd.func63 (by kernel_rfl) rfl) rfl (fun W => prquo_any x y hx W) w
    · exact sctwo_gen _ _ _ _ _ 64 (enters_of Tryd.func64 (by kernel_rfl) rfl) rfl (fun W => prres_any x y hx W) w
    · exact sctwo_gen _ _ _ _ _ 65 (enters_of Tryd.func65 (by kernel_rfl) rfl) rfl (fun W => prmin_any x y W) w
    · exact sctwo_gen _ _ _ _ _ 66 (enters_of Tryd.func66 (by kernel_rfl) rfl) rfl (fun W => prmax_any x y W) w
    · exact sctwo_gen _ _ _ _ _ 67 (enters_of Tryd.func67 (by kernel_rfl) rfl) rfl (fun W => prpow_any x y hx hy W) w
    · exact sctwo_gen _ _ _ _ _ 68 (enters_of Tryd.func68 (by kernel_rfl) rfl) rfl (fun W => preq_any x y W) w
    · exact sctwo_gen _ _ _ _ _ 69 (enters_of Tryd.func69 (by kernel_rfl) rfl) rfl (fun W => prne_any x y W) w
    · exact sctwo_gen _ _ _ _ _ 70 (enters_of Tryd.func70 (by kernel_rfl) rfl) rfl (fun W => prlt_any x y W) w
    · exact sctwo_gen _ _ _ _ _ 71 (enters_of Tryd.func71 (by kernel_rfl) rfl) rfl (fun W => prle_any x y W) w
    · exact sctwo_gen _ _ _ _ _ 72 (enters_of Tryd.func72 (by kernel_rfl) rfl) rfl (fun W => prge_any x y W) w
    · exact sctwo_gen _ _ _ _ _ 73 (enters_of Tryd.func73 (by kernel_rfl) rfl) rfl (fun W => prgt_any x y W) w
    · exact sctwo_gen _ _ _ _ _ 74 (enters_of Tryd.func74 (by kernel_rfl) rfl) rfl (fun W => prand_any x y W) w
    · exact sctwo_gen _ _ _ _ _ 75 (enters_of Tryd.func75 (by kernel_rfl) rfl) rfl (fun W => pror_any x y W) w
set_option maxRecDepth 100000 in
set_option maxHeartbeats 4000000 in
theorem scone_any (f y : Int) (hy : InR y) (w : World) : Calls Tryd.prog 5 #[.int .i64 f, .int .i64 y] w fun e w' => e = .returned (.tuple #[.int .i64 (oneV f y), .int .i64 (oneE f y)]) ∧ Below w.heap.size w w' := by
  have HD := Lib.hid (scmo_any f w)
  cases hb : unB f
  · have hn : moV f = .nilFunc := moV_no (fun h => by rw [un_iff.2 h] at hb; cases hb)
    rw [(one_no hb).1, (one_no hb).2]
    rw [hn] at HD
    clear hb hn hy
    go_enter Tryd.func5, Tryd.ntmps5
    go_wp2_with (go_at_call 32; refine HD.out.mono ?_; rintro e w2 ⟨rfl, b2⟩)
    simp [(run_fn Tryd.underlying56 (.func 0) #[] #[] _).1]
    go_wp2
    go_ret2
    exact ⟨rfl, b2⟩
  · rcases un_iff.1 hb with rfl | rfl | rfl | rfl | rfl
    · exact scone_gen _ _ _ _ 54 (enters_of Tryd.func54 (by kernel_rfl) rfl) rfl (fun W => pritself_any 0 y W) w
    · exact scone_gen _ _ _ _ 55 (enters_of Tryd.func55 (by kernel_rfl) rfl) rfl (fun W => propp_any 0 y hy W) w
    · exact scone_gen _ _ _ _ 56 (enters_of Tryd.func56 (by kernel_rfl) rfl) rfl (fun W => prsign_any 0 y W) w
    · exact scone_gen _ _ _ _ 57 (enters_of Tryd.func57 (by kernel_rfl) rfl) rfl (fun W => prmag_any 0 y hy W) w
    · exact scone_gen _ _ _ _ 58 (enters_of Tryd.func58 (by kernel_rfl) rfl) rfl (fun W => prnot_any 0 y W) w
set_option maxRecDepth 100000 in
theorem scbin_any (f : Int) (w : World) : Calls Tryd.prog 13 #[.int .i64 f] w fun e w' => e = .returned (.bool (binB f)) ∧ Below w.heap.size w w' := by
  have HD := Lib.hid (scdy_any f w)
  cases hb : binB f
  · have hn : dyV f = .nilFunc := dyV_no (fun h => by rw [bin_iff.2 h] at hb; cases hb)
    rw [hn] at HD
    clear hb hn
    go_enter Tryd.func13, Tryd.ntmps13
    go_wp2_with (go_at_call 37; refine HD.out.mono ?_; rintro e w2 ⟨rfl, b2⟩)
    simp [(run_fn Tryd.underlying56 (.func 0) #[] #[] _).2.1]
    go_wp2
    go_ret
    exact ⟨rfl, b2⟩
  · obtain ⟨g, hg⟩ : ∃ g, dyV f = .func (.func g) #[] #[] := by
      rcases bin_iff.1 hb with rfl | rfl | rfl | rfl | rfl | rfl | rfl | rfl | rfl | rfl | rfl | rfl | rfl | rfl | rfl | rfl <;> exact ⟨_, rfl⟩
    rw [hg] at HD
    clear hb hg
    go_enter Tryd.func13, Tryd.ntmps13
    go_wp2_with (go_at_call 37; refine HD.out.mono ?_; rintro e w2 ⟨rfl, b2⟩)
    simp [(run_fn Tryd.underlying56 _ _ _ _).2.2.2]
    go_wp2
    go_ret
    exact ⟨rfl, b2⟩
set_option maxRecDepth 100000 in
theorem scun_any (f : Int) (w : World) : Calls Tryd.prog 11 #[.int .i64 f] w fun e w' => e = .returned (.bool (unB f)) ∧ Below w.heap.size w w' := by
  have HD := Lib.hid (scmo_any f w)
  cases hb : unB f
  · have hn : moV f = .nilFunc := moV_no (fun h => by rw [un_iff.2 h] at hb; cases hb)
    rw [hn] at HD
    clear hb hn
    go_enter Tryd.func11, Tryd.ntmps11
    go_wp2_with (go_at_call 32; refine HD.out.mono ?_; rintro e w2 ⟨rfl, b2⟩)
    simp [(run_fn Tryd.underlying56 (.func 0) #[] #[] _).2.1]
    go_wp2
    go_ret
    exact ⟨rfl, b2⟩
  · obtain ⟨g, hg⟩ : ∃ g, moV f = .func (.func g) #[] #[] := by
      rcases un_iff.1 hb with rfl | rfl | rfl | rfl | rfl <;> exact ⟨_, rfl⟩
    rw [hg] at HD
    clear hb hg
    go_enter Tryd.func11, Tryd.ntmps11
    go_wp2_with (go_at_call 32; refine HD.out.mono ?_; rintro e w2 ⟨rfl, b2⟩)
    simp [(run_fn Tryd.underlying56 _ _ _ _).2.2.2]
    go_wp2
    go_ret
    exact ⟨rfl, b2⟩
end Go.Proofs.YtkdnaebmifjmcaaDoor.sc

/-
  Layer 12 (scalar): kinds, shapes that conform, an element at a position, the function of elements of such kinds.
-/
import Derived.Test.YtkabdkblcgklmaaScLive
import Derived.Test.YtkabdkblcgklmaaArSame
namespace Go.Proofs.Ytkabdkblcgklmaa.sc
open Go.RowKit Go.Proofs.Ytkabdkblcgklmaa.arr

/-! ### Kinds -/
def kdB (k : Int) : Bool := decide (k = 1) || decide (k = 2)
def kindsE (f a b : Int) : Int := if (binB f && kdB a && kdB b) = false then 2 else if f = 9 ∨ f = 10 then 0 else if a = 2 ∨ b = 2 then 5 else 0
theorem kd_iff {k : Int} : kdB k = true ↔ k = 1 ∨ k = 2 := by
  unfold kdB
  rw [Bool.or_eq_true, decide_eq_true_eq, decide_eq_true_eq]
theorem sciskind_any (k : Int) (w : World) : Calls Try.prog 158 #[.int .i64 k] w fun e w' => e = .returned (.bool (kdB k)) ∧ w = w' := by
  unfold kdB
  by_cases h0 : k = 1
  · subst h0
    go_enter Try.func158, Try.ntmps158
    go_wp2
    go_ret
    exact ⟨rfl, rfl⟩
  · have d0 : (k == 1) = false := by simp [h0]
    rw [decide_eq_false h0, Bool.false_or]
    by_cases h1 : k = 2
    · subst h1
      go_enter Try.func158, Try.ntmps158
      go_wp2
      go_ret
      exact ⟨rfl, rfl⟩
    · have d1 : (k == 2) = false := by simp [h1]
      rw [decide_eq_false h1]
      go_enter Try.func158, Try.ntmps158
      go_wp2
      go_ret
      exact ⟨rfl, rfl⟩
set_option maxHeartbeats 2000000 in
theorem sckinds_any (f a b : Int) (w : World) : Calls Try.prog 91 #[.int .i64 f, .int .i64 a, .int .i64 b] w fun e w' => e = .returned (.int .i64 (kindsE f a b)) ∧ Below w.heap.size w w' := by
  have HB := Lib.hid (scbin_any f w)
  have HK := Lib.hid (fun k W => sciskind_any k W)
  unfold kindsE
  cases hb : binB f
  · rw [hb] at HB
    rw [Bool.false_and, Bool.false_and, if_pos rfl]
    clear hb
    go_enter Try.func91, Try.ntmps91
    go_wp2_with (go_at_call 52; refine HB.out.mono ?_; rintro e w2 ⟨rfl, b2⟩)
    go_ret
    exact ⟨rfl, b2⟩
  rw [hb] at HB
  rw [Bool.true_and]
  have arm : True := trivial
  cases ha : kdB a
  · have HA := Lib.hid (fun W => HK.out a W)
    rw [ha] at HA
    rw [Bool.false_and, if_pos rfl]
    clear hb ha HK
    go_enter Try.func91, Try.ntmps91
    go_wp2_with (first
      | (go_at_call 52; refine HB.out.mono ?_; rintro e w2 ⟨rfl, b2⟩)
      | (go_at_call 158; (with_reducible refine (HA.out _).mono ?_); rintro e _ ⟨rfl, rfl⟩))
    go_ret
    exact ⟨rfl, b2⟩
  have HA := Lib.hid (fun W => HK.out a W)
  rw [ha] at HA
  rw [Bool.true_and]
  cases hb2 : kdB b
  · have HBB := Lib.hid (fun W => HK.out b W)
    rw [hb2] at HBB
    rw [if_pos rfl]
    clear hb ha HK hb2
    go_enter Try.func91, Try.ntmps91
    go_wp2_with (first
      | (go_at_call 52; refine HB.out.mono ?_; rintro e w2 ⟨rfl, b2⟩)
      | (go_at_call 158; (have l0 := M1.out; clear l0); (with_reducible refine (HBB.out _).mono ?_); rintro e _ ⟨rfl, rfl⟩)
      | (go_at_call 158; (with_reducible refine (HA.out _).mono ?_); rintro e _ ⟨rfl, rfl⟩; have M1 : Hid (1 = 1) := Lib.hid rfl))
    go_ret
    exact ⟨rfl, b2⟩
  have HBB := Lib.hid (fun W => HK.out b W)
  rw [hb2] at HBB
  rw [if_neg (by decide)]
  by_cases h9 : f = 9 ∨ f = 10
  · rw [if_pos h9]
    clear hb ha HK hb2
    rcases h9 with rfl | rfl
    all_goals
      go_enter Try.func91, Try.ntmps91
      go_wp2_with (first
        | (go_at_call 52; refine HB.out.mono ?_; rintro e w2 ⟨rfl, b2⟩)
        | (go_at_call 158; (have l0 := M1.out; clear l0); (with_reducible refine (HBB.out _).mono ?_); rintro e _ ⟨rfl, rfl⟩)
        | (go_at_call 158; (with_reducible refine (HA.out _).mono ?_); rintro e _ ⟨rfl, rfl⟩; have M1 : Hid (1 = 1) := Lib.hid rfl))
      go_ret
      exact ⟨rfl, b2⟩
  rw [if_neg h9]
  have n9 : (f == 9) = false := by simp; omega
  have n10 : (f == 10) = false := by simp; omega
  rcases kd_iff.1 ha with rfl | rfl <;> rcases kd_iff.1 hb2 with rfl | rfl
  all_goals
    clear hb ha HK hb2 h9
    go_enter Try.func91, Try.ntmps91
    go_wp2_with (first
      | (go_at_call 52; refine HB.out.mono ?_; rintro e w2 ⟨rfl, b2⟩)
      | (go_at_call 158; (have l0 := M1.out; clear l0); (with_reducible refine (HBB.out _).mono ?_); rintro e _ ⟨rfl, rfl⟩)
      | (go_at_call 158; (with_reducible refine (HA.out _).mono ?_); rintro e _ ⟨rfl, rfl⟩; have M1 : Hid (1 = 1) := Lib.hid rfl))
    go_ret
    exact ⟨rfl, b2⟩

/-! ### A function of two elements -/
def mixV (f a b x y : Int) : Int := if a = b then twoV f x y else truthV (decide (f = 10))
def mixE (f a b x y : Int) : Int := if a = b then twoE f x y else 0
abbrev MixAt (g : Nat) (a b : Int) (v : Value) : Prop := v = .func (.func (if a = b then 94 else 92)) #[] #[.pointer (some ⟨g, 0, none⟩)]
theorem mix1_any (f x y : Int) (g : Nat) (w : World) (hx : Blk w g 3 #[.int .i64 f]) : Calls Try.prog 92 #[.int .i64 x, .int .i64 y, .pointer (some ⟨g, 0, none⟩)] w fun e w' => e = .returned (.tuple #[.int .i64 (truthV (decide (f = 10))), .int .i64 0]) ∧ Below w.heap.size w w' := by
  have c0 := hx.cell 0
  have HT := Lib.hid (fun b W => sctruth_any b W)
  rw [show decide (f = 10) = (f == 10) by by_cases h : f = 10 <;> simp [h]]
  clear hx
  go_enter Try.func92, Try.ntmps92
  go_wp2_with (go_at_call 93; refine (HT.out _ _).mono ?_; rintro e _ ⟨rfl, rfl⟩)
  go_ret2
  exact ⟨rfl, Below.refl _ _⟩
theorem mix2_any (f x y : Int) (hx : InR x) (hy : InR y) (g : Nat) (w : World) (hb : Blk w g 3 #[.int .i64 f]) : Calls Try.prog 94 #[.int .i64 x, .int .i64 y, .pointer (some ⟨g, 0, none⟩)] w fun e w' => e = .returned (.tuple #[.int .i64 (twoV f x y), .int .i64 (twoE f x y)]) ∧ Below w.heap.size w w' := by
  have c0 := hb.cell 0
  have HT := Lib.hid (sctwo_any f x y hx hy w)
  generalize twoV f x y = v at *
  generalize twoE f x y = e at *
  clear hb hx hy
  go_enter Try.func94, Try.ntmps94
  go_wp2_with (go_at_call 48; refine HT.out.mono ?_; rintro e w2 ⟨rfl, b2⟩)
  go_ret2
  exact ⟨rfl, b2⟩
set_option maxHeartbeats 1000000 in
theorem scmixed_any (f a b : Int) (w : World) : Calls Try.prog 50 #[.int .i64 f, .int .i64 a, .int .i64 b] w fun e w' => ∃ v, e = .returned (.tuple #[v, .int .i64 (kindsE f a b)]) ∧ (kindsE f a b ≠ 0 → v = .nilFunc) ∧ (kindsE f a b = 0 → MixAt w.heap.size a b v ∧ Blk w' w.heap.size 3 #[.int .i64 f]) ∧ Below w.heap.size w w' := by
  have HK := Lib.hid (sckinds_any f a b (w.alloc (.cells #[.int .i64 f] 3)))
  have hx := Blk.new w 3 #[.int .i64 f]
  have c0 := hx.cell 0
  have HX := Lib.hid hx
  clear hx
  generalize kindsE f a b = K at *
  by_cases hK : K = 0
  · subst hK
    by_cases hab : a = b
    · have d : (a != b) = false := by simp [hab]
      have HAB := Lib.hid hab
      clear hab
      go_enter Try.func50, Try.ntmps50
      go_wp2_with (go_at_call 91; refine HK.out.mono ?_; rintro e w2 ⟨rfl, b2⟩)
      go_ret2
      exact ⟨_, rfl, fun h => absurd rfl h, fun _ => ⟨by unfold MixAt; rw [if_pos HAB.out]; rfl, HX.out.below b2 HX.out.lt⟩, below_on (alloc_below _ _) b2⟩
    · have d : (a != b) = true := by simp [hab]
      have HAB := Lib.hid hab
      clear hab
      go_enter Try.func50, Try.ntmps50
      go_wp2_with (go_at_call 91; refine HK.out.mono ?_; rintro e w2 ⟨rfl, b2⟩)
      go_ret2
      exact ⟨_, rfl, fun h => absurd rfl h, fun _ => ⟨by unfold MixAt; rw [if_neg HAB.out]; rfl, HX.out.below b2 HX.out.lt⟩, below_on (alloc_below _ _) b2⟩
  · have d : (K != 0) = true := by simp [hK]
    have HKN := Lib.hid hK
    clear hK
    go_enter Try.func50, Try.ntmps50
    go_wp2_with (go_at_call 91; refine HK.out.mono ?_; rintro e w2 ⟨rfl, b2⟩)
    go_ret2
    exact ⟨_, rfl, fun _ => rfl, fun h => absurd h HKN.out, below_on (alloc_below _ _) b2⟩
/-- The function, called. -/
theorem mix_any (f a b x y : Int) (hx : InR x) (hy : InR y) (g : Nat) (w : World) (hb : Blk w g 3 #[.int .i64 f]) :
    Calls Try.prog (if a = b then 94 else 92) #[.int .i64 x, .int .i64 y, .pointer (some ⟨g, 0, none⟩)] w fun e w' => e = .returned (.tuple #[.int .i64 (mixV f a b x y), .int .i64 (mixE f a b x y)]) ∧ Below w.heap.size w w' := by
  unfold mixV mixE
  by_cases h : a = b
  · rw [if_pos h, if_pos h, if_pos h]
    exact mix2_any f x y hx hy g w hb
  · rw [if_neg h, if_neg h, if_neg h]
    exact mix1_any f x y g w hb
theorem mixV_in {f a b x y : Int} (hx : InR x) (hy : InR y) : InR (mixV f a b x y) := by
  unfold mixV
  by_cases h : a = b
  · rw [if_pos h]; exact twoV_in hx hy
  · rw [if_neg h]; exact truthV_in _
end Go.Proofs.Ytkabdkblcgklmaa.sc

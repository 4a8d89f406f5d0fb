/-
  Layer 12 (scalar): kinds, shapes that conform, an element at a position, the function of elements of such kinds.
  Layer 12 (scalar): the shape that comes of two; an element at a position; the iterator of pairs.
  Layer 12 (scalar): the iterator of pairs of elements that stand at the same position.
  Layer 12 (scalar): applied: an operation's results over two arrays' pairs, or the first error.
  Layer 12 (scalar): applied.
  Layer 12 (scalar): MapTwo.
  Layer 12 (scalar): MapTwo.
-/
import Derived.Test.YtkabdkblcgklmaaScLive
import Derived.Test.YtkabdkblcgklmaaArSame
import Derived.Test.YtkabdkblcgklmaaMovesV
import Derived.Test.YtkabdkblcgklmaaFence
import Derived.Test.YtkabdkblcgklmaaDoneIn
import Derived.Test.YtkabdkblcgklmaaWriter
import Derived.Laws.EntriesVeiled
namespace Go.Proofs.Ytkabdkblcgklmaa.sc
open Go.RowKit Go.Proofs.Ytkabdkblcgklmaa.arr

/-! ### Kinds -/
def kdB (k : Int) : Bool := decide (k = 1) || decide (k = 2)
def kindsE (f a b : Int) : Int := if (binB f && kdB a && kdB b) = false then 2 else if f = 9 ∨ f = 10 then 0 else if a = 2 ∨ b = 2 then 5 else 0
theorem kd_iff {k : Int} : kdB k = true ↔ k = 1 ∨ k = 2 := by
  unfold kdB
  rw [Bool.or_eq_true, decide_eq_true_eq, decide_eq_true_eq]
theorem sciskind_any (k : Int) (w : World) : Calls Try.prog 158 #[.int .i64 k] w fun e w' => e = .returned (.bool (kdB k)) ∧ w = w' := by
  unfold kdB
  by_cases h0 : k = 1
  · subst h0
    go_enter Try.func158, Try.ntmps158
    go_wp2
    go_ret
    exact ⟨rfl, rfl⟩
  · have d0 : (k == 1) = false := by simp [h0]
    rw [decide_eq_false h0, Bool.false_or]
    by_cases h1 : k = 2
    · subst h1
      go_enter Try.func158, Try.ntmps158
      go_wp2
      go_ret
      exact ⟨rfl, rfl⟩
    · have d1 : (k == 2) = false := by simp [h1]
      rw [decide_eq_false h1]
      go_enter Try.func158, Try.ntmps158
      go_wp2
      go_ret
      exact ⟨rfl, rfl⟩
set_option maxHeartbeats 2000000 in
theorem sckinds_any (f a b : Int) (w : World) : Calls Try.prog 91 #[.int .i64 f, .int .i64 a, .int .i64 b] w fun e w' => e = .returned (.int .i64 (kindsE f a b)) ∧ Below w.heap.size w w' := by
  have HB := Lib.hid (scbin_any f w)
  have HK := Lib.hid (fun k W => sciskind_any k W)
  unfold kindsE
  cases hb : binB f
  · rw [hb] at HB
    rw [Bool.false_and, Bool.false_and, if_pos rfl]
    clear hb
    go_enter Try.func91, Try.ntmps91
    go_wp2_with (go_at_call 52; refine HB.out.mono ?_; rintro e w2 ⟨rfl, b2⟩)
    go_ret
    exact ⟨rfl, b2⟩
  rw [hb] at HB
  rw [Bool.true_and]
  have arm : True := trivial
  cases ha : kdB a
  · have HA := Lib.hid (fun W => HK.out a W)
    rw [ha] at HA
    rw [Bool.false_and, if_pos rfl]
    clear hb ha HK
    go_enter Try.func91, Try.ntmps91
    go_wp2_with (first
      | (go_at_call 52; refine HB.out.mono ?_; rintro e w2 ⟨rfl, b2⟩)
      | (go_at_call 158; (with_reducible refine (HA.out _).mono ?_); rintro e _ ⟨rfl, rfl⟩))
    go_ret
    exact ⟨rfl, b2⟩
  have HA := Lib.hid (fun W => HK.out a W)
  rw [ha] at HA
  rw [Bool.true_and]
  cases hb2 : kdB b
  · have HBB := Lib.hid (fun W => HK.out b W)
    rw [hb2] at HBB
    rw [if_pos rfl]
    clear hb ha HK hb2
    go_enter Try.func91, Try.ntmps91
    go_wp2_with (first
      | (go_at_call 52; refine HB.out.mono ?_; rintro e w2 ⟨rfl, b2⟩)
      | (go_at_call 158; (have l0 := M1.out; clear l0); (with_reducible refine (HBB.out _).mono ?_); rintro e _ ⟨rfl, rfl⟩)
      | (go_at_call 158; (with_reducible refine (HA.out _).mono ?_); rintro e _ ⟨rfl, rfl⟩; have M1 : Hid (1 = 1) := Lib.hid rfl))
    go_ret
    exact ⟨rfl, b2⟩
  have HBB := Lib.hid (fun W => HK.out b W)
  rw [hb2] at HBB
  rw [if_neg (by decide)]
  by_cases h9 : f = 9 ∨ f = 10
  · rw [if_pos h9]
    clear hb ha HK hb2
    rcases h9 with rfl | rfl
    all_goals
      go_enter Try.func91, Try.ntmps91
      go_wp2_with (first
        | (go_at_call 52; refine HB.out.mono ?_; rintro e w2 ⟨rfl, b2⟩)
        | (go_at_call 158; (have l0 := M1.out; clear l0); (with_reducible refine (HBB.out _).mono ?_); rintro e _ ⟨rfl, rfl⟩)
        | (go_at_call 158; (with_reducible refine (HA.out _).mono ?_); rintro e _ ⟨rfl, rfl⟩; have M1 : Hid (1 = 1) := Lib.hid rfl))
      go_ret
      exact ⟨rfl, b2⟩
  rw [if_neg h9]
  have n9 : (f == 9) = false := by simp; omega
  have n10 : (f == 10) = false := by simp; omega
  rcases kd_iff.1 ha with rfl | rfl <;> rcases kd_iff.1 hb2 with rfl | rfl
  all_goals
    clear hb ha HK hb2 h9
    go_enter Try.func91, Try.ntmps91
    go_wp2_with (first
      | (go_at_call 52; refine HB.out.mono ?_; rintro e w2 ⟨rfl, b2⟩)
      | (go_at_call 158; (have l0 := M1.out; clear l0); (with_reducible refine (HBB.out _).mono ?_); rintro e _ ⟨rfl, rfl⟩)
      | (go_at_call 158; (with_reducible refine (HA.out _).mono ?_); rintro e _ ⟨rfl, rfl⟩; have M1 : Hid (1 = 1) := Lib.hid rfl))
    go_ret
    exact ⟨rfl, b2⟩

/-! ### A function of two elements -/
def mixV (f a b x y : Int) : Int := if a = b then twoV f x y else truthV (decide (f = 10))
def mixE (f a b x y : Int) : Int := if a = b then twoE f x y else 0
abbrev MixAt (g : Nat) (a b : Int) (v : Value) : Prop := v = .func (.func (if a = b then 94 else 92)) #[] #[.pointer (some ⟨g, 0, none⟩)]
theorem mix1_any (f x y : Int) (g : Nat) (w : World) (hx : Blk w g 3 #[.int .i64 f]) : Calls Try.prog 92 #[.int .i64 x, .int .i64 y, .pointer (some ⟨g, 0, none⟩)] w fun e w' => e = .returned (.tuple #[.int .i64 (truthV (decide (f = 10))), .int .i64 0]) ∧ Below w.heap.size w w' := by
  have c0 := hx.cell 0
  have HT := Lib.hid (fun b W => sctruth_any b W)
  rw [show decide (f = 10) = (f == 10) by by_cases h : f = 10 <;> simp [h]]
  clear hx
  go_enter Try.func92, Try.ntmps92
  go_wp2_with (go_at_call 93; refine (HT.out _ _).mono ?_; rintro e _ ⟨rfl, rfl⟩)
  go_ret2
  exact ⟨rfl, Below.refl _ _⟩
theorem mix2_any (f x y : Int) (hx : InR x) (hy : InR y) (g : Nat) (w : World) (hb : Blk w g 3 #[.int .i64 f]) : Calls Try.prog 94 #[.int .i64 x, .int .i64 y, .pointer (some ⟨g, 0, none⟩)] w fun e w' => e = .returned (.tuple #[.int .i64 (twoV f x y), .int .i64 (twoE f x y)]) ∧ Below w.heap.size w w' := by
  have c0 := hb.cell 0
  have HT := Lib.hid (sctwo_any f x y hx hy w)
  generalize twoV f x y = v at *
  generalize twoE f x y = e at *
  clear hb hx hy
  go_enter Try.func94, Try.ntmps94
  go_wp2_with (go_at_call 48; refine HT.out.mono ?_; rintro e w2 ⟨rfl, b2⟩)
  go_ret2
  exact ⟨rfl, b2⟩
set_option maxHeartbeats 1000000 in
theorem scmixed_any (f a b : Int) (w : World) : Calls Try.prog 50 #[.int .i64 f, .int .i64 a, .int .i64 b] w fun e w' => ∃ v, e = .returned (.tuple #[v, .int .i64 (kindsE f a b)]) ∧ (kindsE f a b ≠ 0 → v = .nilFunc) ∧ (kindsE f a b = 0 → MixAt w.heap.size a b v ∧ Blk w' w.heap.size 3 #[.int .i64 f]) ∧ Below w.heap.size w w' := by
  have HK := Lib.hid (sckinds_any f a b (w.alloc (.cells #[.int .i64 f] 3)))
  have hx := Blk.new w 3 #[.int .i64 f]
  have c0 := hx.cell 0
  have HX := Lib.hid hx
  clear hx
  generalize kindsE f a b = K at *
  by_cases hK : K = 0
  · subst hK
    by_cases hab : a = b
    · have d : (a != b) = false := by simp [hab]
      have HAB := Lib.hid hab
      clear hab
      go_enter Try.func50, Try.ntmps50
      go_wp2_with (go_at_call 91; refine HK.out.mono ?_; rintro e w2 ⟨rfl, b2⟩)
      go_ret2
      exact ⟨_, rfl, fun h => absurd rfl h, fun _ => ⟨by unfold MixAt; rw [if_pos HAB.out]; rfl, HX.out.below b2 HX.out.lt⟩, below_on (alloc_below _ _) b2⟩
    · have d : (a != b) = true := by simp [hab]
      have HAB := Lib.hid hab
      clear hab
      go_enter Try.func50, Try.ntmps50
      go_wp2_with (go_at_call 91; refine HK.out.mono ?_; rintro e w2 ⟨rfl, b2⟩)
      go_ret2
      exact ⟨_, rfl, fun h => absurd rfl h, fun _ => ⟨by unfold MixAt; rw [if_neg HAB.out]; rfl, HX.out.below b2 HX.out.lt⟩, below_on (alloc_below _ _) b2⟩
  · have d : (K != 0) = true := by simp [hK]
    have HKN := Lib.hid hK
    clear hK
    go_enter Try.func50, Try.ntmps50
    go_wp2_with (go_at_call 91; refine HK.out.mono ?_; rintro e w2 ⟨rfl, b2⟩)
    go_ret2
    exact ⟨_, rfl, fun _ => rfl, fun h => absurd h HKN.out, below_on (alloc_below _ _) b2⟩
/-- The function, called. -/
theorem mix_any (f a b x y : Int) (hx : InR x) (hy : InR y) (g : Nat) (w : World) (hb : Blk w g 3 #[.int .i64 f]) :
    Calls Try.prog (if a = b then 94 else 92) #[.int .i64 x, .int .i64 y, .pointer (some ⟨g, 0, none⟩)] w fun e w' => e = .returned (.tuple #[.int .i64 (mixV f a b x y), .int .i64 (mixE f a b x y)]) ∧ Below w.heap.size w w' := by
  unfold mixV mixE
  by_cases h : a = b
  · rw [if_pos h, if_pos h, if_pos h]
    exact mix2_any f x y hx hy g w hb
  · rw [if_neg h, if_neg h, if_neg h]
    exact mix1_any f x y g w hb
theorem mixV_in {f a b x y : Int} (hx : InR x) (hy : InR y) : InR (mixV f a b x y) := by
  unfold mixV
  by_cases h : a = b
  · rw [if_pos h]; exact twoV_in hx hy
  · rw [if_neg h]; exact truthV_in _
end Go.Proofs.Ytkabdkblcgklmaa.sc

namespace Go.Proofs.Ytkabdkblcgklmaa.sc
open Go.RowKit Go.Proofs.Ytkabdkblcgklmaa.arr

def togE (a b : List Int) : Int := if (okShape a && okShape b) = false then 110 else if a.length = 0 ∨ b.length = 0 then 0 else if a.length ≠ b.length then 3 else if a ≠ b then 4 else 0
def togL (a b : List Int) : List Int := if togE a b ≠ 0 then [] else if a.length = 0 then b else a
/-- What Together answers. -/
def TogA (a b : List Int) (w : World) (e : Ending) (w' : World) : Prop := ∃ A c, e = .returned (.tuple #[.slice A (togL a b).length c, .int .i64 (togE a b)]) ∧ w'.ownsRow w.heap.size 3 1 (.slice A (togL a b).length c) (togL a b).length ((togL a b).map iv) ∧ Below w.heap.size w w'
theorem TogA.no {a b : List Int} {E : Int} {w w' : World} (h : togE a b = E) (h0 : E ≠ 0) (hb : Below w.heap.size w w') : TogA a b w (.returned (.tuple #[.slice none 0 0, .int .i64 E])) w' := by
  have e : togL a b = [] := by unfold togL; rw [h, if_pos h0]
  unfold TogA
  rw [h, e]
  exact ⟨none, 0, rfl, World.ownsRow_nil _ _ _ _, hb⟩

set_option maxHeartbeats 2000000 in
theorem sctog_any (A B : Option Addr) (c d n m : Nat) (a b : List Int) (w : World) (ha : a.length = n) (hb : b.length = m) (ra : Reads w w.heap.size 1 A n (a.map iv)) (rb : Reads w w.heap.size 1 B m (b.map iv)) (hn : n ≤ 9223372036854775807) (hm : m ≤ 9223372036854775807) :
    Calls Try.prog 95 #[.slice A n c, .slice B m d] w (TogA a b w) := by
  have HCA := Lib.hid (arcount_any A c n a w ha ra hn)
  have HCB := Lib.hid (arcount_any B d m b w hb rb hm)
  have HKA := Lib.hid (fun h => arcloneI_any A n c a w ha ra h)
  have HKB := Lib.hid (fun h => arcloneI_any B m d b w hb rb h)
  have HEQ := Lib.hid (arequalI_any A B c d n m a b w ha hb ra rb hn hm)
  have HN := Lib.hid (fun (E : Int) (h : togE a b = E) (h0 : E ≠ 0) (w' : World) (hb : Below w.heap.size w w') => TogA.no h h0 hb)
  have RA := Lib.hid ra
  clear ra rb
  cases hoa : okShape a
  · rw [(cnt_no hoa).1, (cnt_no hoa).2] at HCA
    have h := Lib.hid (HN.out 110 (by unfold togE; rw [hoa]; rfl) (by decide) w (Below.refl _ _))
    generalize cntV b = v2 at *
    generalize cntE b = e2 at *
    clear HN HKA HKB HEQ hoa ha hb hn hm
    go_enter Try.func95, Try.ntmps95
    go_wp2_with (first
      | (go_at_call 63; (have l0 := M1.out; clear l0); (with_reducible refine HCB.out.mono ?_); rintro e _ ⟨rfl, rfl⟩)
      | (go_at_call 63; (with_reducible refine HCA.out.mono ?_); rintro e _ ⟨rfl, rfl⟩; have M1 : Hid (1 = 1) := Lib.hid rfl))
    go_ret2
    exact h.out
  rw [(cnt_ok hoa).1, (cnt_ok hoa).2] at HCA
  cases hob : okShape b
  · rw [(cnt_no hob).1, (cnt_no hob).2] at HCB
    have h := Lib.hid (HN.out 110 (by unfold togE; rw [hob, Bool.and_false]; rfl) (by decide) w (Below.refl _ _))
    generalize prodI a = v2 at *
    clear HN HKA HKB HEQ hoa hob ha hb hn hm
    go_enter Try.func95, Try.ntmps95
    go_wp2_with (first
      | (go_at_call 63; (have l0 := M1.out; clear l0); (with_reducible refine HCB.out.mono ?_); rintro e _ ⟨rfl, rfl⟩)
      | (go_at_call 63; (with_reducible refine HCA.out.mono ?_); rintro e _ ⟨rfl, rfl⟩; have M1 : Hid (1 = 1) := Lib.hid rfl))
    go_ret2
    exact h.out
  rw [(cnt_ok hob).1, (cnt_ok hob).2] at HCB
  have h4a : n ≤ 4 := by have := (okShape_iff.1 hoa).1; omega
  have h4b : m ≤ 4 := by have := (okShape_iff.1 hob).1; omega
  have HKA := Lib.hid (HKA.out (by omega))
  have HKB := Lib.hid (HKB.out (by omega))
  have hE : togE a b = if a.length = 0 ∨ b.length = 0 then 0 else if a.length ≠ b.length then 3 else if a ≠ b then 4 else 0 := by unfold togE; rw [hoa, hob]; rfl
  rw [ha, hb] at hE
  generalize prodI a = v1 at *
  generalize prodI b = v2 at *
  clear hoa hob hn hm
  by_cases hn0 : n = 0
  · have h0 : togE a b = 0 := by rw [hE, if_pos (.inl hn0)]
    have hl : togL a b = b := by unfold togL; rw [h0, if_neg (by decide), if_pos (by omega)]
    have d0 : (n : Int) = 0 := by omega
    have HB2 := Lib.hid hb
    have HL := Lib.hid hl
    have H0 := Lib.hid h0
    clear HN HKA HEQ hE ha hb hl h0 hn0
    go_enter Try.func95, Try.ntmps95
    go_wp2_with (first
      | (go_at_call 82; refine HKB.out.mono ?_; rintro e w2 ⟨A', c', rfl, o2, b2⟩; have O2 := Lib.hid o2; clear o2)
      | (go_at_call 63; (have l0 := M1.out; clear l0); (with_reducible refine HCB.out.mono ?_); rintro e _ ⟨rfl, rfl⟩)
      | (go_at_call 63; (with_reducible refine HCA.out.mono ?_); rintro e _ ⟨rfl, rfl⟩; have M1 : Hid (1 = 1) := Lib.hid rfl))
    go_ret2
    unfold TogA
    rw [HL.out, H0.out, HB2.out]
    exact ⟨A', c', rfl, O2.out, b2⟩
  have d0 : ((n : Int) == 0) = false := by simp; omega
  by_cases hm0 : m = 0
  · have h0 : togE a b = 0 := by rw [hE, if_pos (.inr hm0)]
    have hl : togL a b = a := by unfold togL; rw [h0, if_neg (by decide), if_neg (by omega)]
    have d1 : (m : Int) = 0 := by omega
    have HB2 := Lib.hid ha
    have HL := Lib.hid hl
    have H0 := Lib.hid h0
    clear HN HKB HEQ hE ha hb hl h0 hn0 hm0
    go_enter Try.func95, Try.ntmps95
    go_wp2_with (first
      | (go_at_call 82; refine HKA.out.mono ?_; rintro e w2 ⟨A', c', rfl, o2, b2⟩; have O2 := Lib.hid o2; clear o2)
      | (go_at_call 63; (have l0 := M1.out; clear l0); (with_reducible refine HCB.out.mono ?_); rintro e _ ⟨rfl, rfl⟩)
      | (go_at_call 63; (with_reducible refine HCA.out.mono ?_); rintro e _ ⟨rfl, rfl⟩; have M1 : Hid (1 = 1) := Lib.hid rfl))
    go_ret2
    unfold TogA
    rw [HL.out, H0.out, HB2.out]
    exact ⟨A', c', rfl, O2.out, b2⟩
  have d1 : ((m : Int) == 0) = false := by simp; omega
  rw [if_neg (fun h => h.elim hn0 hm0)] at hE
  by_cases hnm : n = m
  case neg =>
    rw [if_pos hnm] at hE
    have d2 : ((n : Int) != (m : Int)) = true := by simp; omega
    have h := Lib.hid (HN.out 3 hE (by decide) w (Below.refl _ _))
    clear HN HKA HKB HEQ hE ha hb hn0 hm0 hnm
    go_enter Try.func95, Try.ntmps95
    go_wp2_with (first
      | (go_at_call 63; (have l0 := M1.out; clear l0); (with_reducible refine HCB.out.mono ?_); rintro e _ ⟨rfl, rfl⟩)
      | (go_at_call 63; (with_reducible refine HCA.out.mono ?_); rintro e _ ⟨rfl, rfl⟩; have M1 : Hid (1 = 1) := Lib.hid rfl))
    go_ret2
    exact h.out
  subst hnm
  rw [if_neg (by simp)] at hE
  by_cases hab : a = b
  case neg =>
    rw [if_pos hab] at hE
    rw [decide_eq_false hab] at HEQ
    have h := Lib.hid (HN.out 4 hE (by decide))
    clear HN HKA HKB hE ha hb hn0 hm0 hab
    go_enter Try.func95, Try.ntmps95
    go_wp2_with (first
      | (go_at_call 121; refine HEQ.out.mono ?_; rintro e w2 ⟨rfl, b2⟩)
      | (go_at_call 63; (have l0 := M1.out; clear l0); (with_reducible refine HCB.out.mono ?_); rintro e _ ⟨rfl, rfl⟩)
      | (go_at_call 63; (with_reducible refine HCA.out.mono ?_); rintro e _ ⟨rfl, rfl⟩; have M1 : Hid (1 = 1) := Lib.hid rfl))
    go_ret2
    exact h.out _ b2
  subst hab
  rw [if_neg (by simp)] at hE
  rw [decide_eq_true rfl] at HEQ
  have hl : togL a a = a := by unfold togL; rw [hE, if_neg (by decide), if_neg (by omega)]
  have HB2 := Lib.hid ha
  have HL := Lib.hid hl
  have H0 := Lib.hid hE
  clear HN HKA HKB hE ha hb hn0 hm0 hl
  go_enter Try.func95, Try.ntmps95
  go_wp2_with (first
    | (go_at_call 82; refine (arcloneI_any A n c a w2 HB2.out ((RA.out.below b2).more b2.size) (by omega)).mono ?_; rintro e w3 ⟨A', c', rfl, o3, b3⟩; have O3 := Lib.hid o3; clear o3)
    | (go_at_call 121; refine HEQ.out.mono ?_; rintro e w2 ⟨rfl, b2⟩)
    | (go_at_call 63; (have l0 := M1.out; clear l0); (with_reducible refine HCB.out.mono ?_); rintro e _ ⟨rfl, rfl⟩)
    | (go_at_call 63; (with_reducible refine HCA.out.mono ?_); rintro e _ ⟨rfl, rfl⟩; have M1 : Hid (1 = 1) := Lib.hid rfl))
  go_ret2
  unfold TogA
  rw [HL.out, H0.out, HB2.out]
  exact ⟨A', c', rfl, arown_mono O3.out b2.size, below_on b2 b3⟩

/-! ### An element at a position -/
def elA (a : AV) (i : Nat) : Int := if a.sh.length = 0 then a.el.getD 0 0 else a.el.getD i 0
def elOk (a : AV) (i : Nat) : Prop := if a.sh.length = 0 then 0 < a.el.length else i < a.el.length
theorem elA_in {a : AV} {i : Nat} (h : ∀ z ∈ a.el, -9223372036854775808 ≤ z ∧ z ≤ 9223372036854775807) (ho : elOk a i) : InR (elA a i) := by
  unfold elA elOk at *
  by_cases h0 : a.sh.length = 0
  · rw [if_pos h0] at ho ⊢
    rw [List.getD_eq_getElem?_getD, List.getElem?_eq_getElem ho]
    exact h _ (List.getElem_mem ho)
  · rw [if_neg h0] at ho ⊢
    rw [List.getD_eq_getElem?_getD, List.getElem?_eq_getElem ho]
    exact h _ (List.getElem_mem ho)
set_option maxHeartbeats 1000000 in
theorem scelem_any (a : AV) (p : AP) (i : Nat) (w : World) (h : AEl w a p) (ho : elOk a i) :
    Calls Try.prog 198 #[.agg (arC a p), .int .i64 (i : Int)] w fun e w' => e = .returned (.int .i64 (elA a i)) ∧ Below w.heap.size w w' := by
  have hb := h.box
  obtain ⟨k, sh, el⟩ := a
  obtain ⟨A0, c0, A1, c1⟩ := p
  have x1 := hb.blk.cell 1
  have x2 := hb.blk.cell 2
  have hr := hb.el.r1
  unfold elA elOk at *
  unfold arC at *
  simp only at ho x1 x2 hr ⊢
  have hm63 : el.length ≤ 9223372036854775807 := h.b1
  by_cases h0 : sh.length = 0
  · rw [if_pos h0] at ho ⊢
    obtain ⟨ad, hA, _, cA⟩ := hr.int_at ho rfl
    rw [List.getD_eq_getElem?_getD, List.getElem?_eq_getElem ho, Option.getD_some]
    have e0 : ad.add 0 = ad := rfl
    rw [e0] at cA
    generalize el[0] = x at *
    subst hA
    clear hr hb h
    generalize sh.length = n at *
    generalize el.length = m at *
    subst h0
    go_enter Try.func198, Try.ntmps198
    go_wp2
    go_ret
    exact ⟨rfl, alloc_below _ _⟩
  · rw [if_neg h0] at ho ⊢
    obtain ⟨ad, hA, _, cA⟩ := hr.int_at ho rfl
    rw [List.getD_eq_getElem?_getD, List.getElem?_eq_getElem ho, Option.getD_some]
    generalize el[i] = x at *
    subst hA
    clear hr hb h
    generalize sh.length = n at *
    generalize el.length = m at *
    have d0 : ((n : Int) == 0) = false := by simp; omega
    clear h0
    go_enter Try.func198, Try.ntmps198
    go_wp2
    go_ret
    exact ⟨rfl, alloc_below _ _⟩
end Go.Proofs.Ytkabdkblcgklmaa.sc

namespace Go.Proofs.Ytkabdkblcgklmaa.sc
open Go.RowKit Go.Proofs.Ytkabdkblcgklmaa.arr

abbrev pv (x y : Int) : Value := .agg #[.int .i64 x, .int .i64 y]
structure PrPre (C0 C1 C2 : Nat) (S : Option Addr) (c : Nat) (sh : List Int) (a b : AV) (p q : AP) (W : World) : Prop where
  c0 : Blk W C0 22 #[.slice S sh.length c]
  c1 : Blk W C1 25 (arC a p)
  c2 : Blk W C2 25 (arC b q)
  rs : Reads W W.heap.size 1 S sh.length (sh.map iv)
  ea : AEl W a p
  eb : AEl W b q
theorem PrPre.below {C0 C1 C2 : Nat} {S : Option Addr} {c : Nat} {sh : List Int} {a b : AV} {p q : AP} {W W' : World} (h : PrPre C0 C1 C2 S c sh a b p q W) (hb : Below W.heap.size W W') : PrPre C0 C1 C2 S c sh a b p q W' :=
  ⟨h.c0.below hb h.c0.lt, h.c1.below hb h.c1.lt, h.c2.below hb h.c2.lt, (h.rs.below hb).more hb.size, h.ea.below hb, h.eb.below hb⟩
def prAt (a b : AV) (k : Nat) (_ : Unit) : Array Value := #[pv (elA a k) (elA b k)]
def prX (N k : Nat) (_ : Unit) (W W' : World) : Prop := k < N ∧ Below W.heap.size W W'
def prZ (N k : Nat) (W W' : World) : Prop := k = N ∧ W' = W

theorem scpairs_any (S : Option Addr) (n c : Nat) (u v : Value) (w : World) (x y : Array Value) (hu : u = .agg x) (hv : v = .agg y) : Calls Try.prog 159 #[.slice S n c, u, v] w fun e w' => e = .returned (.func (.func 197) #[] #[.pointer (some ⟨w.heap.size, 0, none⟩), .pointer (some ⟨w.heap.size + 1, 0, none⟩), .pointer (some ⟨w.heap.size + 1 + 1, 0, none⟩)]) ∧ ((w.alloc (.cells #[.slice S n c] 22)).alloc (.cells x 25)).alloc (.cells y 25) = w' := by
  subst hu
  subst hv
  go_enter Try.func159, Try.ntmps159
  go_wp2
  go_ret
  exact ⟨rfl, rfl⟩

/-- What stands in the region that yields: its operation 8 yields, behind both elements. -/
def S8 (W0 : World) (dn : Nat → Bool) (w : World) : Prop := (dn 8 = false ∧ Below W0.heap.size W0 w) ∨ (dn 8 = true ∧ dn 1 = true ∧ dn 3 = true ∧ dn 4 = true ∧ dn 6 = true)
structure R8 (vs : List Value) (Post : Bool → World → Prop) (dn : Nat → Bool) (i : Nat) (v : Value) (w : World) : Prop where
  val : i < 8 → v = vs.getD i undef
  a8 : i = 8 → ∃ bb, v = .bool bb ∧ Post bb w
  a9 : 9 ≤ i → ∃ bb, v = .bool (!bb) ∧ Post bb w
  d1 : i = 1 → dn 1 = true
  d3 : i = 3 → dn 1 = true ∧ dn 3 = true
  d4 : i = 4 → dn 4 = true
  d6 : i = 6 → dn 4 = true ∧ dn 6 = true
  d7 : i = 7 → dn 1 = true ∧ dn 3 = true ∧ dn 4 = true ∧ dn 6 = true
  d8 : 8 ≤ i → dn 8 = true
theorem S8.up {W0 : World} {i : Nat} (hi : i ≠ 8) : ∀ dn w, S8 W0 dn w → S8 W0 (upd dn i) w := fun dn w h => by
  have hu : ∀ k, dn k = true → upd dn i k = true := fun k hk => by unfold upd; rw [hk, Bool.or_true]
  rcases h with ⟨h1, h2⟩ | ⟨h1, h2, h3, h4, h5⟩
  · refine .inl ⟨?_, h2⟩
    unfold upd
    rw [h1, Bool.or_false]
    simpa using fun e => hi e.symm
  · exact .inr ⟨hu _ h1, hu _ h2, hu _ h3, hu _ h4, hu _ h5⟩
theorem R8.up {vs : List Value} {Post : Bool → World → Prop} {i : Nat} : ∀ dn j u w, R8 vs Post dn j u w → R8 vs Post (upd dn i) j u w := fun dn j u w h => by
  have hu : ∀ k, dn k = true → upd dn i k = true := fun k hk => by unfold upd; rw [hk, Bool.or_true]
  exact ⟨h.val, h.a8, h.a9, fun e => hu _ (h.d1 e), fun e => ⟨hu _ (h.d3 e).1, hu _ (h.d3 e).2⟩, fun e => hu _ (h.d4 e), fun e => ⟨hu _ (h.d6 e).1, hu _ (h.d6 e).2⟩, fun e => ⟨hu _ (h.d7 e).1, hu _ (h.d7 e).2.1, hu _ (h.d7 e).2.2.1, hu _ (h.d7 e).2.2.2⟩, fun e => hu _ (h.d8 e)⟩
theorem S8.at_ {W0 w : World} {dn : Nat → Bool} (h : S8 W0 dn w) (hd : dn 8 = false ∨ dn 1 = false ∨ dn 3 = false ∨ dn 4 = false ∨ dn 6 = false) : Below W0.heap.size W0 w := by
  rcases h with ⟨_, h⟩ | ⟨h1, h2, h3, h4, h5⟩
  · exact h
  · rw [h1, h2, h3, h4, h5] at hd
    rcases hd with h | h | h | h | h <;> cases h

section
attribute [local go_sem] Oper.semAt_some
set_option maxRecDepth 100000 in
set_option maxHeartbeats 4000000 in
theorem pairs_moves (f : Nat) (h1 : 1 ≤ f) (C0 C1 C2 : Nat) (S : Option Addr) (c : Nat) (sh : List Int) (a b : AV) (p q : AP) (N : Nat) (hok : okShape sh = true) (hN : prodI sh = (N : Int)) (hel : ∀ i, i < N → elOk a i ∧ elOk b i) (w : World) :
    SeqMovesV Fence.wide f Try.prog 197 #[.pointer (some ⟨C0, 0, none⟩), .pointer (some ⟨C1, 0, none⟩), .pointer (some ⟨C2, 0, none⟩)] (prAt a b) (fun _ => PrPre C0 C1 C2 S c sh a b p q) (prX N) (prZ N) w := by
  intro lp J Jm Jx Jz W hW hP hX hZ hY h0
  have hp0 := hP 0 W h0
  have hN2 : (N : Int) ≤ 4096 := by rw [← hN]; exact (okShape_iff.1 hok).2.2
  obtain ⟨n, hn⟩ : ∃ n, sh.length = n := ⟨_, rfl⟩
  have HC : Hid (CallsIn Fence.wide (f - 1) Try.prog 63 #[.slice S n c] W fun e w' => e = .returned (.tuple #[.int .i64 (N : Int), .int .i64 0]) ∧ W = w') := Lib.hid (callsIn_wide.2 (by
    have h := arcount_any S c n sh W hn (by rw [← hn]; exact hp0.rs) (by have := (okShape_iff.1 hok).1; omega)
    rw [(cnt_ok hok).1, (cnt_ok hok).2, hN] at h
    exact h))
  have x0 := hp0.c0.cell 0
  rw [hn] at x0
  have HP := Lib.hid hP
  have HX := Lib.hid hX
  have HZ := Lib.hid hZ
  have HY := Lib.hid hY
  have H0 := Lib.hid h0
  have HEL := Lib.hid hel
  have hfc : Fence.wide.fn 63 := trivial
  have hfe : Fence.wide.fn 198 := trivial
  clear hP hX hZ hY h0 hW hp0 hel hok hN hn
  refine callsIn_of_wp Try.func197 rfl trivial ?_ rfl
  simp only [Try.ntmps197, List.size_toArray, List.length_cons, List.length_nil, Nat.reduceAdd, Nat.reduceSub, Array.replicate_succ, Array.replicate_zero, List.push_toArray, List.append_toArray, List.nil_append, List.cons_append]
  gi_wp2_with (gi_at_call 63; refine HC.out.mono ?_; rintro e _ ⟨rfl, rfl⟩)
  gi_loopw [14] (fun i wr => ∃ k : Nat, i = .int .i64 (k : Int) ∧ k ≤ N ∧ J k wr) (fun i _ => N + 1 - (RowKit.intOf i).toNat)
  case atStart => exact ⟨0, rfl, Nat.zero_le _, H0.out⟩
  case round =>
    obtain ⟨k, rfl, hkM, hJ⟩ := hrel
    have hpre := HP.out k wr hJ
    have HJ := Lib.hid hJ
    by_cases hk : k < N
    · have hd : (k : Int) < (N : Int) := by omega
      have HPR := Lib.hid hpre
      have HK := Lib.hid hk
      have HAT : Hid (prAt a b k () = #[.agg #[.int .i64 (elA a k), .int .i64 (elA b k)]]) := Lib.hid rfl
      have HEA : Hid (∀ W2, Below wr.heap.size wr W2 → Calls Try.prog 198 #[.agg (arC a p), .int .i64 (k : Int)] W2 fun e w' => e = .returned (.int .i64 (elA a k)) ∧ Below W2.heap.size W2 w') := Lib.hid (fun W2 h2 => scelem_any a p k W2 (HPR.out.below h2).ea (HEL.out k HK.out).1)
      have HEB : Hid (∀ W2, Below wr.heap.size wr W2 → Calls Try.prog 198 #[.agg (arC b q), .int .i64 (k : Int)] W2 fun e w' => e = .returned (.int .i64 (elA b k)) ∧ Below W2.heap.size W2 w') := Lib.hid (fun W2 h2 => scelem_any b q k W2 (HPR.out.below h2).eb (HEL.out k HK.out).2)
      have HCL : Hid (∀ W2, Below wr.heap.size wr W2 → (W2.cell? ⟨C1, 0, none⟩ = some (.int .i64 a.kind) ∧ W2.cell? ⟨C1, 1, none⟩ = some (.slice p.A0 a.sh.length p.c0) ∧ W2.cell? ⟨C1, 2, none⟩ = some (.slice p.A1 a.el.length p.c1)) ∧ W2.cell? ⟨C2, 0, none⟩ = some (.int .i64 b.kind) ∧ W2.cell? ⟨C2, 1, none⟩ = some (.slice q.A0 b.sh.length q.c0) ∧ W2.cell? ⟨C2, 2, none⟩ = some (.slice q.A1 b.el.length q.c1)) := Lib.hid (fun W2 h2 => by
        have h := HPR.out.below h2
        exact ⟨⟨h.c1.cell 0, h.c1.cell 1, h.c1.cell 2⟩, h.c2.cell 0, h.c2.cell 1, h.c2.cell 2⟩)
      have HYK : Hid (∀ W2, Below wr.heap.size wr W2 → YieldAt Fence.wide (f - 1) Try.prog lp #[.agg #[.int .i64 (elA a k), .int .i64 (elA b k)]] W2 fun e W' => (e = .returned (.bool true) ∧ J (k + 1) W') ∨ (e = .returned (.bool false) ∧ Jx W')) := Lib.hid (fun W2 h2 => by
        have h := HY.out k () W2 (HX.out k () wr W2 HJ.out ⟨HK.out, h2⟩)
        rwa [HAT.out] at h)
      generalize elA a k = ea at *
      generalize elA b k = eb at *
      have HAC : Hid (arC a p = #[.int .i64 a.kind, .slice p.A0 a.sh.length p.c0, .slice p.A1 a.el.length p.c1]) := Lib.hid rfl
      have HBC : Hid (arC b q = #[.int .i64 b.kind, .slice q.A0 b.sh.length q.c0, .slice q.A1 b.el.length q.c1]) := Lib.hid rfl
      rw [HAC.out] at HEA
      rw [HBC.out] at HEB
      generalize a.kind = ka at *
      generalize b.kind = kb at *
      generalize (Value.slice p.A0 a.sh.length p.c0) = sa at *
      generalize (Value.slice p.A1 a.el.length p.c1) = la at *
      generalize (Value.slice q.A0 b.sh.length q.c0) = sb at *
      generalize (Value.slice q.A1 b.el.length q.c1) = lb at *
      clear hpre hk hkM hJ x0 HAC HBC HAT HEL HC
      gi_wp2
      refine wpIn_region_done_on (S8 wr) (R8 [.func (.yield lp) #[] #[], .agg #[.int .i64 ka, sa, la], .int .i64 (k : Int), .int .i64 ea, .agg #[.int .i64 kb, sb, lb], .int .i64 (k : Int), .int .i64 eb, .agg #[.int .i64 ea, .int .i64 eb]] (fun bb W' => (bb = true → J (k + 1) W') ∧ (bb = false → Jx W'))) (by kernel_rfl) 28 rfl (by kernel_rfl) (.inl ⟨rfl, (Below.refl _ _).drew⟩) ?_ ?_
      · intro i hi
        have hi2 : i < 10 := hi
        clear hi
        rcases i with _ | i
        · refine doneIn_value (S8.up (by decide)) R8.up (.func (.yield lp) #[] #[]) rfl (fun _ => rfl) ?_
          intro dn a8 w8 hS hd ho hn
          have o0 : a8.tmps[0]? = some _ := (ho 0 (by kernel_rfl)).trans rfl
          clear ho hn
          refine ⟨wanted_free rfl, ?_, ⟨fun _ => rfl, (fun h => by omega), (fun h => by omega), (fun h => by omega), (fun h => by omega), (fun h => by omega), (fun h => by omega), (fun h => by omega), (fun h => by omega)⟩⟩
          go_simp
        rcases i with _ | i
        · refine doneIn_value (S8.up (by decide)) R8.up (.agg #[.int .i64 ka, sa, la]) rfl (fun _ => rfl) ?_
          intro dn a8 w8 hS hd ho hn
          have o2 : a8.tmps[2]? = some _ := (ho 2 (by kernel_rfl)).trans rfl
          obtain ⟨⟨y0, y1, y2⟩, _⟩ := HCL.out w8 (hS.at_ (.inr (.inl hd)))
          clear ho hn
          refine ⟨wanted_free rfl, ?_, ⟨fun _ => rfl, (fun h => by omega), (fun h => by omega), (fun _ => upd_self _ _), (fun h => by omega), (fun h => by omega), (fun h => by omega), (fun h => by omega), (fun h => by omega)⟩⟩
          go_simp
        rcases i with _ | i
        · refine doneIn_value (S8.up (by decide)) R8.up (.int .i64 (k : Int)) rfl (fun _ => rfl) ?_
          intro dn a8 w8 hS hd ho hn
          have o7 : a8.tmps[7]? = some _ := (ho 7 (by kernel_rfl)).trans rfl
          clear ho hn
          refine ⟨wanted_free rfl, ?_, ⟨fun _ => rfl, (fun h => by omega), (fun h => by omega), (fun h => by omega), (fun h => by omega), (fun h => by omega), (fun h => by omega), (fun h => by omega), (fun h => by omega)⟩⟩
          go_simp
        rcases i with _ | i
        · refine doneIn_call 198 #[.agg #[.int .i64 ka, sa, la], .int .i64 (k : Int)] rfl (fun _ => rfl) ?_
          intro dn a8 w8 hS hd ho hn
          obtain ⟨_, n18, h18⟩ := hn 1 18 (by kernel_rfl) rfl
          obtain rfl := h18.val (by decide)
          obtain ⟨_, n19, h19⟩ := hn 2 19 (by kernel_rfl) rfl
          obtain rfl := h19.val (by decide)
          clear ho hn
          have hB := hS.at_ (.inr (.inr (.inl hd)))
          have h8 : dn 8 = false := by
            rcases hS with ⟨h, _⟩ | ⟨_, q1, q3, q4, q6⟩
            · exact h
            · rw [q3] at hd; cases hd
          refine ⟨wanted_free rfl, by go_simp, (HEA.out w8 hB).mono ?_⟩
          rintro e w9 ⟨rfl, b9⟩
          refine ⟨_, rfl, .inl ⟨?_, hB.trans (b9.mono hB.size)⟩, ⟨fun _ => rfl, (fun h => by omega), (fun h => by omega), (fun h => by omega), (fun _ => ⟨upd_on (h18.d1 rfl), upd_self _ _⟩), (fun h => by omega), (fun h => by omega), (fun h => by omega), (fun h => by omega)⟩, ?_⟩
          · unfold upd
            rw [h8]
            rfl
          · intro j u hj hdj hR
            have hlt : ¬ 8 ≤ j := fun h => by rw [hR.d8 h] at h8; cases h8
            have hR2 := R8.up (i := 3) dn j u w8 hR
            exact ⟨hR2.val, fun e => by omega, fun e => by omega, hR2.d1, hR2.d3, hR2.d4, hR2.d6, hR2.d7, hR2.d8⟩
        rcases i with _ | i
        · refine doneIn_value (S8.up (by decide)) R8.up (.agg #[.int .i64 kb, sb, lb]) rfl (fun _ => rfl) ?_
          intro dn a8 w8 hS hd ho hn
          have o3 : a8.tmps[3]? = some _ := (ho 3 (by kernel_rfl)).trans rfl
          obtain ⟨_, y0, y1, y2⟩ := HCL.out w8 (hS.at_ (.inr (.inr (.inr (.inl hd)))))
          clear ho hn
          refine ⟨wanted_free rfl, ?_, ⟨fun _ => rfl, (fun h => by omega), (fun h => by omega), (fun h => by omega), (fun h => by omega), (fun _ => upd_self _ _), (fun h => by omega), (fun h => by omega), (fun h => by omega)⟩⟩
          go_simp
        rcases i with _ | i
        · refine doneIn_value (S8.up (by decide)) R8.up (.int .i64 (k : Int)) rfl (fun _ => rfl) ?_
          intro dn a8 w8 hS hd ho hn
          have o7 : a8.tmps[7]? = some _ := (ho 7 (by kernel_rfl)).trans rfl
          clear ho hn
          refine ⟨wanted_free rfl, ?_, ⟨fun _ => rfl, (fun h => by omega), (fun h => by omega), (fun h => by omega), (fun h => by omega), (fun h => by omega), (fun h => by omega), (fun h => by omega), (fun h => by omega)⟩⟩
          go_simp
        rcases i with _ | i
        · refine doneIn_call 198 #[.agg #[.int .i64 kb, sb, lb], .int .i64 (k : Int)] rfl (fun _ => rfl) ?_
          intro dn a8 w8 hS hd ho hn
          obtain ⟨_, n21, h21⟩ := hn 4 21 (by kernel_rfl) rfl
          obtain rfl := h21.val (by decide)
          obtain ⟨_, n22, h22⟩ := hn 5 22 (by kernel_rfl) rfl
          obtain rfl := h22.val (by decide)
          clear ho hn
          have hB := hS.at_ (.inr (.inr (.inr (.inr hd))))
          have h8 : dn 8 = false := by
            rcases hS with ⟨h, _⟩ | ⟨_, q1, q3, q4, q6⟩
            · exact h
            · rw [q6] at hd; cases hd
          refine ⟨wanted_free rfl, by go_simp, (HEB.out w8 hB).mono ?_⟩
          rintro e w9 ⟨rfl, b9⟩
          refine ⟨_, rfl, .inl ⟨?_, hB.trans (b9.mono hB.size)⟩, ⟨fun _ => rfl, (fun h => by omega), (fun h => by omega), (fun h => by omega), (fun h => by omega), (fun h => by omega), (fun _ => ⟨upd_on (h21.d4 rfl), upd_self _ _⟩), (fun h => by omega), (fun h => by omega)⟩, ?_⟩
          · unfold upd
            rw [h8]
            rfl
          · intro j u hj hdj hR
            have hlt : ¬ 8 ≤ j := fun h => by rw [hR.d8 h] at h8; cases h8
            have hR2 := R8.up (i := 6) dn j u w8 hR
            exact ⟨hR2.val, fun e => by omega, fun e => by omega, hR2.d1, hR2.d3, hR2.d4, hR2.d6, hR2.d7, hR2.d8⟩
        rcases i with _ | i
        · refine doneIn_value (S8.up (by decide)) R8.up (.agg #[.int .i64 ea, .int .i64 eb]) rfl (fun _ => rfl) ?_
          intro dn a8 w8 hS hd ho hn
          obtain ⟨_, n20, h20⟩ := hn 3 20 (by kernel_rfl) rfl
          obtain rfl := h20.val (by decide)
          obtain ⟨_, n23, h23⟩ := hn 6 23 (by kernel_rfl) rfl
          obtain rfl := h23.val (by decide)
          clear ho hn
          refine ⟨wanted_free rfl, ?_, ⟨fun _ => rfl, (fun h => by omega), (fun h => by omega), (fun h => by omega), (fun h => by omega), (fun h => by omega), (fun h => by omega), (fun _ => ⟨upd_on (h20.d3 rfl).1, upd_on (h20.d3 rfl).2, upd_on (h23.d6 rfl).1, upd_on (h23.d6 rfl).2⟩), (fun h => by omega)⟩⟩
          go_simp
        rcases i with _ | i
        · refine doneIn_round rfl (fun _ => rfl) ?_
          intro dn a8 w8 hS hd ho hn
          obtain ⟨_, n17, h17⟩ := hn 0 17 (by kernel_rfl) rfl
          obtain rfl := h17.val (by decide)
          obtain ⟨_, n24, h24⟩ := hn 7 24 (by kernel_rfl) rfl
          obtain rfl := h24.val (by decide)
          clear ho hn
          have hB := hS.at_ (.inl hd)
          obtain ⟨fn, tmps, assign, body, hy, hR⟩ := HYK.out w8 hB
          refine ⟨wanted_free rfl, lp, fn, tmps, assign, body, by go_simp, hR.mono ?_⟩
          have dd := h24.d7 rfl
          rintro e w9 (⟨rfl, hJ9⟩ | ⟨rfl, hJ9⟩)
          · refine ⟨_, rfl, .inr ⟨upd_self _ _, upd_on dd.1, upd_on dd.2.1, upd_on dd.2.2.1, upd_on dd.2.2.2⟩, ⟨fun h => by omega, fun _ => ⟨true, rfl, (fun _ => hJ9), (fun h => by cases h)⟩, fun h => by omega, fun h => by omega, fun h => by omega, fun h => by omega, fun h => by omega, fun h => by omega, fun _ => upd_self _ _⟩, ?_⟩
            intro j u hj hdj hR
            have hlt : ¬ 8 ≤ j := fun h => by rw [hR.d8 h] at hd; cases hd
            have hR2 := R8.up (i := 8) dn j u w8 hR
            exact ⟨hR2.val, fun e => by omega, fun e => by omega, hR2.d1, hR2.d3, hR2.d4, hR2.d6, hR2.d7, hR2.d8⟩
          · refine ⟨_, rfl, .inr ⟨upd_self _ _, upd_on dd.1, upd_on dd.2.1, upd_on dd.2.2.1, upd_on dd.2.2.2⟩, ⟨fun h => by omega, fun _ => ⟨false, rfl, (fun h => by cases h), (fun _ => hJ9)⟩, fun h => by omega, fun h => by omega, fun h => by omega, fun h => by omega, fun h => by omega, fun h => by omega, fun _ => upd_self _ _⟩, ?_⟩
            intro j u hj hdj hR
            have hlt : ¬ 8 ≤ j := fun h => by rw [hR.d8 h] at hd; cases hd
            have hR2 := R8.up (i := 8) dn j u w8 hR
            exact ⟨hR2.val, fun e => by omega, fun e => by omega, hR2.d1, hR2.d3, hR2.d4, hR2.d6, hR2.d7, hR2.d8⟩
        rcases i with _ | i
        · refine doneIn_any (S8.up (by decide)) R8.up rfl (fun _ => rfl) ?_
          intro dn a8 w8 hS hd ho hn
          obtain ⟨_, n25, h25⟩ := hn 8 25 (by kernel_rfl) rfl
          obtain ⟨bb, rfl, hbb⟩ := h25.a8 rfl
          clear ho hn
          refine ⟨wanted_free rfl, .bool (!bb), by go_simp, ⟨fun h => by omega, fun h => by omega, fun _ => ⟨bb, rfl, hbb⟩, fun h => by omega, fun h => by omega, fun h => by omega, fun h => by omega, fun h => by omega, fun _ => upd_on (h25.d8 (Nat.le_refl _))⟩⟩
        omega
      · intro dn fv w5 hS5 hR5 hall
        obtain ⟨bb, h9, hbb⟩ := (hR5 9 26 rfl).a9 (Nat.le_refl _)
        simp only [putAll, List.foldl_cons, List.foldl_nil, Act.put, List.setIfInBounds_toArray, List.set_cons_succ, List.set_cons_zero, h9]
        have HBB := Lib.hid hbb
        clear hR5 hS5 hall hbb
        generalize fv 17 = uv17
        generalize fv 18 = uv18
        generalize fv 19 = uv19
        generalize fv 20 = uv20
        generalize fv 21 = uv21
        generalize fv 22 = uv22
        generalize fv 23 = uv23
        generalize fv 24 = uv24
        generalize fv 25 = uv25
        cases bb
        · have HJX := Lib.hid (HBB.out.2 rfl)
          gi_wp2
          refine bodyPost_ret (results_none rfl _ _ _) rfl ?_
          exact ⟨⟨_, rfl⟩, .inl HJX.out⟩
        · have HJ3 := Lib.hid (HBB.out.1 rfl)
          gi_wp2
          go_roundw
          case rel => exact ⟨k + 1, by go_num, by have := HK.out; omega, HJ3.out⟩
          case measure => have := HK.out; simp [RowKit.intOf]; omega
    · obtain rfl : k = N := by omega
      have HE := Lib.hid (HZ.out k wr wr HJ.out ⟨rfl, rfl⟩)
      clear hk hkM hpre hJ x0
      gi_wp2
      go_end0
      exact ⟨⟨_, rfl⟩, .inr HE.out⟩
end
end Go.Proofs.Ytkabdkblcgklmaa.sc

namespace Go.Proofs.Ytkabdkblcgklmaa.sc
open Go.RowKit Go.Proofs.Ytkabdkblcgklmaa.arr

def apE (g : Nat → Int) : Nat → Int
  | 0 => 0
  | n + 1 => if apE g n = 0 then g n else apE g n
def apL (g : Nat → Int) (n : Nat) : List Int := (List.range n).map g
theorem apL_length (g : Nat → Int) (n : Nat) : (apL g n).length = n := by simp [apL]
theorem apL_succ (g : Nat → Int) (n : Nat) : apL g (n + 1) = apL g n ++ [g n] := by simp [apL, List.range_succ]
theorem apE_stay {g : Nat → Int} {k : Nat} (h : apE g k ≠ 0) : ∀ n, k ≤ n → apE g n = apE g k
  | 0, hn => by
    obtain rfl : k = 0 := by omega
    rfl
  | n + 1, hn => by
    by_cases he : k = n + 1
    · rw [he]
    · have ih := apE_stay h n (by omega)
      show (if apE g n = 0 then g n else apE g n) = _
      rw [ih, if_neg h]
theorem apE_step {g : Nat → Int} {k n : Nat} (h0 : apE g k = 0) (hg : g k ≠ 0) (hn : k < n) : apE g n = g k := by
  have e : apE g (k + 1) = g k := by
    show (if apE g k = 0 then g k else apE g k) = _
    rw [if_pos h0]
  rw [← e]
  exact apE_stay (by rw [e]; exact hg) n hn
theorem apE_next {g : Nat → Int} {k : Nat} (h0 : apE g k = 0) (hg : g k = 0) : apE g (k + 1) = 0 := by
  show (if apE g k = 0 then g k else apE g k) = _
  rw [if_pos h0, hg]

/-! ### What the rounds turn -/
theorem own_turned {W W' : World} {base B size n : Nat} {e : TypeId} {v : Value} {xs : List Value} {row : Option Nat} (h : W.ownsRow base e size v n xs) (hg : W.grownBy W' row) (hr : ∀ r, row = some r → B ≤ r ∧ ∃ o : Obj, W.heap[r]? = some o ∧ o.isCells = false) : W'.ownsRow base e size v n xs := by
  refine ⟨h.1, ?_⟩
  rcases h.2 with ⟨rfl, h0⟩ | ⟨g, cap, cur, rfl, hb, hh, hrest⟩
  · exact .inl ⟨rfl, h0⟩
  · refine .inr ⟨g, cap, cur, rfl, hb, ?_, hrest⟩
    refine (hg.block g (Array.getElem?_eq_some_iff.1 hh).1 (fun e => ?_)).trans hh
    obtain ⟨_, o, ho, hc⟩ := hr g e.symm
    rw [hh] at ho
    injection ho with ho
    subst ho
    cases hc
theorem blk_turned {W W' : World} {g B : Nat} {t : TypeId} {cs : Array Value} {row : Option Nat} (h : Blk W g t cs) (hg : W.grownBy W' row) (hr : ∀ r, row = some r → B ≤ r ∧ ∃ o : Obj, W.heap[r]? = some o ∧ o.isCells = false) : Blk W' g t cs :=
  h.grown hg (fun e => by
    obtain ⟨_, o, ho, hc⟩ := hr g e.symm
    unfold Blk at h
    rw [h] at ho
    injection ho with ho
    subst ho
    cases hc)
structure ApI (W3 : World) (z : Nat) (vals : List Int) (E : Int) (W : World) : Prop where
  keep : Keep (fun i => i = z + 4 ∨ i = z + 5) W3 W
  el : ∃ A c, Blk W (z + 4) 23 #[.slice A vals.length c] ∧ W.ownsRow W3.heap.size 2 1 (.slice A vals.length c) vals.length (vals.map iv)
  ft : Blk W (z + 5) 28 #[.int .i64 E]
theorem ApI.own {W3 W W' : World} {z : Nat} {vals : List Int} {E : Int} {row : Option Nat} (h : ApI W3 z vals E W) (hg : W.grownBy W' row) (hr : ∀ r, row = some r → W3.heap.size ≤ r ∧ ∃ o : Obj, W.heap[r]? = some o ∧ o.isCells = false) : ApI W3 z vals E W' := by
  obtain ⟨h1, ⟨A, c, h2, h3⟩, h4⟩ := h
  exact ⟨h1.grown hg (fun g e hlt => by have := (hr g e).1; omega), ⟨A, c, blk_turned h2 hg hr, own_turned h3 hg hr⟩, blk_turned h4 hg hr⟩
theorem ApI.below {W3 W W' : World} {z : Nat} {vals : List Int} {E : Int} (h : ApI W3 z vals E W) (hb : Below W.heap.size W W') : ApI W3 z vals E W' := by
  obtain ⟨h1, ⟨A, c, h2, h3⟩, h4⟩ := h
  exact ⟨h1.trans (Keep.of_below (S := fun _ => False) hb) (fun _ _ e => e.elim), ⟨A, c, h2.below hb h2.lt, arown_stay h3 hb (fun g hg => (arown_lt h3 g hg).2)⟩, h4.below hb h4.lt⟩
theorem ApI.alloc {W3 W : World} {z : Nat} {vals : List Int} {E : Int} (h : ApI W3 z vals E W) (o : Obj) : ApI W3 z vals E (W.alloc o) := h.below (alloc_below _ _)
theorem ApI.fail {W3 W : World} {z : Nat} {vals : List Int} {E : Int} (h : ApI W3 z vals E W) (hz : z + 5 < W3.heap.size) (F : Int) : ApI W3 z vals F (W.setCell ⟨z + 5, 0, none⟩ (.int .i64 F)) := by
  obtain ⟨h1, ⟨A, c, h2, h3⟩, h4⟩ := h
  have hk : Keep (fun i => i = z + 5) W (W.setCell ⟨z + 5, 0, none⟩ (.int .i64 F)) := (Keep.refl _ _).setCell _ _ (fun _ => rfl)
  exact ⟨h1.trans hk (fun _ _ e => .inr e), ⟨A, c, hk.blk h2 (by omega), hk.own h3 (fun g e e2 => by have := (arown_lt h3 g e).1; omega)⟩, h4.set_ 0 _⟩
theorem keeps_below {W W' : World} (B : Nat) (h : Below W.heap.size W W') : KeepsFrom B W W' :=
  ⟨h.size, fun k _ _ hk _ => (h.block k (Array.getElem?_eq_some_iff.1 hk).1).trans hk⟩
theorem keeps_on {B : Nat} {W W1 W2 : World} (h : KeepsFrom B W W1) (k : KeepsFrom B W1 W2) : KeepsFrom B W W2 :=
  ⟨Nat.le_trans h.size k.size, fun i o hB hi ho => k.same i o hB (h.same i o hB hi ho) ho⟩
theorem keeps_set {B : Nat} {W : World} {g i : Nat} (hg : g < B) (v : Value) : KeepsFrom B W (W.setCell ⟨g, i, none⟩ v) :=
  ⟨by simp [World.setCell], fun k o hB hk _ => (Below.heap_setCell W ⟨g, i, none⟩ v k (by simp; omega)).trans hk⟩
theorem ApI.push {W3 W w9 : World} {z : Nat} {vals : List Int} {E : Int} {A : Option Addr} {c : Nat} (h : ApI W3 z vals E W) (hz : z + 5 < W3.heap.size) (he : Blk W (z + 4) 23 #[.slice A vals.length c]) (ho0 : W.ownsRow W3.heap.size 2 1 (.slice A vals.length c) vals.length (vals.map iv)) (x : Int) (v' : Value)
    (ho : w9.ownsRow W3.heap.size 2 1 v' (vals.length + 1) (vals.map iv ++ [.int .i64 x])) (hg : (W.alloc (.cells #[.int .i64 x] 2)).grownBy w9 (Value.slice A vals.length c).ownBlock) :
    w9.cell? ⟨z + 4, 0, none⟩ = some (.slice A vals.length c) ∧ w9.frozen? ⟨z + 4, 0, none⟩ = false ∧ ∃ A' c', v' = .slice A' (vals.length + 1) c' ∧ KeepsFrom W3.heap.size W (w9.setCell ⟨z + 4, 0, none⟩ v') ∧ ApI W3 z (vals ++ [x]) E (w9.setCell ⟨z + 4, 0, none⟩ v') := by
  have hsz := h.keep.size
  have hal := alloc_below W (.cells #[.int .i64 x] 2)
  have hr : ∀ g, (Value.slice A vals.length c).ownBlock = some g → W3.heap.size ≤ g := fun g e => (arown_lt ho0 g e).1
  have hk1 : Keep (fun i => W3.heap.size ≤ i) (W.alloc (.cells #[.int .i64 x] 2)) w9 := (Keep.refl _ _).grown hg (fun g e _ => hr g e)
  have hk2 : Keep (fun i => W3.heap.size ≤ i) W w9 := (Keep.of_below (S := fun i => W3.heap.size ≤ i) hal).trans hk1 (fun _ _ h => h)
  have hb9 := hk2.blk he (by omega)
  obtain ⟨A', c', hv'⟩ : ∃ A' c', v' = .slice A' (vals.length + 1) c' := by
    rcases ho.2 with ⟨_, h0⟩ | ⟨g, cap, cur, e, _⟩
    · omega
    · exact ⟨_, cap, e⟩
  have hk3 : Keep (fun i => W3.heap.size ≤ i ∨ i = z + 4) W (w9.setCell ⟨z + 4, 0, none⟩ v') := (hk2.more (S' := fun i => W3.heap.size ≤ i ∨ i = z + 4) (fun i _ h => .inl h)).setCell _ _ (fun _ => .inr rfl)
  have hkq : Keep (fun i => i = z + 4) w9 (w9.setCell ⟨z + 4, 0, none⟩ v') := (Keep.refl _ _).setCell _ _ (fun _ => rfl)
  refine ⟨hb9.cell 0, hb9.frozen 0, A', c', hv', ⟨hk3.size, fun i o hB hi ho' => ?_⟩, ?_⟩
  · have hil : i < W.heap.size := (Array.getElem?_eq_some_iff.1 hi).1
    have hiq : i ≠ z + 4 := by omega
    refine (Below.heap_setCell w9 ⟨z + 4, 0, none⟩ v' i hiq).trans ?_
    have hir : some i ≠ (Value.slice A vals.length c).ownBlock := fun e => by
      rcases ho0.2 with ⟨e1, _⟩ | ⟨g', cap, cur, e1, _, hh, _⟩
      · rw [e1] at e
        simp [Value.ownBlock] at e
      · rw [e1] at e
        have : i = g' := by simpa [Value.ownBlock] using e
        subst this
        rw [hi] at hh
        injection hh with hh
        subst hh
        cases ho'
    exact ((hg.block i (by simp; omega) hir).trans (hal.block i hil)).trans hi
  · have el : (vals ++ [x]).length = vals.length + 1 := by simp
    have em : (vals ++ [x]).map iv = vals.map iv ++ [.int .i64 x] := by simp [iv]
    refine ⟨h.keep.trans hk3 (fun i hi h => h.elim (fun h => absurd hi (by omega)) (fun h => .inl h)), ⟨A', c', ?_, ?_⟩, hk3.blk h.ft (by omega)⟩
    · rw [el, ← hv']
      exact hb9.set_ 0 v'
    · rw [el, em, ← hv']
      exact hkq.own ho (fun g e => by have := (arown_lt ho g e).1; omega)
theorem fin_gen {w W W2 : World} {B rc D : Nat} {cs ds : Array Value} (hw : Below B w W) (hB : B ≤ rc) (hD : B ≤ D) (hr : Blk W rc 25 cs) (hK : W.heap[D]? = some (.deferred (some []))) (hk : Keep (fun k => k = rc) W W2) (hb : Blk W2 rc 25 ds) :
    W2.heap[D]? = some (.deferred (some [])) ∧ Blk (W2.putObj D (.deferred none)) rc 25 ds ∧ Below B w (W2.putObj D (.deferred none)) ∧
    (∀ (base n : Nat) (v : Value) (xs : List Value), W.ownsRow base 2 1 v n xs → (W2.putObj D (.deferred none)).ownsRow base 2 1 v n xs) := by
  have hne : rc ≠ D := by
    rintro rfl
    unfold Blk at hr
    rw [hr] at hK
    cases hK
  have hp : Keep (fun k => k = D) W2 (W2.putObj D (.deferred none)) := (Keep.refl _ _).grown (grownBy_putObj' _ D _) (fun k e _ => by injection e with e; exact e.symm)
  have hDl : D < W.heap.size := (Array.getElem?_eq_some_iff.1 hK).1
  have hs := hw.size
  have hKD := (hk.block D hDl (fun e => hne e.symm)).trans hK
  have hBW : B ≤ W.heap.size := by omega
  refine ⟨hKD, hp.blk hb (fun e => hne e), (hw.trans (hk.below hBW (fun i hi e => by omega))).trans (hp.below (by have := hk.size; omega) (fun i hi e => by omega)), fun base n v xs ho => ?_⟩
  have ho2 := hk.own ho (fun g e e2 => by
    subst e2
    rcases ho.2 with ⟨rfl, _⟩ | ⟨g', cap, cur, rfl, _, hh, _⟩
    · simp [Value.ownBlock] at e
    · have : g' = g := by simpa [Value.ownBlock] using e
      subst this
      exact Blk.ne_ (show Blk W g' 2 cur from hh) hr (by decide) rfl)
  exact own_turned (B := 0) ho2 (grownBy_putObj' W2 D (.deferred none)) (fun r e => by injection e with e; subst e; exact ⟨Nat.zero_le _, _, hKD, rfl⟩)

/-- What applied answers. -/
def ApA (gv ge : Nat → Int) (S : Option Addr) (n c N : Nat) (w : World) (e : Ending) (w' : World) : Prop :=
  ∃ v, e = .returned (.tuple #[v, .int .i64 (apE ge N)]) ∧ Below w.heap.size w w' ∧ (apE ge N ≠ 0 → v = .agg #[.int .i64 0, .slice none 0 0, .slice none 0 0]) ∧
    (apE ge N = 0 → ∃ A c', v = .agg #[.int .i64 1, .slice S n c, .slice A N c'] ∧ w'.ownsRow w.heap.size 2 1 (.slice A N c') N ((apL gv N).map iv))
end Go.Proofs.Ytkabdkblcgklmaa.sc

namespace Go.Proofs.Ytkabdkblcgklmaa.sc
open Go.RowKit Go.Proofs.Ytkabdkblcgklmaa.arr

section
attribute [local go_sem] Oper.semAt_some
set_option maxRecDepth 100000 in
set_option maxHeartbeats 4000000 in
theorem scapplied_any (gf : Nat) (cap : Array Value) (hgf : ∀ args w, (callFunc gf args).run Try.prog w = .ok (.enter gf args) w) (gv ge : Int → Int → Int) (S : Option Addr) (n c : Nat) (sh : List Int) (a b : AV) (p q : AP) (N : Nat) (w : World)
    (hok : okShape sh = true) (hN : prodI sh = (N : Int)) (hn : sh.length = n) (rs : Reads w w.heap.size 1 S n (sh.map iv)) (ea : AEl w a p) (eb : AEl w b q) (hel : ∀ i, i < N → elOk a i ∧ elOk b i)
    (hcall : ∀ (x y : Int) (W : World), InR x → InR y → Below w.heap.size w W → Calls Try.prog gf (#[pv x y] ++ cap) W fun e w' => e = .returned (.tuple #[.int .i64 (gv x y), .int .i64 (ge x y)]) ∧ Below W.heap.size W w') :
    Calls Try.prog 96 #[.func (.func gf) #[] cap, .slice S n c, .agg (arC a p), .agg (arC b q)] w (ApA (fun i => gv (elA a i) (elA b i)) (fun i => ge (elA a i) (elA b i)) S n c N w) := by
  obtain ⟨i0, hi, hz0, hz1, hz2⟩ := info_parts arInfoI64
  obtain ⟨gv', hgv⟩ : ∃ gv' : Nat → Int, (fun i => gv (elA a i) (elA b i)) = gv' := ⟨_, rfl⟩
  obtain ⟨ge', hge⟩ : ∃ ge' : Nat → Int, (fun i => ge (elA a i) (elA b i)) = ge' := ⟨_, rfl⟩
  have HGV : Hid (∀ i, gv (elA a i) (elA b i) = gv' i) := Lib.hid (fun i => by rw [← hgv])
  have HGE : Hid (∀ i, ge (elA a i) (elA b i) = ge' i) := Lib.hid (fun i => by rw [← hge])
  rw [hgv, hge]
  clear hgv hge
  have hN2 : (N : Int) ≤ 4096 := by rw [← hN]; exact (okShape_iff.1 hok).2.2
  have hfp : Fence.wide.fn 159 := trivial
  obtain ⟨z, hz⟩ : ∃ z, w.heap.size = z := ⟨_, rfl⟩
  obtain ⟨AC, hAC⟩ : ∃ AC, arC a p = AC := ⟨_, rfl⟩
  obtain ⟨BC, hBC⟩ : ∃ BC, arC b q = BC := ⟨_, rfl⟩
  have hAC2 : AC = #[.int .i64 a.kind, .slice p.A0 a.sh.length p.c0, .slice p.A1 a.el.length p.c1] := hAC.symm
  have hBC2 : BC = #[.int .i64 b.kind, .slice q.A0 b.sh.length q.c0, .slice q.A1 b.el.length q.c1] := hBC.symm
  generalize hka : a.kind = ka at hAC2
  generalize hsa : (Value.slice p.A0 a.sh.length p.c0) = sa at hAC2
  generalize hla : (Value.slice p.A1 a.el.length p.c1) = la at hAC2
  generalize hkb : b.kind = kb at hBC2
  generalize hsb : (Value.slice q.A0 b.sh.length q.c0) = sb at hBC2
  generalize hlb : (Value.slice q.A1 b.el.length q.c1) = lb at hBC2
  clear hka hsa hla hkb hsb hlb
  -- the world behind the boxes
  obtain ⟨W3, hW3⟩ : ∃ W3, ((((((((w.alloc (.cells #[.func (.func gf) #[] cap] 120)).alloc (.cells AC 25)).alloc (.cells BC 25)).alloc (.cells #[.int .i64 0, .slice none 0 0, .slice none 0 0] 25)).alloc (.cells #[.slice none 0 0] 23)).alloc (.cells #[.int .i64 0] 28)).alloc (.cells #[.slice S n c] 22)).alloc (.cells AC 25)).alloc (.cells BC 25) = W3 := ⟨_, rfl⟩
  have hb3 : Below w.heap.size w W3 := by
    rw [← hW3]
    exact (((((((((Below.refl _ w).alloc (Nat.le_refl _) _).alloc (by simp) _).alloc (by simp; omega) _).alloc (by simp; omega) _).alloc (by simp; omega) _).alloc (by simp; omega) _).alloc (by simp; omega) _).alloc (by simp; omega) _).alloc (by simp; omega) _
  have hs3 : W3.heap.size = z + 9 := by rw [← hW3, ← hz]; simp
  have kF : Blk W3 z 120 #[.func (.func gf) #[] cap] := by
    rw [← hW3, ← hz]
    exact ((((((((Blk.new w _ _).alloc _).alloc _).alloc _).alloc _).alloc _).alloc _).alloc _).alloc _
  have kR : Blk W3 (z + 3) 25 #[.int .i64 0, .slice none 0 0, .slice none 0 0] := by
    have h := (((((Blk.new (((w.alloc (.cells #[.func (.func gf) #[] cap] 120)).alloc (.cells AC 25)).alloc (.cells BC 25)) 25 #[.int .i64 0, .slice none 0 0, .slice none 0 0]).alloc (.cells #[.slice none 0 0] 23)).alloc (.cells #[.int .i64 0] 28)).alloc (.cells #[.slice S n c] 22)).alloc (.cells AC 25)).alloc (.cells BC 25)
    rw [hW3] at h
    simpa only [World.size_alloc, hz] using h
  have kE : Blk W3 (z + 4) 23 #[.slice none 0 0] := by
    have h := ((((Blk.new ((((w.alloc (.cells #[.func (.func gf) #[] cap] 120)).alloc (.cells AC 25)).alloc (.cells BC 25)).alloc (.cells #[.int .i64 0, .slice none 0 0, .slice none 0 0] 25)) 23 #[.slice none 0 0]).alloc (.cells #[.int .i64 0] 28)).alloc (.cells #[.slice S n c] 22)).alloc (.cells AC 25)).alloc (.cells BC 25)
    rw [hW3] at h
    simpa only [World.size_alloc, hz] using h
  have kT : Blk W3 (z + 5) 28 #[.int .i64 0] := by
    have h := (((Blk.new (((((w.alloc (.cells #[.func (.func gf) #[] cap] 120)).alloc (.cells AC 25)).alloc (.cells BC 25)).alloc (.cells #[.int .i64 0, .slice none 0 0, .slice none 0 0] 25)).alloc (.cells #[.slice none 0 0] 23)) 28 #[.int .i64 0]).alloc (.cells #[.slice S n c] 22)).alloc (.cells AC 25)).alloc (.cells BC 25)
    rw [hW3] at h
    simpa only [World.size_alloc, hz] using h
  have k6 : Blk W3 (z + 6) 22 #[.slice S n c] := by
    have h := ((Blk.new ((((((w.alloc (.cells #[.func (.func gf) #[] cap] 120)).alloc (.cells AC 25)).alloc (.cells BC 25)).alloc (.cells #[.int .i64 0, .slice none 0 0, .slice none 0 0] 25)).alloc (.cells #[.slice none 0 0] 23)).alloc (.cells #[.int .i64 0] 28)) 22 #[.slice S n c]).alloc (.cells AC 25)).alloc (.cells BC 25)
    rw [hW3] at h
    simpa only [World.size_alloc, hz] using h
  have k7 : Blk W3 (z + 7) 25 AC := by
    have h := (Blk.new (((((((w.alloc (.cells #[.func (.func gf) #[] cap] 120)).alloc (.cells AC 25)).alloc (.cells BC 25)).alloc (.cells #[.int .i64 0, .slice none 0 0, .slice none 0 0] 25)).alloc (.cells #[.slice none 0 0] 23)).alloc (.cells #[.int .i64 0] 28)).alloc (.cells #[.slice S n c] 22)) 25 AC).alloc (.cells BC 25)
    rw [hW3] at h
    simpa only [World.size_alloc, hz] using h
  have k8 : Blk W3 (z + 8) 25 BC := by
    have h := Blk.new ((((((((w.alloc (.cells #[.func (.func gf) #[] cap] 120)).alloc (.cells AC 25)).alloc (.cells BC 25)).alloc (.cells #[.int .i64 0, .slice none 0 0, .slice none 0 0] 25)).alloc (.cells #[.slice none 0 0] 23)).alloc (.cells #[.int .i64 0] 28)).alloc (.cells #[.slice S n c] 22)).alloc (.cells AC 25)) 25 BC
    rw [hW3] at h
    simpa only [World.size_alloc, hz] using h
  have HPRE : Hid (∀ W, Keep (fun i => i = z + 4 ∨ i = z + 5) W3 W → Below w.heap.size w W ∧ PrPre (z + 6) (z + 7) (z + 8) S c sh a b p q W) := Lib.hid (fun W hk => by
    have hb := hb3.trans (hk.below (B := w.heap.size) hb3.size (fun i hi e => by omega))
    refine ⟨hb, ?_, ?_, ?_, ?_, ea.below hb, eb.below hb⟩
    · rw [hn]; exact hk.blk k6 (by omega)
    · rw [hAC]; exact hk.blk k7 (by omega)
    · rw [hBC]; exact hk.blk k8 (by omega)
    · rw [hn]; exact (rs.below hb).more hb.size)
  have HF3 := Lib.hid kF
  have HR3 := Lib.hid kR
  have H0 : Hid (ApI W3 z [] 0 W3) := Lib.hid ⟨Keep.refl _ _, ⟨none, 0, kE, World.ownsRow_nil _ _ _ _⟩, kT⟩
  have HS3 := Lib.hid hs3
  have HZ := Lib.hid hz
  have HB3 := Lib.hid hb3
  have hMV := pairs_moves 6 (by omega) (z + 6) (z + 7) (z + 8) S c sh a b p q N hok hN hel W3
  have HEL : Hid (∀ i, i < N → InR (elA a i) ∧ InR (elA b i)) := Lib.hid (fun i h => ⟨elA_in ea.f1 (hel i h).1, elA_in eb.f1 (hel i h).2⟩)
  have HCL := Lib.hid hcall
  rw [hAC, hBC]
  have HW3 := Lib.hid hW3
  clear hb3 kF kR kE kT k6 k7 k8 ea eb rs hel hcall hok hN hn hW3 hs3 hz
  refine (callsIn_wide (n := 7)).1 ?_
  refine callsIn_of_wp_marks Try.func96 rfl trivial ?_
  simp only [Try.ntmps96, List.size_toArray, List.length_cons, List.length_nil, Nat.reduceAdd, Nat.reduceSub, Array.replicate_succ, Array.replicate_zero, List.push_toArray, List.append_toArray, List.nil_append, List.cons_append]
  have hAC3 := hAC2
  have hBC3 := hBC2
  clear hAC hBC
  subst hAC2
  subst hBC2
  gi_wp2
  refine wpIn_scope_wide ?_
  gi_wp2
  refine wpIn_label ?_
  gi_wp2_with (gi_at_call 159; refine (callsIn_wide.2 (scpairs_any _ _ _ _ _ _ _ _ rfl rfl)).mono ?_; rintro e w7 ⟨rfl, hw7⟩)
  obtain rfl : W3 = w7 := by rw [← HW3.out, ← hw7]
  clear hw7
  have hz := HZ.out
  rw [hz] at *
  simp only [Nat.add_assoc, Nat.reduceAdd]
  clear hz
  refine wpIn_rangeFunc_movesV rfl (by omega) (gf := 197) (lb := #[.pointer (some ⟨z + 6, 0, none⟩), .pointer (some ⟨z + 7, 0, none⟩), .pointer (some ⟨z + 8, 0, none⟩)]) rfl trivial (enters_of Try.func197 (by kernel_rfl) rfl)
    hMV (Below.refl _ _) (fun _ _ => rfl)
    (fun k W => ApI W3 z (apL gv' k) 0 W ∧ apE ge' k = 0 ∧ k ≤ N)
    (fun k _ W => ApI W3 z (apL gv' k) 0 W ∧ apE ge' k = 0 ∧ k < N)
    (fun W => ApI W3 z (apL gv' N) 0 W ∧ apE ge' N = 0)
    (fun cc W => cc = .exit 0 ∧ apE ge' N ≠ 0 ∧ ∃ vals, ApI W3 z vals (apE ge' N) W)
    (fun k W W' row hs hg hr => ⟨hs.1.own hg hr, hs.2⟩)
    (fun _ W W' row hs hg hr => ⟨hs.1.own hg hr, hs.2⟩)
    (fun cc W W' row hs hg hr => by
      obtain ⟨h1, h2, vals, h3⟩ := hs
      exact ⟨h1, h2, vals, h3.own hg hr⟩)
    (fun k W hs => (HPRE.out W hs.1.keep).2)
    (fun k W W' hs hx l o ho hc => by
      rcases hx with ⟨_, _, hb⟩ | ⟨_, rfl⟩
      · exact (hb.block l (Array.getElem?_eq_some_iff.1 ho).1).trans ho
      · exact ho)
    (fun k x W W' hs hx => ⟨hs.1.below hx.2, hs.2.1, hx.1⟩)
    (fun k W W' hs hx => by
      obtain ⟨rfl, rfl⟩ := hx
      exact ⟨hs.1, hs.2.1⟩)
    ⟨H0.out, rfl, Nat.zero_le _⟩
    (fun k _ a' W => ∃ rb, W3.heap.size ≤ rb ∧ a' = { tmps := #[.func (.func gf) #[] cap, .slice S n c, .agg #[.int .i64 ka, sa, la], .agg #[.int .i64 kb, sb, lb], .pointer (some ⟨z, 0, none⟩), undef, .pointer (some ⟨z + 1, 0, none⟩), .pointer (some ⟨z + 2, 0, none⟩), .pointer (some ⟨z + 3, 0, none⟩), .int .i64 0, .pointer (some ⟨z + 4, 0, none⟩), .pointer (some ⟨z + 5, 0, none⟩), .pointer (some ⟨rb, 0, none⟩), undef, undef, .slice S n c, .agg #[.int .i64 ka, sa, la], .agg #[.int .i64 kb, sb, lb], .func (.func 197) #[] #[.pointer (some ⟨z + 6, 0, none⟩), .pointer (some ⟨z + 7, 0, none⟩), .pointer (some ⟨z + 8, 0, none⟩)], .agg #[.int .i64 (elA a k), .int .i64 (elA b k)], undef, undef, undef, undef, undef, undef, undef, undef, undef, undef, undef, undef, undef, undef, undef, undef, undef, undef, undef, undef], defers := [] } ∧ Blk W rb 123 #[.int .i64 (elA a k), .int .i64 (elA b k)] ∧ ApI W3 z (apL gv' k) 0 W ∧ apE ge' k = 0 ∧ k < N)
    (fun k x a' _ W W' row hs hg hr => by
      obtain ⟨rb, h1, h2, h3, h4, h5⟩ := hs
      exact ⟨rb, h1, h2, blk_turned h3 hg hr, h4.own hg hr, h5⟩)
    ?assign ?body ?done ?stop
  case assign =>
    intro l k x W K hI hK
    have HK := Lib.hid hK
    have HI := Lib.hid hI
    clear hK hI
    unfold prAt pv
    gi_wp2
    exact HK.out _ _ (keeps_below _ (alloc_below _ _)) ⟨W.heap.size, HI.out.1.keep.size, rfl, Blk.new W _ _, HI.out.1.alloc _, HI.out.2⟩
  case body =>
    rintro l k x a' W ⟨rb, hrb, rfl, hbx, hI, hE, hkN⟩
    have cF := (hI.keep.blk HF3.out (by omega)).cell 0
    have p0 := hbx.cell 0
    have p1 := hbx.cell 1
    have hin := HEL.out k hkN
    have HC := Lib.hid (HCL.out (elA a k) (elA b k) W hin.1 hin.2 (HPRE.out W hI.keep).1)
    rw [HGV.out k, HGE.out k] at HC
    generalize elA a k = xa at *
    generalize elA b k = xb at *
    have HI := Lib.hid hI
    have HEK := Lib.hid hE
    have HKN := Lib.hid hkN
    have HXS := Lib.hid (apL_succ gv' k)
    have HXL := Lib.hid (apL_length gv' k)
    have HST := Lib.hid (fun h => apE_step hE h hkN)
    have HNX := Lib.hid (fun h => apE_next (g := ge') hE h)
    generalize gv' k = v at *
    generalize ge' k = e at *
    clear hI hE hkN hbx hin
    by_cases he : e = 0
    · subst he
      have hkb : k ≤ 4096 := by have := HKN.out; omega
      gi_wp2_with (first
        | (refine ⟨trivial, (CallsIn.inRound l (callsIn_wide.2 HC.out)).mono ?_⟩; rintro e' w9 ⟨rfl, b9⟩
           have hI9 := HI.out.below b9
           obtain ⟨A9, c9, he9, ho9⟩ := hI9.el
           have HFIN := Lib.hid (fun v' w10 (ho : World.ownsRow w10 W3.heap.size 2 1 v' ((apL gv' k).length + 1) ((apL gv' k).map iv ++ [.int .i64 v])) (hg : (w9.alloc (.cells #[.int .i64 v] 2)).grownBy w10 (Value.slice A9 (apL gv' k).length c9).ownBlock) => hI9.push (by have := HS3.out; omega) he9 ho9 v v' ho hg)
           simp only [HXL.out] at HFIN
           rw [HXL.out] at he9 ho9
           have g0 := he9.cell 0
           have hsz9 : W3.heap.size ≤ w9.heap.size := hI9.keep.size
           have HO1 := Lib.hid (arown_stay ho9 (alloc_below w9 (.cells #[.int .i64 v] 2)) (fun g hg => (arown_lt ho9 g hg).2))
           have HNEW : Hid (∀ i u, ([.int .i64 v] : List Value)[i]? = some u → (w9.alloc (.cells #[.int .i64 v] 2)).cell? ((⟨w9.heap.size, 0, none⟩ : Addr).add i) = some u) := Lib.hid (fun i u hu => by
             rw [Addr.add_mid, Nat.zero_add, (Blk.new w9 2 _).cell i, List.getElem?_toArray]
             exact hu)
           have HB9 := Lib.hid b9
           clear hI9 he9 ho9 b9)
        | (gi_at_builtin; refine wpListIn_append_own _ rfl _ _ 23 rfl W3.heap.size 2 i0 (.int .i64 0) 1 8 Try.underlying23 hi hz0 hz1 hz2 rfl (by decide) _ k _ rfl HO1.out ⟨w9.heap.size, 0, none⟩ 1 1 [.int .i64 v] rfl rfl HNEW.out (by intro u hu; rw [List.mem_singleton] at hu; subst hu; rfl) (by unfold maxLen; omega) (by omega) (by simp; omega) ?_; intro v' w10 hown hgrow _; obtain ⟨cq9, fq9, A', c', rfl, hf9⟩ := HFIN.out v' w10 hown hgrow; have HF9 := Lib.hid hf9; clear hown hgrow hf9))
      exact ⟨keeps_on (keeps_below _ HB9.out) HF9.out.1, by rw [HXS.out]; exact HF9.out.2, HNX.out trivial, HKN.out⟩
    · have hne : (e != 0) = true := by simp [he]
      have HE := Lib.hid he
      clear he
      gi_wp2_with (refine ⟨trivial, (CallsIn.inRound l (callsIn_wide.2 HC.out)).mono ?_⟩; rintro e' w9 ⟨rfl, b9⟩; have hI9 := HI.out.below b9; have g0 := hI9.ft.cell 0; have g1 := hI9.ft.frozen 0; have HI9 := Lib.hid hI9; have HB9 := Lib.hid b9; clear hI9 b9)
      have h := HST.out HE.out
      refine ⟨keeps_on (keeps_below _ HB9.out) (keeps_set (by have := HS3.out; omega) _), rfl, ?_, apL gv' k, ?_⟩
      · rw [h]; exact HE.out
      · rw [h]; exact HI9.out.fail (by have := HS3.out; omega) _
  case done =>
    rintro D W hD ⟨hI, hE⟩ hK
    have hB := (HPRE.out W hI.keep).1
    obtain ⟨A9, c9, he9, ho9⟩ := hI.el
    rw [apL_length] at he9 ho9
    have g0 := he9.cell 0
    have t0 := hI.ft.cell 0
    have hR := hI.keep.blk HR3.out (by omega)
    have r0 := hR.cell 0
    have r1 := hR.cell 1
    have r2 := hR.cell 2
    have f0 := hR.frozen 0
    have f1 := hR.frozen 1
    have f2 := hR.frozen 2
    have HE := Lib.hid (fin_gen (rc := z + 3) hB (by have := HZ.out; omega) (by have := HB3.out.size; omega) hR hK (arkeep_three W (z + 3) (.int .i64 1) (.slice S n c) (.slice A9 N c9)) (arblk_three (.int .i64 1) (.slice S n c) (.slice A9 N c9) hR))
    have HO9 := Lib.hid (arown_mono ho9 (show w.heap.size ≤ W3.heap.size from HB3.out.size))
    have HEN := Lib.hid hE
    clear hB he9 ho9 hI hR hE
    gi_wp2
    refine ⟨by simp, .inl ⟨_, _, rfl, run_takeDeferred HE.out.1, ?_⟩⟩
    refine ⟨_, results_arr2 rfl rfl rfl HE.out.2.1, _, by rw [HEN.out]; rfl, HE.out.2.2.1, fun h => absurd HEN.out h, fun _ => ⟨A9, c9, rfl, HE.out.2.2.2 _ _ _ _ HO9.out⟩⟩
  case stop =>
    rintro D c' W hD ⟨rfl, hE, vals, hI⟩ hK
    have hB := (HPRE.out W hI.keep).1
    have t0 := hI.ft.cell 0
    have hR := hI.keep.blk HR3.out (by omega)
    have r0 := hR.cell 0
    have r1 := hR.cell 1
    have r2 := hR.cell 2
    have f0 := hR.frozen 0
    have f1 := hR.frozen 1
    have f2 := hR.frozen 2
    have HE := Lib.hid (fin_gen (W2 := World.drew (((W.setCell ⟨z + 3, 0, none⟩ (.int .i64 0)).setCell ⟨z + 3, 1, none⟩ (.slice none 0 0)).setCell ⟨z + 3, 2, none⟩ (.slice none 0 0))) (rc := z + 3) hB (by have := HZ.out; omega) (by have := HB3.out.size; omega) hR hK ((arkeep_three W (z + 3) (.int .i64 0) (.slice none 0 0) (.slice none 0 0)).drew) ((arblk_three (.int .i64 0) (.slice none 0 0) (.slice none 0 0) hR).drew))
    obtain ⟨E, hEE⟩ : ∃ E, apE ge' N = E := ⟨_, rfl⟩
    rw [hEE] at t0 hE
    have hne : (E != 0) = true := by simp [hE]
    have HEE := Lib.hid hEE
    have HEN := Lib.hid hE
    clear hB hI hR hE hEE
    gi_wp2
    gi_region
    gi_wp2
    refine ⟨by simp, .inl ⟨_, _, rfl, run_takeDeferred HE.out.1, ?_⟩⟩
    exact ⟨_, results_arr2 rfl rfl rfl HE.out.2.1, _, by rw [HEE.out]; rfl, HE.out.2.2.1, fun _ => rfl, fun h => absurd (HEE.out.symm.trans h) HEN.out⟩
end
end Go.Proofs.Ytkabdkblcgklmaa.sc

namespace Go.Proofs.Ytkabdkblcgklmaa.sc
open Go.RowKit Go.Proofs.Ytkabdkblcgklmaa.arr

def mixG (f : Int) (a b : AV) (i : Nat) : Int := mixE f a.kind b.kind (elA a i) (elA b i)
def mixW (f : Int) (a b : AV) (i : Nat) : Int := mixV f a.kind b.kind (elA a i) (elA b i)
def twoN (a b : AV) : Nat := (prodI (togL a.sh b.sh)).toNat
def twoME (f : Int) (a b : AV) : Int := if binB f = false then 2 else if (okA a && okA b) = false then 110 else if togE a.sh b.sh ≠ 0 then togE a.sh b.sh else if kindsE f a.kind b.kind ≠ 0 then kindsE f a.kind b.kind else apE (mixG f a b) (twoN a b)
def twoMA (f : Int) (a b : AV) : AV := if twoME f a b ≠ 0 then ⟨0, [], []⟩ else ⟨1, togL a.sh b.sh, apL (mixW f a b) (twoN a b)⟩
/-- What a map answers. -/
def MapA (E : Int) (x : AV) (w : World) (e : Ending) (w' : World) : Prop := ∃ v, e = .returned (.tuple #[v, .int .i64 E]) ∧ GiveA w w' v x
theorem noAV_own (B : Nat) (W : World) : AOwn B W ⟨0, [], []⟩ ⟨none, 0, none, 0⟩ := ⟨World.ownsRow_nil _ _ _ _, World.ownsRow_nil _ _ _ _⟩
theorem twoMA.no {f : Int} {a b : AV} {E : Int} {w w' : World} (h : twoME f a b = E) (h0 : E ≠ 0) (hb : Below w.heap.size w w') : MapA (twoME f a b) (twoMA f a b) w (.returned (.tuple #[.agg #[.int .i64 0, .slice none 0 0, .slice none 0 0], .int .i64 E])) w' := by
  unfold twoMA MapA
  rw [h, if_pos h0]
  exact ⟨_, rfl, ⟨none, 0, none, 0⟩, rfl, noAV_own _ _, hb⟩
theorem okA_parts {a : AV} (h : okA a = true) : okShape a.sh = true ∧ (a.el.length : Int) = prodI a.sh := by
  unfold okA at h
  rw [Bool.and_eq_true, Bool.and_eq_true, decide_eq_true_eq] at h
  exact ⟨h.1, h.2.1⟩
theorem tog_ok {a b : AV} (ha : okA a = true) (hb : okA b = true) (h : togE a.sh b.sh = 0) : okShape (togL a.sh b.sh) = true ∧ prodI (togL a.sh b.sh) = (twoN a b : Int) ∧ ∀ i, i < twoN a b → elOk a i ∧ elOk b i := by
  obtain ⟨a1, a2⟩ := okA_parts ha
  obtain ⟨b1, b2⟩ := okA_parts hb
  have hl : togL a.sh b.sh = if a.sh.length = 0 then b.sh else a.sh := by unfold togL; rw [h, if_neg (by decide)]
  have hok : okShape (togL a.sh b.sh) = true := by rw [hl]; split <;> assumption
  have hN : prodI (togL a.sh b.sh) = (twoN a b : Int) := by
    unfold twoN
    have := (prodI_four (okShape_iff.1 hok).2.1 (okShape_iff.1 hok).1).1
    omega
  refine ⟨hok, hN, fun i hi => ?_⟩
  have hE := h
  unfold togE at hE
  rw [a1, b1] at hE
  rw [if_neg (by decide)] at hE
  have hiN : (i : Int) < prodI (togL a.sh b.sh) := by rw [hN]; omega
  rw [hl] at hiN
  unfold elOk
  by_cases ha0 : a.sh.length = 0
  · have ea : a.sh = [] := List.eq_nil_of_length_eq_zero ha0
    rw [if_pos ha0] at hiN ⊢
    rw [ea] at a2
    have a3 : prodI [] = 1 := rfl
    refine ⟨by omega, ?_⟩
    split
    · rename_i hb0
      have eb : b.sh = [] := List.eq_nil_of_length_eq_zero hb0
      rw [eb] at b2
      omega
    · omega
  · rw [if_neg ha0] at hiN ⊢
    refine ⟨by omega, ?_⟩
    split
    · rename_i hb0
      have eb : b.sh = [] := List.eq_nil_of_length_eq_zero hb0
      rw [eb] at b2
      have a3 : prodI [] = 1 := rfl
      omega
    · rename_i hb0
      rw [if_neg (fun h => h.elim ha0 hb0)] at hE
      have hab : a.sh = b.sh := by
        by_cases hlen : a.sh.length = b.sh.length
        · rw [if_neg (by simp [hlen])] at hE
          by_cases he : a.sh = b.sh
          · exact he
          · rw [if_pos he] at hE
            omega
        · rw [if_pos hlen] at hE
          omega
      rw [hab] at hiN
      omega

theorem blk_n2 (w : World) (a : Obj) (t : TypeId) (cs : Array Value) : Blk ((w.alloc a).alloc (.cells cs t)) (w.heap.size + 1) t cs := by
  have := Blk.new (w.alloc a) t cs
  rwa [World.size_alloc] at this
theorem blk_n3 (w : World) (a b : Obj) (t : TypeId) (cs : Array Value) : Blk (((w.alloc a).alloc b).alloc (.cells cs t)) (w.heap.size + 1 + 1) t cs := by
  have := Blk.new ((w.alloc a).alloc b) t cs
  rwa [World.size_alloc, World.size_alloc] at this
theorem below_n2 (w : World) (a b : Obj) : Below w.heap.size w ((w.alloc a).alloc b) := (alloc_below w a).alloc (by simp) _
theorem below_n3 (w : World) (a b c : Obj) : Below w.heap.size w (((w.alloc a).alloc b).alloc c) := (below_n2 w a b).alloc (by simp; omega) _
/-- MapTwo's boxes: both arrays, and the result. -/
structure MtI (w : World) (a b : AV) (p q : AP) (W : World) : Prop where
  x : Blk W w.heap.size 25 (arC a p)
  y : Blk W (w.heap.size + 1) 25 (arC b q)
  r : Blk W (w.heap.size + 1 + 1) 25 #[.int .i64 0, .slice none 0 0, .slice none 0 0]
  fb : Below w.heap.size w W
  ea : AEl W a p
  eb : AEl W b q
theorem MtI.below {w W W' : World} {a b : AV} {p q : AP} (h : MtI w a b p q W) (hb : Below W.heap.size W W') : MtI w a b p q W' :=
  ⟨h.x.below hb h.x.lt, h.y.below hb h.y.lt, h.r.below hb h.r.lt, h.fb.trans (hb.mono h.fb.size), h.ea.below hb, h.eb.below hb⟩
theorem MtI.start {w : World} {a b : AV} {p q : AP} (ea : AEl w a p) (eb : AEl w b q) : MtI w a b p q (((w.alloc (.cells (arC a p) 25)).alloc (.cells (arC b q) 25)).alloc (.cells #[.int .i64 0, .slice none 0 0, .slice none 0 0] 25)) :=
  ⟨((Blk.new w _ _).alloc _).alloc _, (blk_n2 w _ _ _).alloc _, blk_n3 w _ _ _ _, below_n3 _ _ _ _, ea.below (below_n3 _ _ _ _), eb.below (below_n3 _ _ _ _)⟩
theorem MtI.cells {w W : World} {k k2 : Int} {sh el sh2 el2 : List Int} {A0 A1 B0 B1 : Option Addr} {c0 c1 d0 d1 : Nat} (h : MtI w ⟨k, sh, el⟩ ⟨k2, sh2, el2⟩ ⟨A0, c0, A1, c1⟩ ⟨B0, d0, B1, d1⟩ W) :
    (W.cell? ⟨w.heap.size, 0, none⟩ = some (.int .i64 k) ∧ W.cell? ⟨w.heap.size, 1, none⟩ = some (.slice A0 sh.length c0) ∧ W.cell? ⟨w.heap.size, 2, none⟩ = some (.slice A1 el.length c1)) ∧
    (W.cell? ⟨w.heap.size + 1, 0, none⟩ = some (.int .i64 k2) ∧ W.cell? ⟨w.heap.size + 1, 1, none⟩ = some (.slice B0 sh2.length d0) ∧ W.cell? ⟨w.heap.size + 1, 2, none⟩ = some (.slice B1 el2.length d1)) ∧
    (W.cell? ⟨w.heap.size + 1 + 1, 0, none⟩ = some (.int .i64 0) ∧ W.cell? ⟨w.heap.size + 1 + 1, 1, none⟩ = some (.slice none 0 0) ∧ W.cell? ⟨w.heap.size + 1 + 1, 2, none⟩ = some (.slice none 0 0)) ∧
    (W.frozen? ⟨w.heap.size + 1 + 1, 0, none⟩ = false ∧ W.frozen? ⟨w.heap.size + 1 + 1, 1, none⟩ = false ∧ W.frozen? ⟨w.heap.size + 1 + 1, 2, none⟩ = false) :=
  ⟨⟨h.x.cell 0, h.x.cell 1, h.x.cell 2⟩, ⟨h.y.cell 0, h.y.cell 1, h.y.cell 2⟩, ⟨h.r.cell 0, h.r.cell 1, h.r.cell 2⟩, h.r.frozen 0, h.r.frozen 1, h.r.frozen 2⟩
theorem MtI.fin {w W : World} {a b : AV} {p q : AP} (h : MtI w a b p q W) (x y z : Value) : Below w.heap.size w (((W.setCell ⟨w.heap.size + 1 + 1, 0, none⟩ x).setCell ⟨w.heap.size + 1 + 1, 1, none⟩ y).setCell ⟨w.heap.size + 1 + 1, 2, none⟩ z) :=
  h.fb.trans ((arkeep_three W _ x y z).below h.fb.size (fun i hi e => by omega))

theorem maptwo1_any (gv : Nat) (cap : Array Value) (hgf : ∀ args w, (callFunc gv args).run Try.prog w = .ok (.enter gv args) w) (x y V E : Int) (g : Nat) (w : World) (hx : Blk w g 72 #[.func (.func gv) #[] cap])
    (h : ∀ W, Below w.heap.size w W → Calls Try.prog gv (#[.int .i64 x, .int .i64 y] ++ cap) W fun e w' => e = .returned (.tuple #[.int .i64 V, .int .i64 E]) ∧ Below W.heap.size W w') :
    Calls Try.prog 97 #[pv x y, .pointer (some ⟨g, 0, none⟩)] w fun e w' => e = .returned (.tuple #[.int .i64 V, .int .i64 E]) ∧ Below w.heap.size w w' := by
  have c0 := (hx.alloc (.cells #[.int .i64 x, .int .i64 y] 123)).cell 0
  have H := Lib.hid (h (w.alloc (.cells #[.int .i64 x, .int .i64 y] 123)) (alloc_below _ _))
  clear hx h
  go_enter Try.func97, Try.ntmps97
  go_wp2_with ((with_reducible refine H.out.mono ?_); rintro e w2 ⟨rfl, b2⟩)
  go_ret2
  exact ⟨rfl, below_on (alloc_below _ _) b2⟩
end Go.Proofs.Ytkabdkblcgklmaa.sc

namespace Go.Proofs.Ytkabdkblcgklmaa.sc
open Go.RowKit Go.Proofs.Ytkabdkblcgklmaa.arr

set_option maxRecDepth 100000 in
set_option maxHeartbeats 4000000 in
theorem scmaptwo_any (f : Int) (a b : AV) (p q : AP) (w : World) (ea : AEl w a p) (eb : AEl w b q) :
    Calls Try.prog 51 #[.int .i64 f, .agg (arC a p), .agg (arC b q)] w (MapA (twoME f a b) (twoMA f a b) w) := by
  have HBN := Lib.hid (fun W => scbin_any f W)
  have HNO := Lib.hid (fun (E : Int) (h : twoME f a b = E) (h0 : E ≠ 0) (w' : World) (hb : Below w.heap.size w w') => twoMA.no h h0 hb)
  have HDEF : Hid (twoME f a b = if binB f = false then 2 else if (okA a && okA b) = false then 110 else if togE a.sh b.sh ≠ 0 then togE a.sh b.sh else if kindsE f a.kind b.kind ≠ 0 then kindsE f a.kind b.kind else apE (mixG f a b) (twoN a b)) := Lib.hid rfl
  have HMA : Hid (twoME f a b = 0 → twoMA f a b = ⟨1, togL a.sh b.sh, apL (mixW f a b) (twoN a b)⟩) := Lib.hid (fun h => by unfold twoMA; rw [h, if_neg (by decide)])
  have HTO := Lib.hid (fun ha hb h => tog_ok (a := a) (b := b) ha hb h)
  have M0 := Lib.hid (MtI.start ea eb)
  have HCA := Lib.hid (fun W (h : MtI w a b p q W) => archeck_any a p W h.ea)
  have HCB := Lib.hid (fun W (h : MtI w a b p q W) => archeck_any b q W h.eb)
  have HTG := Lib.hid (fun W (h : MtI w a b p q W) => sctog_any p.A0 q.A0 p.c0 q.c0 _ _ a.sh b.sh W rfl rfl h.ea.r0 h.eb.r0 h.ea.b0 h.eb.b0)
  have HMX := Lib.hid (fun W => scmixed_any f a.kind b.kind W)
  have hgm : ∀ args w, (callFunc (if a.kind = b.kind then 94 else 92) args).run Try.prog w = .ok (.enter (if a.kind = b.kind then 94 else 92) args) w := by
    split
    · exact enters_of Try.func94 (by kernel_rfl) rfl
    · exact enters_of Try.func92 (by kernel_rfl) rfl
  have HAP : Hid (∀ (W : World) (T : Option Addr) (n c N g g2 : Nat), MtI w a b p q W → okShape (togL a.sh b.sh) = true → prodI (togL a.sh b.sh) = (N : Int) → (togL a.sh b.sh).length = n → Reads W W.heap.size 1 T n ((togL a.sh b.sh).map iv) → (∀ i, i < N → elOk a i ∧ elOk b i) →
      Blk W g2 3 #[.int .i64 f] → Blk W g 72 #[.func (.func (if a.kind = b.kind then 94 else 92)) #[] #[.pointer (some ⟨g2, 0, none⟩)]] →
      Calls Try.prog 96 #[.func (.func 97) #[] #[.pointer (some ⟨g, 0, none⟩)], .slice T n c, .agg (arC a p), .agg (arC b q)] W (ApA (mixW f a b) (mixG f a b) T n c N W)) := Lib.hid (fun W T n c N g g2 hM h1 h2 h3 h4 h5 h6 h7 =>
    scapplied_any 97 #[.pointer (some ⟨g, 0, none⟩)] (enters_of Try.func97 (by kernel_rfl) rfl) (mixV f a.kind b.kind) (mixE f a.kind b.kind) T n c (togL a.sh b.sh) a b p q N W h1 h2 h3 h4 hM.ea hM.eb h5
      (fun x y W2 hx hy hb => maptwo1_any _ _ hgm x y _ _ g W2 (h7.below hb h7.lt) (fun W3 hb3 => mix_any f a.kind b.kind x y hx hy g2 W3 ((h6.below hb h6.lt).below hb3 (h6.below hb h6.lt).lt))))
  clear ea eb hgm
  obtain ⟨k, sh, el⟩ := a
  obtain ⟨k2, sh2, el2⟩ := b
  obtain ⟨A0, c0, A1, c1⟩ := p
  obtain ⟨B0, d0, B1, d1⟩ := q
  simp only at HDEF HMA HTO HTG HMX HAP
  unfold arC at HCA HCB HAP ⊢
  simp only at HCA HCB HAP ⊢
  have HCE : ∀ x : AV, (okA x = true ∧ checkE x = 0) ∨ (okA x = false ∧ checkE x = 110) := fun x => by unfold checkE; cases okA x <;> simp
  generalize twoME f ⟨k, sh, el⟩ ⟨k2, sh2, el2⟩ = E at *
  generalize twoMA f ⟨k, sh, el⟩ ⟨k2, sh2, el2⟩ = R at *
  obtain ⟨⟨x0, x1, x2⟩, ⟨y0, y1, y2⟩, ⟨r0, r1, r2⟩, f0, f1, f2⟩ := M0.out.cells
  obtain ⟨W0, hW0⟩ : ∃ W0, ((w.alloc (.cells (arC ⟨k, sh, el⟩ ⟨A0, c0, A1, c1⟩) 25)).alloc (.cells (arC ⟨k2, sh2, el2⟩ ⟨B0, d0, B1, d1⟩) 25)).alloc (.cells #[.int .i64 0, .slice none 0 0, .slice none 0 0] 25) = W0 := ⟨_, rfl⟩
  rw [hW0] at M0 x0 x1 x2 y0 y1 y2 r0 r1 r2 f0 f1 f2
  unfold arC at hW0
  simp only at hW0
  cases hbf : binB f
  · rw [hbf] at HBN
    have HN := Lib.hid (HNO.out 2 (HDEF.out.trans (by rw [hbf, if_pos rfl])) (by decide))
    have HE : Hid (E = 2) := Lib.hid (HDEF.out.trans (by rw [hbf, if_pos rfl]))
    clear HNO HDEF HMA HTO HCA HCB HTG HMX HAP HCE hbf
    go_enter Try.func51, Try.ntmps51
    go_wp2_with (first
      | (go_at_call 52; refine (HBN.out _).mono ?_; rintro e w1 ⟨rfl, b1⟩; have M1 := Lib.hid (M0.out.below b1); clear b1 x0 x1 x2 y0 y1 y2 r0 r1 r2 f0 f1 f2; obtain ⟨⟨x0, x1, x2⟩, ⟨y0, y1, y2⟩, ⟨r0, r1, r2⟩, f0, f1, f2⟩ := M1.out.cells))
    refine bodyPost_ret (results_arr2 rfl rfl rfl (arblk_three _ _ _ M1.out.r)) rfl ?_
    exact HN.out _ (M1.out.fin _ _ _)
  rw [hbf] at HBN HDEF
  rw [if_neg (by decide)] at HDEF
  rcases HCE ⟨k, sh, el⟩ with ⟨oa, ca⟩ | ⟨oa, ca⟩
  case inr =>
    rw [ca] at HCA
    have HN := Lib.hid (HNO.out 110 (HDEF.out.trans (by rw [oa, Bool.false_and, if_pos rfl])) (by decide))
    clear HNO HDEF HMA HTO HCB HTG HMX HAP HCE hbf oa ca
    go_enter Try.func51, Try.ntmps51
    go_wp2_with (first
      | (go_at_call 21; refine (HCA.out _ M1.out).mono ?_; rintro e w2 ⟨rfl, b2⟩; have M2 := Lib.hid (M1.out.below b2); clear b2 x0 x1 x2 y0 y1 y2 r0 r1 r2 f0 f1 f2; obtain ⟨⟨x0, x1, x2⟩, ⟨y0, y1, y2⟩, ⟨r0, r1, r2⟩, f0, f1, f2⟩ := M2.out.cells)
      | (go_at_call 52; refine (HBN.out _).mono ?_; rintro e w1 ⟨rfl, b1⟩; have M1 := Lib.hid (M0.out.below b1); clear b1 x0 x1 x2 y0 y1 y2 r0 r1 r2 f0 f1 f2; obtain ⟨⟨x0, x1, x2⟩, ⟨y0, y1, y2⟩, ⟨r0, r1, r2⟩, f0, f1, f2⟩ := M1.out.cells))
    refine bodyPost_ret (results_arr2 rfl rfl rfl (arblk_three _ _ _ M2.out.r)) rfl ?_
    exact HN.out _ (M2.out.fin _ _ _)
  rw [ca] at HCA
  rw [oa, Bool.true_and] at HDEF
  rcases HCE ⟨k2, sh2, el2⟩ with ⟨ob, cb⟩ | ⟨ob, cb⟩
  case inr =>
    rw [cb] at HCB
    have HN := Lib.hid (HNO.out 110 (HDEF.out.trans (by rw [ob, if_pos rfl])) (by decide))
    clear HNO HDEF HMA HTO HTG HMX HAP HCE hbf oa ca ob cb
    go_enter Try.func51, Try.ntmps51
    go_wp2_with (first
      | (go_at_call 21; (have l0 := M2.out; clear l0); refine (HCB.out _ M2.out).mono ?_; rintro e w3 ⟨rfl, b3⟩; have M3 := Lib.hid (M2.out.below b3); clear b3 x0 x1 x2 y0 y1 y2 r0 r1 r2 f0 f1 f2; obtain ⟨⟨x0, x1, x2⟩, ⟨y0, y1, y2⟩, ⟨r0, r1, r2⟩, f0, f1, f2⟩ := M3.out.cells)
      | (go_at_call 21; refine (HCA.out _ M1.out).mono ?_; rintro e w2 ⟨rfl, b2⟩; have M2 := Lib.hid (M1.out.below b2); clear b2 x0 x1 x2 y0 y1 y2 r0 r1 r2 f0 f1 f2; obtain ⟨⟨x0, x1, x2⟩, ⟨y0, y1, y2⟩, ⟨r0, r1, r2⟩, f0, f1, f2⟩ := M2.out.cells)
      | (go_at_call 52; refine (HBN.out _).mono ?_; rintro e w1 ⟨rfl, b1⟩; have M1 := Lib.hid (M0.out.below b1); clear b1 x0 x1 x2 y0 y1 y2 r0 r1 r2 f0 f1 f2; obtain ⟨⟨x0, x1, x2⟩, ⟨y0, y1, y2⟩, ⟨r0, r1, r2⟩, f0, f1, f2⟩ := M1.out.cells))
    refine bodyPost_ret (results_arr2 rfl rfl rfl (arblk_three _ _ _ M3.out.r)) rfl ?_
    exact HN.out _ (M3.out.fin _ _ _)
  rw [cb] at HCB
  rw [ob, if_neg (by decide)] at HDEF
  have HTO := Lib.hid (HTO.out oa ob)
  clear hbf oa ca ob cb HCE
  obtain ⟨TE, hTE⟩ : ∃ TE, togE sh sh2 = TE := ⟨_, rfl⟩
  unfold TogA at HTG
  rw [hTE] at HTG HDEF HTO
  by_cases h0 : TE = 0
  case neg =>
    have HN := Lib.hid (HNO.out TE (HDEF.out.trans (by rw [if_pos h0])) h0)
    have d0 : (TE != 0) = true := by simp [h0]
    clear HNO HDEF HMA HTO HMX HAP hTE h0
    go_enter Try.func51, Try.ntmps51
    go_wp2_with (first
      | (go_at_call 95; refine (HTG.out _ M3.out).mono ?_; rintro e w4 ⟨T, tc, rfl, o4, b4⟩; have M4 := Lib.hid (M3.out.below b4); have O4 := Lib.hid (arown_mono o4 (M3.out.fb.size)); clear b4 o4 x0 x1 x2 y0 y1 y2 r0 r1 r2 f0 f1 f2; obtain ⟨⟨x0, x1, x2⟩, ⟨y0, y1, y2⟩, ⟨r0, r1, r2⟩, f0, f1, f2⟩ := M4.out.cells)
      | (go_at_call 21; (have l0 := M2.out; clear l0); refine (HCB.out _ M2.out).mono ?_; rintro e w3 ⟨rfl, b3⟩; have M3 := Lib.hid (M2.out.below b3); clear b3 x0 x1 x2 y0 y1 y2 r0 r1 r2 f0 f1 f2; obtain ⟨⟨x0, x1, x2⟩, ⟨y0, y1, y2⟩, ⟨r0, r1, r2⟩, f0, f1, f2⟩ := M3.out.cells)
      | (go_at_call 21; refine (HCA.out _ M1.out).mono ?_; rintro e w2 ⟨rfl, b2⟩; have M2 := Lib.hid (M1.out.below b2); clear b2 x0 x1 x2 y0 y1 y2 r0 r1 r2 f0 f1 f2; obtain ⟨⟨x0, x1, x2⟩, ⟨y0, y1, y2⟩, ⟨r0, r1, r2⟩, f0, f1, f2⟩ := M2.out.cells)
      | (go_at_call 52; refine (HBN.out _).mono ?_; rintro e w1 ⟨rfl, b1⟩; have M1 := Lib.hid (M0.out.below b1); clear b1 x0 x1 x2 y0 y1 y2 r0 r1 r2 f0 f1 f2; obtain ⟨⟨x0, x1, x2⟩, ⟨y0, y1, y2⟩, ⟨r0, r1, r2⟩, f0, f1, f2⟩ := M1.out.cells))
    refine bodyPost_ret (results_arr2 rfl rfl rfl (arblk_three _ _ _ M4.out.r)) rfl ?_
    exact HN.out _ (M4.out.fin _ _ _)
  subst h0
  rw [if_neg (by decide)] at HDEF
  obtain ⟨hTok, hTN, hTe⟩ := HTO.out rfl
  obtain ⟨KE, hKE⟩ : ∃ KE, kindsE f k k2 = KE := ⟨_, rfl⟩
  rw [hKE] at HMX HDEF
  generalize hTL : togL sh sh2 = TL at *
  by_cases h0 : KE = 0
  case neg =>
    have HN := Lib.hid (HNO.out KE (HDEF.out.trans (by rw [if_pos h0])) h0)
    have d0 : (KE != 0) = true := by simp [h0]
    have HKN := Lib.hid h0
    clear HNO HDEF HMA HTO HAP hTE h0 hTok hTN hTe hTL hKE
    go_enter Try.func51, Try.ntmps51
    go_wp2_with (first
      | (go_at_call 50; refine (HMX.out _).mono ?_; rintro e w5 ⟨v5, rfl, n5, m5, b5⟩; obtain rfl : v5 = .nilFunc := n5 HKN.out; have M5 := Lib.hid ((M4.out.below b5).below (alloc_below w5 (.cells #[.nilFunc] 72))); clear n5 m5 b5 x0 x1 x2 y0 y1 y2 r0 r1 r2 f0 f1 f2; obtain ⟨⟨x0, x1, x2⟩, ⟨y0, y1, y2⟩, ⟨r0, r1, r2⟩, f0, f1, f2⟩ := M5.out.cells)
      | (go_at_call 95; refine (HTG.out _ M3.out).mono ?_; rintro e w4 ⟨T, tc, rfl, o4, b4⟩; have M4 := Lib.hid (M3.out.below b4); have O4 := Lib.hid (arown_mono o4 (M3.out.fb.size)); clear b4 o4 x0 x1 x2 y0 y1 y2 r0 r1 r2 f0 f1 f2; obtain ⟨⟨x0, x1, x2⟩, ⟨y0, y1, y2⟩, ⟨r0, r1, r2⟩, f0, f1, f2⟩ := M4.out.cells)
      | (go_at_call 21; (have l0 := M2.out; clear l0); refine (HCB.out _ M2.out).mono ?_; rintro e w3 ⟨rfl, b3⟩; have M3 := Lib.hid (M2.out.below b3); clear b3 x0 x1 x2 y0 y1 y2 r0 r1 r2 f0 f1 f2; obtain ⟨⟨x0, x1, x2⟩, ⟨y0, y1, y2⟩, ⟨r0, r1, r2⟩, f0, f1, f2⟩ := M3.out.cells)
      | (go_at_call 21; refine (HCA.out _ M1.out).mono ?_; rintro e w2 ⟨rfl, b2⟩; have M2 := Lib.hid (M1.out.below b2); clear b2 x0 x1 x2 y0 y1 y2 r0 r1 r2 f0 f1 f2; obtain ⟨⟨x0, x1, x2⟩, ⟨y0, y1, y2⟩, ⟨r0, r1, r2⟩, f0, f1, f2⟩ := M2.out.cells)
      | (go_at_call 52; refine (HBN.out _).mono ?_; rintro e w1 ⟨rfl, b1⟩; have M1 := Lib.hid (M0.out.below b1); clear b1 x0 x1 x2 y0 y1 y2 r0 r1 r2 f0 f1 f2; obtain ⟨⟨x0, x1, x2⟩, ⟨y0, y1, y2⟩, ⟨r0, r1, r2⟩, f0, f1, f2⟩ := M1.out.cells))
    refine bodyPost_ret (results_arr2 rfl rfl rfl (arblk_three _ _ _ M5.out.r)) rfl ?_
    exact HN.out _ (M5.out.fin _ _ _)
  subst h0
  rw [if_neg (by decide)] at HDEF
  unfold MixAt at HMX
  generalize (if k = k2 then 94 else 92) = gm at *
  generalize hNN : twoN ⟨k, sh, el⟩ ⟨k2, sh2, el2⟩ = N at *
  generalize hGG : mixG f ⟨k, sh, el⟩ ⟨k2, sh2, el2⟩ = G at *
  generalize hWW : mixW f ⟨k, sh, el⟩ ⟨k2, sh2, el2⟩ = V at *
  obtain ⟨n, hn⟩ : ∃ n, TL.length = n := ⟨_, rfl⟩
  rw [hn] at HTG
  have HAP2 : Hid (∀ (W : World) (T : Option Addr) (c g g2 : Nat), MtI w ⟨k, sh, el⟩ ⟨k2, sh2, el2⟩ ⟨A0, c0, A1, c1⟩ ⟨B0, d0, B1, d1⟩ W → Reads W W.heap.size 1 T n (TL.map iv) → Blk W g2 3 #[.int .i64 f] → Blk W g 72 #[.func (.func gm) #[] #[.pointer (some ⟨g2, 0, none⟩)]] →
      Calls Try.prog 96 #[.func (.func 97) #[] #[.pointer (some ⟨g, 0, none⟩)], .slice T n c, .agg #[.int .i64 k, .slice A0 sh.length c0, .slice A1 el.length c1], .agg #[.int .i64 k2, .slice B0 sh2.length d0, .slice B1 el2.length d1]] W (ApA V G T n c N W)) := Lib.hid (fun W T c g g2 h1 h2 h3 h4 => HAP.out W T n c N g g2 h1 hTok hTN hn h2 hTe h3 h4)
  have HTLn := Lib.hid hn
  clear HAP hTok hTN hTe HTO hTE hKE hTL hNN hGG hWW
  unfold ApA at HAP2
  obtain ⟨AE, hAE⟩ : ∃ AE, apE G N = AE := ⟨_, rfl⟩
  rw [hAE] at HAP2 HDEF
  have HEE := Lib.hid (show E = AE from HDEF.out)
  clear HDEF hAE hn
  by_cases h0 : AE = 0
  case neg =>
    have HN := Lib.hid (HNO.out AE HEE.out h0)
    have HKN := Lib.hid h0
    clear HNO HMA h0
    go_enter Try.func51, Try.ntmps51
    go_wp2_with (first
      | (go_at_call 96; refine (HAP2.out _ T tc _ _ M5.out (Reads.of_own O5.out) Y5.out X5.out).mono ?_; rintro e w6 ⟨v6, rfl, b6, n6, m6⟩; obtain rfl := n6 HKN.out; have M6 := Lib.hid (M5.out.below b6); clear n6 m6 b6 x0 x1 x2 y0 y1 y2 r0 r1 r2 f0 f1 f2; obtain ⟨⟨x0, x1, x2⟩, ⟨y0, y1, y2⟩, ⟨r0, r1, r2⟩, f0, f1, f2⟩ := M6.out.cells)
      | (go_at_call 50; refine (HMX.out _).mono ?_; rintro e w5 ⟨v5, rfl, n5, m5, b5⟩; obtain ⟨e5, h5⟩ := m5 trivial; subst e5; have hbx := Blk.new w5 72 #[.func (.func gm) #[] #[.pointer (some ⟨w4.heap.size, 0, none⟩)]]; have al5 := alloc_below w5 (.cells #[.func (.func gm) #[] #[.pointer (some ⟨w4.heap.size, 0, none⟩)]] 72); have M5 := Lib.hid ((M4.out.below b5).below al5); have X5 := Lib.hid hbx; have Y5 := Lib.hid (h5.below al5 h5.lt); have b45 := b5.trans (al5.mono b5.size); have O5 := Lib.hid (arown_stay O4.out b45 (fun g hg => (arown_lt O4.out g hg).2)); have B45 := Lib.hid b45; clear n5 m5 b5 hbx al5 h5 b45 x0 x1 x2 y0 y1 y2 r0 r1 r2 f0 f1 f2; obtain ⟨⟨x0, x1, x2⟩, ⟨y0, y1, y2⟩, ⟨r0, r1, r2⟩, f0, f1, f2⟩ := M5.out.cells)
      | (go_at_call 95; refine (HTG.out _ M3.out).mono ?_; rintro e w4 ⟨T, tc, rfl, o4, b4⟩; have M4 := Lib.hid (M3.out.below b4); have O4 := Lib.hid (arown_mono o4 (M3.out.fb.size)); clear b4 o4 x0 x1 x2 y0 y1 y2 r0 r1 r2 f0 f1 f2; obtain ⟨⟨x0, x1, x2⟩, ⟨y0, y1, y2⟩, ⟨r0, r1, r2⟩, f0, f1, f2⟩ := M4.out.cells)
      | (go_at_call 21; (have l0 := M2.out; clear l0); refine (HCB.out _ M2.out).mono ?_; rintro e w3 ⟨rfl, b3⟩; have M3 := Lib.hid (M2.out.below b3); clear b3 x0 x1 x2 y0 y1 y2 r0 r1 r2 f0 f1 f2; obtain ⟨⟨x0, x1, x2⟩, ⟨y0, y1, y2⟩, ⟨r0, r1, r2⟩, f0, f1, f2⟩ := M3.out.cells)
      | (go_at_call 21; refine (HCA.out _ M1.out).mono ?_; rintro e w2 ⟨rfl, b2⟩; have M2 := Lib.hid (M1.out.below b2); clear b2 x0 x1 x2 y0 y1 y2 r0 r1 r2 f0 f1 f2; obtain ⟨⟨x0, x1, x2⟩, ⟨y0, y1, y2⟩, ⟨r0, r1, r2⟩, f0, f1, f2⟩ := M2.out.cells)
      | (go_at_call 52; refine (HBN.out _).mono ?_; rintro e w1 ⟨rfl, b1⟩; have M1 := Lib.hid (M0.out.below b1); clear b1 x0 x1 x2 y0 y1 y2 r0 r1 r2 f0 f1 f2; obtain ⟨⟨x0, x1, x2⟩, ⟨y0, y1, y2⟩, ⟨r0, r1, r2⟩, f0, f1, f2⟩ := M1.out.cells))
    refine bodyPost_ret (results_arr2 rfl rfl rfl (arblk_three _ _ _ M6.out.r)) rfl ?_
    exact HN.out _ (M6.out.fin _ _ _)
  subst h0
  have HR := Lib.hid (HMA.out HEE.out)
  clear HNO HMA
  go_enter Try.func51, Try.ntmps51
  go_wp2_with (first
    | (go_at_call 96; refine (HAP2.out _ T tc _ _ M5.out (Reads.of_own O5.out) Y5.out X5.out).mono ?_; rintro e w6 ⟨v6, rfl, b6, n6, m6⟩; obtain ⟨A6, c6, rfl, o6⟩ := m6 trivial; have M6 := Lib.hid (M5.out.below b6); have O6 := Lib.hid (arown_stay O5.out b6 (fun g hg => (arown_lt O5.out g hg).2)); have P6 := Lib.hid o6; have S6 := Lib.hid M5.out.fb.size; clear n6 m6 b6 o6 x0 x1 x2 y0 y1 y2 r0 r1 r2 f0 f1 f2; obtain ⟨⟨x0, x1, x2⟩, ⟨y0, y1, y2⟩, ⟨r0, r1, r2⟩, f0, f1, f2⟩ := M6.out.cells)
    | (go_at_call 50; refine (HMX.out _).mono ?_; rintro e w5 ⟨v5, rfl, n5, m5, b5⟩; obtain ⟨e5, h5⟩ := m5 trivial; subst e5; have hbx := Blk.new w5 72 #[.func (.func gm) #[] #[.pointer (some ⟨w4.heap.size, 0, none⟩)]]; have al5 := alloc_below w5 (.cells #[.func (.func gm) #[] #[.pointer (some ⟨w4.heap.size, 0, none⟩)]] 72); have M5 := Lib.hid ((M4.out.below b5).below al5); have X5 := Lib.hid hbx; have Y5 := Lib.hid (h5.below al5 h5.lt); have b45 := b5.trans (al5.mono b5.size); have O5 := Lib.hid (arown_stay O4.out b45 (fun g hg => (arown_lt O4.out g hg).2)); have B45 := Lib.hid b45; clear n5 m5 b5 hbx al5 h5 b45 x0 x1 x2 y0 y1 y2 r0 r1 r2 f0 f1 f2; obtain ⟨⟨x0, x1, x2⟩, ⟨y0, y1, y2⟩, ⟨r0, r1, r2⟩, f0, f1, f2⟩ := M5.out.cells)
    | (go_at_call 95; refine (HTG.out _ M3.out).mono ?_; rintro e w4 ⟨T, tc, rfl, o4, b4⟩; have M4 := Lib.hid (M3.out.below b4); have O4 := Lib.hid (arown_mono o4 (M3.out.fb.size)); clear b4 o4 x0 x1 x2 y0 y1 y2 r0 r1 r2 f0 f1 f2; obtain ⟨⟨x0, x1, x2⟩, ⟨y0, y1, y2⟩, ⟨r0, r1, r2⟩, f0, f1, f2⟩ := M4.out.cells)
    | (go_at_call 21; (have l0 := M2.out; clear l0); refine (HCB.out _ M2.out).mono ?_; rintro e w3 ⟨rfl, b3⟩; have M3 := Lib.hid (M2.out.below b3); clear b3 x0 x1 x2 y0 y1 y2 r0 r1 r2 f0 f1 f2; obtain ⟨⟨x0, x1, x2⟩, ⟨y0, y1, y2⟩, ⟨r0, r1, r2⟩, f0, f1, f2⟩ := M3.out.cells)
    | (go_at_call 21; refine (HCA.out _ M1.out).mono ?_; rintro e w2 ⟨rfl, b2⟩; have M2 := Lib.hid (M1.out.below b2); clear b2 x0 x1 x2 y0 y1 y2 r0 r1 r2 f0 f1 f2; obtain ⟨⟨x0, x1, x2⟩, ⟨y0, y1, y2⟩, ⟨r0, r1, r2⟩, f0, f1, f2⟩ := M2.out.cells)
    | (go_at_call 52; refine (HBN.out _).mono ?_; rintro e w1 ⟨rfl, b1⟩; have M1 := Lib.hid (M0.out.below b1); clear b1 x0 x1 x2 y0 y1 y2 r0 r1 r2 f0 f1 f2; obtain ⟨⟨x0, x1, x2⟩, ⟨y0, y1, y2⟩, ⟨r0, r1, r2⟩, f0, f1, f2⟩ := M1.out.cells))
  refine bodyPost_ret (results_arr2 rfl rfl rfl (arblk_three _ _ _ M6.out.r)) rfl ?_
  have hk3 := arkeep_three w6 (w.heap.size + 1 + 1) (.int .i64 1) (.slice T n tc) (.slice A6 N c6)
  have hO : World.ownsRow _ w.heap.size 3 1 (.slice T n tc) n (TL.map iv) := hk3.own (by rw [← HTLn.out]; rw [HTLn.out]; exact O6.out) (fun g hg e => by
    subst e
    rcases O6.out.2 with ⟨e1, _⟩ | ⟨g', cap, cur, e1, _, hh, _⟩
    · rw [e1] at hg; simp [Value.ownBlock] at hg
    · rw [e1] at hg
      have : g' = w.heap.size + 1 + 1 := by simpa [Value.ownBlock] using hg
      subst this
      exact Blk.ne_ (show Blk w6 _ 3 cur from hh) M6.out.r (by decide) rfl)
  have hP : World.ownsRow _ w.heap.size 2 1 (.slice A6 N c6) N ((apL V N).map iv) := hk3.own (arown_mono P6.out (Nat.le_trans M5.out.fb.size (Nat.le_refl _))) (fun g hg e => by
    have h1 := (arown_lt P6.out g hg).1
    have h2 := M5.out.r.lt
    omega)
  refine ⟨.agg #[.int .i64 1, .slice T n tc, .slice A6 N c6], by rw [HEE.out]; rfl, ?_⟩
  rw [HR.out]
  refine ⟨⟨T, tc, A6, c6⟩, ?_, ⟨?_, ?_⟩, M6.out.fin _ _ _⟩
  · unfold arC
    simp only [apL_length, HTLn.out]
  · show World.ownsRow _ w.heap.size 3 1 (.slice T TL.length tc) TL.length (TL.map iv)
    rw [HTLn.out]
    exact hO
  · show World.ownsRow _ w.heap.size 2 1 (.slice A6 (apL V N).length c6) (apL V N).length ((apL V N).map iv)
    rw [apL_length]
    exact hP
end Go.Proofs.Ytkabdkblcgklmaa.sc

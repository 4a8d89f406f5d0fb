/-
  Layer 12 (scalar): the shape that comes of two; an element at a position; the iterator of pairs.
-/
import Derived.Test.YtkabdkblcgklmaaScElem
import Derived.Test.YtkabdkblcgklmaaMovesV
import Derived.Test.YtkabdkblcgklmaaFence
import Derived.Test.YtkabdkblcgklmaaDoneIn
namespace Go.Proofs.Ytkabdkblcgklmaa.sc
open Go.RowKit Go.Proofs.Ytkabdkblcgklmaa.arr

def togE (a b : List Int) : Int := if (okShape a && okShape b) = false then 110 else if a.length = 0 ∨ b.length = 0 then 0 else if a.length ≠ b.length then 3 else if a ≠ b then 4 else 0
def togL (a b : List Int) : List Int := if togE a b ≠ 0 then [] else if a.length = 0 then b else a
/-- What Together answers. -/
def TogA (a b : List Int) (w : World) (e : Ending) (w' : World) : Prop := ∃ A c, e = .returned (.tuple #[.slice A (togL a b).length c, .int .i64 (togE a b)]) ∧ w'.ownsRow w.heap.size 3 1 (.slice A (togL a b).length c) (togL a b).length ((togL a b).map iv) ∧ Below w.heap.size w w'
theorem TogA.no {a b : List Int} {E : Int} {w w' : World} (h : togE a b = E) (h0 : E ≠ 0) (hb : Below w.heap.size w w') : TogA a b w (.returned (.tuple #[.slice none 0 0, .int .i64 E])) w' := by
  have e : togL a b = [] := by unfold togL; rw [h, if_pos h0]
  unfold TogA
  rw [h, e]
  exact ⟨none, 0, rfl, World.ownsRow_nil _ _ _ _, hb⟩

set_option maxHeartbeats 2000000 in
theorem sctog_any (A B : Option Addr) (c d n m : Nat) (a b : List Int) (w : World) (ha : a.length = n) (hb : b.length = m) (ra : Reads w w.heap.size 1 A n (a.map iv)) (rb : Reads w w.heap.size 1 B m (b.map iv)) (hn : n ≤ 9223372036854775807) (hm : m ≤ 9223372036854775807) :
    Calls Try.prog 95 #[.slice A n c, .slice B m d] w (TogA a b w) := by
  have HCA := Lib.hid (arcount_any A c n a w ha ra hn)
  have HCB := Lib.hid (arcount_any B d m b w hb rb hm)
  have HKA := Lib.hid (fun h => arcloneI_any A n c a w ha ra h)
  have HKB := Lib.hid (fun h => arcloneI_any B m d b w hb rb h)
  have HEQ := Lib.hid (arequalI_any A B c d n m a b w ha hb ra rb hn hm)
  have HN := Lib.hid (fun (E : Int) (h : togE a b = E) (h0 : E ≠ 0) (w' : World) (hb : Below w.heap.size w w') => TogA.no h h0 hb)
  have RA := Lib.hid ra
  clear ra rb
  cases hoa : okShape a
  · rw [(cnt_no hoa).1, (cnt_no hoa).2] at HCA
    have h := Lib.hid (HN.out 110 (by unfold togE; rw [hoa]; rfl) (by decide) w (Below.refl _ _))
    generalize cntV b = v2 at *
    generalize cntE b = e2 at *
    clear HN HKA HKB HEQ hoa ha hb hn hm
    go_enter Try.func95, Try.ntmps95
    go_wp2_with (first
      | (go_at_call 63; (have l0 := M1.out; clear l0); (with_reducible refine HCB.out.mono ?_); rintro e _ ⟨rfl, rfl⟩)
      | (go_at_call 63; (with_reducible refine HCA.out.mono ?_); rintro e _ ⟨rfl, rfl⟩; have M1 : Hid (1 = 1) := Lib.hid rfl))
    go_ret2
    exact h.out
  rw [(cnt_ok hoa).1, (cnt_ok hoa).2] at HCA
  cases hob : okShape b
  · rw [(cnt_no hob).1, (cnt_no hob).2] at HCB
    have h := Lib.hid (HN.out 110 (by unfold togE; rw [hob, Bool.and_false]; rfl) (by decide) w (Below.refl _ _))
    generalize prodI a = v2 at *
    clear HN HKA HKB HEQ hoa hob ha hb hn hm
    go_enter Try.func95, Try.ntmps95
    go_wp2_with (first
      | (go_at_call 63; (have l0 := M1.out; clear l0); (with_reducible refine HCB.out.mono ?_); rintro e _ ⟨rfl, rfl⟩)
      | (go_at_call 63; (with_reducible refine HCA.out.mono ?_); rintro e _ ⟨rfl, rfl⟩; have M1 : Hid (1 = 1) := Lib.hid rfl))
    go_ret2
    exact h.out
  rw [(cnt_ok hob).1, (cnt_ok hob).2] at HCB
  have h4a : n ≤ 4 := by have := (okShape_iff.1 hoa).1; omega
  have h4b : m ≤ 4 := by have := (okShape_iff.1 hob).1; omega
  have HKA := Lib.hid (HKA.out (by omega))
  have HKB := Lib.hid (HKB.out (by omega))
  have hE : togE a b = if a.length = 0 ∨ b.length = 0 then 0 else if a.length ≠ b.length then 3 else if a ≠ b then 4 else 0 := by unfold togE; rw [hoa, hob]; rfl
  rw [ha, hb] at hE
  generalize prodI a = v1 at *
  generalize prodI b = v2 at *
  clear hoa hob hn hm
  by_cases hn0 : n = 0
  · have h0 : togE a b = 0 := by rw [hE, if_pos (.inl hn0)]
    have hl : togL a b = b := by unfold togL; rw [h0, if_neg (by decide), if_pos (by omega)]
    have d0 : (n : Int) = 0 := by omega
    have HB2 := Lib.hid hb
    have HL := Lib.hid hl
    have H0 := Lib.hid h0
    clear HN HKA HEQ hE ha hb hl h0 hn0
    go_enter Try.func95, Try.ntmps95
    go_wp2_with (first
      | (go_at_call 82; refine HKB.out.mono ?_; rintro e w2 ⟨A', c', rfl, o2, b2⟩; have O2 := Lib.hid o2; clear o2)
      | (go_at_call 63; (have l0 := M1.out; clear l0); (with_reducible refine HCB.out.mono ?_); rintro e _ ⟨rfl, rfl⟩)
      | (go_at_call 63; (with_reducible refine HCA.out.mono ?_); rintro e _ ⟨rfl, rfl⟩; have M1 : Hid (1 = 1) := Lib.hid rfl))
    go_ret2
    unfold TogA
    rw [HL.out, H0.out, HB2.out]
    exact ⟨A', c', rfl, O2.out, b2⟩
  have d0 : ((n : Int) == 0) = false := by simp; omega
  by_cases hm0 : m = 0
  · have h0 : togE a b = 0 := by rw [hE, if_pos (.inr hm0)]
    have hl : togL a b = a := by unfold togL; rw [h0, if_neg (by decide), if_neg (by omega)]
    have d1 : (m : Int) = 0 := by omega
    have HB2 := Lib.hid ha
    have HL := Lib.hid hl
    have H0 := Lib.hid h0
    clear HN HKB HEQ hE ha hb hl h0 hn0 hm0
    go_enter Try.func95, Try.ntmps95
    go_wp2_with (first
      | (go_at_call 82; refine HKA.out.mono ?_; rintro e w2 ⟨A', c', rfl, o2, b2⟩; have O2 := Lib.hid o2; clear o2)
      | (go_at_call 63; (have l0 := M1.out; clear l0); (with_reducible refine HCB.out.mono ?_); rintro e _ ⟨rfl, rfl⟩)
      | (go_at_call 63; (with_reducible refine HCA.out.mono ?_); rintro e _ ⟨rfl, rfl⟩; have M1 : Hid (1 = 1) := Lib.hid rfl))
    go_ret2
    unfold TogA
    rw [HL.out, H0.out, HB2.out]
    exact ⟨A', c', rfl, O2.out, b2⟩
  have d1 : ((m : Int) == 0) = false := by simp; omega
  rw [if_neg (fun h => h.elim hn0 hm0)] at hE
  by_cases hnm : n = m
  case neg =>
    rw [if_pos hnm] at hE
    have d2 : ((n : Int) != (m : Int)) = true := by simp; omega
    have h := Lib.hid (HN.out 3 hE (by decide) w (Below.refl _ _))
    clear HN HKA HKB HEQ hE ha hb hn0 hm0 hnm
    go_enter Try.func95, Try.ntmps95
    go_wp2_with (first
      | (go_at_call 63; (have l0 := M1.out; clear l0); (with_reducible refine HCB.out.mono ?_); rintro e _ ⟨rfl, rfl⟩)
      | (go_at_call 63; (with_reducible refine HCA.out.mono ?_); rintro e _ ⟨rfl, rfl⟩; have M1 : Hid (1 = 1) := Lib.hid rfl))
    go_ret2
    exact h.out
  subst hnm
  rw [if_neg (by simp)] at hE
  by_cases hab : a = b
  case neg =>
    rw [if_pos hab] at hE
    rw [decide_eq_false hab] at HEQ
    have h := Lib.hid (HN.out 4 hE (by decide))
    clear HN HKA HKB hE ha hb hn0 hm0 hab
    go_enter Try.func95, Try.ntmps95
    go_wp2_with (first
      | (go_at_call 121; refine HEQ.out.mono ?_; rintro e w2 ⟨rfl, b2⟩)
      | (go_at_call 63; (have l0 := M1.out; clear l0); (with_reducible refine HCB.out.mono ?_); rintro e _ ⟨rfl, rfl⟩)
      | (go_at_call 63; (with_reducible refine HCA.out.mono ?_); rintro e _ ⟨rfl, rfl⟩; have M1 : Hid (1 = 1) := Lib.hid rfl))
    go_ret2
    exact h.out _ b2
  subst hab
  rw [if_neg (by simp)] at hE
  rw [decide_eq_true rfl] at HEQ
  have hl : togL a a = a := by unfold togL; rw [hE, if_neg (by decide), if_neg (by omega)]
  have HB2 := Lib.hid ha
  have HL := Lib.hid hl
  have H0 := Lib.hid hE
  clear HN HKA HKB hE ha hb hn0 hm0 hl
  go_enter Try.func95, Try.ntmps95
  go_wp2_with (first
    | (go_at_call 82; refine (arcloneI_any A n c a w2 HB2.out ((RA.out.below b2).more b2.size) (by omega)).mono ?_; rintro e w3 ⟨A', c', rfl, o3, b3⟩; have O3 := Lib.hid o3; clear o3)
    | (go_at_call 121; refine HEQ.out.mono ?_; rintro e w2 ⟨rfl, b2⟩)
    | (go_at_call 63; (have l0 := M1.out; clear l0); (with_reducible refine HCB.out.mono ?_); rintro e _ ⟨rfl, rfl⟩)
    | (go_at_call 63; (with_reducible refine HCA.out.mono ?_); rintro e _ ⟨rfl, rfl⟩; have M1 : Hid (1 = 1) := Lib.hid rfl))
  go_ret2
  unfold TogA
  rw [HL.out, H0.out, HB2.out]
  exact ⟨A', c', rfl, arown_mono O3.out b2.size, below_on b2 b3⟩

/-! ### An element at a position -/
def elA (a : AV) (i : Nat) : Int := if a.sh.length = 0 then a.el.getD 0 0 else a.el.getD i 0
def elOk (a : AV) (i : Nat) : Prop := if a.sh.length = 0 then 0 < a.el.length else i < a.el.length
theorem elA_in {a : AV} {i : Nat} (h : ∀ z ∈ a.el, -9223372036854775808 ≤ z ∧ z ≤ 9223372036854775807) (ho : elOk a i) : InR (elA a i) := by
  unfold elA elOk at *
  by_cases h0 : a.sh.length = 0
  · rw [if_pos h0] at ho ⊢
    rw [List.getD_eq_getElem?_getD, List.getElem?_eq_getElem ho]
    exact h _ (List.getElem_mem ho)
  · rw [if_neg h0] at ho ⊢
    rw [List.getD_eq_getElem?_getD, List.getElem?_eq_getElem ho]
    exact h _ (List.getElem_mem ho)
set_option maxHeartbeats 1000000 in
theorem scelem_any (a : AV) (p : AP) (i : Nat) (w : World) (h : AEl w a p) (ho : elOk a i) :
    Calls Try.prog 198 #[.agg (arC a p), .int .i64 (i : Int)] w fun e w' => e = .returned (.int .i64 (elA a i)) ∧ Below w.heap.size w w' := by
  have hb := h.box
  obtain ⟨k, sh, el⟩ := a
  obtain ⟨A0, c0, A1, c1⟩ := p
  have x1 := hb.blk.cell 1
  have x2 := hb.blk.cell 2
  have hr := hb.el.r1
  unfold elA elOk at *
  unfold arC at *
  simp only at ho x1 x2 hr ⊢
  have hm63 : el.length ≤ 9223372036854775807 := h.b1
  by_cases h0 : sh.length = 0
  · rw [if_pos h0] at ho ⊢
    obtain ⟨ad, hA, _, cA⟩ := hr.int_at ho rfl
    rw [List.getD_eq_getElem?_getD, List.getElem?_eq_getElem ho, Option.getD_some]
    have e0 : ad.add 0 = ad := rfl
    rw [e0] at cA
    generalize el[0] = x at *
    subst hA
    clear hr hb h
    generalize sh.length = n at *
    generalize el.length = m at *
    subst h0
    go_enter Try.func198, Try.ntmps198
    go_wp2
    go_ret
    exact ⟨rfl, alloc_below _ _⟩
  · rw [if_neg h0] at ho ⊢
    obtain ⟨ad, hA, _, cA⟩ := hr.int_at ho rfl
    rw [List.getD_eq_getElem?_getD, List.getElem?_eq_getElem ho, Option.getD_some]
    generalize el[i] = x at *
    subst hA
    clear hr hb h
    generalize sh.length = n at *
    generalize el.length = m at *
    have d0 : ((n : Int) == 0) = false := by simp; omega
    clear h0
    go_enter Try.func198, Try.ntmps198
    go_wp2
    go_ret
    exact ⟨rfl, alloc_below _ _⟩
end Go.Proofs.Ytkabdkblcgklmaa.sc

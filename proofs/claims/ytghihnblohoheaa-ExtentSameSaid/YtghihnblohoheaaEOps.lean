/-
  Calls of a space as layer 4's statements take them: how they lie in memory; a space of 300 sectors behind calls.
-/
import Derived.Test.YtghihnblohoheaaELaw
namespace Go.Proofs.Ytghihnblohoheaa
open Go.RowKit

/-- A call: its kind, its extent. -/
structure EOp where
  kind : Int
  at_ : Int
  n : Int
def EOp.Fine (o : EOp) : Prop := -9223372036854775808 ≤ o.n ∧ o.n ≤ 9223372036854775807
/-- The three cells of a call at ad. -/
structure ECells (W : World) (ad : Addr) (o : EOp) : Prop where
  kind : W.cell? ad = some (.int .i64 o.kind)
  at_ : W.cell? ⟨ad.block, ad.off + 1, none⟩ = some (.int .i64 o.at_)
  n : W.cell? ⟨ad.block, ad.off + 2, none⟩ = some (.int .i64 o.n)
/-- The slice of length n at A holds the calls. -/
def EOps (W : World) (B : Nat) (A : Option Addr) (n : Nat) (l : List EOp) : Prop :=
  l.length = n ∧ (∀ o ∈ l, o.Fine) ∧ (0 < n → ∃ ad, A = some ad ∧ ad.block < B ∧ ∀ i o, l[i]? = some o → ECells W (ad.add (i * 3)) o)
theorem EOps.below {w w' : World} {B n : Nat} {A : Option Addr} {l : List EOp} (h : EOps w B A n l) (hk : Below B w w') : EOps w' B A n l :=
  ⟨h.1, h.2.1, fun h0 => by
    obtain ⟨ad, e, hb, hc⟩ := h.2.2 h0
    refine ⟨ad, e, hb, fun i o ho => ?_⟩
    have d := hc i o ho
    have same : ∀ j, w'.cell? ⟨(ad.add (i * 3)).block, (ad.add (i * 3)).off + j, none⟩ = w.cell? ⟨(ad.add (i * 3)).block, (ad.add (i * 3)).off + j, none⟩ := fun j => hk.cell (by dsimp only; rw [block_of_add]; exact hb)
    have same0 : w'.cell? (ad.add (i * 3)) = w.cell? (ad.add (i * 3)) := hk.cell (by rw [block_of_add]; exact hb)
    exact ⟨same0.trans d.kind, (same 1).trans d.at_, (same 2).trans d.n⟩⟩
theorem EOps.more {w : World} {B B' n : Nat} {A : Option Addr} {l : List EOp} (h : EOps w B A n l) (hB : B ≤ B') : EOps w B' A n l :=
  ⟨h.1, h.2.1, fun h0 => by
    obtain ⟨ad, e, hb, hc⟩ := h.2.2 h0
    exact ⟨ad, e, by omega, hc⟩⟩
theorem EOps.at_ {w : World} {B n k : Nat} {A : Option Addr} {l : List EOp} (h : EOps w B A n l) (hk : k < n) : ∃ ad, A = some ad ∧ ad.block < B ∧ ECells w (ad.add (k * 3)) (l[k]'(by rw [h.1]; exact hk)) ∧ (l[k]'(by rw [h.1]; exact hk)).Fine := by
  obtain ⟨ad, e, hb, hc⟩ := h.2.2 (by omega)
  exact ⟨ad, e, hb, hc k _ (List.getElem?_eq_getElem (by rw [h.1]; exact hk)), h.2.1 _ (List.getElem_mem _)⟩
theorem EOps.nil (w : World) (B : Nat) : EOps w B none 0 [] := ⟨rfl, (fun o ho => by cases ho), (fun h => by omega)⟩

/-- A space of the 300 sectors from 5 on. -/
structure Is300 (s : ESt) : Prop where
  f : s.f = 5
  l : s.L.length = 300
theorem Is300.put {s : ESt} (h : Is300 s) (q m : Nat) (v : Bool) : Is300 (s.put q m v) := ⟨h.f, (setR_length ..).trans h.l⟩
theorem Is300.take {s : ESt} (h : Is300 s) (n : Int) : Is300 (takeS s n) := by
  unfold takeS
  split
  · exact h
  · split
    · exact h.put _ _ _
    · exact h
theorem Is300.turn {s : ESt} (h : Is300 s) (a n : Int) (v : Bool) : Is300 (turnS s a n v) := by
  unfold turnS
  split
  · exact h.put _ _ _
  · exact h
theorem Is300.new : Is300 (newE 5 305) := ⟨rfl, List.length_replicate⟩

set_option maxRecDepth 100000 in
set_option maxHeartbeats 4000000 in
theorem made4_any (A : Option Addr) (n c : Nat) (l : List EOp) (B : Nat) (W : World) (H : EOps W B A n l) (hB : B ≤ W.heap.size) (hn : n ≤ 150) :
    Calls Try.prog 24 #[.slice A n c] W fun e w' => ∃ (d : SpAt) (s : ESt), e = .returned (.pointer (some ⟨d.b, 0, none⟩)) ∧ ELives W.heap.size W w' d s ∧ Is300 s ∧ Below W.heap.size W w' ∧ (n = 0 → s = newE 5 305) := by
  have HH := Lib.hid H
  clear H
  go_enter Try.func24, Try.ntmps24
  go_wp2_with (go_at_call 8; refine (lnew (N := W.heap.size) (w0 := W) 5 305 (Nat.le_refl _) (Below.refl _ _) (by omega) (by omega) rfl).mono ?_; rintro e w1 ⟨d, rfl, l0, -, -⟩; have L := Lib.hid l0; clear l0)
  go_loopw [15] (fun i wr => ∃ (k : Nat) (s : ESt), k ≤ n ∧ i = .int .i64 ((k : Nat) : Int) ∧ Is300 s ∧ ELives W.heap.size W wr d s ∧ (n = 0 → s = newE 5 305)) (fun i _ => n - (intOf i).toNat)
  case atStart => exact ⟨0, _, Nat.zero_le _, rfl, Is300.new, L.out, fun _ => rfl⟩
  case round =>
    obtain ⟨k, s, hkn, rfl, hI, hL, hz⟩ := hrel
    clear L
    by_cases hlt : k < n
    · obtain ⟨ad, rfl, hadb, dc, hfine⟩ := (HH.out.below (hL.below.mono hB)).at_ hlt
      generalize l[k]'(by have := HH.out.1; omega) = o at dc hfine
      obtain ⟨kd, at_, on⟩ := o
      have x0 := dc.kind
      have x1 := dc.at_
      have x2 := dc.n
      have hf2 := hfine.2
      simp only at x0 x1 x2 hf2
      have HL2 := Lib.hid (hL.next ((Below.refl _ _).alloc (Nat.le_refl _) (.cells #[.int .i64 kd, .int .i64 at_, .int .i64 on] 35)))
      have HI := Lib.hid hI
      clear hL hI dc hfine hz
      by_cases k0 : kd = 0
      · subst k0
        go_wp2_with (go_at_call 16; refine (ltake on HL2.out hf2 rfl rfl rfl).mono ?_; rintro e w9 ⟨rfl, l9, -⟩; have HL3 := Lib.hid l9; clear l9)
        exact ⟨⟨k + 1, _, by omega, by go_num, HI.out.take _, HL3.out, fun h => by omega⟩, by simp [intOf]; omega⟩
      · by_cases k1 : kd = 1
        · subst k1
          go_wp2_with (go_at_call 19; refine (lclaim at_ on HL2.out rfl rfl).mono ?_; rintro e w9 ⟨rfl, l9, -⟩; have HL3 := Lib.hid l9; clear l9)
          exact ⟨⟨k + 1, _, by omega, by go_num, HI.out.turn _ _ _, HL3.out, fun h => by omega⟩, by simp [intOf]; omega⟩
        · by_cases k2 : kd = 2
          · subst k2
            go_wp2_with (go_at_call 17; refine (lgive at_ on HL2.out rfl rfl).mono ?_; rintro e w9 ⟨rfl, l9, -⟩; have HL3 := Lib.hid l9; clear l9)
            exact ⟨⟨k + 1, _, by omega, by go_num, HI.out.turn _ _ _, HL3.out, fun h => by omega⟩, by simp [intOf]; omega⟩
          · go_wp2
            exact ⟨⟨k + 1, s, by omega, by go_num, HI.out, HL2.out, fun h => by omega⟩, by simp [intOf]; omega⟩
    · obtain rfl : k = n := by omega
      have HL2 := Lib.hid hL
      clear hL
      go_wp2
      go_ret
      exact ⟨d, s, rfl, HL2.out, hI, HL2.out.below, hz⟩
end Go.Proofs.Ytghihnblohoheaa

/-
  The space of layer 4 as the statements call it: a space made since the statement began; two lists of extents; calls in memory.
-/
import Derived.Test.YtjndbibbfcmgiaaENew
namespace Go.Proofs.Ytjndbibbfcmgiaa
open Go.RowKit

/-- A space made since N, in state s, in a world where what lay below N lies. -/
structure ELives (N : Nat) (w0 w : World) (d : SpAt) (s : ESt) : Prop where
  below : Below N w0 w
  foot : ∀ k, d.foot k → N ≤ k
  ek : EK w d s
theorem Keep.far {S : Nat → Prop} {N : Nat} {w w' : World} (h : Keep S w w') (hN : N ≤ w.heap.size) (hS : ∀ k, S k → N ≤ k) : Below N w w' :=
  ⟨h.os, h.tape, h.output, h.size, fun k hk => h.block k (by omega) (fun hs => by have := hS k hs; omega)⟩

section
variable {N : Nat} {w0 w : World} {d : SpAt} {s : ESt}
theorem ELives.lt (L : ELives N w0 w d s) : N ≤ w.heap.size := by
  have := L.ek.blk.lt
  have := L.foot d.b (.inl rfl)
  omega
theorem ELives.all_lt (L : ELives N w0 w d s) : ∀ k, d.foot k → k < w.heap.size := L.ek.lt
theorem ELives.next {w' : World} (L : ELives N w0 w d s) (hb : Below w.heap.size w w') : ELives N w0 w' d s := ⟨L.below.trans (hb.mono L.lt), L.foot, L.ek.below hb⟩
theorem ELives.to {w' : World} {s' : ESt} (L : ELives N w0 w d s) (hk : Keep (fun k => k = d.g) w w') (h : EK w' d s') : ELives N w0 w' d s' :=
  ⟨L.below.trans (hk.far L.lt (fun k e => L.foot k (.inr e))), L.foot, h⟩
/-- Another space's call leaves this one. -/
theorem ELives.other {w' : World} {d2 : SpAt} {s2 : ESt} (L : ELives N w0 w d s) (L2 : ELives N w0 w d2 s2) (hd : ∀ k, d.foot k → ¬ d2.foot k) (hk : Keep (fun k => k = d2.g) w w') : ELives N w0 w' d s :=
  ⟨L.below.trans (hk.far L.lt (fun k e => L2.foot k (.inr e))), L.foot, L.ek.keep hk (fun k hf e => hd k hf (.inr e))⟩

theorem ltake (n : Int) (L : ELives N w0 w d s) (hn : n ≤ 9223372036854775807) {x : Int × Int} {er : Int} {s' : ESt} (hx : takeX s n = x) (he : takeE s n = er) (hs : takeS s n = s') :
    Calls Try.prog 12 #[.pointer (some ⟨d.b, 0, none⟩), .int .i64 n] w fun e w' => e = .returned (.tuple #[.agg #[.int .i64 x.1, .int .i64 x.2], .int .i64 er]) ∧ ELives N w0 w' d s' ∧ Keep (fun k => k = d.g) w w' := by
  subst hx he hs
  refine (etake_any n L.ek hn).mono ?_
  rintro e w' ⟨rfl, h, hk⟩
  exact ⟨rfl, L.to hk h, hk⟩
theorem lclaim (a n : Int) (L : ELives N w0 w d s) {er : Int} {s' : ESt} (he : turnE s a n true = er) (hs : turnS s a n true = s') :
    Calls Try.prog 14 #[.pointer (some ⟨d.b, 0, none⟩), .agg #[.int .i64 a, .int .i64 n]] w fun e w' => e = .returned (.int .i64 er) ∧ ELives N w0 w' d s' ∧ Keep (fun k => k = d.g) w w' := by
  subst he hs
  refine (eclaim_any a n L.ek).mono ?_
  rintro e w' ⟨rfl, h, hk⟩
  exact ⟨rfl, L.to hk h, hk⟩
theorem lgive (a n : Int) (L : ELives N w0 w d s) {er : Int} {s' : ESt} (he : turnE s a n false = er) (hs : turnS s a n false = s') :
    Calls Try.prog 16 #[.pointer (some ⟨d.b, 0, none⟩), .agg #[.int .i64 a, .int .i64 n]] w fun e w' => e = .returned (.int .i64 er) ∧ ELives N w0 w' d s' ∧ Keep (fun k => k = d.g) w w' := by
  subst he hs
  refine (egive_any a n L.ek).mono ?_
  rintro e w' ⟨rfl, h, hk⟩
  exact ⟨rfl, L.to hk h, hk⟩
theorem lleft (L : ELives N w0 w d s) {m : Nat} (hm : s.L.count false = m) : Calls Try.prog 7 #[.pointer (some ⟨d.b, 0, none⟩)] w fun e w' => e = .returned (.int .i64 (m : Int)) ∧ ELives N w0 w' d s ∧ Below w.heap.size w w' := by
  subst hm
  refine (eleft_any L.ek).mono ?_
  rintro e w' ⟨rfl, hb⟩
  exact ⟨rfl, L.next hb, hb⟩
theorem llongest (L : ELives N w0 w d s) {m : Nat} (hm : mostOf (runsAt s.L false 0) = m) : Calls Try.prog 19 #[.pointer (some ⟨d.b, 0, none⟩)] w fun e w' => e = .returned (.int .i64 (m : Int)) ∧ ELives N w0 w' d s ∧ Below w.heap.size w w' := by
  subst hm
  refine (elongest_any L.ek).mono ?_
  rintro e w' ⟨rfl, hb⟩
  exact ⟨rfl, L.next hb, hb⟩
theorem lhas (a : Int) (L : ELives N w0 w d s) {b : Bool} (hb : hasE s a = b) : Calls Try.prog 21 #[.pointer (some ⟨d.b, 0, none⟩), .int .i64 a] w fun e w' => e = .returned (.bool b) ∧ ELives N w0 w' d s ∧ Below w.heap.size w w' := by
  subst hb
  refine (ehas_all a L.ek).mono ?_
  rintro e w' ⟨rfl, hb⟩
  exact ⟨rfl, L.next hb, hb⟩
theorem lcopy (L : ELives N w0 w d s) : Calls Try.prog 18 #[.pointer (some ⟨d.b, 0, none⟩)] w fun e w' => ∃ d', e = .returned (.pointer (some ⟨d'.b, 0, none⟩)) ∧ ELives N w0 w' d' s ∧ ELives N w0 w' d s ∧ Below w.heap.size w w' ∧ ∀ k, d'.foot k → w.heap.size ≤ k := by
  refine (ecopy_any L.ek).mono ?_
  rintro e w' ⟨d', rfl, h, hf, hb⟩
  exact ⟨d', rfl, ⟨L.below.trans (hb.mono L.lt), fun k hk => Nat.le_trans L.lt (hf k hk), h⟩, L.next hb, hb, hf⟩
theorem lnew (f t : Nat) (hN : N ≤ w.heap.size) (hb : Below N w0 w) (h1 : f ≤ t) (h2 : t ≤ 4096) {s' : ESt} (hs : newE f t = s') : Calls Try.prog 4 #[.int .i64 (f : Int), .int .i64 (t : Int)] w fun e w' => ∃ d, e = .returned (.tuple #[.pointer (some ⟨d.b, 0, none⟩), .int .i64 0]) ∧ ELives N w0 w' d s' ∧ Below w.heap.size w w' ∧ ∀ k, d.foot k → w.heap.size ≤ k := by
  subst hs
  refine (enew_any f t w h1 h2).mono ?_
  rintro e w' ⟨d, rfl, h, hf, hb'⟩
  exact ⟨d, rfl, ⟨hb.trans (hb'.mono hN), fun k hk => Nat.le_trans hN (hf k hk), h⟩, hb', hf⟩
end

/-- Extents as cells. -/
def extsC : List (Int × Int) → List Value
  | [] => []
  | x :: l => .int .i64 x.1 :: .int .i64 x.2 :: extsC l
/-- What is taken. -/
def takenX (s : ESt) : List (Int × Int) := (runsAt s.L true 0).map (fun r => ((s.f : Int) + (r.1 : Int), (r.2 : Int)))
theorem ext_exts (f : Nat) : ∀ rs, extCells f rs = extsC (rs.map (fun r => ((f : Int) + (r.1 : Int), (r.2 : Int))))
  | [] => rfl
  | r :: rs => by
    rw [List.map_cons]
    unfold extCells extsC
    rw [ext_exts f rs]
theorem extsC_length : ∀ l, (extsC l).length = l.length * 2
  | [] => rfl
  | x :: l => by
    unfold extsC
    rw [List.length_cons, List.length_cons, extsC_length l, List.length_cons]
    omega
theorem extsC_at : ∀ (l : List (Int × Int)) (j : Nat) (x : Int × Int), l[j]? = some x → (extsC l)[j * 2]? = some (.int .i64 x.1) ∧ (extsC l)[j * 2 + 1]? = some (.int .i64 x.2)
  | [], j, x, h => by simp at h
  | y :: l, 0, x, h => by
    injection h with h
    subst h
    exact ⟨rfl, rfl⟩
  | y :: l, j + 1, x, h => by
    have h1 := extsC_at l j x (by simpa using h)
    unfold extsC
    rw [show (j + 1) * 2 = j * 2 + 1 + 1 by omega]
    exact h1
theorem ltaken {N : Nat} {w0 w : World} {d : SpAt} {s : ESt} (L : ELives N w0 w d s) {l : List (Int × Int)} {m : Nat} (hl : takenX s = l) (hm : l.length = m) :
    Calls Try.prog 10 #[.pointer (some ⟨d.b, 0, none⟩)] w fun e w' => ∃ A c, e = .returned (.slice A m c) ∧ w'.ownsRow w.heap.size 33 2 (.slice A m c) m (extsC l) ∧ ELives N w0 w' d s ∧ Below w.heap.size w w' := by
  subst hl
  unfold takenX at hm
  rw [List.length_map] at hm
  refine (etaken_any m L.ek hm).mono ?_
  rintro e w' ⟨A, c, rfl, ho, hb⟩
  rw [ext_exts] at ho
  exact ⟨A, c, rfl, ho, L.next hb, hb⟩

theorem neq_ext (u v a n : Int) (W : World) : (binOp .neq 33 (.agg #[.int .i64 u, .int .i64 v]) (.agg #[.int .i64 a, .int .i64 n])).run Try.prog W = .ok (.bool (!decide (u = a ∧ v = n))) W := by
  go_simp
  by_cases h1 : u = a <;> by_cases h2 : v = n <;> simp [h1, h2]
theorem reads_ext {w : World} {B n j : Nat} {A : Option Addr} {l : List (Int × Int)} (h : Reads w B 2 A n (extsC l)) (hl : l.length = n) (hj : j < n) : ∃ ad, A = some ad ∧ ad.block < B ∧ w.cell? (ad.add (j * 2)) = some (.int .i64 (l[j]'(by omega)).1) ∧ w.cell? ⟨(ad.add (j * 2)).block, (ad.add (j * 2)).off + 1, none⟩ = some (.int .i64 (l[j]'(by omega)).2) := by
  obtain ⟨ad, e, hb, hc⟩ := h.2 (by omega)
  obtain ⟨h1, h2⟩ := extsC_at l j _ (List.getElem?_eq_getElem (by omega))
  refine ⟨ad, e, hb, hc _ _ h1, ?_⟩
  have := hc _ _ h2
  have hp : ad.add (j * 2 + 1) = ⟨(ad.add (j * 2)).block, (ad.add (j * 2)).off + 1, none⟩ := by
    unfold Addr.add
    by_cases h0 : j * 2 = 0
    · simp [h0]
    · simp [h0]
      omega
  rwa [hp] at this

set_option maxHeartbeats 1000000 in
theorem same4_any (A B : Option Addr) (c d n m : Nat) (l k : List (Int × Int)) (w : World) (hl : l.length = n) (hk : k.length = m) (ha : Reads w w.heap.size 2 A n (extsC l)) (hb : Reads w w.heap.size 2 B m (extsC k)) (hn : n ≤ 9223372036854775807) (hm : m ≤ 9223372036854775807) :
    Calls Try.prog 9 #[.slice A n c, .slice B m d] w fun e w' => e = .returned (.bool (decide (l = k))) ∧ Below w.heap.size w w' := by
  by_cases hnm : n = m
  · subst hnm
    have HA := Lib.hid ha
    have HB := Lib.hid hb
    have HL := Lib.hid hl
    have HK := Lib.hid hk
    clear ha hb hl hk
    go_enter Try.func9, Try.ntmps9
    go_wp2
    go_loopw [5] (fun i wr => ∃ j, j ≤ n ∧ i = .int .i64 ((j : Nat) : Int) ∧ l.take j = k.take j ∧ Below w.heap.size w wr) (fun i _ => n - (intOf i).toNat)
    case atStart => exact ⟨0, Nat.zero_le _, rfl, by simp, Below.refl _ _⟩
    case round =>
      obtain ⟨j, hj, rfl, heq, hbw⟩ := hrel
      by_cases hlt : j < n
      · obtain ⟨adA, rfl, _, cA, cA1⟩ := reads_ext (HA.out.below hbw) HL.out hlt
        obtain ⟨adB, rfl, _, cB, cB1⟩ := reads_ext (HB.out.below hbw) HK.out hlt
        have hjl : j < l.length := by have := HL.out; omega
        have hjk : j < k.length := by have := HK.out; omega
        have hstep : l.take (j + 1) = k.take (j + 1) ↔ l[j] = k[j] := by
          rw [List.take_succ_eq_append_getElem hjl, List.take_succ_eq_append_getElem hjk, heq]
          constructor
          · intro h
            have h := List.append_cancel_left h
            injection h
          · intro h
            rw [h]
        have hno : ¬ l[j] = k[j] → ¬ l = k := fun h e => h (by subst e; rfl)
        generalize l[j] = x at *
        generalize k[j] = y at *
        have q := neq_ext x.1 x.2 y.1 y.2
        have HST := Lib.hid hstep
        have HNO := Lib.hid hno
        have HBW := Lib.hid hbw
        clear hstep hno hbw heq
        by_cases hxy : x = y
        · rw [decide_eq_true (by rw [hxy]; exact ⟨rfl, rfl⟩), Bool.not_true] at q
          have HXY := Lib.hid hxy
          clear hxy
          go_wp2
          go_quiet (fail)
          go_wp2
          exact ⟨⟨j + 1, by omega, by go_num, HST.out.2 HXY.out, below_drewN HBW.out _⟩, by simp [intOf]; omega⟩
        · rw [decide_eq_false (fun h => hxy (Prod.ext h.1 h.2)), Bool.not_false] at q
          have HXY := Lib.hid hxy
          clear hxy
          go_wp2
          go_quiet (fail)
          go_wp2
          go_ret
          exact ⟨by rw [decide_eq_false (HNO.out HXY.out)]; rfl, below_drewN HBW.out _⟩
      · obtain rfl : j = n := by omega
        have hlk : l = k := by
          rw [List.take_of_length_le (by have := HL.out; omega), List.take_of_length_le (by have := HK.out; omega)] at heq
          exact heq
        have HLK := Lib.hid hlk
        have HBW := Lib.hid hbw
        clear hlk heq hbw
        go_wp2
        go_ret
        exact ⟨by rw [decide_eq_true HLK.out]; rfl, HBW.out⟩
  · have hne : ((n : Int) != (m : Int)) = true := by rw [bne_iff_ne]; omega
    have hlk : ¬ l = k := fun e => hnm (by rw [← hl, ← hk, e])
    clear ha hb hl hk
    go_enter Try.func9, Try.ntmps9
    go_wp2
    go_ret
    exact ⟨by rw [decide_eq_false hlk]; rfl, Below.refl _ _⟩

section
variable {N : Nat} {w0 w : World} {d : SpAt} {s : ESt}
end

/-- The chapter's space, behind its first calls. -/
def al0 : ESt := newE 10 20
def al1 : ESt := takeS al0 3
def al2 : ESt := takeS al1 4
theorem al_1 : decide (takeE al0 3 = 0 ∧ takeX al0 3 = (10, 3)) = true := by decide +kernel
theorem al_2 : decide (takeE al1 4 = 0 ∧ takeX al1 4 = (13, 4)) = true := by decide +kernel
theorem al_3 : takeE al2 4 = 41 := by decide +kernel
attribute [irreducible] al0 al1 al2
end Go.Proofs.Ytjndbibbfcmgiaa

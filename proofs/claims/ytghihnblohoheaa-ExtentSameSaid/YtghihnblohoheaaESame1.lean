/-
  What is taken, claimed anew piece by piece, is the same space; the words for ExtentSame's walk.
-/
import Derived.Test.YtghihnblohoheaaEHold
import Derived.Test.YtghihnblohoheaaDone
namespace Go.Proofs.Ytghihnblohoheaa
open Go.RowKit

theorem hold_more {L : List Bool} {b : List (Nat × Nat)} {r : Nat × Nat} (h : Frees L (r :: b)) : AllAre (holdR L b) r.1 r.2 false ∧ setR (holdR L b) r.1 r.2 true = holdR L (r :: b) := by
  obtain ⟨h1, h2, h3⟩ := hold_give (a := []) h
  have hr := h.free r (by simp)
  have hle := h1.le hr.1
  rw [List.nil_append, List.nil_append] at h2
  rw [List.nil_append] at h1 hle
  constructor
  · rw [← h2]
    exact setR_all _ _ hle
  · rw [← h2]
    exact setR_back h1
theorem turn_claim {s : ESt} {b : List (Nat × Nat)} {r : Nat × Nat} (h3 : Is300 s) (h : Frees s.L (r :: b)) : turnE (hold s b) (5 + (r.1 : Int)) (r.2 : Int) true = 0 ∧ turnS (hold s b) (5 + (r.1 : Int)) (r.2 : Int) true = hold s (r :: b) := by
  obtain ⟨hA, hS⟩ := hold_more h
  have hr := (h.free r (by simp))
  have hle := hr.2.le hr.1
  have h3' := h3.hold b
  have e1 : ((5 : Int) + (r.1 : Int) - ((hold s b).f : Int)).toNat = r.1 := by rw [h3'.f]; omega
  have hok : turnOk (hold s b) (5 + (r.1 : Int)) (r.2 : Int) true = true := by
    have hto : (hold s b).to = 305 := by
      show (hold s b).f + (hold s b).L.length = 305
      rw [h3'.f, h3'.l]
    have := h3.l
    unfold turnOk coversE
    rw [e1, Int.toNat_natCast, h3'.f, hto, decide_eq_true (by omega)]
    exact (Bool.true_and _).trans (decide_eq_true hA)
  unfold turnE turnS
  rw [if_pos hok, if_pos hok, e1, Int.toNat_natCast]
  refine ⟨rfl, ?_⟩
  show ESt.mk _ _ = ESt.mk _ _
  congr 1

theorem runs_frees {s : ESt} (h : Is300 s) : Frees (newE 5 305).L (runsAt s.L true 0) := by
  refine ⟨fun r hr => ?_, (runs_rise 0).imp (fun hab => .inl (Nat.le_of_lt hab))⟩
  obtain ⟨_, h2⟩ := runs_are 0 r hr
  have hle := h2.all.le h2.pos
  have hl := h.l
  refine ⟨h2.pos, fun k hk => ?_⟩
  show (List.replicate 300 false)[r.1 + k]? = some false
  rw [List.getElem?_replicate, if_pos (by omega)]
theorem hold_runs {s : ESt} (h : Is300 s) : hold (newE 5 305) (runsAt s.L true 0) = s := by
  have hL : holdR (newE 5 305).L (runsAt s.L true 0) = s.L := by
    apply List.ext_getElem?
    intro k
    rw [holdR_at]
    show Option.map _ (List.replicate 300 false)[k]? = s.L[k]?
    rw [List.getElem?_replicate]
    have hl := h.l
    by_cases hk : k < 300
    · rw [if_pos hk, Option.map_some, Bool.false_or, List.getElem?_eq_getElem (by omega)]
      congr 1
      cases hx : s.L[k]'(by omega) with
      | false =>
        rw [List.any_eq_false]
        intro r hr hin
        obtain ⟨_, h2⟩ := runs_are 0 r hr
        have hin := of_decide_eq_true hin
        have := h2.all.at_ hin.1 hin.2
        rw [List.getElem?_eq_getElem (by omega), hx] at this
        cases this
      | true =>
        rw [List.any_eq_true]
        obtain ⟨r, hr, h1, h2⟩ := runs_cover (L := s.L) (a := true) 0 k (Nat.zero_le _) (by rw [List.getElem?_eq_getElem (by omega), hx])
        exact ⟨r, hr, decide_eq_true ⟨h1, h2⟩⟩
    · rw [if_neg hk, List.getElem?_eq_none (l := s.L) (by omega)]
      rfl
  unfold hold
  rw [hL]
  cases s
  obtain ⟨h1, _⟩ := h
  subst h1
  rfl
theorem takenX_eq {s : ESt} (h : Is300 s) : takenX s = extsP (runsAt s.L true 0) := by
  unfold takenX extsP
  rw [h.f]
  rfl

/-- The bundle. -/
structure RS (N : Nat) (w0 wM wr : World) (d d2 : SpAt) (s s2 : ESt) (A : Option Addr) (n : Nat) (tx : List Value) : Prop where
  e : E2 N w0 wr d d2 s s2
  r : Reads wr wM.heap.size 2 A n tx
  z : wM.heap.size ≤ wr.heap.size
section
variable {N : Nat} {w0 wM wr w' : World} {d d2 : SpAt} {s s2 s' : ESt} {A : Option Addr} {n : Nat} {tx : List Value}
theorem RS.next (h : RS N w0 wM wr d d2 s s2 A n tx) (hb : Below wr.heap.size wr w') : RS N w0 wM w' d d2 s s2 A n tx :=
  ⟨h.e.next hb, h.r.below (hb.mono h.z), Nat.le_trans h.z hb.size⟩
theorem RS.callB (h : RS N w0 wM wr d d2 s s2 A n tx) (hd : EDis d d2) (hA : ∀ ad, A = some ad → ad.block ≠ d2.g) (hl : ELives N w0 w' d2 s') (hk : Keep (fun k => k = d2.g) wr w') : RS N w0 wM w' d d2 s s' A n tx :=
  ⟨h.e.callB hd hl hk, h.r.keepS hk h.z hA, Nat.le_trans h.z hk.size⟩
end

/-- What the drawn region's operations yield. -/
def sameR (L : List Value) (dn : Nat → Bool) (i : Nat) (v : Value) (_ : World) : Prop := v = L.getD i undef ∧ (i = 12 → dn 12 = true) ∧ (i = 16 ∨ i = 19 → dn 12 = true ∧ dn 16 = true)
theorem upd_up {dn : Nat → Bool} {i k : Nat} (h : dn k = true) : upd dn i k = true := by
  unfold upd
  simp [h]
theorem sameR.up {L : List Value} {dn : Nat → Bool} {i j : Nat} {v : Value} {w w' : World} (h : sameR L dn j v w) : sameR L (upd dn i) j v w' :=
  ⟨h.1, fun e => upd_up (h.2.1 e), fun e => ⟨upd_up (h.2.2 e).1, upd_up (h.2.2 e).2⟩⟩

/-- An extent as the statement's walk reads it. -/
theorem reads_run {w : World} {B n j : Nat} {A : Option Addr} {xs : List (Nat × Nat)} (h : Reads w B 2 A n (extsC (extsP xs))) (hl : xs.length = n) (hj : j < n) : ∃ ad r, A = some ad ∧ xs[j]? = some r ∧ w.cell? (ad.add (j * 2)) = some (.int .i64 (5 + (r.1 : Int))) ∧ w.cell? ⟨(ad.add (j * 2)).block, (ad.add (j * 2)).off + 1, none⟩ = some (.int .i64 (r.2 : Int)) := by
  have hel : (extsP xs).length = n := by unfold extsP; rw [List.length_map, hl]
  obtain ⟨ad, e, _, h1, h2⟩ := reads_ext h hel hj
  have hget : (extsP xs)[j]'(by omega) = (5 + ((xs[j]'(by omega)).1 : Int), ((xs[j]'(by omega)).2 : Int)) := List.getElem_map ..
  rw [hget] at h1 h2
  exact ⟨ad, xs[j]'(by omega), e, List.getElem?_eq_getElem (by omega), h1, h2⟩

/-- Two spaces that are alike, an op, and what their takes handed out. -/
def SB (N : Nat) (w0 : World) (d d2 : SpAt) (bo b1 b2 : Nat) (o : Array Value) (x y : Int) (s s2 : ESt) (w : World) : Prop :=
  E2 N w0 w d d2 s s2 ∧ Blk w bo 35 o ∧ Blk w b1 33 #[.int .i64 x, .int .i64 y] ∧ Blk w b2 33 #[.int .i64 x, .int .i64 y]
section
variable {N : Nat} {w0 w w' : World} {d d2 : SpAt} {bo b1 b2 : Nat} {o : Array Value} {x y : Int} {s s2 s' : ESt}
theorem SB.op_ (h : SB N w0 d d2 bo b1 b2 o x y s s2 w) : Blk w bo 35 o := h.2.1
theorem SB.x1 (h : SB N w0 d d2 bo b1 b2 o x y s s2 w) : Blk w b1 33 #[.int .i64 x, .int .i64 y] := h.2.2.1
theorem SB.x2 (h : SB N w0 d d2 bo b1 b2 o x y s s2 w) : Blk w b2 33 #[.int .i64 x, .int .i64 y] := h.2.2.2
theorem SB.next (h : SB N w0 d d2 bo b1 b2 o x y s s2 w) (hb : Below w.heap.size w w') : SB N w0 d d2 bo b1 b2 o x y s s2 w' :=
  ⟨h.1.next hb, h.2.1.below hb h.2.1.lt, h.2.2.1.below hb h.2.2.1.lt, h.2.2.2.below hb h.2.2.2.lt⟩
theorem SB.callA (h : SB N w0 d d2 bo b1 b2 o x y s s2 w) (hd : EDis d d2) (hg : bo ≠ d.g ∧ b1 ≠ d.g ∧ b2 ≠ d.g) (hl : ELives N w0 w' d s') (hk : Keep (fun k => k = d.g) w w') : SB N w0 d d2 bo b1 b2 o x y s' s2 w' :=
  ⟨h.1.callA hd hl hk, hk.blk h.2.1 hg.1, hk.blk h.2.2.1 hg.2.1, hk.blk h.2.2.2 hg.2.2⟩
theorem SB.callB (h : SB N w0 d d2 bo b1 b2 o x y s s2 w) (hd : EDis d d2) (hg : bo ≠ d2.g ∧ b1 ≠ d2.g ∧ b2 ≠ d2.g) (hl : ELives N w0 w' d2 s') (hk : Keep (fun k => k = d2.g) w w') : SB N w0 d d2 bo b1 b2 o x y s s' w' :=
  ⟨h.1.callB hd hl hk, hk.blk h.2.1 hg.1, hk.blk h.2.2.1 hg.2.1, hk.blk h.2.2.2 hg.2.2⟩
end
end Go.Proofs.Ytghihnblohoheaa

/-
  Layer 13 (mold): mathematics: lists of numbers, gather maps, what comes of arrays by them.
  Layer 13 (mold): the small calls: limit, isKind, fillOf, taken, dropped, List.
  Layer 13 (mold): List, axisNumbers.
-/
import Derived.Test.YtkabdkblcgklmaaArMake
import Derived.Test.YtkabdkblcgklmaaArSame
namespace Go.Proofs.Ytkabdkblcgklmaa.mo
open Go.RowKit Go.Proofs.Ytkabdkblcgklmaa.arr

theorem albel (w : World) (o : Obj) : Below w.heap.size w (w.alloc o) := (Below.refl _ _).alloc (Nat.le_refl _) _
theorem bon {w w1 w2 : World} (h : Below w.heap.size w w1) (k : Below w1.heap.size w1 w2) : Below w.heap.size w w2 := h.trans (k.mono h.size)

/-- A list's error, and its numbers. -/
def listE (a : AV) : Int := if okA a = true then (if 1 < a.sh.length then 3 else if a.kind = 2 then 5 else 0) else 110
def listL (a : AV) : List Int := if listE a = 0 then a.el else []
def limN (n : Int) : Int := max (-4097) (min n 4097)
def axE (a : AV) (sh : List Int) : Int := if okShape sh = true then listE a else 110
def axL (a : AV) (sh : List Int) : List Int := if axE a sh = 0 then a.el.map limN else []
theorem listE_ok {a : AV} (h : listE a = 0) : okA a = true := by
  unfold listE at h
  split at h
  · assumption
  · omega
theorem limN_bounds (n : Int) : -4097 ≤ limN n ∧ limN n ≤ 4097 := by unfold limN; omega

/-- What a fill element is. -/
def fillV (k : Int) : Int := if k = 2 then 32 else 0
/-- The element that comes from a source. -/
def elF (k : Int) (ls : List AV) (s : Int × Int) : Option Int :=
  if s.1 = -1 then some (fillV k)
  else if 0 ≤ s.1 then (match ls[s.1.toNat]? with
    | some a => if 0 ≤ s.2 then a.el[s.2.toNat]? else none
    | none => none)
  else none
def elV (k : Int) (ls : List AV) (s : Int × Int) : Int := (elF k ls s).getD 0
def elB (k : Int) (ls : List AV) (s : Int × Int) : Bool := (elF k ls s).isSome
/-- Has any of the first n places no source? -/
def astB (k : Int) (ls : List AV) (f : Nat → Int × Int) (n : Nat) : Bool := (List.range n).any (fun i => !elB k ls (f i))
theorem astB_succ (k : Int) (ls : List AV) (f : Nat → Int × Int) (n : Nat) : astB k ls f (n + 1) = (astB k ls f n || !elB k ls (f n)) := by
  unfold astB
  rw [List.range_succ, List.any_append]
  simp
def kindB (k : Int) : Bool := decide (k = 1) || decide (k = 2)
def goV (k : Int) (ls : List AV) (f : Nat → Int × Int) (z : Int) : Int := elV k ls (f z.toNat)
/-- What a gather map makes of arrays: its error, and the array. -/
def goR (k : Int) (ls : List AV) (sh : List Int) (f : Nat → Int × Int) : AV := makeA k sh (goV k ls f)
def goE (k : Int) (ls : List AV) (sh : List Int) (f : Nat → Int × Int) : Int :=
  if kindB k = false then 130 else if astB k ls f (prodI sh).toNat = true then 130 else checkE (goR k ls sh f)
def goA (k : Int) (ls : List AV) (sh : List Int) (f : Nat → Int × Int) : AV := if goE k ls sh f = 0 then goR k ls sh f else noA
theorem checkE_iff {a : AV} : checkE a = 0 ↔ okA a = true := by
  unfold checkE
  split
  · simp_all
  · simp_all

/-- The axis of a result along the array's: its length, where it begins, how many there are. -/
structure Sp where
  len : Int
  frm : Int
  has : Int
def takN (n has : Int) : Sp := if n < 0 then ⟨-n, has + n, has⟩ else ⟨n, 0, has⟩
def droN (n has : Int) : Sp := if n < 0 then ⟨max 0 (has + n), 0, has⟩ else ⟨max 0 (has - n), n, has⟩
def spC (s : Sp) : List Value := [.int .i64 s.len, .int .i64 s.frm, .int .i64 s.has]

theorem mobelow3 {w : World} (a b c : Obj) : Below w.heap.size w (((w.alloc a).alloc b).alloc c) := ((albel w a).alloc (by simp) _).alloc (by simp; omega) _
theorem mobelow2 {w : World} (a b : Obj) : Below w.heap.size w ((w.alloc a).alloc b) := (albel w a).alloc (by simp) _
end Go.Proofs.Ytkabdkblcgklmaa.mo

namespace Go.Proofs.Ytkabdkblcgklmaa.mo
open Go.RowKit Go.Proofs.Ytkabdkblcgklmaa.arr

theorem mokind_any (k : Int) (w : World) : Calls Try.prog 172 #[.int .i64 k] w fun e w' => e = .returned (.bool (kindB k)) ∧ w = w' := by
  unfold kindB
  by_cases h1 : k = 1
  · subst h1
    go_enter Try.func172, Try.ntmps172
    go_wp2
    go_ret
    exact ⟨rfl, rfl⟩
  · have b1 : (k == 1) = false := by simpa using h1
    by_cases h2 : k = 2
    · subst h2
      go_enter Try.func172, Try.ntmps172
      go_wp2
      go_ret
      exact ⟨rfl, rfl⟩
    · have b2 : (k == 2) = false := by simpa using h2
      rw [decide_eq_false h1, decide_eq_false h2]
      go_enter Try.func172, Try.ntmps172
      go_wp2
      go_ret
      exact ⟨rfl, rfl⟩

theorem mofill_any (k : Int) (w : World) : Calls Try.prog 209 #[.int .i64 k] w fun e w' => e = .returned (.int .i64 (fillV k)) ∧ w = w' := by
  unfold fillV
  by_cases h2 : k = 2
  · subst h2
    go_enter Try.func209, Try.ntmps209
    go_wp2
    go_ret
    exact ⟨rfl, rfl⟩
  · have b2 : (k == 2) = false := by simpa using h2
    rw [if_neg h2]
    clear h2
    go_enter Try.func209, Try.ntmps209
    go_wp2
    go_ret
    exact ⟨rfl, rfl⟩

/-- What a way to cut answers. -/
def CutA (s : Sp) (w : World) (e : Ending) (w' : World) : Prop := e = .returned (.agg #[.int .i64 s.len, .int .i64 s.frm, .int .i64 s.has]) ∧ Below w.heap.size w w'

end Go.Proofs.Ytkabdkblcgklmaa.mo

namespace Go.Proofs.Ytkabdkblcgklmaa.mo
open Go.RowKit Go.Proofs.Ytkabdkblcgklmaa.arr

/-- A list that a call answers: of its own. -/
def GiveL (t : TypeId) (l : List Int) (E : Int) (w : World) (e : Ending) (w' : World) : Prop :=
  ∃ A c, e = .returned (.tuple #[.slice A l.length c, .int .i64 E]) ∧ w'.ownsRow w.heap.size t 1 (.slice A l.length c) l.length (l.map iv) ∧ Below w.heap.size w w'
theorem GiveL.no {t : TypeId} {l : List Int} {E : Int} {w w' : World} (h : l = []) (hb : Below w.heap.size w w') : GiveL t l E w (.returned (.tuple #[.slice none 0 0, .int .i64 E])) w' := by
  subst h
  exact ⟨none, 0, rfl, World.ownsRow_nil _ _ _ _, hb⟩

set_option maxRecDepth 100000 in
set_option maxHeartbeats 2000000 in
theorem molist_any (a : AV) (p : AP) (w : World) (h : AEl w a p) : Calls Try.prog 185 #[.agg (arC a p)] w (GiveL 2 (listL a) (listE a) w) := by
  have hbx := h.box
  have HCK := Lib.hid (archeck_any a p _ hbx.el)
  have hE : listE a = if okA a = true then (if 1 < a.sh.length then 3 else if a.kind = 2 then 5 else 0) else 110 := rfl
  have hL : listL a = if listE a = 0 then a.el else [] := rfl
  have HX := Lib.hid hbx
  have hx := hbx.blk
  obtain ⟨w1, hw1⟩ : ∃ w1, w.alloc (.cells (arC a p) 25) = w1 := ⟨_, rfl⟩
  rw [hw1] at HCK HX hx
  have hc : checkE a = if okA a = true then 0 else 110 := rfl
  have HLEN := Lib.hid (fun (ho : okA a = true) => okA_len ho)
  obtain ⟨k, sh, el⟩ := a
  obtain ⟨A0, c0, A1, c1⟩ := p
  have HCL := Lib.hid (fun W (ho : okA ⟨k, sh, el⟩ = true) (hb : Below w.heap.size w W) => arcloneL_any A1 el.length c1 el W rfl ((h.below hb).r1) (by have h2 := okA_len ho; have h3 : el.length ≤ 4096 := h2.1; omega))
  unfold arC at *
  simp only at *
  have x0 := hx.cell 0
  have x1 := hx.cell 1
  have x2 := hx.cell 2
  have HXX := Lib.hid hx
  have HB := Lib.hid HX.out.b
  have HWW := Lib.hid hw1
  obtain ⟨z, hz⟩ : ∃ z, w.heap.size = z := ⟨_, rfl⟩
  rw [hz] at x0 x1 x2 hx HXX
  clear hx h hbx HX
  cases ho : okA ⟨k, sh, el⟩
  · rw [ho, if_neg (by decide)] at hc hE
    rw [hE, if_neg (by decide)] at hL
    rw [hL, hE]
    rw [hc] at HCK
    clear hE hL hc HCL
    go_enter Try.func185, Try.ntmps185
    go_wp2_with (go_at_call 21; (try rw [hw1]); refine HCK.out.mono ?_; rintro e w2 ⟨rfl, b2⟩; have HB2 := Lib.hid (bon HB.out b2); clear b2)
    go_ret2
    exact GiveL.no rfl HB2.out
  · rw [ho, if_pos rfl] at hc hE
    rw [hc] at HCK
    by_cases hs : 1 < sh.length
    · rw [if_pos hs] at hE
      rw [hE, if_neg (by decide)] at hL
      rw [hL, hE]
      have hs2 : (1 : Int) < (sh.length : Int) := by omega
      clear hE hL hc HCL hs
      generalize sh.length = m at *
      go_enter Try.func185, Try.ntmps185
      go_wp2_with (go_at_call 21; (try rw [hw1]); refine HCK.out.mono ?_; rintro e w2 ⟨rfl, b2⟩; have HB2 := Lib.hid (bon HB.out b2); have hx := HXX.out.below b2 HXX.out.lt; have y0 := hx.cell 0; have y1 := hx.cell 1; have y2 := hx.cell 2; clear b2 hx)
      go_ret2
      exact GiveL.no rfl HB2.out
    · rw [if_neg hs] at hE
      have hs2 : ¬ (1 : Int) < (sh.length : Int) := by omega
      by_cases hk : k = 2
      · rw [if_pos hk] at hE
        rw [hE, if_neg (by decide)] at hL
        rw [hL, hE]
        subst hk
        clear hE hL hc HCL hs
        generalize sh.length = m at *
        go_enter Try.func185, Try.ntmps185
        go_wp2_with (go_at_call 21; (try rw [hw1]); refine HCK.out.mono ?_; rintro e w2 ⟨rfl, b2⟩; have HB2 := Lib.hid (bon HB.out b2); have hx := HXX.out.below b2 HXX.out.lt; have y0 := hx.cell 0; have y1 := hx.cell 1; have y2 := hx.cell 2; clear b2 hx)
        go_ret2
        exact GiveL.no rfl HB2.out
      · rw [if_neg hk] at hE
        rw [hE, if_pos rfl] at hL
        rw [hL, hE]
        have hk2 : (k == 2) = false := by rw [beq_eq_false_iff_ne]; exact hk
        have HCL2 := Lib.hid (fun W hb => HCL.out W ho hb)
        clear hE hL hc HCL hs hk
        generalize sh.length = m at *
        have HCL3 : Hid (∀ W, Below w.heap.size w W → Calls Try.prog 69 #[.slice A1 el.length c1] W fun e w' => ∃ A' c', e = .returned (.slice A' el.length c') ∧ w'.ownsRow W.heap.size 2 1 (.slice A' el.length c') el.length (el.map iv) ∧ Below W.heap.size W w') := Lib.hid (fun W hb => HCL2.out W hb)
        clear HCL2 HLEN
        generalize hn : el.length = n at *
        have HN := Lib.hid hn
        have HO2 := Lib.hid ho
        clear hn ho
        go_enter Try.func185, Try.ntmps185
        go_wp2_with (first
          | (go_at_call 21; (try rw [hw1]); refine HCK.out.mono ?_; rintro e w2 ⟨rfl, b2⟩; have HB2 := Lib.hid (bon HB.out b2); have hx := HXX.out.below b2 HXX.out.lt; have y0 := hx.cell 0; have y1 := hx.cell 1; have y2 := hx.cell 2; clear b2 hx)
          | (go_at_call 69; refine (HCL3.out w2 HB2.out).mono ?_; rintro e w3 ⟨A3, c3, rfl, o3, b3⟩; have HO := Lib.hid o3; have HB3 := Lib.hid (bon HB2.out b3); clear o3 b3))
        go_ret2
        have hn := HN.out
        have o3 := arown_mono HO.out HB2.out.size
        have b3 := HB3.out
        subst hn
        exact ⟨A3, c3, rfl, o3, b3⟩

end Go.Proofs.Ytkabdkblcgklmaa.mo

/-
  Layer 13 (mold): mathematics: lists of numbers, gather maps, what comes of arrays by them.
  Layer 13 (mold): the small calls: limit, isKind, fillOf, taken, dropped, List.
  Layer 13 (mold): List, axisNumbers.
-/
import Derived.Test.YtenpohnccnlngaaArMake
import Derived.Test.YtenpohnccnlngaaArSame
namespace Go.Proofs.Ytenpohnccnlngaa.mo
open Go.RowKit Go.Proofs.Ytenpohnccnlngaa.arr

theorem albel (w : World) (o : Obj) : Below w.heap.size w (w.alloc o) := (Below.refl _ _).alloc (Nat.le_refl _) _
theorem bon {w w1 w2 : World} (h : Below w.heap.size w w1) (k : Below w1.heap.size w1 w2) : Below w.heap.size w w2 := h.trans (k.mono h.size)

/-- A list's error, and its numbers. -/
def listE (a : AV) : Int := if okA a = true then (if 1 < a.sh.length then 3 else if a.kind = 2 then 5 else 0) else 110
def listL (a : AV) : List Int := if listE a = 0 then a.el else []
def limN (n : Int) : Int := max (-4097) (min n 4097)
def axE (a : AV) (sh : List Int) : Int := if okShape sh = true then listE a else 110
def axL (a : AV) (sh : List Int) : List Int := if axE a sh = 0 then a.el.map limN else []
theorem listE_ok {a : AV} (h : listE a = 0) : okA a = true := by
  unfold listE at h
  split at h
  · assumption
  · omega
theorem limN_bounds (n : Int) : -4097 ≤ limN n ∧ limN n ≤ 4097 := by unfold limN; omega

/-- What a fill element is. -/
def fillV (k : Int) : Int := if k = 2 then 32 else 0
/-- The element that comes from a source. -/
def elF (k : Int) (ls : List AV) (s : Int × Int) : Option Int :=
  if s.1 = -1 then some (fillV k)
  else if 0 ≤ s.1 then (match ls[s.1.toNat]? with
    | some a => if 0 ≤ s.2 then a.el[s.2.toNat]? else none
    | none => none)
  else none
def elV (k : Int) (ls : List AV) (s : Int × Int) : Int := (elF k ls s).getD 0
def elB (k : Int) (ls : List AV) (s : Int × Int) : Bool := (elF k ls s).isSome
/-- Has any of the first n places no source? -/
def astB (k : Int) (ls : List AV) (f : Nat → Int × Int) (n : Nat) : Bool := (List.range n).any (fun i => !elB k ls (f i))
theorem astB_succ (k : Int) (ls : List AV) (f : Nat → Int × Int) (n : Nat) : astB k ls f (n + 1) = (astB k ls f n || !elB k ls (f n)) := by
  unfold astB
  rw [List.range_succ, List.any_append]
  simp
def kindB (k : Int) : Bool := decide (k = 1) || decide (k = 2)
def goV (k : Int) (ls : List AV) (f : Nat → Int × Int) (z : Int) : Int := elV k ls (f z.toNat)
/-- What a gather map makes of arrays: its error, and the array. -/
def goR (k : Int) (ls : List AV) (sh : List Int) (f : Nat → Int × Int) : AV := makeA k sh (goV k ls f)
def goE (k : Int) (ls : List AV) (sh : List Int) (f : Nat → Int × Int) : Int :=
  if kindB k = false then 130 else if astB k ls f (prodI sh).toNat = true then 130 else checkE (goR k ls sh f)
def goA (k : Int) (ls : List AV) (sh : List Int) (f : Nat → Int × Int) : AV := if goE k ls sh f = 0 then goR k ls sh f else noA
theorem checkE_iff {a : AV} : checkE a = 0 ↔ okA a = true := by
  unfold checkE
  split
  · simp_all
  · simp_all

/-- The axis of a result along the array's: its length, where it begins, how many there are. -/
structure Sp where
  len : Int
  frm : Int
  has : Int
def takN (n has : Int) : Sp := if n < 0 then ⟨-n, has + n, has⟩ else ⟨n, 0, has⟩
def droN (n has : Int) : Sp := if n < 0 then ⟨max 0 (has + n), 0, has⟩ else ⟨max 0 (has - n), n, has⟩
def spC (s : Sp) : List Value := [.int .i64 s.len, .int .i64 s.frm, .int .i64 s.has]

theorem mobelow3 {w : World} (a b c : Obj) : Below w.heap.size w (((w.alloc a).alloc b).alloc c) := ((albel w a).alloc (by simp) _).alloc (by simp; omega) _
theorem mobelow2 {w : World} (a b : Obj) : Below w.heap.size w ((w.alloc a).alloc b) := (albel w a).alloc (by simp) _
end Go.Proofs.Ytenpohnccnlngaa.mo

namespace Go.Proofs.Ytenpohnccnlngaa.mo
open Go.RowKit Go.Proofs.Ytenpohnccnlngaa.arr

theorem molimit_any (n : Int) (h0 : -9223372036854775808 ≤ n) (h1 : n ≤ 9223372036854775807) (w : World) : Calls Try.prog 123 #[.int .i64 n] w fun e w' => e = .returned (.int .i64 (limN n)) ∧ w = w' := by
  by_cases a1 : n ≤ 4097
  · by_cases a2 : -4097 ≤ n
    · have e : limN n = n := by unfold limN; omega
      have m1 : min n 4097 = n := by omega
      have m2 : max (-4097) n = n := by omega
      rw [e]
      go_enter Try.func123, Try.ntmps123
      go_wp2
      go_ret
      exact ⟨rfl, rfl⟩
    · have e : limN n = -4097 := by unfold limN; omega
      have m1 : min n 4097 = n := by omega
      have m2 : max (-4097) n = -4097 := by omega
      rw [e]
      go_enter Try.func123, Try.ntmps123
      go_wp2
      go_ret
      exact ⟨rfl, rfl⟩
  · have e : limN n = 4097 := by unfold limN; omega
    have m1 : min n 4097 = 4097 := by omega
    rw [e]
    go_enter Try.func123, Try.ntmps123
    go_wp2
    go_ret
    exact ⟨rfl, rfl⟩

theorem mokind_any (k : Int) (w : World) : Calls Try.prog 70 #[.int .i64 k] w fun e w' => e = .returned (.bool (kindB k)) ∧ w = w' := by
  unfold kindB
  by_cases h1 : k = 1
  · subst h1
    go_enter Try.func70, Try.ntmps70
    go_wp2
    go_ret
    exact ⟨rfl, rfl⟩
  · have b1 : (k == 1) = false := by simpa using h1
    by_cases h2 : k = 2
    · subst h2
      go_enter Try.func70, Try.ntmps70
      go_wp2
      go_ret
      exact ⟨rfl, rfl⟩
    · have b2 : (k == 2) = false := by simpa using h2
      rw [decide_eq_false h1, decide_eq_false h2]
      go_enter Try.func70, Try.ntmps70
      go_wp2
      go_ret
      exact ⟨rfl, rfl⟩

theorem mofill_any (k : Int) (w : World) : Calls Try.prog 119 #[.int .i64 k] w fun e w' => e = .returned (.int .i64 (fillV k)) ∧ w = w' := by
  unfold fillV
  by_cases h2 : k = 2
  · subst h2
    go_enter Try.func119, Try.ntmps119
    go_wp2
    go_ret
    exact ⟨rfl, rfl⟩
  · have b2 : (k == 2) = false := by simpa using h2
    rw [if_neg h2]
    clear h2
    go_enter Try.func119, Try.ntmps119
    go_wp2
    go_ret
    exact ⟨rfl, rfl⟩

theorem load_span (w : World) (g : Nat) (x y z : Value) (hb : Blk w g 125 #[x, y, z]) : (loadVar 125 ⟨g, 0, none⟩).run Try.prog w = .ok (.agg #[x, y, z]) w := by
  have h1 : w.rangeAt g 0 [x, y, z] := fun j v hv => by
    rw [Nat.zero_add, hb.cell]
    simpa using hv
  exact run_loadVar_mid w g 0 125 [x, y, z] _ h1 Try.underlying125 rfl (by kernel_rfl)
theorem results_span {fn : Func} {t : Tmp} {tmps : Array Value} {w : World} {g : Nat} {x y z : Value} (h : fn.results = #[.cell t 125]) (ht : tmps.getD t undef = .pointer (some ⟨g, 0, none⟩)) (hb : Blk w g 125 #[x, y, z]) : (results fn tmps).run Try.prog w = .ok (.agg #[x, y, z]) w := by
  have h1 := load_span w g x y z hb
  rw [Array.getD_eq_getD_getElem?] at ht
  simp [results, h, ht, h1, asAddr]
/-- What a way to cut answers. -/
def CutA (s : Sp) (w : World) (e : Ending) (w' : World) : Prop := e = .returned (.agg #[.int .i64 s.len, .int .i64 s.frm, .int .i64 s.has]) ∧ Below w.heap.size w w'

set_option maxHeartbeats 1000000 in
theorem motaken_any (n h : Int) (n0 : -4097 ≤ n) (n1 : n ≤ 4097) (h0 : 0 ≤ h) (h1 : h ≤ 4096) (w : World) : Calls Try.prog 81 #[.int .i64 n, .int .i64 h] w (CutA (takN n h) w) := by
  have hx := Blk.new w 125 #[.int .i64 0, .int .i64 0, .int .i64 0]
  have x0 := hx.cell 0
  have x1 := hx.cell 1
  have x2 := hx.cell 2
  have f0 := hx.frozen 0
  have f1 := hx.frozen 1
  have f2 := hx.frozen 2
  clear hx
  by_cases hn : n < 0
  · have e : takN n h = ⟨-n, h + n, h⟩ := by unfold takN; rw [if_pos hn]
    rw [e]
    go_enter Try.func81, Try.ntmps81
    go_wp2
    refine bodyPost_ret (results_span rfl rfl (Blk.new w _ _)) rfl ?_
    exact ⟨rfl, albel _ _⟩
  · have e : takN n h = ⟨n, 0, h⟩ := by unfold takN; rw [if_neg hn]
    rw [e]
    go_enter Try.func81, Try.ntmps81
    go_wp2
    refine bodyPost_ret (results_span rfl rfl (Blk.new w _ _)) rfl ?_
    exact ⟨rfl, albel _ _⟩

set_option maxHeartbeats 1000000 in
theorem modropped_any (n h : Int) (n0 : -4097 ≤ n) (n1 : n ≤ 4097) (h0 : 0 ≤ h) (h1 : h ≤ 4096) (w : World) : Calls Try.prog 82 #[.int .i64 n, .int .i64 h] w (CutA (droN n h) w) := by
  have hx := Blk.new w 125 #[.int .i64 0, .int .i64 0, .int .i64 0]
  have x0 := hx.cell 0
  have x1 := hx.cell 1
  have x2 := hx.cell 2
  have f0 := hx.frozen 0
  have f1 := hx.frozen 1
  have f2 := hx.frozen 2
  clear hx
  by_cases hn : n < 0
  · have e : droN n h = ⟨max 0 (h + n), 0, h⟩ := by unfold droN; rw [if_pos hn]
    rw [e]
    by_cases hm : 0 ≤ h + n
    · have em : max 0 (h + n) = h + n := by omega
      rw [em]
      go_enter Try.func82, Try.ntmps82
      go_wp2
      refine bodyPost_ret (results_span rfl rfl (Blk.new w _ _)) rfl ?_
      exact ⟨rfl, albel _ _⟩
    · have em : max 0 (h + n) = 0 := by omega
      rw [em]
      go_enter Try.func82, Try.ntmps82
      go_wp2
      refine bodyPost_ret (results_span rfl rfl (Blk.new w _ _)) rfl ?_
      exact ⟨rfl, albel _ _⟩
  · have e : droN n h = ⟨max 0 (h - n), n, h⟩ := by unfold droN; rw [if_neg hn]
    rw [e]
    by_cases hm : 0 ≤ h - n
    · have em : max 0 (h - n) = h - n := by omega
      rw [em]
      go_enter Try.func82, Try.ntmps82
      go_wp2
      refine bodyPost_ret (results_span rfl rfl (Blk.new w _ _)) rfl ?_
      exact ⟨rfl, albel _ _⟩
    · have em : max 0 (h - n) = 0 := by omega
      rw [em]
      go_enter Try.func82, Try.ntmps82
      go_wp2
      refine bodyPost_ret (results_span rfl rfl (Blk.new w _ _)) rfl ?_
      exact ⟨rfl, albel _ _⟩
end Go.Proofs.Ytenpohnccnlngaa.mo

namespace Go.Proofs.Ytenpohnccnlngaa.mo
open Go.RowKit Go.Proofs.Ytenpohnccnlngaa.arr

/-- A list that a call answers: of its own. -/
def GiveL (t : TypeId) (l : List Int) (E : Int) (w : World) (e : Ending) (w' : World) : Prop :=
  ∃ A c, e = .returned (.tuple #[.slice A l.length c, .int .i64 E]) ∧ w'.ownsRow w.heap.size t 1 (.slice A l.length c) l.length (l.map iv) ∧ Below w.heap.size w w'
theorem GiveL.no {t : TypeId} {l : List Int} {E : Int} {w w' : World} (h : l = []) (hb : Below w.heap.size w w') : GiveL t l E w (.returned (.tuple #[.slice none 0 0, .int .i64 E])) w' := by
  subst h
  exact ⟨none, 0, rfl, World.ownsRow_nil _ _ _ _, hb⟩

set_option maxRecDepth 100000 in
set_option maxHeartbeats 2000000 in
theorem molist_any (a : AV) (p : AP) (w : World) (h : AEl w a p) : Calls Try.prog 122 #[.agg (arC a p)] w (GiveL 2 (listL a) (listE a) w) := by
  have hbx := h.box
  have HCK := Lib.hid (archeck_any a p _ hbx.el)
  have hE : listE a = if okA a = true then (if 1 < a.sh.length then 3 else if a.kind = 2 then 5 else 0) else 110 := rfl
  have hL : listL a = if listE a = 0 then a.el else [] := rfl
  have HX := Lib.hid hbx
  have hx := hbx.blk
  obtain ⟨w1, hw1⟩ : ∃ w1, w.alloc (.cells (arC a p) 25) = w1 := ⟨_, rfl⟩
  rw [hw1] at HCK HX hx
  have hc : checkE a = if okA a = true then 0 else 110 := rfl
  have HLEN := Lib.hid (fun (ho : okA a = true) => okA_len ho)
  obtain ⟨k, sh, el⟩ := a
  obtain ⟨A0, c0, A1, c1⟩ := p
  have HCL := Lib.hid (fun W (ho : okA ⟨k, sh, el⟩ = true) (hb : Below w.heap.size w W) => arcloneL_any A1 el.length c1 el W rfl ((h.below hb).r1) (by have h2 := okA_len ho; have h3 : el.length ≤ 4096 := h2.1; omega))
  unfold arC at *
  simp only at *
  have x0 := hx.cell 0
  have x1 := hx.cell 1
  have x2 := hx.cell 2
  have HXX := Lib.hid hx
  have HB := Lib.hid HX.out.b
  have HWW := Lib.hid hw1
  obtain ⟨z, hz⟩ : ∃ z, w.heap.size = z := ⟨_, rfl⟩
  rw [hz] at x0 x1 x2 hx HXX
  clear hx h hbx HX
  cases ho : okA ⟨k, sh, el⟩
  · rw [ho, if_neg (by decide)] at hc hE
    rw [hE, if_neg (by decide)] at hL
    rw [hL, hE]
    rw [hc] at HCK
    clear hE hL hc HCL
    go_enter Try.func122, Try.ntmps122
    go_wp2_with (go_at_call 32; (try rw [hw1]); refine HCK.out.mono ?_; rintro e w2 ⟨rfl, b2⟩; have HB2 := Lib.hid (bon HB.out b2); clear b2)
    go_ret2
    exact GiveL.no rfl HB2.out
  · rw [ho, if_pos rfl] at hc hE
    rw [hc] at HCK
    by_cases hs : 1 < sh.length
    · rw [if_pos hs] at hE
      rw [hE, if_neg (by decide)] at hL
      rw [hL, hE]
      have hs2 : (1 : Int) < (sh.length : Int) := by omega
      clear hE hL hc HCL hs
      generalize sh.length = m at *
      go_enter Try.func122, Try.ntmps122
      go_wp2_with (go_at_call 32; (try rw [hw1]); refine HCK.out.mono ?_; rintro e w2 ⟨rfl, b2⟩; have HB2 := Lib.hid (bon HB.out b2); have hx := HXX.out.below b2 HXX.out.lt; have y0 := hx.cell 0; have y1 := hx.cell 1; have y2 := hx.cell 2; clear b2 hx)
      go_ret2
      exact GiveL.no rfl HB2.out
    · rw [if_neg hs] at hE
      have hs2 : ¬ (1 : Int) < (sh.length : Int) := by omega
      by_cases hk : k = 2
      · rw [if_pos hk] at hE
        rw [hE, if_neg (by decide)] at hL
        rw [hL, hE]
        subst hk
        clear hE hL hc HCL hs
        generalize sh.length = m at *
        go_enter Try.func122, Try.ntmps122
        go_wp2_with (go_at_call 32; (try rw [hw1]); refine HCK.out.mono ?_; rintro e w2 ⟨rfl, b2⟩; have HB2 := Lib.hid (bon HB.out b2); have hx := HXX.out.below b2 HXX.out.lt; have y0 := hx.cell 0; have y1 := hx.cell 1; have y2 := hx.cell 2; clear b2 hx)
        go_ret2
        exact GiveL.no rfl HB2.out
      · rw [if_neg hk] at hE
        rw [hE, if_pos rfl] at hL
        rw [hL, hE]
        have hk2 : (k == 2) = false := by rw [beq_eq_false_iff_ne]; exact hk
        have HCL2 := Lib.hid (fun W hb => HCL.out W ho hb)
        clear hE hL hc HCL hs hk
        generalize sh.length = m at *
        have HCL3 : Hid (∀ W, Below w.heap.size w W → Calls Try.prog 65 #[.slice A1 el.length c1] W fun e w' => ∃ A' c', e = .returned (.slice A' el.length c') ∧ w'.ownsRow W.heap.size 2 1 (.slice A' el.length c') el.length (el.map iv) ∧ Below W.heap.size W w') := Lib.hid (fun W hb => HCL2.out W hb)
        clear HCL2 HLEN
        generalize hn : el.length = n at *
        have HN := Lib.hid hn
        have HO2 := Lib.hid ho
        clear hn ho
        go_enter Try.func122, Try.ntmps122
        go_wp2_with (first
          | (go_at_call 32; (try rw [hw1]); refine HCK.out.mono ?_; rintro e w2 ⟨rfl, b2⟩; have HB2 := Lib.hid (bon HB.out b2); have hx := HXX.out.below b2 HXX.out.lt; have y0 := hx.cell 0; have y1 := hx.cell 1; have y2 := hx.cell 2; clear b2 hx)
          | (go_at_call 65; refine (HCL3.out w2 HB2.out).mono ?_; rintro e w3 ⟨A3, c3, rfl, o3, b3⟩; have HO := Lib.hid o3; have HB3 := Lib.hid (bon HB2.out b3); clear o3 b3))
        go_ret2
        have hn := HN.out
        have o3 := arown_mono HO.out HB2.out.size
        have b3 := HB3.out
        subst hn
        exact ⟨A3, c3, rfl, o3, b3⟩

set_option maxRecDepth 100000 in
set_option maxHeartbeats 4000000 in
theorem moaxis_any (a : AV) (p : AP) (S : Option Addr) (c : Nat) (sh : List Int) (w : World) (h : AEl w a p) (rs : Reads w w.heap.size 1 S sh.length (sh.map iv)) (hs : sh.length ≤ 9223372036854775807) :
    Calls Try.prog 75 #[.agg (arC a p), .slice S sh.length c] w (GiveL 3 (axL a sh) (axE a sh) w) := by
  obtain ⟨i0, hi, hz0, hz1, hz2⟩ := info_parts arInfoInt
  have hbx := h.box
  have HX := Lib.hid hbx
  have hx := hbx.blk
  have HC := Lib.hid (arcount_any S c sh.length sh _ rfl ((rs.below hbx.b).more hbx.b.size) hs)
  have HLI := Lib.hid (molist_any a p _ hbx.el)
  have hE : axE a sh = if okShape sh = true then listE a else 110 := rfl
  have hL : axL a sh = if axE a sh = 0 then a.el.map limN else [] := rfl
  have hLL : listL a = if listE a = 0 then a.el else [] := rfl
  have HF := Lib.hid h.f1
  have HLEN := Lib.hid (fun ho : listE a = 0 => okA_len (listE_ok ho))
  obtain ⟨w1, hw1⟩ : ∃ w1, w.alloc (.cells (arC a p) 25) = w1 := ⟨_, rfl⟩
  rw [hw1] at HC HLI HX hx
  have HB := Lib.hid HX.out.b
  have hAC : arC a p = #[.int .i64 a.kind, .slice p.A0 a.sh.length p.c0, .slice p.A1 a.el.length p.c1] := rfl
  rw [hAC] at HLI hw1 hx
  rw [hAC]
  have x0 := hx.cell 0
  have x1 := hx.cell 1
  have x2 := hx.cell 2
  generalize a.kind = k at *
  generalize (Value.slice p.A0 a.sh.length p.c0) = sa at *
  generalize (Value.slice p.A1 a.el.length p.c1) = la at *
  clear h hbx rs HX hAC hx
  cases ho : okShape sh
  · obtain ⟨e1, e2⟩ := cnt_no ho
    rw [e1, e2] at HC
    rw [ho, if_neg (by decide)] at hE
    rw [hE, if_neg (by decide)] at hL
    rw [hL, hE]
    clear hE hL hLL HLI e1 e2
    go_enter Try.func75, Try.ntmps75
    go_wp2_with (go_at_call 69; (try rw [hw1]); refine HC.out.mono ?_; rintro e _ ⟨rfl, rfl⟩)
    go_ret2
    exact GiveL.no rfl HB.out
  · obtain ⟨e1, e2⟩ := cnt_ok ho
    rw [e1, e2] at HC
    rw [ho, if_pos rfl] at hE
    generalize prodI sh = q at *
    by_cases hl : listE a = 0
    case neg =>
      obtain ⟨E, hEE⟩ : ∃ E, listE a = E := ⟨_, rfl⟩
      rw [hEE] at hE hLL HLI hl
      rw [if_neg hl] at hLL
      rw [hE, if_neg hl] at hL
      rw [hLL] at HLI
      rw [hL, hE]
      have hne : (E != 0) = true := by simp [hl]
      clear hE hL hLL hl hEE
      go_enter Try.func75, Try.ntmps75
      go_wp2_with (first
        | (go_at_call 69; (try rw [hw1]); refine HC.out.mono ?_; rintro e _ ⟨rfl, rfl⟩)
        | (go_at_call 122; (try rw [hw1]); refine HLI.out.mono ?_; rintro e w2 ⟨A2, c2, rfl, o2, b2⟩; have HB2 := Lib.hid (bon HB.out b2); clear o2 b2))
      go_ret2
      exact GiveL.no rfl HB2.out
    · rw [hl] at hE hLL HLI
      rw [if_pos rfl] at hLL
      rw [hE, if_pos rfl] at hL
      rw [hLL] at HLI
      rw [hL, hE]
      have hel := (HLEN.out hl).1
      have HF2 := HF
      generalize a.el = el at *
      obtain ⟨n, hn⟩ : ∃ n, el.length = n := ⟨_, rfl⟩
      unfold GiveL at HLI
      rw [hn] at HLI hel
      have HN := Lib.hid hn
      clear hE hL hLL hl hn HF HLEN
      go_enter Try.func75, Try.ntmps75
      go_wp2_with (first
        | (go_at_call 69; (try rw [hw1]); refine HC.out.mono ?_; rintro e _ ⟨rfl, rfl⟩)
        | (go_at_call 122; (try rw [hw1]); refine HLI.out.mono ?_; rintro e w2 ⟨A2, c2, rfl, o2, b2⟩; have HB2 := Lib.hid (bon HB.out b2); have HR2 := Lib.hid (Reads.of_own o2); clear o2 b2))
      clear x0 x1 x2 hw1
      go_loopw [31, 10] (fun i v wr => ∃ (j : Nat) (A1 : Option Addr) (c1 : Nat), j ≤ n ∧ i = .int .i64 (j : Int) ∧ v = .slice A1 j c1 ∧ wr.ownsRow w2.heap.size 3 1 (.slice A1 j c1) j (((el.map limN).take j).map iv) ∧ Below w2.heap.size w2 wr) (fun i _ _ => n - (intOf i).toNat)
      case atStart => exact ⟨0, none, 0, Nat.zero_le _, rfl, rfl, World.ownsRow_nil _ _ _ _, Below.refl _ _⟩
      case round =>
        obtain ⟨j, A1, c1, hj, rfl, rfl, o1, hbw⟩ := hrel
        by_cases hlt : j < n
        · obtain ⟨adA, rfl, _, cA⟩ := (HR2.out.below hbw).int_at hlt HN.out
          have hjl : j < el.length := by have := HN.out; omega
          have hst : ((el.map limN).take (j + 1)).map iv = ((el.map limN).take j).map iv ++ [.int .i64 (limN el[j])] := by
            rw [List.take_succ_eq_append_getElem (by rw [List.length_map]; exact hjl), List.map_append, List.getElem_map]
            rfl
          have hf := HF2.out el[j] (List.getElem_mem hjl)
          generalize el[j] = x at *
          have HLM := Lib.hid (molimit_any x hf.1 hf.2 wr)
          generalize limN x = y at *
          have HST := Lib.hid hst
          have HO1 := Lib.hid o1
          have HBW := Lib.hid hbw
          have HNEW : Hid (∀ W : World, ∀ k u, [Value.int .i64 y][k]? = some u → (W.alloc (.cells #[.int .i64 y] 3)).cell? ((⟨W.heap.size, 0, none⟩ : Addr).add k) = some u) := Lib.hid (fun W k u hu => by
            rw [Addr.add_mid, Nat.zero_add, (Blk.new W 3 _).cell k, List.getElem?_toArray]
            exact hu)
          clear hst hf o1 hbw
          go_wp2_with (first
            | (go_at_call 123; refine HLM.out.mono ?_; rintro e _ ⟨rfl, rfl⟩)
            | (at_builtin; refine wpList_append_own _ rfl _ _ 22 rfl w2.heap.size 3 i0 (.int .i64 0) 1 8 Try.underlying22 hi hz0 hz1 hz2 rfl (by decide) _ j _ rfl (arown_stay HO1.out ((Below.refl _ wr).alloc (Nat.le_refl _) _) (fun g hg => (arown_lt HO1.out g hg).2)) ⟨wr.heap.size, 0, none⟩ 1 1 [.int .i64 y] rfl rfl (HNEW.out wr) (by intro u hu; rw [List.mem_singleton] at hu; subst hu; rfl) (by unfold maxLen; omega) (by omega) (by have h2 := HBW.out.size; simp; omega) ?_; intro v3 w3 hown hgrow _
               have b3 : Below w2.heap.size w2 w3 := (HBW.out.alloc HBW.out.size _).grown hgrow (by have h2 := HBW.out.size; simp; omega) (fun g e => (arown_lt HO1.out g e).1)
               have B3 := Lib.hid b3
               have O3 := Lib.hid hown
               clear hown hgrow b3))
          obtain ⟨A3, c3, rfl⟩ : ∃ A3 c3, v3 = .slice A3 (j + 1) c3 := by
            rcases O3.out.2 with ⟨_, h0⟩ | ⟨g, cap, cur, e, _⟩
            · omega
            · exact ⟨_, cap, e⟩
          refine ⟨⟨j + 1, A3, c3, by omega, by go_num, rfl, ?_, B3.out⟩, by simp [intOf]; omega⟩
          rw [HST.out]
          exact O3.out
        · obtain rfl : j = n := by omega
          have hfull : (el.map limN).take j = el.map limN := List.take_of_length_le (by rw [List.length_map]; have := HN.out; omega)
          rw [hfull] at o1
          have HO1 := Lib.hid o1
          have HBW := Lib.hid hbw
          clear o1 hbw hfull
          go_wp2
          go_ret2
          have hn := HN.out
          subst hn
          unfold GiveL
          rw [List.length_map]
          exact ⟨A1, c1, rfl, arown_mono HO1.out HB2.out.size, bon HB2.out HBW.out⟩
end Go.Proofs.Ytenpohnccnlngaa.mo

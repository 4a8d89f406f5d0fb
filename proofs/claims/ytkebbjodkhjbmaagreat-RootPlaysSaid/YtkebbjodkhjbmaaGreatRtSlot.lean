/-
  As Moves: a range over an iterator that makes memory ahead of each round, yields values that only then are known (x), and whose loop variables may be boxed.
  The root of layer 6: the iterator of a disk's slots; what a slot counts with; the order of roots.
-/
import Derived.Test.YtkebbjodkhjbmaaGreatBase
import Derived.Test.YtkebbjodkhjbmaaGreatRtDec
import Derived.Test.YtkebbjodkhjbmaaGreatKLaw
namespace Go.Proofs.YtkebbjodkhjbmaaGreat
open Go.RowKit

/-- What such an iterator answers to. Pre k: what it needs ahead of its k-th element; X k: what it turns ahead of yielding that one; Z k: what it turns where it ends instead. J k: k rounds are over; Jm k: the k-th element is about to be yielded. -/
def SeqMovesV {α : Type} (F : Fence) (n : Nat) (P : Program) (g : Nat) (lb : Array Value) (at_ : Nat → α → Array Value) (Pre : Nat → World → Prop) (X : Nat → α → World → World → Prop) (Z : Nat → World → World → Prop) (w : World) : Prop :=
  ∀ (l : Nat) (J : Nat → World → Prop) (Jm : Nat → α → World → Prop) (Jx Jz : World → Prop) (W : World), Below w.heap.size w W →
    (∀ k W1, J k W1 → Pre k W1) → (∀ k x W1 W2, J k W1 → X k x W1 W2 → Jm k x W2) → (∀ k W1 W2, J k W1 → Z k W1 W2 → Jz W2) →
    (∀ k x W1, Jm k x W1 → YieldAt F (n - 1) P l (at_ k x) W1 fun e W' => (e = .returned (.bool true) ∧ J (k + 1) W') ∨ (e = .returned (.bool false) ∧ Jx W')) →
    J 0 W → CallsIn F n P g (#[.func (.yield l) #[] #[]] ++ lb) W fun e W' => (∃ v, e = .returned v) ∧ (Jx W' ∨ Jz W')

theorem wpIn_rangeFunc_movesV {α : Type} {F : Fence} {n : Nat} {P : Program} {g : Operand} {ps : Array Tmp} {assign body : Code} {Q : Exit → Act → World → Prop} {a : Act} {w : World}
    (hro : F.round = none) (h1 : 1 ≤ n) {gf : Nat} {lb : Array Value} (hg : a.eval g = .func (.func gf) #[] lb) (hFg : F.fn gf) (eg : ∀ args w, (callFunc gf args).run P w = .ok (.enter gf args) w)
    {at_ : Nat → α → Array Value} {Pre : Nat → World → Prop} {X : Nat → α → World → World → Prop} {Z : Nat → World → World → Prop} {w0 : World} (hseq : SeqMovesV F (n - 1) P gf lb at_ Pre X Z w0) (hb0 : Below w0.heap.size w0 w) (hps : ∀ k x, (at_ k x).size = ps.size)
    (I : Nat → World → Prop) (Im : Nat → α → World → Prop) (Iz : World → Prop) (Ix : Code → World → Prop) (hI : OwnFrom w.heap.size I) (hIz : OwnFrom w.heap.size (fun (_ : Unit) W => Iz W)) (hIx : OwnFrom w.heap.size Ix)
    (hIP : ∀ k W, I k W → Pre k W) (hXo : ∀ k W W', I k W → ((∃ x, X k x W W') ∨ Z k W W') → ∀ (l : Nat) (o : Obj), W.heap[l]? = some o → o.isCells = false → W'.heap[l]? = some o) (hIX : ∀ k x W W', I k W → X k x W W' → Im k x W') (hIZ : ∀ k W W', I k W → Z k W W' → Iz W') (h0 : I 0 w) (Ax : Nat → α → Act → World → Prop) (hAx : ∀ k x a', OwnFrom w.heap.size (fun (_ : Unit) W => Ax k x a' W))
    (hassign : ∀ (l k : Nat) (x : α) (W : World) (K : Act → World → Prop), Im k x W → (∀ a' W', KeepsFrom w.heap.size W W' → Ax k x a' W' → K a' W') →
      assign.wpIn (F.inRound l) (n - 1 - 1) P (Exit.then K (fun _ _ _ => False)) { tmps := (ps.zip (at_ k x)).foldl (fun t (p, v) => t.setIfInBounds p v) a.tmps, defers := [] } W)
    (hbody : ∀ (l k : Nat) (x : α) (a' : Act) (W : World), Ax k x a' W → body.wpIn (F.inRound l) (n - 1 - 1) P (leftPost w.heap.size I Ix (k + 1) W) a' W)
    (hdone : ∀ (D : Nat) (W : World), w.heap.size ≤ D → Iz W → W.heap[D]? = some (.deferred (some [])) → Q .normal { a with defers := { target := .collected D, args := #[] } :: a.defers } W)
    (hstop : ∀ (D : Nat) (c : Code) (W : World), w.heap.size ≤ D → Ix c W → W.heap[D]? = some (.deferred (some [])) → c.wpIn F n P Q { a with defers := { target := .collected D, args := #[] } :: a.defers } W) :
    (Code.rangeFunc g ps assign body).wpIn F n P Q a w := by
  refine wpIn_rangeFunc ?_
  intro fn hfn
  rw [hro]
  obtain ⟨rec, hrec⟩ : ∃ rec : LoopState → Option Code → Loop, rec = fun st pe => { state := st, pending := pe, fn, tmps := a.tmps, params := ps, assign, body, defers := w.heap.size } := ⟨_, rfl⟩
  obtain ⟨W1, hW1⟩ : ∃ W1, (w.alloc (.deferred (some []))).alloc (.loop (rec .ready none)) = W1 := ⟨_, rfl⟩
  have hL1 : W1.heap[w.heap.size + 1]? = some (.loop (rec .ready none)) := by
    rw [← hW1]; have := World.alloc_heap_new (w.alloc (.deferred (some []))) (.loop (rec .ready none)); rwa [World.size_alloc] at this
  have hK1 : W1.heap[w.heap.size]? = some (.deferred (some [])) := by
    rw [← hW1]; exact (Below.heap_alloc _ _ _ (by simp)).trans (World.alloc_heap_new w _)
  have hI1 : I 0 W1 := by rw [← hW1]; exact hI.alloc _ (hI.alloc _ h0)
  have hb1 : Below w0.heap.size w0 W1 := by
    rw [← hW1]; exact hb0.trans ((((Below.refl _ w).alloc (Nat.le_refl _) _).alloc (by simp) _).mono hb0.size)
  refine ⟨w.heap.size + 1, [{ target := .collected w.heap.size, args := #[] }], W1, { target := .fn (.func gf) lb, args := #[.func (.yield (w.heap.size + 1)) #[] #[]] }, W1, gf,
    #[.func (.yield (w.heap.size + 1)) #[] #[]] ++ lb, W1, ?_, ?_, ?_, ?_, fun _ => h1, ?_⟩
  · rw [← hW1, hrec]; exact run_enterLoop_outer _ _ _ _ _
  · simp only [resolve, hg]
    simp [go_sem]
  · intro f' hf'; simp [Target.leads] at hf'; subst hf'; exact hFg
  · simp [invoke, go_sem, eg]
  · refine (hseq (w.heap.size + 1)
      (fun k W => I k W ∧ W.heap[w.heap.size + 1]? = some (.loop (rec .ready none)) ∧ W.heap[w.heap.size]? = some (.deferred (some [])))
      (fun k x W => Im k x W ∧ W.heap[w.heap.size + 1]? = some (.loop (rec .ready none)) ∧ W.heap[w.heap.size]? = some (.deferred (some [])))
      (fun W => ∃ c, Ix c W ∧ W.heap[w.heap.size + 1]? = some (.loop (rec .done (some c))) ∧ W.heap[w.heap.size]? = some (.deferred (some [])))
      (fun W => Iz W ∧ W.heap[w.heap.size + 1]? = some (.loop (rec .ready none)) ∧ W.heap[w.heap.size]? = some (.deferred (some [])))
      W1 hb1 (fun k W h => hIP k W h.1) (fun k x W W' h hx => ⟨hIX k x W W' h.1 hx, hXo k W W' h.1 (.inl ⟨x, hx⟩) _ _ h.2.1 rfl, hXo k W W' h.1 (.inl ⟨x, hx⟩) _ _ h.2.2 rfl⟩)
      (fun k W W' h hx => ⟨hIZ k W W' h.1 hx, hXo k W W' h.1 (.inr hx) _ _ h.2.1 rfl, hXo k W W' h.1 (.inr hx) _ _ h.2.2 rfl⟩) ?_ ⟨hI1, hL1, hK1⟩).mono ?_
    · -- ONE ROUND
      rintro k x W0 ⟨hi, hl0, hk0⟩
      have hlt0 : w.heap.size + 1 < W0.heap.size := (Array.getElem?_eq_some_iff.1 hl0).1
      have hy := run_yield (P := P) (args := at_ k x) hl0 (by rw [hrec]; exact hps k x)
      rw [hrec] at hy
      refine ⟨fn, _, assign, body, hy, roundIn_of_wpIn hfn (hassign _ k x W0 _ hi (fun a' W hkf hax => ?_))⟩
      clear hy
      have hl : W.heap[w.heap.size + 1]? = some (.loop (rec .ready none)) := hkf.same _ _ (by omega) hl0 rfl
      have hk : W.heap[w.heap.size]? = some (.deferred (some [])) := hkf.same _ _ (Nat.le_refl _) hk0 rfl
      have hlt : w.heap.size + 1 < W.heap.size := (Array.getElem?_eq_some_iff.1 hl).1
      refine ⟨_, run_beginRound hl (by rw [hrec]), ?_⟩
      have hl2 : (W.putObj (w.heap.size + 1) (.loop { rec .ready none with state := .busy })).heap[w.heap.size + 1]? = some (.loop { rec .ready none with state := .busy }) := World.putObj_heap_same hlt
      have hk2 : (W.putObj (w.heap.size + 1) (.loop { rec .ready none with state := .busy })).heap[w.heap.size]? = some (.deferred (some [])) := (World.putObj_heap_other (by omega)).trans hk
      refine wpIn_mono (hbody _ k x a' _ ((hAx k x a').putObj (s := ()) _ hax (by omega) hl rfl)) ?_
      have fin : ∀ (jump : Option Code) (W3 : World), KeepsFrom w.heap.size (W.putObj (w.heap.size + 1) (.loop { rec .ready none with state := .busy })) W3 →
          (Instr.endRound (w.heap.size + 1) jump).run P W3 = .ok (.bool jump.isNone) (W3.putObj (w.heap.size + 1) (.loop (rec (if jump.isNone then .ready else .done) jump))) ∧
          W3.heap[w.heap.size + 1]? = some (.loop { rec .ready none with state := .busy }) ∧
          (W3.putObj (w.heap.size + 1) (.loop (rec (if jump.isNone then .ready else .done) jump))).heap[w.heap.size + 1]? = some (.loop (rec (if jump.isNone then .ready else .done) jump)) ∧
          (W3.putObj (w.heap.size + 1) (.loop (rec (if jump.isNone then .ready else .done) jump))).heap[w.heap.size]? = some (.deferred (some [])) := fun jump W3 hk3 => by
        have hl3 := hk3.same _ _ (by omega) hl2 rfl
        have := run_endRound (P := P) jump hl3
        rw [hrec] at this ⊢
        exact ⟨this, by rw [hrec] at hl3; exact hl3, World.putObj_heap_same (Array.getElem?_eq_some_iff.1 hl3).1, (World.putObj_heap_other (by omega)).trans (hk3.same _ _ (Nat.le_refl _) hk2 rfl)⟩
      rintro e a3 W3 hp
      cases e with
      | normal =>
        obtain ⟨hk3, hi3⟩ := hp
        obtain ⟨hr, hl3, hl4, hk4⟩ := fin none W3 hk3
        exact ⟨_, _, hr, .inl ⟨rfl, hI.putObj _ hi3 (by omega) hl3 rfl, hl4, hk4⟩⟩
      | ret =>
        obtain ⟨hk3, hi3⟩ := hp
        obtain ⟨hr, hl3, hl4, hk4⟩ := fin (some .ret) W3 hk3
        exact ⟨_, _, hr, .inr ⟨rfl, .ret, hIx.putObj _ hi3 (by omega) hl3 rfl, hl4, hk4⟩⟩
      | exit id =>
        obtain ⟨hk3, hi3⟩ := hp
        obtain ⟨hr, hl3, hl4, hk4⟩ := fin (some (.exit id)) W3 hk3
        exact ⟨_, _, hr, .inr ⟨rfl, .exit id, hIx.putObj _ hi3 (by omega) hl3 rfl, hl4, hk4⟩⟩
      | goto t =>
        obtain ⟨hk3, hi3⟩ := hp
        obtain ⟨hr, hl3, hl4, hk4⟩ := fin (some (.goto t)) W3 hk3
        exact ⟨_, _, hr, .inr ⟨rfl, .goto t, hIx.putObj _ hi3 (by omega) hl3 rfl, hl4, hk4⟩⟩
      | panic ch => exact hp.elim
      | outgrown => exact hp.elim
    · -- BEHIND THE ITERATOR
      rintro e W2 ⟨⟨v, rfl⟩, (⟨c, hi, hl, hk⟩ | ⟨hi, hl, hk⟩)⟩
      case inr => exact ⟨none, _, by have := run_endLoop (P := P) hl (by rw [hrec]; simp); rw [hrec] at this; exact this, hdone _ _ (Nat.le_refl _) (hIz.putObj (s := ()) _ hi (by omega) hl rfl) ((World.putObj_heap_other (by omega)).trans hk)⟩
      exact ⟨some c, _, by have := run_endLoop (P := P) hl (by rw [hrec]; simp); rw [hrec] at this; exact this, hstop _ c _ (Nat.le_refl _) (hIx.putObj _ hi (by omega) hl rfl) ((World.putObj_heap_other (by omega)).trans hk)⟩

end Go.Proofs.YtkebbjodkhjbmaaGreat

namespace Go.Proofs.YtkebbjodkhjbmaaGreat.root
open Go.RowKit Go.Proofs.YtkebbjodkhjbmaaGreat.crc

/-- A disk (or none) whose two slots answer so, whatever is laid behind it. -/
structure Slots (p : Option Addr) (D : World → Prop) (er : Nat → Int) (L : Nat → List UInt8) : Prop where
  stay : ∀ W W', D W → Below W.heap.size W W' → D W'
  read : ∀ k : Nat, k < 2 → ∀ W, D W → Calls Tryz.prog 180 #[.pointer p, .int .i64 (k : Int)] W fun e w' => ∃ A c, e = .returned (.tuple #[.slice A (L k).length c, .int .i64 (er k)]) ∧ Reads w' w'.heap.size 1 A (L k).length ((L k).map bv) ∧ Below W.heap.size W w'

def slAt (er : Nat → Int) (k : Nat) (v : Value) : Array Value := #[.agg #[.int .i64 (k : Int), v], .int .i64 (er k)]
def slPre (C : Nat) (p : Option Addr) (D : World → Prop) (k : Nat) (W : World) : Prop := k ≤ 2 ∧ W.cell? ⟨C, 0, none⟩ = some (.pointer p) ∧ D W
def slX (L : Nat → List UInt8) (k : Nat) (v : Value) (W W' : World) : Prop := k < 2 ∧ (∃ A c, v = .slice A (L k).length c ∧ Reads W' W'.heap.size 1 A (L k).length ((L k).map bv)) ∧ Below W.heap.size W W'
def slZ (k : Nat) (W W' : World) : Prop := k = 2 ∧ W' = W

theorem rslots_any (p : Option Addr) (w : World) : Calls Tryz.prog 136 #[.pointer p] w fun e w' => e = .returned (.func (.func 179) #[] #[.pointer (some ⟨w.heap.size, 0, none⟩)]) ∧ w.alloc (.cells #[.pointer p] 24) = w' := by
  go_enter Tryz.func136, Tryz.ntmps136
  go_wp2
  go_ret
  exact ⟨rfl, rfl⟩

section
attribute [local go_sem] Oper.semAt_some
set_option maxRecDepth 100000 in
set_option maxHeartbeats 4000000 in
theorem slots_moves (n : Nat) (h1 : 1 ≤ n) (C : Nat) {p : Option Addr} {D : World → Prop} {er : Nat → Int} {L : Nat → List UInt8} (hS : Slots p D er L) (w : World) :
    SeqMovesV Fence.wide n Tryz.prog 179 #[.pointer (some ⟨C, 0, none⟩)] (slAt er) (slPre C p D) (slX L) slZ w := by
  intro lp J Jm Jx Jz W hW hP hX hZ hY h0
  have HP := Lib.hid hP
  have HX := Lib.hid hX
  have HZ := Lib.hid hZ
  have HY := Lib.hid hY
  have H0 := Lib.hid h0
  have HS := Lib.hid hS
  have hfw : Fence.wide.fn 180 := trivial
  clear hP hX hZ hY h0 hW hS
  refine callsIn_of_wp Tryz.func179 rfl trivial ?_ rfl
  simp only [Tryz.ntmps179, List.size_toArray, List.length_cons, List.length_nil, Nat.reduceAdd, Nat.reduceSub, Array.replicate_succ, Array.replicate_zero, List.push_toArray, List.append_toArray, List.nil_append, List.cons_append]
  gi_wp2
  gi_loopw [6] (fun q wr => ∃ k : Nat, q = .int .i64 (k : Int) ∧ k ≤ 2 ∧ J k wr) (fun i _ => 3 - (RowKit.intOf i).toNat)
  case atStart => exact ⟨0, rfl, by omega, H0.out⟩
  case round =>
    obtain ⟨k, rfl, hk2, hJ⟩ := hrel
    obtain ⟨_, c0, hD⟩ := HP.out k wr hJ
    have HJ := Lib.hid hJ
    have HD := Lib.hid hD
    clear hJ hD
    by_cases hk : k < 2
    · have HR := Lib.hid (HS.out.read k hk wr HD.out)
      have hd : decide ((k : Int) < 2) = true := decide_eq_true (by omega)
      have HK := Lib.hid hk
      obtain ⟨m, hm⟩ : ∃ m, (L k).length = m := ⟨_, rfl⟩
      rw [hm] at HR
      have HM := Lib.hid hm
      clear hk hm hk2
      gi_wp2_with (gi_at_call 180; go_loud (refine (callsIn_wide.2 HR.out).mono ?_; rintro e w2 ⟨A, c, rfl, hr, hb⟩; obtain ⟨fn, tmps, assign, body, hy, hR⟩ := HY.out k (.slice A m c) w2 (HX.out k _ wr w2 HJ.out ⟨HK.out, ⟨A, c, by rw [HM.out], by rw [HM.out]; exact hr⟩, hb⟩); have HRO := Lib.hid hR; unfold slAt at hy; clear hr hb hR))
      refine HRO.out.mono ?_
      rintro e W3 (⟨rfl, hJ3⟩ | ⟨rfl, hJx3⟩)
      · gi_wp2
        go_roundw
        case rel => exact ⟨k + 1, by go_num, by have := HK.out; omega, hJ3⟩
        case measure => have := HK.out; simp [RowKit.intOf]; omega
      · gi_wp2
        refine bodyPost_ret (results_none rfl _ _ _) rfl ?_
        exact ⟨⟨_, rfl⟩, .inl hJx3⟩
    · obtain rfl : k = 2 := by omega
      have HE := Lib.hid (HZ.out 2 wr wr HJ.out ⟨rfl, rfl⟩)
      clear hk hk2
      gi_wp2
      go_end0
      exact ⟨⟨_, rfl⟩, .inr HE.out⟩
end

def countsR (k : Nat) (l : List UInt8) : Bool := goodR l && decide ((candR l).n % 2 = k)
def cntR (k : Nat) (l : List UInt8) : RV := if countsR k l = true then candR l else noR

theorem quiet_left {P : Program} {f : FuncId} {args : Array Value} {w : World} {n : Nat} {v : Value}
    (h : Calls P f args (w.drewN n) fun e w' => e = .returned v ∧ w.drewN n = w') : Calls P f args (w.drewN n) fun e w'' => e = .returned v ∧ ∃ m, w'' = w.drewN m :=
  h.mono fun _ _ ⟨he, hm⟩ => ⟨he, n, hm.symm⟩

set_option maxRecDepth 100000 in
set_option maxHeartbeats 4000000 in
theorem rroot_any (k : Nat) (A : Option Addr) (c n : Nat) (l : List UInt8) (w : World) (hk : k < 2) (hl : l.length = n) (hr : Reads w w.heap.size 1 A n (l.map bv)) :
    Calls Tryz.prog 137 #[.agg #[.int .i64 (k : Int), .slice A n c]] w fun e w' => e = .returned (.tuple #[rtv (cntR k l), .bool (countsR k l)]) ∧ Below w.heap.size w w' := by
  obtain ⟨w0, hw0⟩ : ∃ w0, (w.alloc (.cells #[.int .i64 (k : Int), .slice A n c] 170)).alloc (.cells #[.int .u64 0, .int .i64 0, .int .u32 0] 35) = w0 := ⟨_, rfl⟩
  have hs : Blk w0 w.heap.size 170 #[.int .i64 (k : Int), .slice A n c] := by rw [← hw0]; exact (Blk.new w _ _).alloc _
  have hx : Blk w0 (w.heap.size + 1) 35 #[.int .u64 0, .int .i64 0, .int .u32 0] := by
    rw [← hw0]
    have := Blk.new (w.alloc (.cells #[.int .i64 (k : Int), .slice A n c] 170)) 35 #[.int .u64 0, .int .i64 0, .int .u32 0]
    simpa only [World.size_alloc] using this
  have hb0 : Below w.heap.size w w0 := by rw [← hw0]; exact ((Below.refl _ _).alloc (Nat.le_refl _) _).alloc (by simp) _
  have HD := Lib.hid (rdecode_any A c n l w0 hl ((hr.below hb0).more hb0.size))
  have HC : Hid (countsR k l = (goodR l && decide ((candR l).n % 2 = k))) := Lib.hid rfl
  obtain ⟨cr, hcr⟩ : ∃ x, cntR k l = x := ⟨_, rfl⟩
  obtain ⟨cb, hcb⟩ : ∃ x, countsR k l = x := ⟨_, rfl⟩
  have HCR : Hid ((if cb = true then candR l else noR) = cr) := Lib.hid (by rw [← hcr, ← hcb]; rfl)
  rw [hcr, hcb]
  rw [hcb] at HC
  have hcf := candR_fine l
  have s1 := hs.cell 1
  have HSL := Lib.hid hs
  have HX := Lib.hid hx
  have HB0 := Lib.hid hb0
  have hsz : w0.heap.size = w.heap.size + 2 := by rw [← hw0]; simp
  have HSZ := Lib.hid hsz
  unfold decR decErrR at HD
  clear hs hx hb0 hcr hcb hr hl hsz
  cases hg : goodR l
  · rw [hg] at HD HC
    simp only [Bool.false_eq_true, if_false, Bool.false_and] at HD HC
    obtain rfl : cb = false := HC.out
    simp only [Bool.false_eq_true, if_false] at HCR
    have HCR2 := Lib.hid HCR.out
    clear hg HC HCR hcf
    unfold rtv at *
    go_enter Tryz.func137, Tryz.ntmps137
    go_wp2_with (go_at_call 181; refine HD.out.mono ?_; rintro e w1 ⟨rfl, b1⟩; clear hw0
                 have b2 := b1.alloc b1.size (.cells #[.int .u64 noR.n, .int .i64 noR.len, .int .u32 noR.sm] 35)
                 have hx2 := HX.out.below b2 HX.out.lt; have x0 := hx2.cell 0; have x1 := hx2.cell 1; have x2 := hx2.cell 2; have f0 := hx2.frozen 0; have f1 := hx2.frozen 1; have f2 := hx2.frozen 2
                 have HX2 := Lib.hid hx2; have B2 := Lib.hid b2; clear b1 b2 hx2)
    go_quiet (fail)
    go_wp2
    have hk := keep_root ((w1.alloc (.cells #[.int .u64 noR.n, .int .i64 noR.len, .int .u32 noR.sm] 35)).drewN nq) (w.heap.size + 1) (.int .u64 0) (.int .i64 0) (.int .u32 0)
    have hb3 := HB0.out.trans (((B2.out.trans (below_drewN (Below.refl _ _) nq)).mono HB0.out.size))
    refine bodyPost_ret (results_root2 rfl rfl rfl (blk_root _ _ _ (HX2.out.drewN nq))) rfl ?_
    refine ⟨?_, hb3.trans (hk.below hb3.size (fun i hi e => by omega))⟩
    rw [← HCR2.out]
    rfl
  · rw [hg] at HD HC
    simp only [if_true, Bool.true_and] at HD HC
    obtain ⟨T, hT⟩ : ∃ T, candR l = T := ⟨_, rfl⟩
    rw [hT] at HD HC HCR hcf
    have HSO := Lib.hid (fun W => rslotof_any T.n W hcf.n)
    obtain ⟨x, hx⟩ : ∃ x, T.n % 2 = x := ⟨_, rfl⟩
    have hx2 : x < 2 := by omega
    rw [hx] at HC HSO
    have HNE : Hid (((x : Int) != (k : Int)) = !cb) := Lib.hid (by
      have h0 := HC.out
      rw [h0]
      by_cases h : x = k
      · subst h; simp
      · rw [decide_eq_false h]
        simp only [Bool.not_false]
        rw [bne_iff_ne]
        omega)
    clear hg HC hcf hT hx hx2
    have HNE2 := HNE.out
    cases cb
    · simp only [Bool.false_eq_true, if_false, Bool.not_false] at HCR HNE2
      have HCR2 := Lib.hid HCR.out
      clear HCR HNE
      unfold rtv at *
      go_enter Tryz.func137, Tryz.ntmps137
      go_wp2_with (go_at_call 181; refine HD.out.mono ?_; rintro e w1 ⟨rfl, b1⟩; clear hw0
                   have b2 := b1.alloc b1.size (.cells #[.int .u64 T.n, .int .i64 T.len, .int .u32 T.sm] 35)
                   have hx2 := HX.out.below b2 HX.out.lt; have x0 := hx2.cell 0; have x1 := hx2.cell 1; have x2 := hx2.cell 2; have f0 := hx2.frozen 0; have f1 := hx2.frozen 1; have f2 := hx2.frozen 2
                   have hs2 := HSL.out.below b2 HSL.out.lt; have s0 := hs2.cell 0
                   have HX2 := Lib.hid hx2; have B2 := Lib.hid b2; clear b1 b2 hx2 hs2)
      go_quiet ((go_at_call 128; exact quiet_left (HSO.out _)))
      go_wp2
      have hk := keep_root ((w1.alloc (.cells #[.int .u64 T.n, .int .i64 T.len, .int .u32 T.sm] 35)).drewN nq) (w.heap.size + 1) (.int .u64 0) (.int .i64 0) (.int .u32 0)
      have hb3 := HB0.out.trans (((B2.out.trans (below_drewN (Below.refl _ _) nq)).mono HB0.out.size))
      refine bodyPost_ret (results_root2 rfl rfl rfl (blk_root _ _ _ (HX2.out.drewN nq))) rfl ?_
      refine ⟨?_, hb3.trans (hk.below hb3.size (fun i hi e => by omega))⟩
      rw [← HCR2.out]
      rfl
    · simp only [if_true, Bool.not_true] at HCR HNE2
      have HCR2 := Lib.hid HCR.out
      clear HCR HNE
      unfold rtv at *
      go_enter Tryz.func137, Tryz.ntmps137
      go_wp2_with (go_at_call 181; refine HD.out.mono ?_; rintro e w1 ⟨rfl, b1⟩; clear hw0
                   have b2 := b1.alloc b1.size (.cells #[.int .u64 T.n, .int .i64 T.len, .int .u32 T.sm] 35)
                   have hx2 := HX.out.below b2 HX.out.lt; have x0 := hx2.cell 0; have x1 := hx2.cell 1; have x2 := hx2.cell 2; have f0 := hx2.frozen 0; have f1 := hx2.frozen 1; have f2 := hx2.frozen 2
                   have hs2 := HSL.out.below b2 HSL.out.lt; have s0 := hs2.cell 0
                   have HX2 := Lib.hid hx2; have B2 := Lib.hid b2; clear b1 b2 hx2 hs2)
      go_quiet ((go_at_call 128; exact quiet_left (HSO.out _)))
      go_wp2
      have hk := keep_root ((w1.alloc (.cells #[.int .u64 T.n, .int .i64 T.len, .int .u32 T.sm] 35)).drewN nq) (w.heap.size + 1) (.int .u64 T.n) (.int .i64 T.len) (.int .u32 T.sm)
      have hb3 := HB0.out.trans (((B2.out.trans (below_drewN (Below.refl _ _) nq)).mono HB0.out.size))
      refine bodyPost_ret (results_root2 rfl rfl rfl (blk_root _ _ _ (HX2.out.drewN nq))) rfl ?_
      refine ⟨?_, hb3.trans (hk.below hb3.size (fun i hi e => by omega))⟩
      rw [← HCR2.out]
      rfl
end Go.Proofs.YtkebbjodkhjbmaaGreat.root

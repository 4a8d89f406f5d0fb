/-
  Layer 13 (mold): Go.
  Layer 13 (mold): molded, Reshape.
-/
import Derived.Test.YtkabdkblcgklmaaMoColS
import Derived.Test.YtkabdkblcgklmaaMoReW
namespace Go.Proofs.Ytkabdkblcgklmaa.mo
open Go.RowKit Go.Proofs.Ytkabdkblcgklmaa.arr

set_option maxHeartbeats 2000000 in
theorem mogo1_any (b3 b4 b5 z : Nat) (x : Option Int) (a : Bool) (n : Nat) (wc : Array Value) (k : Int) (lv : Value) (w : World)
    (h3 : Blk w b3 87 wc) (h4 : Blk w b4 3 #[.int .i64 k]) (h5 : Blk w b5 79 #[lv]) (hz : Blk w z 4 #[.bool a]) (S : Option Addr) (m cs : Nat) (gv : Value) (A : Option Addr) (la c : Nat) (hwc : wc = #[.slice S m cs, gv]) (hlv : lv = .slice A la c)
    (hc : Calls Try.prog 174 #[.agg wc, .int .i64 (n : Int), .int .i64 k, lv] w (ElemA x w)) :
    Calls Try.prog 173 #[.int .i64 (n : Int), .pointer (some ⟨b3, 0, none⟩), .pointer (some ⟨b4, 0, none⟩), .pointer (some ⟨b5, 0, none⟩), .pointer (some ⟨z, 0, none⟩)] w fun e w' => e = .returned (.int .i64 (x.getD 0)) ∧ At1 z w w' ∧ Blk w' z 4 #[.bool (a || !x.isSome)] := by
  subst hwc
  subst hlv
  have x0 := h3.cell 0
  have x1 := h3.cell 1
  have y0 := h4.cell 0
  have u0 := h5.cell 0
  have HZ := Lib.hid hz
  unfold ElemA at hc
  have hl : (loadVar 87 ⟨b3, 0, none⟩).run Try.prog w = .ok (.agg #[.slice S m cs, gv]) w := load_way w b3 _ _ h3
  generalize x.getD 0 = xv at *
  generalize x.isSome = xb at *
  have HC := Lib.hid hc
  clear h3 h4 h5 hz hc
  cases a <;> cases xb
  all_goals (
    go_enter Try.func173, Try.ntmps173
    go_wp2_with (go_at_call 174; refine HC.out.mono ?_; rintro e w2 ⟨rfl, b2⟩; have hz2 := HZ.out.below b2 HZ.out.lt; have z0 := hz2.cell 0; have zf := hz2.frozen 0; have HZ2 := Lib.hid hz2; have HB2 := Lib.hid b2; clear b2 hz2)
    go_ret
    exact ⟨rfl, (At1.of HB2.out).on ((Keep.refl _ _).setCell _ _ (fun _ => rfl)), HZ2.out.set_ 0 _⟩)

theorem mo_run_fn {P : Program} {tp : TypeId} {a b c : _} (hp : P.underlying tp = some (.func a b c)) (g : Fn) (xs ys : Array Value) (w : World) :
    (binOp .eql tp .nilFunc .nilFunc).run P w = .ok (.bool true) w ∧ (binOp .neq tp .nilFunc .nilFunc).run P w = .ok (.bool false) w ∧
    (binOp .eql tp (.func g xs ys) .nilFunc).run P w = .ok (.bool false) w ∧ (binOp .neq tp (.func g xs ys) .nilFunc).run P w = .ok (.bool true) w := by
  have h : ∀ d : Nat, (Op.equalIn (d + 1) tp .nilFunc .nilFunc).run P w = .ok true w := fun d => by
    simp [Op.equalIn, run_underlying hp]
  have h2 : ∀ d : Nat, (Op.equalIn (d + 1) tp (.func g xs ys) .nilFunc).run P w = .ok false w := fun d => by
    simp [Op.equalIn, run_underlying hp]
  refine ⟨?_, ?_, ?_, ?_⟩
  · simp only [binOp]
    simp [Op.equal, Op.maxDepth, h 9999]
  · simp only [binOp]
    simp [Op.equal, Op.maxDepth, h 9999]
  · simp only [binOp]
    simp [Op.equal, Op.maxDepth, h2 9999]
  · simp only [binOp]
    simp [Op.equal, Op.maxDepth, h2 9999]
theorem fn_nil (gf : Nat) (cap : Array Value) (w : World) : (binOp .eql 85 (.func (.func gf) #[] cap) .nilFunc).run Try.prog w = .ok (.bool false) w := by
  exact (mo_run_fn Try.underlying85 (.func gf) #[] cap w).2.2.1
/-- An array that a call answers with an error: of its own. -/
def GiveE (X : AV) (E : Int) (w : World) (e : Ending) (w' : World) : Prop := ∃ p, e = .returned (.tuple #[.agg (arC X p), .int .i64 E]) ∧ AOwn w.heap.size w' X p ∧ Below w.heap.size w w'
theorem GiveE.no {X : AV} {E : Int} {w w' : World} (h : X = noA) (hb : Below w.heap.size w w') : GiveE X E w (.returned (.tuple #[.agg #[.int .i64 0, .slice none 0 0, .slice none 0 0], .int .i64 E])) w' := by
  subst h
  exact ⟨⟨none, 0, none, 0⟩, rfl, noA_own _ _, hb⟩
theorem elV_bounds {k : Int} {ls : List AV} (h : ∀ a ∈ ls, ∀ z ∈ a.el, -9223372036854775808 ≤ z ∧ z ≤ 9223372036854775807) (s : Int × Int) : -9223372036854775808 ≤ elV k ls s ∧ elV k ls s ≤ 9223372036854775807 := by
  unfold elV elF
  split
  · unfold fillV
    split <;> simp
  · split
    · split
      · rename_i a ha
        split
        · cases hq : a.el[s.2.toNat]? with
          | none => simp
          | some x => exact h a (List.mem_of_getElem? ha) x (List.mem_of_getElem? hq)
        · simp
      · simp
    · simp

/-- Go's boxes: the way, the kind, the arrays, the result. -/
structure GoI (w : World) (wc : Array Value) (k : Int) (lv : Value) (W : World) : Prop where
  h0 : Blk W w.heap.size 87 wc
  h1 : Blk W (w.heap.size + 1) 3 #[.int .i64 k]
  h2 : Blk W (w.heap.size + 1 + 1) 79 #[lv]
  h3 : Blk W (w.heap.size + 1 + 1 + 1) 25 #[.int .i64 0, .slice none 0 0, .slice none 0 0]
  b : Below w.heap.size w W
theorem GoI.keep {S : Nat → Prop} {w W W' : World} {wc : Array Value} {k : Int} {lv : Value} (h : GoI w wc k lv W) (hk : Keep S W W') (hS : ∀ i, i ≤ w.heap.size + 3 → ¬ S i) : GoI w wc k lv W' :=
  ⟨hk.blk h.h0 (hS _ (by omega)), hk.blk h.h1 (hS _ (by omega)), hk.blk h.h2 (hS _ (by omega)), hk.blk h.h3 (hS _ (by omega)), h.b.trans (hk.below h.b.size (fun i hi => hS i (by omega)))⟩
theorem GoI.start (w : World) (wc : Array Value) (k : Int) (lv : Value) : GoI w wc k lv ((((w.alloc (.cells wc 87)).alloc (.cells #[.int .i64 k] 3)).alloc (.cells #[lv] 79)).alloc (.cells #[.int .i64 0, .slice none 0 0, .slice none 0 0] 25)) := by
  refine ⟨(((Blk.new w _ _).alloc _).alloc _).alloc _, ?_, ?_, ?_, (mobelow3 _ _ _).alloc (by simp; omega) _⟩
  · have h := ((Blk.new (w.alloc (.cells wc 87)) 3 #[.int .i64 k]).alloc (.cells #[lv] 79)).alloc (.cells #[.int .i64 0, .slice none 0 0, .slice none 0 0] 25)
    simpa only [World.size_alloc] using h
  · have h := (Blk.new ((w.alloc (.cells wc 87)).alloc (.cells #[.int .i64 k] 3)) 79 #[lv]).alloc (.cells #[.int .i64 0, .slice none 0 0, .slice none 0 0] 25)
    simpa only [World.size_alloc] using h
  · have h := Blk.new (((w.alloc (.cells wc 87)).alloc (.cells #[.int .i64 k] 3)).alloc (.cells #[lv] 79)) 25 #[.int .i64 0, .slice none 0 0, .slice none 0 0]
    simpa only [World.size_alloc] using h

set_option maxRecDepth 100000 in
set_option maxHeartbeats 4000000 in
theorem mogo_any (B : Nat) (v : Value) (sh : List Int) (f : Nat → Int × Int) (k : Int) (A : Option Addr) (c : Nat) (ls : List AV) (w : World)
    (hw : WayAt B w v sh f) (hok : okShape sh = true) (hl : Els w A ls) (hf : ∀ a ∈ ls, ∀ z ∈ a.el, -9223372036854775808 ≤ z ∧ z ≤ 9223372036854775807) :
    Calls Try.prog 104 #[v, .int .i64 k, .slice A ls.length c] w (GiveE (goA k ls sh f) (goE k ls sh f) w) := by
  obtain ⟨S, cs, gf, cap, rfl, ho, hB, hgf, hcall⟩ := hw
  have hI := GoI.start w #[.slice S sh.length cs, .func (.func gf) #[] cap] k (.slice A ls.length c)
  obtain ⟨w1, hw1⟩ : ∃ w1, (((w.alloc (.cells #[.slice S sh.length cs, .func (.func gf) #[] cap] 87)).alloc (.cells #[.int .i64 k] 3)).alloc (.cells #[.slice A ls.length c] 79)).alloc (.cells #[.int .i64 0, .slice none 0 0, .slice none 0 0] 25) = w1 := ⟨_, rfl⟩
  rw [hw1] at hI
  have hsz : w1.heap.size = w.heap.size + 4 := by rw [← hw1]; simp
  obtain ⟨e1, e2⟩ := cnt_ok hok
  have HC := Lib.hid (arcount_any S cs sh.length sh w1 rfl (((Reads.of_own ho).below hI.b).more hI.b.size) (by have := (okShape_iff.1 hok).1; omega))
  rw [e1, e2] at HC
  have HK := Lib.hid (fun W => mokind_any k W)
  have hE : goE k ls sh f = if kindB k = false then 130 else if astB k ls f (prodI sh).toNat = true then 130 else checkE (goR k ls sh f) := rfl
  have hA : goA k ls sh f = if goE k ls sh f = 0 then goR k ls sh f else noA := rfl
  have HM : Hid (∀ (W : World), W = w1.alloc (.cells #[.bool false] 4) → Calls Try.prog 60 #[.int .i64 k, .slice S sh.length cs, .func (.func 173) #[] #[.pointer (some ⟨w.heap.size, 0, none⟩), .pointer (some ⟨w.heap.size + 1, 0, none⟩), .pointer (some ⟨w.heap.size + 1 + 1, 0, none⟩), .pointer (some ⟨w1.heap.size, 0, none⟩)]] W
      (MakeS w1.heap.size (astB k ls f (prodI sh).toNat) k sh (goV k ls f) W)) := Lib.hid (fun W e => by
    subst e
    have hb2 := bon hI.b (albel w1 (.cells #[.bool false] 4))
    have hI2 := hI.keep (S := fun _ => False) (Keep.of_below (albel w1 (.cells #[.bool false] 4))) (fun _ _ h => h)
    refine momake_any w1.heap.size (astB k ls f) k S cs sh 173 _ (enters_of Try.func173 (by kernel_rfl) rfl) (goV k ls f) _ hok (((Reads.of_own ho).below hb2).more hb2.size) (fun z => elV_bounds hf _) (by simp) (Blk.new w1 _ _) (fun i W' hi hk hz => ?_)
    have hI3 := hI2.keep hk (fun i hi e => by omega)
    have hb4 := hI3.b
    have hel := moelem_any (.slice S sh.length cs) gf cap hgf i k A c ls (f i) W' S sh.length cs rfl (hl.below hb4) (fun W2 h2 => hcall W2 (Sin.of (bon hb4 h2)) i hi)
    have := mogo1_any w.heap.size (w.heap.size + 1) (w.heap.size + 1 + 1) w1.heap.size (elF k ls (f i)) (astB k ls f i) i _ k (.slice A ls.length c) W' hI3.h0 hI3.h1 hI3.h2 hz S sh.length cs _ A ls.length c rfl rfl hel
    rw [astB_succ]
    exact this)
  obtain ⟨R, hR⟩ : ∃ R, goR k ls sh f = R := ⟨_, rfl⟩
  have HR : Hid (makeA k sh (goV k ls f) = R) := Lib.hid hR
  obtain ⟨X, hX⟩ : ∃ X, goA k ls sh f = X := ⟨_, rfl⟩
  obtain ⟨E, hEE⟩ : ∃ E, goE k ls sh f = E := ⟨_, rfl⟩
  rw [hR, hEE] at hE hA
  rw [hX] at hA
  rw [hX, hEE]
  generalize prodI sh = q at *
  generalize hast : astB k ls f q.toNat = ast at *
  have HI := Lib.hid hI
  have x0 := hI.h0.cell 0
  have x1 := hI.h0.cell 1
  have y0 := hI.h1.cell 0
  have r0 := hI.h3.cell 0
  have r1 := hI.h3.cell 1
  have r2 := hI.h3.cell 2
  have f0 := hI.h3.frozen 0
  have f1 := hI.h3.frozen 1
  have f2 := hI.h3.frozen 2
  have HS := Lib.hid hsz
  have HA := Lib.hid hA
  clear hX hEE hR hI hsz hl hf hcall ho e1 e2 hast hgf hA
  cases hk : kindB k
  · rw [hk] at HK
    rw [hk, if_pos rfl] at hE
    subst hE
    have HXX : Hid (X = noA) := Lib.hid (by rw [HA.out, if_neg (by decide)])
    clear HM HR HA hk
    go_enter Try.func104, Try.ntmps104
    go_wp2_with (first
      | (go_at_call 63; (try rw [hw1]); refine HC.out.mono ?_; rintro e _ ⟨rfl, rfl⟩)
      | (go_at_call 172; (try rw [hw1]); refine (HK.out _).mono ?_; rintro e _ ⟨rfl, rfl⟩))
    refine bodyPost_ret (results_arr2 rfl rfl rfl (arblk_three _ _ _ HI.out.h3)) rfl ?_
    exact GiveE.no HXX.out (HI.out.b.trans ((arkeep_three _ _ _ _ _).below HI.out.b.size (fun i hi e => by omega)))
  · rw [hk] at HK
    rw [hk, if_neg (by decide)] at hE
    have HE := Lib.hid hE
    clear hE hk
    unfold MakeS at HM
    rw [HR.out] at HM
    obtain ⟨Y, hY⟩ : ∃ Y, (if okA R = true then R else noA) = Y := ⟨_, rfl⟩
    rw [hY] at HM
    have hYX : ast = false → X = Y := fun h => by
      have h1 := HE.out
      have h2 := HA.out
      rw [h, if_neg (by decide)] at h1
      rw [h2, ← hY, h1]
      by_cases h3 : okA R = true
      · rw [if_pos (checkE_iff.2 h3), if_pos h3]
      · rw [if_neg (fun h4 => h3 (checkE_iff.1 h4)), if_neg h3]
    have hNX : ast = true → X = noA := fun h => by
      have h1 := HE.out
      have h2 := HA.out
      rw [h, if_pos rfl] at h1
      rw [h2, h1, if_neg (by decide)]
    have hEA : E = if ast = true then 130 else checkE R := HE.out
    generalize checkE R = cE at *
    have HNX := Lib.hid hNX
    have HYX := Lib.hid hYX
    clear HE HA hY hYX hNX
    cases ast
    · rw [if_neg (by decide)] at hEA
      subst hEA
      obtain rfl := HYX.out rfl
      have HPC : Hid (∀ p, arC X p = #[.int .i64 X.kind, .slice p.A0 X.sh.length p.c0, .slice p.A1 X.el.length p.c1]) := Lib.hid (fun p => rfl)
      have hfn := fn_nil gf cap
      go_enter Try.func104, Try.ntmps104
      go_wp2_with (first
        | (go_at_call 63; (try rw [hw1]); refine HC.out.mono ?_; rintro e _ ⟨rfl, rfl⟩)
        | (go_at_call 172; (try rw [hw1]); refine (HK.out _).mono ?_; rintro e _ ⟨rfl, rfl⟩
           have hI2 := HI.out.keep (S := fun _ => False) (Keep.of_below (albel w1 (.cells #[.bool false] 4))) (fun _ _ h => h)
           have yx0 := hI2.h0.cell 0
           have yy0 := hI2.h1.cell 0
           have HI2 := Lib.hid hI2
           clear hI2)
        | (go_at_call 60; refine (HM.out _ rfl).mono ?_; rintro e w3 ⟨p, rfl, o3, k3, z3⟩
           rw [HPC.out p]
           have hI3 := HI2.out.keep k3 (fun i hi e => by have := HS.out; omega)
           have hI4 := hI3.keep (S := fun _ => False) (Keep.of_below (albel w3 (.cells #[.int .i64 X.kind, .slice p.A0 X.sh.length p.c0, .slice p.A1 X.el.length p.c1] 25))) (fun _ _ h => h)
           have z0 := (z3.alloc (.cells #[.int .i64 X.kind, .slice p.A0 X.sh.length p.c0, .slice p.A1 X.el.length p.c1] 25)).cell 0
           have q0 := hI4.h3.cell 0
           have q1 := hI4.h3.cell 1
           have q2 := hI4.h3.cell 2
           have g0 := hI4.h3.frozen 0
           have g1 := hI4.h3.frozen 1
           have g2 := hI4.h3.frozen 2
           have HI4 := Lib.hid hI4
           have HO4 := Lib.hid (o3.stay (albel w3 (.cells #[.int .i64 X.kind, .slice p.A0 X.sh.length p.c0, .slice p.A1 X.el.length p.c1] 25)) (Nat.le_refl _))
           clear hI3 hI4 o3 k3 z3))
      refine bodyPost_ret (results_arr2 rfl rfl rfl (arblk_three _ _ _ HI4.out.h3)) rfl ?_
      have hk := arkeep_three (w3.alloc (.cells #[.int .i64 X.kind, .slice p.A0 X.sh.length p.c0, .slice p.A1 X.el.length p.c1] 25)) (w.heap.size + 1 + 1 + 1) (.int .i64 X.kind) (.slice p.A0 X.sh.length p.c0) (.slice p.A1 X.el.length p.c1)
      have hs1 := HS.out
      have hs2 : (w1.alloc (.cells #[.bool false] 4)).heap.size = w1.heap.size + 1 := by simp
      refine ⟨p, rfl, ⟨?_, ?_⟩, HI4.out.b.trans (hk.below HI4.out.b.size (fun i hi e => by omega))⟩
      · exact arown_mono (hk.own HO4.out.o0 (fun b hb e => by have := (arown_lt HO4.out.o0 b hb).1; omega)) (by omega)
      · exact arown_mono (hk.own HO4.out.o1 (fun b hb e => by have := (arown_lt HO4.out.o1 b hb).1; omega)) (by omega)
    · rw [if_pos rfl] at hEA
      subst hEA
      have HXX := Lib.hid (HNX.out rfl)
      clear HNX HYX
      have HPC : Hid (∀ p, arC Y p = #[.int .i64 Y.kind, .slice p.A0 Y.sh.length p.c0, .slice p.A1 Y.el.length p.c1]) := Lib.hid (fun p => rfl)
      have hfn := fn_nil gf cap
      go_enter Try.func104, Try.ntmps104
      go_wp2_with (first
        | (go_at_call 63; (try rw [hw1]); refine HC.out.mono ?_; rintro e _ ⟨rfl, rfl⟩)
        | (go_at_call 172; (try rw [hw1]); refine (HK.out _).mono ?_; rintro e _ ⟨rfl, rfl⟩
           have hI2 := HI.out.keep (S := fun _ => False) (Keep.of_below (albel w1 (.cells #[.bool false] 4))) (fun _ _ h => h)
           have yx0 := hI2.h0.cell 0
           have yy0 := hI2.h1.cell 0
           have HI2 := Lib.hid hI2
           clear hI2)
        | (go_at_call 60; refine (HM.out _ rfl).mono ?_; rintro e w3 ⟨p, rfl, o3, k3, z3⟩
           rw [HPC.out p]
           have hI3 := HI2.out.keep k3 (fun i hi e => by have := HS.out; omega)
           have hI4 := hI3.keep (S := fun _ => False) (Keep.of_below (albel w3 (.cells #[.int .i64 Y.kind, .slice p.A0 Y.sh.length p.c0, .slice p.A1 Y.el.length p.c1] 25))) (fun _ _ h => h)
           have z0 := (z3.alloc (.cells #[.int .i64 Y.kind, .slice p.A0 Y.sh.length p.c0, .slice p.A1 Y.el.length p.c1] 25)).cell 0
           have q0 := hI4.h3.cell 0
           have q1 := hI4.h3.cell 1
           have q2 := hI4.h3.cell 2
           have g0 := hI4.h3.frozen 0
           have g1 := hI4.h3.frozen 1
           have g2 := hI4.h3.frozen 2
           have HI4 := Lib.hid hI4
           have HO4 := Lib.hid (o3.stay (albel w3 (.cells #[.int .i64 Y.kind, .slice p.A0 Y.sh.length p.c0, .slice p.A1 Y.el.length p.c1] 25)) (Nat.le_refl _))
           clear hI3 hI4 o3 k3 z3))
      refine bodyPost_ret (results_arr2 rfl rfl rfl (arblk_three _ _ _ HI4.out.h3)) rfl ?_
      exact GiveE.no HXX.out (HI4.out.b.trans ((arkeep_three _ _ _ _ _).below HI4.out.b.size (fun i hi e => by omega)))
end Go.Proofs.Ytkabdkblcgklmaa.mo

namespace Go.Proofs.Ytkabdkblcgklmaa.mo
open Go.RowKit Go.Proofs.Ytkabdkblcgklmaa.arr

def mdE (a : AV) (E : Int) (sh : List Int) (f : Nat → Int × Int) : Int := if okA a = false then 110 else if E ≠ 0 then E else goE a.kind [a] sh f
def mdA (a : AV) (E : Int) (sh : List Int) (f : Nat → Int × Int) : AV := if okA a = false then noA else if E ≠ 0 then noA else goA a.kind [a] sh f
/-- The boxes of two arrays, and of what is answered. -/
structure TwI (w : World) (a b : AV) (p q : AP) (W : World) : Prop where
  x : Blk W w.heap.size 25 (arC a p)
  y : Blk W (w.heap.size + 1) 25 (arC b q)
  r : Blk W (w.heap.size + 1 + 1) 25 #[.int .i64 0, .slice none 0 0, .slice none 0 0]
  fb : Below w.heap.size w W
  ea : AEl W a p
  eb : AEl W b q
theorem TwI.below {w W W' : World} {a b : AV} {p q : AP} (h : TwI w a b p q W) (hb : Below W.heap.size W W') : TwI w a b p q W' :=
  ⟨h.x.below hb h.x.lt, h.y.below hb h.y.lt, h.r.below hb h.r.lt, bon h.fb hb, h.ea.below hb, h.eb.below hb⟩
theorem TwI.start {w : World} {a b : AV} {p q : AP} (ea : AEl w a p) (eb : AEl w b q) : TwI w a b p q (((w.alloc (.cells (arC a p) 25)).alloc (.cells (arC b q) 25)).alloc (.cells #[.int .i64 0, .slice none 0 0, .slice none 0 0] 25)) := by
  refine ⟨((Blk.new w _ _).alloc _).alloc _, ?_, ?_, mobelow3 _ _ _, ea.below (mobelow3 _ _ _), eb.below (mobelow3 _ _ _)⟩
  · have h := (Blk.new (w.alloc (.cells (arC a p) 25)) 25 (arC b q)).alloc (.cells #[.int .i64 0, .slice none 0 0, .slice none 0 0] 25)
    simpa only [World.size_alloc] using h
  · have h := Blk.new ((w.alloc (.cells (arC a p) 25)).alloc (.cells (arC b q) 25)) 25 #[.int .i64 0, .slice none 0 0, .slice none 0 0]
    simpa only [World.size_alloc] using h
theorem TwI.fin {w W : World} {a b : AV} {p q : AP} (h : TwI w a b p q W) (x y z : Value) : Below w.heap.size w (((W.setCell ⟨w.heap.size + 1 + 1, 0, none⟩ x).setCell ⟨w.heap.size + 1 + 1, 1, none⟩ y).setCell ⟨w.heap.size + 1 + 1, 2, none⟩ z) :=
  h.fb.trans ((arkeep_three W _ x y z).below h.fb.size (fun i hi e => by omega))
theorem TwI.give {w W W2 : World} {a b X : AV} {p q r : AP} (h : TwI w a b p q W) (hb : Below W.heap.size W W2) (o : AOwn W.heap.size W2 X r) :
    AOwn w.heap.size (((W2.setCell ⟨w.heap.size + 1 + 1, 0, none⟩ (.int .i64 X.kind)).setCell ⟨w.heap.size + 1 + 1, 1, none⟩ (.slice r.A0 X.sh.length r.c0)).setCell ⟨w.heap.size + 1 + 1, 2, none⟩ (.slice r.A1 X.el.length r.c1)) X r ∧
    Below w.heap.size w (((W2.setCell ⟨w.heap.size + 1 + 1, 0, none⟩ (.int .i64 X.kind)).setCell ⟨w.heap.size + 1 + 1, 1, none⟩ (.slice r.A0 X.sh.length r.c0)).setCell ⟨w.heap.size + 1 + 1, 2, none⟩ (.slice r.A1 X.el.length r.c1)) := by
  have hk := arkeep_three W2 (w.heap.size + 1 + 1) (.int .i64 X.kind) (.slice r.A0 X.sh.length r.c0) (.slice r.A1 X.el.length r.c1)
  have hl := h.r.lt
  refine ⟨⟨?_, ?_⟩, (h.below hb).fin _ _ _⟩
  · exact arown_mono (hk.own o.o0 (fun b hb e => by have := (arown_lt o.o0 b hb).1; omega)) (by omega)
  · exact arown_mono (hk.own o.o1 (fun b hb e => by have := (arown_lt o.o1 b hb).1; omega)) (by omega)
/-- One array in a slice. -/
theorem Els.one {W : World} {a : AV} {p : AP} (h : AEl W a p) : Els (W.alloc (.cells (arC a p) 25)) (some ⟨W.heap.size, 0, none⟩) [a] := by
  refine ⟨fun i x hx => ?_⟩
  rcases i with _ | i
  · injection hx with hx
    subst hx
    exact ⟨_, p, rfl, by simp, h.below (albel _ _), (Blk.new W 25 (arC a p)).cell 2⟩
  · simp at hx

/-- Reshape's error, and what it makes. -/
def rsE (l a : AV) : Int := mdE a (rwE l a.sh) (axL l a.sh) (rshF (prodI a.sh))
def rsA (l a : AV) : AV := mdA a (rwE l a.sh) (axL l a.sh) (rshF (prodI a.sh))
end Go.Proofs.Ytkabdkblcgklmaa.mo

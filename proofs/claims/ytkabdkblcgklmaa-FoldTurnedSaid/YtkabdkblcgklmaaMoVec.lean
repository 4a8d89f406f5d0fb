/-
  Layer 13 (mold): functions of one array: their boxes. Iota.
  Layer 13 (mold): what is dropped of a vector.
-/
import Derived.Test.YtkabdkblcgklmaaMoMold
import Derived.Test.YtkabdkblcgklmaaMoTake
namespace Go.Proofs.Ytkabdkblcgklmaa.mo
open Go.RowKit Go.Proofs.Ytkabdkblcgklmaa.arr

/-- The boxes of one array, and of what is answered. -/
structure OnI (w : World) (a : AV) (p : AP) (W : World) : Prop where
  x : Blk W w.heap.size 25 (arC a p)
  r : Blk W (w.heap.size + 1) 25 #[.int .i64 0, .slice none 0 0, .slice none 0 0]
  fb : Below w.heap.size w W
  ea : AEl W a p
theorem OnI.below {w W W' : World} {a : AV} {p : AP} (h : OnI w a p W) (hb : Below W.heap.size W W') : OnI w a p W' :=
  ⟨h.x.below hb h.x.lt, h.r.below hb h.r.lt, bon h.fb hb, h.ea.below hb⟩
theorem OnI.start {w : World} {a : AV} {p : AP} (ea : AEl w a p) : OnI w a p ((w.alloc (.cells (arC a p) 25)).alloc (.cells #[.int .i64 0, .slice none 0 0, .slice none 0 0] 25)) := by
  refine ⟨(Blk.new w _ _).alloc _, ?_, mobelow2 _ _, ea.below (mobelow2 _ _)⟩
  have h := Blk.new (w.alloc (.cells (arC a p) 25)) 25 #[.int .i64 0, .slice none 0 0, .slice none 0 0]
  simpa only [World.size_alloc] using h
theorem OnI.fin {w W : World} {a : AV} {p : AP} (h : OnI w a p W) (x y z : Value) : Below w.heap.size w (((W.setCell ⟨w.heap.size + 1, 0, none⟩ x).setCell ⟨w.heap.size + 1, 1, none⟩ y).setCell ⟨w.heap.size + 1, 2, none⟩ z) :=
  h.fb.trans ((arkeep_three W _ x y z).below h.fb.size (fun i hi e => by omega))
theorem OnI.give {w W W2 : World} {a X : AV} {p r : AP} (h : OnI w a p W) (hb : Below W.heap.size W W2) (o : AOwn W.heap.size W2 X r) :
    AOwn w.heap.size (((W2.setCell ⟨w.heap.size + 1, 0, none⟩ (.int .i64 X.kind)).setCell ⟨w.heap.size + 1, 1, none⟩ (.slice r.A0 X.sh.length r.c0)).setCell ⟨w.heap.size + 1, 2, none⟩ (.slice r.A1 X.el.length r.c1)) X r ∧
    Below w.heap.size w (((W2.setCell ⟨w.heap.size + 1, 0, none⟩ (.int .i64 X.kind)).setCell ⟨w.heap.size + 1, 1, none⟩ (.slice r.A0 X.sh.length r.c0)).setCell ⟨w.heap.size + 1, 2, none⟩ (.slice r.A1 X.el.length r.c1)) := by
  have hk := arkeep_three W2 (w.heap.size + 1) (.int .i64 X.kind) (.slice r.A0 X.sh.length r.c0) (.slice r.A1 X.el.length r.c1)
  have hl := h.r.lt
  refine ⟨⟨?_, ?_⟩, (h.below hb).fin _ _ _⟩
  · exact arown_mono (hk.own o.o0 (fun b hb e => by have := (arown_lt o.o0 b hb).1; omega)) (by omega)
  · exact arown_mono (hk.own o.o1 (fun b hb e => by have := (arown_lt o.o1 b hb).1; omega)) (by omega)
theorem OnI.cells {w W : World} {a : AV} {p : AP} (h : OnI w a p W) : (W.cell? ⟨w.heap.size, 0, none⟩ = some (.int .i64 a.kind) ∧ W.cell? ⟨w.heap.size, 1, none⟩ = some (.slice p.A0 a.sh.length p.c0) ∧ W.cell? ⟨w.heap.size, 2, none⟩ = some (.slice p.A1 a.el.length p.c1)) ∧
    (W.cell? ⟨w.heap.size + 1, 0, none⟩ = some (.int .i64 0) ∧ W.cell? ⟨w.heap.size + 1, 1, none⟩ = some (.slice none 0 0) ∧ W.cell? ⟨w.heap.size + 1, 2, none⟩ = some (.slice none 0 0)) ∧
    W.frozen? ⟨w.heap.size + 1, 0, none⟩ = false ∧ W.frozen? ⟨w.heap.size + 1, 1, none⟩ = false ∧ W.frozen? ⟨w.heap.size + 1, 2, none⟩ = false :=
  ⟨⟨h.x.cell 0, h.x.cell 1, h.x.cell 2⟩, ⟨h.r.cell 0, h.r.cell 1, h.r.cell 2⟩, h.r.frozen 0, h.r.frozen 1, h.r.frozen 2⟩

def ioF (z : Int) : Int := wrap64 (z + 1)
theorem ioF_bounds (z : Int) : -9223372036854775808 ≤ ioF z ∧ ioF z ≤ 9223372036854775807 := by
  unfold ioF wrap64
  omega
theorem iota1_any (i : Nat) (W : World) : Calls Try.prog 65 (#[.int .i64 (i : Int)] ++ #[]) W fun e w' => e = .returned (.int .i64 (ioF (i : Int))) ∧ W = w' := by
  go_enter Try.func65, Try.ntmps65
  go_wp2
  go_ret
  exact ⟨rfl, rfl⟩
theorem okA_io {x : Int} (h0 : 0 ≤ x) (h1 : x ≤ 4096) : okA (makeA 1 [x] ioF) = true := by
  have hp : prodI [x] = x := by
    show x * 1 = x
    omega
  refine okA_iff.2 ⟨okShape_iff.2 ⟨by simp [makeA], ?_, ?_⟩, ?_, ?_⟩
  · show List.all [x] lenOk = true
    rw [List.all_cons, List.all_nil, Bool.and_true]
    exact lenOk_iff.2 ⟨h0, h1⟩
  · show prodI [x] ≤ 4096
    omega
  · show ((fL ioF (prodI [x]).toNat).length : Int) = prodI [x]
    rw [hp]
    simp [fL]
    omega
  · rfl
/-- Iota's error, and what it makes. -/
def ioE (a : AV) : Int := if okA a = false then 110 else if 0 < a.sh.length then 3 else if a.kind = 2 ∨ a.el.getD 0 0 < 0 then 5 else if 4096 < a.el.getD 0 0 then 9 else 0
def ioA (a : AV) : AV := if ioE a = 0 then makeA 1 [a.el.getD 0 0] ioF else noA
set_option maxRecDepth 100000 in
set_option maxHeartbeats 4000000 in
theorem moiota_any (a : AV) (p : AP) (w : World) (ha : AEl w a p) :
    Calls Try.prog 23 #[.agg (arC a p)] w (GiveE (ioA a) (ioE a) w) := by
  have hI := OnI.start ha
  obtain ⟨w1, hw1⟩ : ∃ w1, (w.alloc (.cells (arC a p) 25)).alloc (.cells #[.int .i64 0, .slice none 0 0, .slice none 0 0] 25) = w1 := ⟨_, rfl⟩
  rw [hw1] at hI
  have HCA := Lib.hid (fun W (h : OnI w a p W) => archeck_any a p W h.ea)
  have hca : checkE a = if okA a = true then 0 else 110 := rfl
  have hE : ioE a = if okA a = false then 110 else if 0 < a.sh.length then 3 else if a.kind = 2 ∨ a.el.getD 0 0 < 0 then 5 else if 4096 < a.el.getD 0 0 then 9 else 0 := rfl
  have hA : ioA a = if ioE a = 0 then makeA 1 [a.el.getD 0 0] ioF else noA := rfl
  have hLC : arC a p = #[.int .i64 a.kind, .slice p.A0 a.sh.length p.c0, .slice p.A1 a.el.length p.c1] := rfl
  have HI := Lib.hid hI
  have HC := Lib.hid (fun W (h : OnI w a p W) => h.cells)
  obtain ⟨⟨x0, x1, x2⟩, ⟨r0, r1, r2⟩, f0, f1, f2⟩ := HC.out w1 hI
  have HM := Lib.hid (fun (W : World) (x : Int) (hx0 : 0 ≤ x) (hx1 : x ≤ 4096) => (armake_any 1 (some ⟨W.heap.size, 0, none⟩) 1 1 [x] 65 #[] (enters_of Try.func65 (by kernel_rfl) rfl) ioF (W.alloc (.cells #[.int .i64 x] 3)) rfl (lit_reads W 3 [.int .i64 x]) (by decide) ioF_bounds (fun i W' _ => iota1_any i W')))
  have HEL : Hid (okA a = true → ¬ 0 < a.sh.length → ∃ ad, p.A1 = some ad ∧ a.el.length = 1 ∧ (-9223372036854775808 ≤ a.el.getD 0 0 ∧ a.el.getD 0 0 ≤ 9223372036854775807) ∧ ∀ W, OnI w a p W → W.cell? ad = some (.int .i64 (a.el.getD 0 0))) := Lib.hid (fun ho hs => by
    have h1 := (okA_iff.1 ho).2.1
    rw [List.eq_nil_of_length_eq_zero (by omega : a.sh.length = 0)] at h1
    have h2 : a.el.length = 1 := by
      have e : prodI [] = 1 := rfl
      omega
    obtain ⟨ad, e, _, _⟩ := ha.r1.2 (by omega)
    have hx : a.el[0]? = some (a.el.getD 0 0) := by
      rw [List.getD_eq_getElem?_getD, List.getElem?_eq_getElem (by omega : 0 < a.el.length)]
      rfl
    refine ⟨ad, e, h2, ha.f1 _ (List.mem_of_getElem? hx), fun W h => ?_⟩
    obtain ⟨ad2, e2, _, hc⟩ := h.ea.r1.2 (by omega)
    rw [e] at e2
    injection e2 with e2
    subst e2
    have hq := hc 0 _ (by rw [List.getElem?_map, hx]; rfl)
    have e0 : ad.add 0 = ad := by
      unfold Addr.add
      simp
    rw [e0] at hq
    exact hq)
  rw [hLC] at HCA hw1
  rw [hLC]
  generalize a.kind = ka at *
  obtain ⟨X, hX⟩ : ∃ X, ioA a = X := ⟨_, rfl⟩
  obtain ⟨E, hE2⟩ : ∃ E, ioE a = E := ⟨_, rfl⟩
  rw [hX, hE2]
  rw [hX, hE2] at hA
  rw [hE2] at hE
  generalize a.el.getD 0 0 = x at *
  clear ha hI hLC hX hE2
  cases hoa : okA a
  · rw [hoa, if_neg (by decide)] at hca
    rw [hoa, if_pos rfl] at hE
    subst hE
    rw [if_neg (by decide)] at hA
    subst hA
    rw [hca] at HCA
    clear hca HEL HM
    go_enter Try.func23, Try.ntmps23
    go_wp2_with (go_at_call 21; (try rw [hw1]); refine (HCA.out _ HI.out).mono ?_; rintro e w2 ⟨rfl, b2⟩; have hI2 := HI.out.below b2; obtain ⟨⟨x0, x1, x2⟩, ⟨r0, r1, r2⟩, f0, f1, f2⟩ := HC.out w2 hI2; have HI2 := Lib.hid hI2; clear b2 hI2)
    refine bodyPost_ret (results_arr2 rfl rfl rfl (arblk_three _ _ _ HI2.out.r)) rfl ?_
    exact GiveE.no rfl (HI2.out.fin _ _ _)
  rw [hoa, if_pos rfl] at hca
  rw [hoa, if_neg (by decide)] at hE
  rw [hca] at HCA
  have HEL2 := HEL.out hoa
  clear hca HEL
  by_cases hs : 0 < a.sh.length
  · rw [if_pos hs] at hE
    subst hE
    rw [if_neg (by decide)] at hA
    subst hA
    have hs2 : (0 : Int) < (a.sh.length : Int) := by omega
    clear HEL2 HM hs
    go_enter Try.func23, Try.ntmps23
    go_wp2_with (go_at_call 21; (try rw [hw1]); refine (HCA.out _ HI.out).mono ?_; rintro e w2 ⟨rfl, b2⟩; have hI2 := HI.out.below b2; obtain ⟨⟨x0, x1, x2⟩, ⟨r0, r1, r2⟩, f0, f1, f2⟩ := HC.out w2 hI2; have HI2 := Lib.hid hI2; clear b2 hI2)
    refine bodyPost_ret (results_arr2 rfl rfl rfl (arblk_three _ _ _ HI2.out.r)) rfl ?_
    exact GiveE.no rfl (HI2.out.fin _ _ _)
  rw [if_neg hs] at hE
  obtain ⟨ad, hp1, hel, hxb, hcell⟩ := HEL2 hs
  have HCELL := Lib.hid hcell
  have hs0 : a.sh.length = 0 := by omega
  rw [hp1, hel, hs0] at HCA HC hw1
  rw [hp1, hel] at x2
  rw [hs0] at x1
  rw [hp1, hel, hs0]
  clear HEL2 hs hcell hp1 hel
  by_cases hk : ka = 2
  · subst hk
    rw [if_pos (.inl rfl)] at hE
    subst hE
    rw [if_neg (by decide)] at hA
    subst hA
    clear HM
    go_enter Try.func23, Try.ntmps23
    go_wp2_with (go_at_call 21; (try rw [hw1]); refine (HCA.out _ HI.out).mono ?_; rintro e w2 ⟨rfl, b2⟩; have hI2 := HI.out.below b2; obtain ⟨⟨x0, x1, x2⟩, ⟨r0, r1, r2⟩, f0, f1, f2⟩ := HC.out w2 hI2; have y0 := HCELL.out w2 hI2; have HI2 := Lib.hid hI2; clear b2 hI2)
    refine bodyPost_ret (results_arr2 rfl rfl rfl (arblk_three _ _ _ HI2.out.r)) rfl ?_
    exact GiveE.no rfl (HI2.out.fin _ _ _)
  have hkb : (ka == 2) = false := by simp [hk]
  by_cases hx0 : x < 0
  · rw [if_pos (.inr hx0)] at hE
    subst hE
    rw [if_neg (by decide)] at hA
    subst hA
    clear HM hk
    go_enter Try.func23, Try.ntmps23
    go_wp2_with (go_at_call 21; (try rw [hw1]); refine (HCA.out _ HI.out).mono ?_; rintro e w2 ⟨rfl, b2⟩; have hI2 := HI.out.below b2; obtain ⟨⟨x0, x1, x2⟩, ⟨r0, r1, r2⟩, f0, f1, f2⟩ := HC.out w2 hI2; have y0 := HCELL.out w2 hI2; have HI2 := Lib.hid hI2; clear b2 hI2)
    refine bodyPost_ret (results_arr2 rfl rfl rfl (arblk_three _ _ _ HI2.out.r)) rfl ?_
    exact GiveE.no rfl (HI2.out.fin _ _ _)
  rw [if_neg (fun h => h.elim hk hx0)] at hE
  clear hk
  by_cases hx1 : 4096 < x
  · rw [if_pos hx1] at hE
    subst hE
    rw [if_neg (by decide)] at hA
    subst hA
    clear HM
    go_enter Try.func23, Try.ntmps23
    go_wp2_with (go_at_call 21; (try rw [hw1]); refine (HCA.out _ HI.out).mono ?_; rintro e w2 ⟨rfl, b2⟩; have hI2 := HI.out.below b2; obtain ⟨⟨x0, x1, x2⟩, ⟨r0, r1, r2⟩, f0, f1, f2⟩ := HC.out w2 hI2; have y0 := HCELL.out w2 hI2; have HI2 := Lib.hid hI2; clear b2 hI2)
    refine bodyPost_ret (results_arr2 rfl rfl rfl (arblk_three _ _ _ HI2.out.r)) rfl ?_
    exact GiveE.no rfl (HI2.out.fin _ _ _)
  rw [if_neg hx1] at hE
  subst hE
  rw [if_pos rfl] at hA
  have HM2 : Hid (∀ (W : World), Calls Try.prog 60 #[.int .i64 1, .slice (some ⟨W.heap.size, 0, none⟩) 1 1, .func (.func 65) #[] #[]] (W.alloc (.cells #[.int .i64 x] 3)) (GiveE X 0 (W.alloc (.cells #[.int .i64 x] 3)))) := Lib.hid (fun (W : World) => (HM.out W x (by omega) (by omega)).mono (by
    rintro e w2 ⟨v, rfl, hv⟩
    have hok := okA_io (x := x) (by omega) (by omega)
    rw [hok, if_pos rfl, ← hA] at hv
    obtain ⟨r, rfl, o, b⟩ := hv
    refine ⟨r, ?_, o, b⟩
    unfold checkE
    rw [hok]
    rfl))
  have HPC : Hid (∀ p, arC X p = #[.int .i64 X.kind, .slice p.A0 X.sh.length p.c0, .slice p.A1 X.el.length p.c1]) := Lib.hid (fun p => rfl)
  clear hA HM
  go_enter Try.func23, Try.ntmps23
  go_wp2_with (first
    | (go_at_call 21; (try rw [hw1]); refine (HCA.out _ HI.out).mono ?_; rintro e w2 ⟨rfl, b2⟩; have hI2 := HI.out.below b2; obtain ⟨⟨x0, x1, x2⟩, _⟩ := HC.out w2 hI2; have y0 := HCELL.out w2 hI2; have HI2 := Lib.hid hI2; clear b2 hI2)
    | (go_at_call 60; refine (HM2.out w2).mono ?_; rintro e w3 ⟨r, rfl, o3, b3⟩
       rw [HPC.out r]
       have hI3 := HI2.out.below (albel w2 (.cells #[.int .i64 x] 3))
       have HI4 := Lib.hid (hI3.below b3)
       have HGV := Lib.hid (hI3.give b3 o3)
       obtain ⟨_, ⟨r0, r1, r2⟩, f0, f1, f2⟩ := HC.out _ (hI3.below b3)
       clear hI3 o3 b3))
  refine bodyPost_ret (results_arr2 rfl rfl rfl (arblk_three _ _ _ HI4.out.r)) rfl ?_
  exact ⟨r, rfl, HGV.out⟩
end Go.Proofs.Ytkabdkblcgklmaa.mo

namespace Go.Proofs.Ytkabdkblcgklmaa.mo
open Go.RowKit Go.Proofs.Ytkabdkblcgklmaa.arr

theorem one_ok (x : Int) : okA ⟨1, [], [x]⟩ = true := okA_iff.2 ⟨show okShape [] = true by decide, rfl, rfl⟩
theorem sh_one {x : Int} (h0 : 0 ≤ x) (h1 : x ≤ 4096) : okShape [x] = true := by
  refine okShape_iff.2 ⟨by simp, ?_, ?_⟩
  · rw [List.all_cons, List.all_nil, Bool.and_true]
    exact lenOk_iff.2 ⟨h0, h1⟩
  · show x * 1 ≤ 4096
    omega
theorem okA_mk (f : Int → Int) {m : Nat} (h1 : m ≤ 4096) : okA (makeA 1 [(m : Int)] f) = true := by
  refine okA_iff.2 ⟨sh_one (by omega) (by omega), ?_, rfl⟩
  show ((fL f (prodI [(m : Int)]).toNat).length : Int) = prodI [(m : Int)]
  have hp : prodI [(m : Int)] = m := Int.mul_one _
  rw [hp, fL_length]
  omega
theorem ix1 (s : Sp) (i : Nat) (h : i < s.len.toNat) : ixV [s] i 0 = (i : Int) + s.frm := by
  show (((i / 1) % s.len.toNat : Nat) : Int) + s.frm = _
  rw [Nat.div_one, Nat.mod_eq_of_lt h]
theorem src1 (s : Sp) (i : Nat) (h : i < s.len.toNat) (h0 : 0 ≤ (i : Int) + s.frm) (h1 : (i : Int) + s.frm < s.has) : srcF [s] i = (0, (i : Int) + s.frm) := by
  have hb : badB [s] i 0 = false := by
    unfold badB
    rw [ix1 s i h]
    show (decide _ || decide (s.has ≤ _)) = false
    simp
    omega
  have ha : anyBad [s] i 1 = false := by
    show (badB [s] i 0 || false) = false
    rw [hb]
    rfl
  unfold srcF
  show (if anyBad [s] i 1 = true then _ else (0, srcP [s] i 1)) = _
  rw [ha, if_neg (by decide)]
  show ((0 : Int), 0 * hasV [s] 0 + ixV [s] i 0) = _
  rw [ix1 s i h, Int.zero_mul, Int.zero_add]
theorem astB_no {k : Int} {ls : List AV} {f : Nat → Int × Int} {n : Nat} (h : ∀ i < n, elB k ls (f i) = true) : astB k ls f n = false := by
  unfold astB
  rw [List.any_eq_false]
  intro i hi
  rw [h i (List.mem_range.1 hi)]
  decide
theorem el1 (a : AV) (k j : Int) (h0 : 0 ≤ j) : elF k [a] (0, j) = a.el[j.toNat]? := by
  show (if (0 : Int) = -1 then some (fillV k) else if (0 : Int) ≤ 0 then (if 0 ≤ j then a.el[j.toNat]? else none) else none) = _
  rw [if_neg (by decide), if_pos (by decide), if_pos h0]
/-- What is dropped of a vector: as many, each that far behind. -/
theorem drop_one (k : Int) (a : AV) (n : Nat) (hn : n ≤ 4096) (hs : a.sh = [(n : Int)]) (ho : okA a = true) (hk : a.kind = 1) :
    ∃ (m : Nat) (f : Int → Int), dpE ⟨1, [], [k]⟩ a = 0 ∧ dpA ⟨1, [], [k]⟩ a = makeA 1 [(m : Int)] f ∧ m ≤ n ∧ ∀ i : Nat, i < m → (i : Int) + max 0 k < n ∧ f i = a.el.getD ((i : Int) + max 0 k).toNat 0 := by
  have hE : axE ⟨1, [], [k]⟩ [(n : Int)] = 0 := by
    unfold axE
    rw [sh_one (by omega) (by omega), if_pos rfl]
    unfold listE
    rw [one_ok, if_pos rfl]
    rfl
  have hL : axL ⟨1, [], [k]⟩ [(n : Int)] = [limN k] := by
    unfold axL
    rw [hE, if_pos rfl]
    rfl
  have hC : cutL droN (axL ⟨1, [], [k]⟩ [(n : Int)]) (sh1 [(n : Int)]) = [droN (limN k) n] := by
    rw [hL]
    rfl
  obtain ⟨s, hsd⟩ : ∃ s, droN (limN k) n = s := ⟨_, rfl⟩
  have hsp : s.has = n ∧ 0 ≤ s.len ∧ s.len ≤ n ∧ ∀ i : Nat, i < s.len.toNat → 0 ≤ (i : Int) + s.frm ∧ (i : Int) + s.frm < n ∧ s.frm = max 0 k := by
    rw [← hsd]
    unfold droN limN
    split
    · refine ⟨rfl, by simp; omega, by simp; omega, fun i hi => ?_⟩
      simp only at hi ⊢
      omega
    · refine ⟨rfl, by simp; omega, by simp; omega, fun i hi => ?_⟩
      simp only at hi ⊢
      omega
  rw [hsd] at hC
  obtain ⟨h1, h2, h3, h4⟩ := hsp
  obtain ⟨m, hm⟩ := Int.eq_ofNat_of_zero_le h2
  have hw : cwE droN ⟨1, [], [k]⟩ [(n : Int)] = 0 := by
    unfold cwE
    rw [hE, if_neg (fun h => h rfl), hC, hL, if_neg (by simp [sh1])]
    show (if okShape [s.len] = true then (0 : Int) else 9) = 0
    rw [sh_one h2 (by omega), if_pos rfl]
  have hS : ctSh droN ⟨1, [], [k]⟩ [(n : Int)] = [(m : Int)] := by
    unfold ctSh
    rw [hC, ← hm]
    rfl
  have hF : ctF droN ⟨1, [], [k]⟩ [(n : Int)] = srcF [s] := by
    unfold ctF
    rw [hC]
  have hlen : a.el.length = n := by
    have := (okA_iff.1 ho).2.1
    rw [hs] at this
    have hp : prodI [(n : Int)] = n := Int.mul_one _
    omega
  have hsrc : ∀ i : Nat, i < m → srcF [s] i = (0, (i : Int) + max 0 k) ∧ (i : Int) + max 0 k < n := fun i hi => by
    obtain ⟨q1, q2, q3⟩ := h4 i (by omega)
    refine ⟨?_, by omega⟩
    rw [src1 s i (by omega) q1 (by omega), q3]
  have hel : ∀ i : Nat, i < m → elF 1 [a] (srcF [s] i) = some (a.el.getD ((i : Int) + max 0 k).toNat 0) := fun i hi => by
    obtain ⟨q1, q2⟩ := hsrc i hi
    rw [q1, el1 a 1 _ (by omega), List.getD_eq_getElem?_getD, List.getElem?_eq_getElem (by omega)]
    rfl
  have hpm : (prodI [(m : Int)]).toNat = m := by
    have hp : prodI [(m : Int)] = m := Int.mul_one _
    omega
  have hgo : goE 1 [a] [(m : Int)] (srcF [s]) = 0 := by
    unfold goE
    rw [if_neg (by decide), hpm, astB_no (fun i hi => by unfold elB; rw [hel i hi]; rfl), if_neg (by decide)]
    unfold checkE goR
    rw [okA_mk _ (by omega), if_pos rfl]
  refine ⟨m, goV 1 [a] (srcF [s]), ?_, ?_, by omega, fun i hi => ⟨(hsrc i hi).2, ?_⟩⟩
  · unfold dpE
    rw [hs, hw, hS, hF]
    unfold mdE
    rw [ho, if_neg (by decide), if_neg (fun h => h rfl), hk, hgo]
  · unfold dpA
    rw [hs, hw, hS, hF]
    unfold mdA
    rw [ho, if_neg (by decide), if_neg (fun h => h rfl), hk]
    unfold goA goR
    rw [hgo, if_pos rfl]
  · unfold goV elV
    rw [Int.toNat_natCast, hel i hi]
    rfl
end Go.Proofs.Ytkabdkblcgklmaa.mo

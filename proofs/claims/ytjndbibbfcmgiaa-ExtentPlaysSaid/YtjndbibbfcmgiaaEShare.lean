/-
  The space of layer 4: results by value; what a run and an extent have in common.
-/
import Derived.Test.YtjndbibbfcmgiaaECons
namespace Go.Proofs.Ytjndbibbfcmgiaa
open Go.RowKit

theorem blk_new2 (w : World) (o : Obj) (t : TypeId) (cs : Array Value) : Blk ((w.alloc o).alloc (.cells cs t)) (w.heap.size + 1) t cs := by
  have := Blk.new (w.alloc o) t cs
  simpa only [World.size_alloc] using this
theorem blk_new3 (w : World) (o o' : Obj) (t : TypeId) (cs : Array Value) : Blk (((w.alloc o).alloc o').alloc (.cells cs t)) (w.heap.size + 1 + 1) t cs := by
  have := Blk.new ((w.alloc o).alloc o') t cs
  simpa only [World.size_alloc] using this
theorem load_ext (w : World) (g : Nat) (x y : Value) (hb : Blk w g 33 #[x, y]) : (loadVar 33 ⟨g, 0, none⟩).run Try.prog w = .ok (.agg #[x, y]) w := by
  have h1 : w.rangeAt g 0 [x, y] := fun j v hv => by
    rw [Nat.zero_add, hb.cell]
    simpa using hv
  exact run_loadVar_mid w g 0 33 [x, y] _ h1 Try.underlying33 rfl (by kernel_rfl)
theorem results_ext {fn : Func} {t : Tmp} {tmps : Array Value} {w : World} {g : Nat} {x y : Value} (h : fn.results = #[.cell t 33]) (ht : tmps.getD t undef = .pointer (some ⟨g, 0, none⟩)) (hb : Blk w g 33 #[x, y]) : (results fn tmps).run Try.prog w = .ok (.agg #[x, y]) w := by
  have h1 := load_ext w g x y hb
  rw [Array.getD_eq_getD_getElem?] at ht
  simp [results, h, ht, h1, asAddr]
theorem results_ext2 {fn : Func} {t u : Tmp} {tmps : Array Value} {w : World} {g : Nat} {x y z : Value} (h : fn.results = #[.cell t 33, .tmp u]) (ht : tmps.getD t undef = .pointer (some ⟨g, 0, none⟩)) (hz : tmps.getD u undef = z) (hb : Blk w g 33 #[x, y]) : (results fn tmps).run Try.prog w = .ok (.tuple #[.agg #[x, y], z]) w := by
  have h1 := load_ext w g x y hb
  rw [Array.getD_eq_getD_getElem?] at ht hz
  simp [results, h, ht, h1, hz, asAddr]

def sharedE (a n b m : Nat) : Int × Int := (max (a : Int) (b : Int), min ((a : Int) + (n : Int)) ((b : Int) + (m : Int)) - max (a : Int) (b : Int))
set_option maxHeartbeats 1000000 in
theorem eshared_any (a n b m : Nat) (w : World) (h : a + n ≤ 8192 ∧ b + m ≤ 8192) :
    Calls Try.prog 38 #[.agg #[.int .i64 (a : Int), .int .i64 (n : Int)], .agg #[.int .i64 (b : Int), .int .i64 (m : Int)]] w fun e w' => e = .returned (.agg #[.int .i64 (sharedE a n b m).1, .int .i64 (sharedE a n b m).2]) ∧ Below w.heap.size w w' := by
  obtain ⟨M, hM⟩ : ∃ M : Int, max (a : Int) (b : Int) = M := ⟨_, rfl⟩
  obtain ⟨K, hK⟩ : ∃ K : Int, min ((a : Int) + (n : Int)) ((b : Int) + (m : Int)) = K := ⟨_, rfl⟩
  have hmax : ∀ ts t W, (Builtin.max_ ts t #[.int .i64 (a : Int), .int .i64 (b : Int)]).run Try.prog W = .ok (.int .i64 M) W := fun ts t W => by
    have e : (if (b : Int) > (a : Int) then (b : Int) else (a : Int)) = M := by rw [← hM]; split <;> omega
    rw [run_max_int2, e]
  have hmin : ∀ ts t W, (Builtin.min_ ts t #[.int .i64 ((a : Int) + (n : Int)), .int .i64 ((b : Int) + (m : Int))]).run Try.prog W = .ok (.int .i64 K) W := fun ts t W => by
    have e : (if (b : Int) + (m : Int) < (a : Int) + (n : Int) then (b : Int) + (m : Int) else (a : Int) + (n : Int)) = K := by rw [← hK]; split <;> omega
    rw [run_min_int2, e]
  have hb1 : 0 ≤ M ∧ M ≤ 8192 ∧ 0 ≤ K ∧ K ≤ 8192 := by omega
  unfold sharedE
  rw [hM, hK]
  clear hM hK
  go_enter Try.func38, Try.ntmps38
  go_wp2
  refine bodyPost_ret (results_ext rfl rfl (blk_new3 w _ _ 33 _)) rfl ?_
  exact ⟨rfl, (((Below.refl _ w).alloc (Nat.le_refl _) _).alloc (by simp) _).alloc (by simp; omega) _⟩

section
variable {w : World} {d : SpAt} {s : ESt}
attribute [local go_sem] Oper.semAt_some

theorem keep_two (W : World) (rc : Nat) (a b : Value) : Keep (fun k => k = rc) W ((W.setCell ⟨rc, 0, none⟩ a).setCell ⟨rc, 1, none⟩ b) := by
  have h1 : Keep (fun k => k = rc) W (W.setCell ⟨rc, 0, none⟩ a) := (Keep.refl _ _).setCell _ _ (fun _ => rfl)
  exact h1.setCell _ _ (fun _ => rfl)
/-- A result's cell is set, and the rounds' deferred calls are taken. -/
theorem fin_ext {w W : World} {B rc D : Nat} {x0 y0 : Value} (a b : Value) (hw : Below B w W) (hB : B ≤ rc) (hD : B ≤ D) (hr : Blk W rc 33 #[x0, y0]) (hK : W.heap[D]? = some (.deferred (some []))) :
    ((W.setCell ⟨rc, 0, none⟩ a).setCell ⟨rc, 1, none⟩ b).heap[D]? = some (.deferred (some [])) ∧ Blk (((W.setCell ⟨rc, 0, none⟩ a).setCell ⟨rc, 1, none⟩ b).putObj D (.deferred none)) rc 33 #[a, b] ∧ Below B w (((W.setCell ⟨rc, 0, none⟩ a).setCell ⟨rc, 1, none⟩ b).putObj D (.deferred none)) := by
  have hne : rc ≠ D := by
    rintro rfl
    unfold Blk at hr
    rw [hr] at hK
    cases hK
  have hk : Keep (fun k => k = rc) W ((W.setCell ⟨rc, 0, none⟩ a).setCell ⟨rc, 1, none⟩ b) := keep_two W rc a b
  have hb : Blk ((W.setCell ⟨rc, 0, none⟩ a).setCell ⟨rc, 1, none⟩ b) rc 33 #[a, b] := (hr.set_ 0 a).set_ 1 b
  have hp : Keep (fun k => k = D) ((W.setCell ⟨rc, 0, none⟩ a).setCell ⟨rc, 1, none⟩ b) (((W.setCell ⟨rc, 0, none⟩ a).setCell ⟨rc, 1, none⟩ b).putObj D (.deferred none)) := (Keep.refl _ _).grown (grownBy_putObj' _ D _) (fun k e _ => by injection e with e; exact e.symm)
  have hDl : D < W.heap.size := (Array.getElem?_eq_some_iff.1 hK).1
  have hs := hw.size
  refine ⟨(hk.block D hDl (fun e => hne e.symm)).trans hK, hp.blk hb (fun e => hne e), ?_⟩
  have hBW : B ≤ W.heap.size := by omega
  exact (hw.trans (hk.below hBW (fun i hi e => by omega))).trans (hp.below (by have := hk.size; omega) (fun i hi e => by omega))

/-- The first run that is long enough, as an extent. -/
def firstE (s : ESt) (n : Nat) : Int × Int := match takeP s.L n with
  | some q => (((s.f + q : Nat) : Int), (n : Int))
  | none => (0, 0)
set_option maxRecDepth 100000 in
set_option maxHeartbeats 4000000 in
theorem efirst_any (n : Nat) (h : EK w d s) : Calls Try.prog 26 #[.pointer (some ⟨d.b, 0, none⟩), .int .i64 (n : Int)] w fun e w' => e = .returned (.agg #[.int .i64 (firstE s n).1, .int .i64 (firstE s n).2]) ∧ Below w.heap.size w w' := by
  have hfr : Fence.wide.fn 24 := trivial
  have hlt := h.lt
  have H := Lib.hid h
  clear h
  refine (callsIn_wide (n := 7)).1 ?_
  refine callsIn_of_wp_marks Try.func26 rfl trivial ?_
  simp only [Try.ntmps26, List.size_toArray, List.length_cons, List.length_nil, Nat.reduceAdd, Nat.reduceSub, Array.replicate_succ, Array.replicate_zero, List.push_toArray, List.append_toArray, List.nil_append, List.cons_append]
  gi_wp2
  refine wpIn_scope_w ?_
  gi_wp2
  refine wpIn_label ?_
  gi_wp2_with ((gi_at_call 24; refine (callsIn_wide.2 (eruns_any _ _ _)).mono ?_; rintro e w2 ⟨rfl, hw2⟩))
  rw [← hw2]
  obtain ⟨q, hq⟩ : ∃ q, w.heap.size = q := ⟨_, rfl⟩
  obtain ⟨W1, hW1⟩ : ∃ W1, (((w.alloc (.cells #[.int .i64 (n : Int)] 3)).alloc (.cells #[.int .i64 0, .int .i64 0] 33)).alloc (.cells #[.int .i64 0, .int .i64 0] 33)) = W1 := ⟨_, rfl⟩
  have hB1 : Below w.heap.size w W1 := by rw [← hW1]; exact (((Below.refl _ w).alloc (Nat.le_refl _) _).alloc (by simp) _).alloc (by simp; omega) _
  have hx1 : Blk W1 (q + 1 + 1) 33 #[.int .i64 0, .int .i64 0] := by rw [← hW1, ← hq]; exact blk_new3 w _ _ 33 _
  have hn1 : Blk W1 q 3 #[.int .i64 (n : Int)] := by rw [← hW1, ← hq]; exact ((Blk.new w _ _).alloc _).alloc _
  have hr1 : Blk W1 (q + 1) 33 #[.int .i64 0, .int .i64 0] := by rw [← hW1, ← hq]; exact (blk_new2 w _ 33 _).alloc _
  have hs1 : W1.heap.size = q + 3 := by rw [← hW1, ← hq]; simp
  have H1 := Lib.hid (H.out.below hB1)
  have HB1 := Lib.hid hB1
  have HX1 := Lib.hid hx1
  clear hB1 hx1
  rw [hW1] at hw2
  rw [hq]
  have hb2 : Below W1.heap.size W1 w2 := by rw [hw2]; exact ((Below.refl _ _).alloc (Nat.le_refl _) _).alloc (by simp) _
  have hsz2 : w2.heap.size = q + 5 := by rw [hw2]; simp [hs1]
  have hEK2 := H1.out.below hb2
  have hRA : RunsAt w2 (q + 1 + 1 + 1) (q + 1 + 1 + 1 + 1) d false := by
    rw [hw2]
    refine ⟨?_, ?_⟩
    · have := (Blk.new W1 23 #[.pointer (some ⟨d.b, 0, none⟩)]).alloc (.cells #[.bool false] 4)
      rwa [hs1] at this
    · have := blk_new2 W1 (.cells #[.pointer (some ⟨d.b, 0, none⟩)] 23) 4 #[.bool false]
      rwa [hs1] at this
  have hdb := hlt d.b (.inl rfl)
  have hdg := hlt d.g (.inr rfl)
  have hne : q + 1 + 1 + 1 ≠ q + 1 + 1 ∧ q + 1 + 1 + 1 + 1 ≠ q + 1 + 1 ∧ d.b ≠ q + 1 + 1 ∧ d.g ≠ q + 1 + 1 := by omega
  have hEI0 : EI w2 (q + 1 + 1) 33 #[.int .i64 0, .int .i64 0] w2 := ⟨Keep.refl _ _, HX1.out.below hb2 (by omega)⟩
  have HN2 := Lib.hid (hn1.below hb2 (by omega))
  have HR2 := Lib.hid (hr1.below hb2 (by omega))
  have HOK := Lib.hid hEK2.ok
  have HBW : Hid (Below w.heap.size w w2) := Lib.hid (HB1.out.trans (hb2.mono HB1.out.size))
  have HF0 : Hid (takeP s.L n = none → firstE s n = (0, 0)) := Lib.hid (fun e => by unfold firstE; rw [e])
  have HF1 : Hid (∀ p, takeP s.L n = some p → firstE s n = (((s.f + p : Nat) : Int), (n : Int))) := Lib.hid (fun p e => by unfold firstE; rw [e])
  clear hn1 hr1
  refine wpIn_rangeFunc_ownH rfl (by omega) (gf := 33) (lb := #[.pointer (some ⟨q + 1 + 1 + 1, 0, none⟩), .pointer (some ⟨q + 1 + 1 + 1 + 1, 0, none⟩)]) rfl trivial (enters_of Try.func33 (by kernel_rfl) rfl)
    (runs_stops 6 (by omega) (q + 1 + 1) (q + 1 + 1 + 1) (q + 1 + 1 + 1 + 1) d s false w2 hEK2 hRA hne) (fun h k => h.trans k) (fun W l o o' _ hl ho _ => KpE.putObj W l o o' hl ho) (Below.refl _ _) (fun _ => rfl)
    (fun (pre : List (Run s false)) W => EI w2 (q + 1 + 1) 33 #[.int .i64 0, .int .i64 0] W ∧ ∀ y ∈ pre, y.1.2 < n)
    (fun c (pre : List (Run s false)) W => c = .exit 0 ∧ ∃ (pre0 : List (Run s false)) (x : Run s false), pre = pre0 ++ [x] ∧ n ≤ x.1.2 ∧ (∀ y ∈ pre0, y.1.2 < n) ∧ EI w2 (q + 1 + 1) 33 #[.int .i64 ((s.f : Int) + (x.1.1 : Int)), .int .i64 (n : Int)] W)
    (fun pre W W' row hs hg hr => ⟨hs.1.turn (keepE hg (fun k e => (hr k e).1)) (by omega) (by omega), hs.2⟩)
    (fun c pre W W' row hs hg hr => by
      obtain ⟨h1, pre0, x, h2, h3, h4, h5⟩ := hs
      exact ⟨h1, pre0, x, h2, h3, h4, h5.turn (keepE hg (fun k e => (hr k e).1)) (by omega) (by omega)⟩)
    ⟨hEI0, fun y hy => by cases hy⟩
    (fun (x : Run s false) a' W => BoxX w2.heap.size s.f (fun rb => { tmps := #[.pointer (some ⟨d.b, 0, none⟩), .int .i64 (n : Int), undef, .pointer (some ⟨q, 0, none⟩), .pointer (some ⟨q + 1, 0, none⟩), .pointer (some ⟨q + 1 + 1, 0, none⟩), .pointer (some ⟨rb, 0, none⟩), .pointer (some ⟨d.b, 0, none⟩), .func (.func 33) #[] #[.pointer (some ⟨q + 1 + 1 + 1, 0, none⟩), .pointer (some ⟨q + 1 + 1 + 1 + 1, 0, none⟩)], .agg #[.int .i64 ((s.f : Int) + (x.1.1 : Int)), .int .i64 (x.1.2 : Int)], undef, undef, undef, undef, undef, undef, undef, undef, undef], defers := [] }) x.1 a' W)
    (fun _ _ => BoxX.own) ?assign ?body ?done ?stop
  case assign =>
    intro l pre x W K hI hK
    have HK := Lib.hid hK
    have HI := Lib.hid hI
    clear hK hI
    unfold runV
    gi_wp2
    exact HK.out _ _ (keepsFrom_alloc _ _ _) (kpE_alloc _ _ _) ⟨HI.out.1.alloc _, HI.out.2⟩ ⟨W.heap.size, HI.out.1.keep.size, rfl, Blk.new W _ _⟩
  case body =>
    rintro l pre x a' W _ _ ⟨hI, hpre⟩ ⟨rb, hrb, rfl, hbx⟩ hpl
    have c0 := hI.box.cell 0
    have c1 := hI.box.cell 1
    have f0 := hI.box.frozen 0
    have f1 := hI.box.frozen 1
    have r0 := hbx.cell 0
    have r1 := hbx.cell 1
    have n0 := (hI.keep.blk HN2.out (by omega)).cell 0
    have hb := (x.bnd HOK.out).2
    have HPRE := Lib.hid hpre
    have HI := Lib.hid hI
    clear hI hbx hpre
    by_cases hge : n ≤ x.1.2
    · have hd : decide (n ≤ x.1.2) = true := decide_eq_true hge
      have HGE := Lib.hid hge
      have hk : Keep (fun k => k = q + 1 + 1) W ((W.setCell ⟨q + 1 + 1, 0, none⟩ (.int .i64 ((s.f : Int) + (x.1.1 : Int)))).setCell ⟨q + 1 + 1, 1, none⟩ (.int .i64 (n : Int))) := keep_two _ _ _ _
      have HE := Lib.hid (And.intro (keepsFrom_keep (B := w2.heap.size) hk (by omega)) ((HI.out.set_ 0 (.int .i64 ((s.f : Int) + (x.1.1 : Int)))).set_ 1 (.int .i64 (n : Int))))
      clear hk hge
      gi_wp2
      exact ⟨HE.out.1, rfl, pre, x, rfl, HGE.out, HPRE.out, HE.out.2⟩
    · have hd : decide (n ≤ x.1.2) = false := decide_eq_false hge
      have HGE := Lib.hid hge
      clear hge
      gi_wp2
      exact ⟨KeepsFrom.refl _ _, KpE.refl _ _, HI.out, fun y hy => by
        rcases List.mem_append.1 hy with hy | hy
        · exact HPRE.out y hy
        · rw [List.mem_singleton.1 hy]
          have := HGE.out
          omega⟩
  case done =>
    rintro D xs W hD hS ⟨hI, hall⟩ hK
    have hno : takeP s.L n = none := by
      unfold takeP
      rw [← hS, Option.map_eq_none_iff, List.find?_eq_none]
      intro r hr
      obtain ⟨x, hx, rfl⟩ := List.mem_map.1 hr
      have := hall x hx
      simpa using this
    have HFE := Lib.hid (HF0.out hno)
    have c0 := hI.box.cell 0
    have c1 := hI.box.cell 1
    have hr := hI.keep.blk HR2.out (show ¬ q + 1 = q + 1 + 1 by omega)
    have d0 := hr.cell 0
    have d1 := hr.cell 1
    have f0 := hr.frozen 0
    have f1 := hr.frozen 1
    have HE := Lib.hid (fin_ext (.int .i64 0) (.int .i64 0) (HBW.out.trans (hI.keep.below (by omega) (fun i hi e => by omega))) (show w.heap.size ≤ q + 1 by omega) (by omega) hr hK)
    clear hS hI hall hno hr hK
    gi_wp2
    refine ⟨by simp, .inl ⟨_, _, rfl, run_takeDeferred HE.out.1, ?_⟩⟩
    exact ⟨_, results_ext rfl rfl HE.out.2.1, by rw [HFE.out], HE.out.2.2⟩
  case stop =>
    rintro D c pre W hD hSp ⟨rfl, pre0, x, rfl, hge, hlo, hI⟩ hK
    have hyes : takeP s.L n = some x.1.1 := by
      obtain ⟨t, ht⟩ := hSp
      rw [List.map_append, List.map_singleton, List.append_assoc] at ht
      unfold takeP
      refine Option.map_eq_some_iff.2 ⟨x.1, ?_, rfl⟩
      refine Eq.trans (congrArg (List.find? _) ht.symm) ?_
      rw [List.find?_append, List.find?_eq_none.2, Option.none_or, List.singleton_append, List.find?_cons_of_pos (by simpa using hge)]
      intro r hr
      obtain ⟨y, hy, rfl⟩ := List.mem_map.1 hr
      have := hlo y hy
      simpa using this
    have HFE := Lib.hid (HF1.out _ hyes)
    have c0 := hI.box.cell 0
    have c1 := hI.box.cell 1
    have hr := hI.keep.blk HR2.out (show ¬ q + 1 = q + 1 + 1 by omega)
    have d0 := hr.cell 0
    have d1 := hr.cell 1
    have f0 := hr.frozen 0
    have f1 := hr.frozen 1
    have HE := Lib.hid (fin_ext (.int .i64 ((s.f : Int) + (x.1.1 : Int))) (.int .i64 (n : Int)) (HBW.out.trans (hI.keep.below (by omega) (fun i hi e => by omega))) (show w.heap.size ≤ q + 1 by omega) (by omega) hr hK)
    clear hSp hI hlo hge hyes hr hK
    gi_wp2
    refine ⟨by simp, .inl ⟨_, _, rfl, run_takeDeferred HE.out.1, ?_⟩⟩
    exact ⟨_, results_ext rfl rfl HE.out.2.1, by rw [HFE.out]; rfl, HE.out.2.2⟩
end
end Go.Proofs.Ytjndbibbfcmgiaa

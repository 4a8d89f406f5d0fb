/-
  The pool of layer 10: a tile is loaded.
-/
import Derived.Test.YtlmdijijlbmddaaPlLoad1
namespace Go.Proofs.Ytlmdijijlbmddaa.pool
open Go.RowKit

section
variable {N p m : Nat} {w : World} {q : QL} {ml : ML} {s : PS}
theorem kt3 {a b : World} (h : KT N [38, 40] a b) : KT N [54, 38, 40] a b := h.more (by intro t ht; simp only [List.mem_cons, List.not_mem_nil, or_false] at ht; rcases ht with rfl | rfl <;> decide)
theorem kt31 {a b : World} (h : KT N [54] a b) : KT N [54, 38, 40] a b := h.more (by intro t ht; simp only [List.mem_cons, List.not_mem_nil, or_false] at ht; subst ht; decide)
theorem LdIs.keep {ot : Option TV} {B : Nat} {W W' : World} {a b d : Int} {A : Option Addr} {q c : Nat} (h : LdIs ot B W a b d A q c) (hk : ∀ g c el, El W g c el → El W' g c el) : LdIs ot B W' a b d A q c := by
  cases ot with
  | none => exact h
  | some t =>
    obtain ⟨e1, e2, e3, g, e4, e5, he, hg⟩ := h
    exact ⟨e1, e2, e3, g, e4, e5, hk _ _ _ he, hg⟩
theorem tile_is {L : List TV} {f n : Int} {t : TV} (h : PS.tile L f n = some t) : t.file = f ∧ t.no = n := by
  unfold PS.tile at h
  cases hi : idxT f n L with
  | none => rw [hi] at h; cases h
  | some k =>
    obtain ⟨t', h1, h2, _⟩ := idxT_some hi
    rw [hi] at h
    injection h with h
    have e : L.getD k ⟨0, 0, 0, []⟩ = t' := by rw [List.getD_eq_getElem?_getD, h1]; rfl
    have h : t' = t := e ▸ h
    subst h
    unfold TV.is at h2
    simpa using h2
/-- What 'load' answers. -/
def loadR (ot : Option TV) (B : Nat) (w' : World) (v : Value) : Prop := match ot with
  | some t => ∃ g c, v = .tuple #[tvv t g c, .int .i64 0] ∧ El w' g c t.el ∧ B ≤ g
  | none => ∃ x, v = .tuple #[x, .int .i64 50] ∧ ∃ a b d, x = .agg #[.int .i64 a, .int .i64 b, .int .i64 d, .slice none 0 0]

set_option maxRecDepth 100000 in
set_option maxHeartbeats 4000000 in
theorem load_any (f n : Int) (h : PL N w p m false q ml s) (hlog : s.log.length ≤ 950000) (hL : s.L.length ≤ 1000000) (hN : N ≤ w.heap.size) :
    Calls Try.prog 50 #[pv p, kvv f n] w fun e w' => (∃ v, e = .returned v ∧ loadR (PS.tile s.L f n) w.heap.size w' v) ∧ PL N w' p m false q ml { s with log := s.log ++ [⟨1, n, f⟩] } ∧ KT N [54, 38, 40] w w' := by
  obtain ⟨ot, hot⟩ : ∃ ot, PS.tile s.L f n = ot := ⟨_, rfl⟩
  obtain ⟨w1, hw1⟩ : ∃ w1, (((w.alloc (.cells #[pv p] 24)).alloc (.cells #[.int .i64 f, .int .i64 n] 29)).alloc (.cells #[.int .i64 0, .int .i64 0, .int .i64 0, .slice none 0 0] 43)).alloc (.cells #[.int .i64 0, .int .i64 0, .int .i64 0, .slice none 0 0] 43) = w1 := ⟨_, rfl⟩
  have hb1 : Below w.heap.size w w1 := by rw [← hw1]; exact ((((Below.refl _ _).alloc (Nat.le_refl _) _).alloc (by simp) _).alloc (by simp; omega) _).alloc (by simp; omega) _
  have hs1 : w1.heap.size = w.heap.size + 4 := by rw [← hw1]; simp
  have hx1 : Blk w1 w.heap.size 24 #[pv p] := by rw [← hw1]; exact (((Blk.new w _ _).alloc _).alloc _).alloc _
  have hk1 : Blk w1 (w.heap.size + 1) 29 #[.int .i64 f, .int .i64 n] := by
    rw [← hw1]
    have := ((Blk.new (w.alloc (.cells #[pv p] 24)) 29 #[.int .i64 f, .int .i64 n]).alloc (.cells #[.int .i64 0, .int .i64 0, .int .i64 0, .slice none 0 0] 43)).alloc (.cells #[.int .i64 0, .int .i64 0, .int .i64 0, .slice none 0 0] 43)
    rwa [World.size_alloc] at this
  have hr1 : Blk w1 (w.heap.size + 1 + 1) 43 #[.int .i64 0, .int .i64 0, .int .i64 0, .slice none 0 0] := by
    rw [← hw1]
    have := (Blk.new ((w.alloc (.cells #[pv p] 24)).alloc (.cells #[.int .i64 f, .int .i64 n] 29)) 43 #[.int .i64 0, .int .i64 0, .int .i64 0, .slice none 0 0]).alloc (.cells #[.int .i64 0, .int .i64 0, .int .i64 0, .slice none 0 0] 43)
    rwa [World.size_alloc, World.size_alloc] at this
  have ht1 : Blk w1 (w.heap.size + 1 + 1 + 1) 43 #[.int .i64 0, .int .i64 0, .int .i64 0, .slice none 0 0] := by
    rw [← hw1]
    have := Blk.new (((w.alloc (.cells #[pv p] 24)).alloc (.cells #[.int .i64 f, .int .i64 n] 29)).alloc (.cells #[.int .i64 0, .int .i64 0, .int .i64 0, .slice none 0 0] 43)) 43 #[.int .i64 0, .int .i64 0, .int .i64 0, .slice none 0 0]
    rwa [World.size_alloc, World.size_alloc, World.size_alloc] at this
  have hlgl := h.mem.lt
  have hplt : p < w.heap.size := block_lt_of_cell h.pool.blk5.1
  have h1 := h.pool.below hb1
  have hm1 := h.mem.below hb1
  obtain ⟨h2, k2⟩ := h1.mark true
  obtain ⟨W1, hW1⟩ : ∃ W1, ((w1.setCell ⟨p, 4, none⟩ (.bool true)).alloc (.cells #[pv p] 24)).alloc (.cells #[.int .i64 0] 25) = W1 := ⟨_, rfl⟩
  have hbW : Below (w1.setCell ⟨p, 4, none⟩ (.bool true)).heap.size (w1.setCell ⟨p, 4, none⟩ (.bool true)) W1 := by rw [← hW1]; exact ((Below.refl _ _).alloc (Nat.le_refl _) _).alloc (by simp) _
  have hsz : (w1.setCell ⟨p, 4, none⟩ (.bool true)).heap.size = w1.heap.size := by simp [World.setCell]
  have hA : Blk W1 w1.heap.size 24 #[pv p] := by
    rw [← hW1, ← hsz]
    exact (Blk.new _ _ _).alloc _
  have hB : Blk W1 (w1.heap.size + 1) 25 #[.int .i64 0] := by
    rw [← hW1, ← hsz]
    have := Blk.new ((w1.setCell ⟨p, 4, none⟩ (.bool true)).alloc (.cells #[pv p] 24)) 25 #[.int .i64 0]
    rwa [World.size_alloc] at this
  have h3 := h2.below hbW
  have hm3 := (hm1.keep k2 (by decide)).below hbW
  have mv : ∀ {g : Nat} {t : TypeId} {cs : Array Value}, Blk w1 g t cs → t ∉ [54] → Blk W1 g t cs := fun hb ht => (k2.blk hb ht).below hbW (by rw [hsz]; exact hb.lt)
  have hx3 := mv hx1 (by decide)
  have hk3 := mv hk1 (by decide)
  have hr3 := mv hr1 (by decide)
  have ht3 := mv ht1 (by decide)
  have kW : KT N [54] w W1 := ((KT.of_below hb1).trans k2).trans (KT.of_below hbW)
  have hcl := load1_any f n w.heap.size (w.heap.size + 1) (w.heap.size + 1 + 1 + 1) _ _ _ _ h3 hm3 hx3 hk3 ht3 (by omega) (by omega) hL (Nat.le_trans hN kW.keep.size)
  rw [hot] at hcl
  obtain ⟨A, c, hpb, _⟩ := h1.pool
  have HASK : Hid (Calls Try.prog 84 #[pv p, .func (.func 85) #[] #[.pointer (some ⟨w.heap.size, 0, none⟩), .pointer (some ⟨w.heap.size + 1, 0, none⟩), .pointer (some ⟨w.heap.size + 1 + 1 + 1, 0, none⟩)]] w1 fun e w5 => e = .returned (.int .i64 (ldE ot)) ∧ PoolAt N w5 p m s.size false q ∧ MemAt N w5 m ml s.L (s.log ++ [⟨1, n, f⟩]) ∧ KT N [54, 38, 40] w w5 ∧ Blk w5 (w.heap.size + 1) 29 #[.int .i64 f, .int .i64 n] ∧ Blk w5 (w.heap.size + 1 + 1) 43 #[.int .i64 0, .int .i64 0, .int .i64 0, .slice none 0 0] ∧ ∃ a b d A q c, Blk w5 (w.heap.size + 1 + 1 + 1) 43 #[.int .i64 a, .int .i64 b, .int .i64 d, .slice A q c] ∧ LdIs ot W1.heap.size w5 a b d A q c) := Lib.hid ((ask_any (w := w1) (p := p) (gf := 85) (cap := #[.pointer (some ⟨w.heap.size, 0, none⟩), .pointer (some ⟨w.heap.size + 1, 0, none⟩), .pointer (some ⟨w.heap.size + 1 + 1 + 1, 0, none⟩)]) (E := ldE ot) (X := fun w' => FinL N W1 m ml s.L (s.log ++ [⟨1, n, f⟩]) (w.heap.size + 1 + 1 + 1) ot w') (enters_of Try.func85 (by kernel_rfl) rfl) _ hpb rfl (fun W e => by rw [e, hW1]; exact hcl) (fun w' hX => by
    obtain ⟨a, b, d, A', q', c', q1, q2, q3, W', q4, q5⟩ := hX
    obtain ⟨A2, c2, hb', _⟩ := (h3.keep q4 (by decide)).pool
    have g1 := q4.blk hA (by decide)
    have g2 := q4.blk hB (by decide)
    exact ⟨q5.blk g1 (by omega), q5.blk g2 (by omega), _, q5.blk hb' (fun e => by omega), rfl⟩)).mono (fun e w5 hh => by
    obtain ⟨he, w3, ⟨a, b, d, A', q', c', q1, q2, q3, W', q4, q5⟩, rfl⟩ := hh
    refine ⟨he, ?_⟩
    have t5 := (q4.blk ht3 (by decide)).typ
    have hp3' := h3.keep q4 (by decide)
    have kQ : KT N [43] W' w3 := ⟨q5.more (fun i _ e => ⟨by omega, 43, by decide, e ▸ t5⟩)⟩
    have hp3 := hp3'.keep kQ (by decide)
    have hB3 : Blk w3 (w1.heap.size + 1) 25 #[.int .i64 0] := q5.blk (q4.blk hB (by decide)) (by omega)
    have hk4 := q5.blk (q4.blk hk3 (by decide)) (by omega)
    have hr4 := q5.blk (q4.blk hr3 (by decide)) (by omega)
    have hNB : N ≤ w1.heap.size + 1 := by omega
    have ke : KT N [25] w3 (w3.setCell ⟨w1.heap.size + 1, 0, none⟩ (.int .i64 (ldE ot))) := KT.set_ hB3.typ hNB (by decide) 0 _
    obtain ⟨hp5, k5⟩ := (hp3.keep ke (by decide)).mark false
    have kt0 : KT N [54, 38, 40] w W' := (kt31 kW).trans (kt3 q4)
    have kt1 := kt0.newK (k := w.heap.size + 1 + 1 + 1) (w2 := w3) (by omega) q5
    have kt2 := kt1.newK (k := w1.heap.size + 1) (w2 := w3.setCell ⟨w1.heap.size + 1, 0, none⟩ (.int .i64 (ldE ot))) (by omega) ((Keep.refl _ _).setCell _ _ (fun _ => rfl))
    exact ⟨hp5, (q3.keep ke (by decide)).keep k5 (by decide), kt2.trans (kt31 k5), k5.blk (ke.blk hk4 (by decide)) (by decide), k5.blk (ke.blk hr4 (by decide)) (by decide), a, b, d, A', q', c', k5.blk (ke.blk q1 (by decide)) (by decide), q2.keep (fun _ _ _ he => k5.el (ke.el he (by decide)) (by decide))⟩))
  have HAP := Lib.hid h.ap
  have HFR := Lib.hid h.fr
  have hWs : w.heap.size + 4 ≤ W1.heap.size := by have := hbW.size; omega
  have x0 := hx1.cell 0
  have hmf := hmfT
  have HOT := Lib.hid hot
  rw [hot]
  clear hcl hpb kW hx3 hk3 hr3 ht3 mv hm3 h3 hA hB hsz hbW hW1 h2 k2 hm1 h1 hx1 hk1 hr1 ht1 hb1 h hot
  have hPL : ∀ (W5 W : World), PoolAt N W5 p m s.size false q → MemAt N W5 m ml s.L (s.log ++ [⟨1, n, f⟩]) → KT N [54, 38, 40] w W5 → Blk W5 (w.heap.size + 1 + 1) 43 #[.int .i64 0, .int .i64 0, .int .i64 0, .slice none 0 0] → Keep (fun k => k = w.heap.size + 1 + 1) W5 W → PL N W p m false q ml { s with log := s.log ++ [⟨1, n, f⟩] } ∧ KT N [54, 38, 40] w W := fun _ _ hp hm hk hb hS =>
    ⟨⟨hp.keep (⟨hS.more (fun i _ e => ⟨by omega, 43, by decide, e ▸ hb.typ⟩)⟩ : KT N [43] _ _) (by decide), hm.box hb.typ (by omega) hS, HAP.out, HFR.out⟩, hk.newK (by omega) hS⟩
  have HPL : Hid (∀ (W5 W : World), PoolAt N W5 p m s.size false q → MemAt N W5 m ml s.L (s.log ++ [⟨1, n, f⟩]) → KT N [54, 38, 40] w W5 → Blk W5 (w.heap.size + 1 + 1) 43 #[.int .i64 0, .int .i64 0, .int .i64 0, .slice none 0 0] → Keep (fun k => k = w.heap.size + 1 + 1) W5 W → PL N W p m false q ml { s with log := s.log ++ [⟨1, n, f⟩] } ∧ KT N [54, 38, 40] w W) := Lib.hid hPL
  clear hPL
  rcases ot with _ | ⟨tf, tn, tk, el⟩
  · simp only [ldE] at HASK
    go_enter Try.func50, Try.ntmps50
    go_wp2_with (go_at_call 84; refine HASK.out.mono ?_; rintro e w5 ⟨rfl, p5, m5, k5, b1, b2, a, b, d, A, q5, c5, b3, l5⟩; have P5 := Lib.hid p5; have M5 := Lib.hid m5; have K5 := Lib.hid k5; have B1 := Lib.hid b1; have B2 := Lib.hid b2; have B3 := Lib.hid b3; have L5 := Lib.hid l5; have r0 := b2.cell 0; have r1 := b2.cell 1; have r2 := b2.cell 2; have r3 := b2.cell 3; have v0 := b2.frozen 0; have v1 := b2.frozen 1; have v2 := b2.frozen 2; have v3 := b2.frozen 3; clear p5 m5 k5 b1 b2 b3 l5)
    refine bodyPost_ret (results_tile2 rfl rfl rfl (blk_tile _ _ _ _ B2.out)) rfl ?_
    exact ⟨⟨_, rfl, _, rfl, _, _, _, rfl⟩, HPL.out _ _ P5.out M5.out K5.out B2.out (keep_tile _ _ _ _ _ _)⟩
  · obtain ⟨e1, e2⟩ := tile_is HOT.out
    simp only at e1 e2
    subst e1 e2
    simp only [ldE] at HASK
    go_enter Try.func50, Try.ntmps50
    go_wp2_with (go_at_call 84; refine HASK.out.mono ?_; rintro e w5 ⟨rfl, p5, m5, k5, b1, b2, a, b, d, A, q5, c5, b3, l5⟩; have P5 := Lib.hid p5; have M5 := Lib.hid m5; have K5 := Lib.hid k5; have B1 := Lib.hid b1; have B2 := Lib.hid b2; have B3 := Lib.hid b3; have L5 := Lib.hid l5; have r0 := b2.cell 0; have r1 := b2.cell 1; have r2 := b2.cell 2; have r3 := b2.cell 3; have v0 := b2.frozen 0; have v1 := b2.frozen 1; have v2 := b2.frozen 2; have v3 := b2.frozen 3; clear p5 m5 k5 b1 b2 b3 l5)
    obtain ⟨e1, e2, e3, g, e4, e5, hel, hg⟩ := L5.out
    simp only at e1 e2 e3 hel
    obtain rfl : tf = a := e1.symm
    obtain rfl : tn = b := e2.symm
    obtain rfl : tk = d := e3.symm
    subst e4 e5
    have HEL := Lib.hid hel
    have HG := Lib.hid hg
    have HCC : Hid (∀ W, Below w5.heap.size w5 W → W.cell? ⟨w.heap.size + 1 + 1 + 1, 0, none⟩ = some (.int .i64 tf) ∧ W.cell? ⟨w.heap.size + 1 + 1 + 1, 1, none⟩ = some (.int .i64 tn) ∧ W.cell? ⟨w.heap.size + 1 + 1 + 1, 2, none⟩ = some (.int .i64 tk) ∧ W.cell? ⟨w.heap.size + 1 + 1 + 1, 3, none⟩ = some (.slice (some ⟨g, 0, none⟩) 4 c5) ∧ W.cell? ⟨w.heap.size + 1, 0, none⟩ = some (.int .i64 tf) ∧ W.cell? ⟨w.heap.size + 1, 1, none⟩ = some (.int .i64 tn)) := Lib.hid (fun W hW => ⟨(B3.out.below hW B3.out.lt).cell 0, (B3.out.below hW B3.out.lt).cell 1, (B3.out.below hW B3.out.lt).cell 2, (B3.out.below hW B3.out.lt).cell 3, (B1.out.below hW B1.out.lt).cell 0, (B1.out.below hW B1.out.lt).cell 1⟩)
    have HKO : Hid (∀ W, Calls Try.prog 56 #[.agg #[.int .i64 tf, .int .i64 tn, .int .i64 tk, .slice (some ⟨g, 0, none⟩) 4 c5]] W fun e w' => e = .returned (kvv tf tn) ∧ Below W.heap.size W w') := Lib.hid (fun W => keyof_any tf tn tk _ 4 c5 W)
    clear hel hg L5
    refine wp_region_steps_on (fun W => Below w5.heap.size w5 W) (fun i v _ => v = ([.agg #[.int .i64 tf, .int .i64 tn, .int .i64 tk, .slice (some ⟨g, 0, none⟩) 4 c5], kvv tf tn, kvv tf tn, .bool false] : List Value).getD i undef) (by kernel_rfl) 22 rfl (by kernel_rfl) ((Below.refl _ _).drew) ?_ ?_
    · intro i hi
      have hi2 : i < 4 := hi
      clear hi
      rcases i with _ | i
      · refine step_value (.agg #[.int .i64 tf, .int .i64 tn, .int .i64 tk, .slice (some ⟨g, 0, none⟩) 4 c5]) rfl ?_
        intro a8 w8 hS ho hn
        have o6 : a8.tmps[6]? = some _ := (ho 6 (by kernel_rfl)).trans rfl
        clear ho hn
        refine ⟨wanted_free rfl, ?_, rfl⟩
        obtain ⟨c0, c1, c2, c3, k0, k1⟩ := HCC.out w8 hS
        go_simp
      rcases i with _ | i
      · refine step_call 56 #[.agg #[.int .i64 tf, .int .i64 tn, .int .i64 tk, .slice (some ⟨g, 0, none⟩) 4 c5]] rfl ?_
        intro a8 w8 hS ho hn
        obtain ⟨_, n15, rfl⟩ := hn 0 15 (by kernel_rfl) rfl
        clear ho hn
        refine ⟨wanted_free rfl, by go_simp, ?_⟩
        refine ((HKO.out w8)).mono ?_
        rintro e w9 ⟨rfl, hw⟩
        exact ⟨_, rfl, hS.trans (hw.mono hS.size), rfl, fun j u _ h => h⟩
      rcases i with _ | i
      · refine step_value (kvv tf tn) rfl ?_
        intro a8 w8 hS ho hn
        have o3 : a8.tmps[3]? = some _ := (ho 3 (by kernel_rfl)).trans rfl
        clear ho hn
        refine ⟨wanted_free rfl, ?_, rfl⟩
        obtain ⟨c0, c1, c2, c3, k0, k1⟩ := HCC.out w8 hS
        go_simp
      rcases i with _ | i
      · refine step_value (.bool false) rfl ?_
        intro a8 w8 hS ho hn
        obtain ⟨_, n16, rfl⟩ := hn 1 16 (by kernel_rfl) rfl
        obtain ⟨_, n17, rfl⟩ := hn 2 17 (by kernel_rfl) rfl
        clear ho hn
        refine ⟨wanted_free rfl, ?_, rfl⟩
        go_simp
      omega
    · intro f w9 hS hR
      have h18 : f 18 = _ := hR 3 18 rfl
      simp only [putAll, List.foldl_cons, List.foldl_nil, Act.put, List.setIfInBounds_toArray, List.set_cons_succ, List.set_cons_zero, h18, List.getD_cons_zero, List.getD_cons_succ]
      clear hR h18
      obtain ⟨c0, c1, c2, c3, _, _⟩ := HCC.out w9 hS
      have HS := Lib.hid hS
      have HEL9 := HEL.out.keep (Keep.of_below (S := fun _ => False) hS) (fun h => h)
      have HCP := Lib.hid (copied_any ⟨tf, tn, tk, el⟩ g c5 w9 HEL9)
      unfold tvv at HCP
      simp only at HCP
      clear hS HEL9 r0 r1 r2 r3 v0 v1 v2 v3
      go_wp2_with (go_at_call 60; refine HCP.out.mono ?_; rintro e w10 ⟨g', c', rfl, hg', he', hb'⟩; have hr := (B2.out.below HS.out B2.out.lt).below hb' (by have := HS.out.size; have := B2.out.lt; omega); have r0 := hr.cell 0; have r1 := hr.cell 1; have r2 := hr.cell 2; have r3 := hr.cell 3; have v0 := hr.frozen 0; have v1 := hr.frozen 1; have v2 := hr.frozen 2; have v3 := hr.frozen 3; have HR := Lib.hid hr; have HG' := Lib.hid hg'; have HE' := Lib.hid he'; have HB' := Lib.hid hb'; clear hr hg' he' hb')
      have hS4 := keep_tile w10 (w.heap.size + 1 + 1) (.int .i64 tf) (.int .i64 tn) (.int .i64 tk) (.slice (some ⟨g', 0, none⟩) 4 c')
      have hbb : Below w5.heap.size w5 w10 := HS.out.trans (HB'.out.mono HS.out.size)
      refine bodyPost_ret (results_tile2 rfl rfl rfl (blk_tile _ _ _ _ HR.out)) rfl ?_
      refine ⟨⟨_, rfl, g', c', rfl, HE'.out.box HR.out.typ (by decide) hS4, ?_⟩, HPL.out _ _ (P5.out.below hbb) (M5.out.below hbb) (K5.out.trans (KT.of_below hbb)) HR.out hS4⟩
      have h1 := HG'.out
      have h2 := HS.out.size
      have h3 := K5.out.keep.size
      omega
end
end Go.Proofs.Ytlmdijijlbmddaa.pool

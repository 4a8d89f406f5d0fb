/-
  The walk of the statement PoolNames.
-/
import Derived.Test.YtlmdijijlbmddaaPlNamesC
import Derived.Deep.DeepCutAuto
namespace Go.Proofs.Ytlmdijijlbmddaa.pool
open Go.RowKit

theorem nm_made (w : World) : KR (w.alloc (.cells #[.int .i64 2, .int .i64 0, .int .i64 1, .int .i64 0] 29)) (.slice (some ⟨w.heap.size, 0, none⟩) 2 2) [(2, 0), (1, 0)] :=
  KR.of_own (base := 0) (n := 2) ⟨rfl, .inr ⟨w.heap.size, 2, _, rfl, Nat.zero_le _, Blk.new w _ _, Nat.le_refl _, by unfold maxLen; omega, rfl, rfl⟩⟩
theorem nm_gu : GU (fun i v W => if i = 1 then KR W v B9.keys else if i = 4 then KR W v [(2, 0), (1, 0)] else v = .bool true) := by
  intro i v W W' hb h
  by_cases h24 : i = 1
  · rw [if_pos h24] at h ⊢
    exact h.below hb
  · rw [if_neg h24] at h ⊢
    by_cases h27 : i = 4
    · rw [if_pos h27] at h ⊢
      exact h.below hb
    · rw [if_neg h27] at h ⊢
      exact h
theorem nm_logv {N p m n : Nat} {w : World} {s : PS} (h : PB N w p m s) (hn : s.log.length = n) (h0 : 0 < n) : ∃ g c, w.cell? ⟨m, 1, none⟩ = some (.slice (some ⟨g, 0, none⟩) n c) ∧ ∀ j v, (notesC s.log)[j]? = some v → w.cell? ⟨g, j, none⟩ = some v := by
  obtain ⟨q, ml, h⟩ := h
  obtain ⟨lc, logv, hb, ho, _⟩ := h.mem.mem
  rcases ho.2 with ⟨_, e⟩ | ⟨g, cap, cur, rfl, _, hh, _, _, _, htk⟩
  · omega
  · refine ⟨g, cap, by rw [← hn]; exact hb.cell 1, fun j v hv => ?_⟩
    rw [← htk] at hv
    have hj : j < s.log.length * 4 := by
      have := (List.getElem?_eq_some_iff.1 hv).1
      rw [List.length_take] at this
      omega
    rw [List.getElem?_take_of_lt hj, Array.getElem?_toList] at hv
    exact (Blk.cell (show Blk w g 40 cur from hh) j).trans hv
theorem nm_facts {N p m : Nat} {w : World} (h : PB N w p m B13) : ∃ g c lg lc tg tc, w.cell? ⟨m, 1, none⟩ = some (.slice (some ⟨g, 0, none⟩) 6 c) ∧ w.cell? ⟨g, 12, none⟩ = some (.int .i64 2) ∧ w.cell? ⟨g, 13, none⟩ = some (.int .i64 5) ∧ w.cell? ⟨g, 14, none⟩ = some (.int .i64 0) ∧ w.cell? ⟨g, 15, none⟩ = some (.int .i64 0) ∧
    w.cell? ⟨g, 16, none⟩ = some (.int .i64 3) ∧ w.cell? ⟨g, 17, none⟩ = some (.int .i64 0) ∧ w.cell? ⟨g, 18, none⟩ = some (.int .i64 0) ∧ w.cell? ⟨g, 19, none⟩ = some (.int .i64 1) ∧
    w.cell? ⟨m, 0, none⟩ = some (.slice (some ⟨lg, 0, none⟩) 12 lc) ∧ w.cell? ⟨lg, 3, none⟩ = some (.slice (some ⟨tg, 0, none⟩) 4 tc) ∧ w.cell? ⟨tg, 0, none⟩ = some (.int .i64 77) ∧ w.cell? ⟨tg, 1, none⟩ = some (.int .i64 78) := by
  obtain ⟨g, c, h1, hat⟩ := nm_logv h (n := 6) (by rw [nm_log13]; rfl) (by decide)
  rw [nm_log13] at hat
  obtain ⟨q, ml, h⟩ := h
  obtain ⟨lc, tg, tc, c0, _, _, _, c3, hE, _⟩ := h.mem.tile nm_L13.2
  rw [nm_L13.1] at c0
  rw [Nat.zero_mul, Nat.zero_add] at c3
  exact ⟨g, c, ml.lg, lc, tg, tc, h1, hat 12 _ rfl, hat 13 _ rfl, hat 14 _ rfl, hat 15 _ rfl, hat 16 _ rfl, hat 17 _ rfl, hat 18 _ rfl, hat 19 _ rfl, c0, c3, hE.at_ rfl, hE.at_ rfl⟩
theorem nm_pins {z p y : Nat} {w X : World} (h : AlW z p y w X B13) : Calls Try.prog 19 #[pv p] X fun e w' => e = .returned (.int .i64 3) ∧ AlW z p y w w' B13 := by
  have hc := pins_any h.1 (nm_g13.ok (by decide)).pins
  rw [nm_pins13.1] at hc
  exact h.old hc
theorem nm_held {z p y : Nat} {w X : World} (h : AlW z p y w X B13) : Calls Try.prog 20 #[pv p] X fun e w' => e = .returned (.int .i64 2) ∧ AlW z p y w w' B13 := by
  have hc := held_any h.1
  rw [nm_pins13.2] at hc
  exact hc.mono fun e w' ⟨h1, h2⟩ => ⟨h1, h2 ▸ h⟩

set_option maxRecDepth 100000 in
set_option maxHeartbeats 8000000 in
theorem plnames_walk (w : World) : Calls Try.prog 3 #[] w fun e w' => e = .returned (.bool true) ∧ Below w.heap.size w w' := by
  obtain ⟨z, hz⟩ : ∃ z, w.heap.size = z := ⟨_, rfl⟩
  have HBK := Lib.hid (back_any w)
  have HZ := Lib.hid hz
  rw [hz] at HBK
  go_enter Try.func3, Try.ntmps3
  go_upto_region 4 with (first
    | (go_at_call 12; refine HBK.out.mono ?_; rintro e w1 ⟨rfl, v, ll, hF⟩
       have HF := Lib.hid hF
       have hnew := Lib.hid (plnew_any 2 z w1 (by decide) (by decide))
       clear hF)
    | (go_at_call 13; refine hnew.out.mono ?_; rintro e w2 ⟨rfl, hx2, hb2⟩
       have h2 : PB z w2 w1.heap.size z B0 := pool_new HF.out (by decide) rfl hb2 hx2
       have hzz : z < w1.heap.size := HF.out.box.lt
       have hbz : Below z w w2 := HF.out.b.trans (hb2.mono (by omega))
       have H2 := Lib.hid h2
       have HB2 := Lib.hid hbz
       have hs2 := hb2.size
       clear hx2 hb2 h2 hbz))
  obtain ⟨p, hp⟩ : ∃ p, w1.heap.size = p := ⟨_, rfl⟩
  rw [hp] at H2 hzz hs2
  simp only [hp]
  obtain ⟨y, hy⟩ : ∃ y, w2.heap.size = y := ⟨_, rfl⟩
  obtain ⟨w3, hw3⟩ : ∃ w3, ((w2.alloc (.cells #[.int .i64 1, .int .i64 0] 29)).alloc (.cells #[.int .i64 1, .int .i64 1] 29)).alloc (.cells #[.int .i64 2, .int .i64 0] 29) = w3 := ⟨_, rfl⟩
  have hb3 : Below w2.heap.size w2 w3 := by rw [← hw3]; exact (((Below.refl _ _).alloc (Nat.le_refl _) _).alloc (by simp) _).alloc (by simp; omega) _
  have h : AlW z p y w w3 B0 := by
    refine ⟨H2.out.below hb3, ⟨by have := hb3.size; omega, HB2.out.trans (hb3.mono (by omega)), ?_, ?_, ?_⟩⟩
    · rw [← hy, ← hw3]
      exact ((Blk.new w2 _ _).alloc _).alloc _
    · have h := (Blk.new (w2.alloc (.cells #[.int .i64 1, .int .i64 0] 29)) 29 #[.int .i64 1, .int .i64 1]).alloc (.cells #[.int .i64 2, .int .i64 0] 29)
      rw [hw3] at h
      simpa only [World.size_alloc, hy] using h
    · have h := Blk.new ((w2.alloc (.cells #[.int .i64 1, .int .i64 0] 29)).alloc (.cells #[.int .i64 1, .int .i64 1] 29)) 29 #[.int .i64 2, .int .i64 0]
      rw [hw3] at h
      simpa only [World.size_alloc, hy] using h
  obtain ⟨c0, c1, c2, c3, c4, c5⟩ := h.2.cells
  have HC1 := Lib.hid (nm_1 h)
  simp only [hy]
  rw [hw3]
  clear h hb3 hw3 hs2 hzz hnew HBK HF H2 HB2 hz hp hy
  go_wp2_with (first
    | (go_at_call 14; (have l0 := HC9.out; clear l0); refine HC9.out.mono ?_; rintro e w9 ⟨rfl, h⟩
       clear c0 c1 c2 c3 c4 c5
       obtain ⟨c0, c1, c2, c3, c4, c5⟩ := h.2.cells
       have HW9 := Lib.hid h
       clear h)
    | (go_at_call 16; (have l0 := HC8.out; clear l0); refine HC8.out.mono ?_; rintro e w8 ⟨rfl, h⟩
       clear c0 c1 c2 c3 c4 c5
       obtain ⟨c0, c1, c2, c3, c4, c5⟩ := h.2.cells
       have HC9 := Lib.hid (nm_9 h)
       clear h)
    | (go_at_call 14; (have l0 := HC7.out; clear l0); refine HC7.out.mono ?_; rintro e w7 ⟨rfl, h⟩
       clear c0 c1 c2 c3 c4 c5
       obtain ⟨c0, c1, c2, c3, c4, c5⟩ := h.2.cells
       have HC8 := Lib.hid (nm_8 h)
       clear h)
    | (go_at_call 16; (have l0 := HC6.out; clear l0); refine HC6.out.mono ?_; rintro e w6 ⟨rfl, h⟩
       clear c0 c1 c2 c3 c4 c5
       obtain ⟨c0, c1, c2, c3, c4, c5⟩ := h.2.cells
       have HC7 := Lib.hid (nm_7 h)
       clear h)
    | (go_at_call 14; (have l0 := HC5.out; clear l0); refine HC5.out.mono ?_; rintro e w5 ⟨rfl, h⟩
       clear c0 c1 c2 c3 c4 c5
       obtain ⟨c0, c1, c2, c3, c4, c5⟩ := h.2.cells
       have HC6 := Lib.hid (nm_6 h)
       clear h)
    | (go_at_call 16; (have l0 := HC4.out; clear l0); refine HC4.out.mono ?_; rintro e w4 ⟨rfl, h⟩
       clear c0 c1 c2 c3 c4 c5
       obtain ⟨c0, c1, c2, c3, c4, c5⟩ := h.2.cells
       have HC5 := Lib.hid (nm_5 h)
       clear h)
    | (go_at_call 15; (have l0 := HC3.out; clear l0); refine HC3.out.mono ?_; rintro e w3 ⟨rfl, h⟩
       clear c0 c1 c2 c3 c4 c5
       obtain ⟨c0, c1, c2, c3, c4, c5⟩ := h.2.cells
       have HC4 := Lib.hid (nm_4 h)
       clear h)
    | (go_at_call 15; (have l0 := HC2.out; clear l0); refine HC2.out.mono ?_; rintro e w2 ⟨rfl, h⟩
       clear c0 c1 c2 c3 c4 c5
       obtain ⟨c0, c1, c2, c3, c4, c5⟩ := h.2.cells
       have HC3 := Lib.hid (nm_3 h)
       clear h)
    | (go_at_call 14; (have l0 := HC1.out; clear l0); refine HC1.out.mono ?_; rintro e w1 ⟨rfl, h⟩
       clear c0 c1 c2 c3 c4 c5
       obtain ⟨c0, c1, c2, c3, c4, c5⟩ := h.2.cells
       have HC2 := Lib.hid (nm_2 h)
       clear h))
  obtain ⟨gl, cl, hlg, _⟩ := nm_logv HW9.out.1 nm_log9 (by decide)
  have HLG : Hid (∀ X, Below w9.heap.size w9 X → X.cell? ⟨z, 1, none⟩ = some (.slice (some ⟨gl, 0, none⟩) 3 cl)) := Lib.hid (fun X hX => (hX.cell (block_lt_of_cell hlg)).trans hlg)
  clear hlg c0 c1 c2 c3 c4 c5
  refine wp_region_done_on (GS _) (GR [1, 4, 5] (fun i v W => if i = 1 then KR W v B9.keys else if i = 4 then KR W v [(2, 0), (1, 0)] else v = .bool true) [pv p, undef, .agg #[.int .i64 2, .int .i64 0], .agg #[.int .i64 1, .int .i64 0], undef, undef, .bool true, pv z, pv z, .pointer (some ⟨z, 1, none⟩), .slice (some ⟨gl, 0, none⟩) 3 cl, .int .i64 3, .bool true, .bool true, .bool true]) (by kernel_rfl) 338 rfl (by kernel_rfl) ((Below.refl _ _).drew) ?_ ?_
  · intro i hi
    have hi2 : i < 15 := hi
    clear hi
    rcases i with _ | i
    · refine gr_value rfl (by decide) (pv p) rfl ?_
      intro a8 w8 hb8 ho hn
      have o2 : a8.tmps[2]? = some _ := (ho 2 (by kernel_rfl)).trans rfl
      clear ho hn
      refine ⟨wanted_free rfl, ?_⟩
      go_simp
    rcases i with _ | i
    · refine gr_call nm_gu 18 rfl (by decide) ?_
      intro a8 w8 hb8 ho hn
      obtain ⟨v71, n71, hq71⟩ := hn 0 71 (by kernel_rfl) rfl
      obtain rfl := hq71.1 (by decide)
      clear ho hn
      refine ⟨wanted_free rfl, ?_⟩
      refine ⟨#[pv p], (by go_simp), (keys_any (HW9.out.1.below hb8)).mono ?_⟩
      rintro e w9 ⟨v, rfl, ho9, hb9⟩
      exact ⟨v, rfl, hb9, KR.of_own ho9⟩
    rcases i with _ | i
    · refine gr_value rfl (by decide) (.agg #[.int .i64 2, .int .i64 0]) rfl ?_
      intro a8 w8 hb8 ho hn
      have o6 : a8.tmps[6]? = some _ := (ho 6 (by kernel_rfl)).trans rfl
      clear ho hn
      refine ⟨wanted_free rfl, ?_⟩
      obtain ⟨x0, x1, y0, y1, z0, z1⟩ := (HW9.out.2.below hb8).cells
      go_simp
    rcases i with _ | i
    · refine gr_value rfl (by decide) (.agg #[.int .i64 1, .int .i64 0]) rfl ?_
      intro a8 w8 hb8 ho hn
      have o4 : a8.tmps[4]? = some _ := (ho 4 (by kernel_rfl)).trans rfl
      clear ho hn
      refine ⟨wanted_free rfl, ?_⟩
      obtain ⟨x0, x1, y0, y1, z0, z1⟩ := (HW9.out.2.below hb8).cells
      go_simp
    rcases i with _ | i
    · refine gr_make nm_gu rfl (by decide) ?_
      intro a8 w8 hb8 ho hn
      obtain ⟨v73, n73, hq73⟩ := hn 2 73 (by kernel_rfl) rfl
      obtain rfl := hq73.1 (by decide)
      obtain ⟨v74, n74, hq74⟩ := hn 3 74 (by kernel_rfl) rfl
      obtain rfl := hq74.1 (by decide)
      clear ho hn
      refine ⟨wanted_free rfl, ?_⟩
      exact ⟨.slice (some ⟨w8.heap.size, 0, none⟩) 2 2, w8.alloc (.cells #[.int .i64 2, .int .i64 0, .int .i64 1, .int .i64 0] 29), (by go_simp), (Below.refl _ _).alloc (Nat.le_refl _) _, nm_made w8⟩
    rcases i with _ | i
    · refine gr_call nm_gu 17 rfl (by decide) ?_
      intro a8 w8 hb8 ho hn
      obtain ⟨v72, n72, hq72⟩ := hn 1 72 (by kernel_rfl) rfl
      have hv72 := hq72.2 (by decide)
      obtain ⟨v75, n75, hq75⟩ := hn 4 75 (by kernel_rfl) rfl
      have hv75 := hq75.2 (by decide)
      clear ho hn
      refine ⟨wanted_free rfl, ?_⟩
      refine ⟨#[v72, v75], (by go_simp), (rkeys_any _ _ v72 v75 w8 hv72 hv75 (by rw [nm_keys]; decide)).mono ?_⟩
      rintro e w9 ⟨rfl, hb9⟩
      exact ⟨_, rfl, hb9, by rw [nm_keys]; rfl⟩
    rcases i with _ | i
    · refine gr_value rfl (by decide) (.bool true) rfl ?_
      intro a8 w8 hb8 ho hn
      obtain ⟨v76, n76, hq76⟩ := hn 5 76 (by kernel_rfl) rfl
      have hv76 := hq76.2 (by decide)
      clear ho hn
      refine ⟨wanted_free rfl, ?_⟩
      obtain rfl : v76 = .bool true := hv76
      go_simp
    rcases i with _ | i
    · refine gr_value rfl (by decide) (pv z) rfl ?_
      intro a8 w8 hb8 ho hn
      have o1 : a8.tmps[1]? = some _ := (ho 1 (by kernel_rfl)).trans rfl
      obtain ⟨v77, n77, hq77⟩ := hn 6 77 (by kernel_rfl) rfl
      obtain rfl := hq77.1 (by decide)
      clear ho hn
      refine ⟨wanted_of 6 77 rfl rfl n77, ?_⟩
      go_simp
    rcases i with _ | i
    · refine gr_value rfl (by decide) (pv z) rfl ?_
      intro a8 w8 hb8 ho hn
      obtain ⟨v78, n78, hq78⟩ := hn 7 78 (by kernel_rfl) rfl
      obtain rfl := hq78.1 (by decide)
      obtain ⟨v77, n77, hq77⟩ := hn 6 77 (by kernel_rfl) rfl
      obtain rfl := hq77.1 (by decide)
      clear ho hn
      refine ⟨wanted_of 6 77 rfl rfl n77, ?_⟩
      go_simp
    rcases i with _ | i
    · refine gr_value rfl (by decide) (.pointer (some ⟨z, 1, none⟩)) rfl ?_
      intro a8 w8 hb8 ho hn
      obtain ⟨v79, n79, hq79⟩ := hn 8 79 (by kernel_rfl) rfl
      obtain rfl := hq79.1 (by decide)
      obtain ⟨v77, n77, hq77⟩ := hn 6 77 (by kernel_rfl) rfl
      obtain rfl := hq77.1 (by decide)
      clear ho hn
      refine ⟨wanted_of 6 77 rfl rfl n77, ?_⟩
      go_simp
    rcases i with _ | i
    · refine gr_value rfl (by decide) (.slice (some ⟨gl, 0, none⟩) 3 cl) rfl ?_
      intro a8 w8 hb8 ho hn
      obtain ⟨v80, n80, hq80⟩ := hn 9 80 (by kernel_rfl) rfl
      obtain rfl := hq80.1 (by decide)
      obtain ⟨v77, n77, hq77⟩ := hn 6 77 (by kernel_rfl) rfl
      obtain rfl := hq77.1 (by decide)
      clear ho hn
      refine ⟨wanted_of 6 77 rfl rfl n77, ?_⟩
      have l1 := HLG.out w8 hb8
      go_simp
    rcases i with _ | i
    · refine gr_value rfl (by decide) (.int .i64 3) rfl ?_
      intro a8 w8 hb8 ho hn
      obtain ⟨v81, n81, hq81⟩ := hn 10 81 (by kernel_rfl) rfl
      obtain rfl := hq81.1 (by decide)
      obtain ⟨v77, n77, hq77⟩ := hn 6 77 (by kernel_rfl) rfl
      obtain rfl := hq77.1 (by decide)
      clear ho hn
      refine ⟨wanted_of 6 77 rfl rfl n77, ?_⟩
      go_simp
    rcases i with _ | i
    · refine gr_value rfl (by decide) (.bool true) rfl ?_
      intro a8 w8 hb8 ho hn
      obtain ⟨v82, n82, hq82⟩ := hn 11 82 (by kernel_rfl) rfl
      obtain rfl := hq82.1 (by decide)
      obtain ⟨v77, n77, hq77⟩ := hn 6 77 (by kernel_rfl) rfl
      obtain rfl := hq77.1 (by decide)
      clear ho hn
      refine ⟨wanted_of 6 77 rfl rfl n77, ?_⟩
      go_simp
    rcases i with _ | i
    · refine gr_value rfl (by decide) (.bool true) rfl ?_
      intro a8 w8 hb8 ho hn
      obtain ⟨v77, n77, hq77⟩ := hn 6 77 (by kernel_rfl) rfl
      obtain rfl := hq77.1 (by decide)
      obtain ⟨v83, n83, hq83⟩ := hn 12 83 (by kernel_rfl) rfl
      obtain rfl := hq83.1 (by decide)
      clear ho hn
      refine ⟨wanted_free rfl, ?_⟩
      go_simp
    rcases i with _ | i
    · refine gr_value rfl (by decide) (.bool true) rfl ?_
      intro a8 w8 hb8 ho hn
      obtain ⟨v84, n84, hq84⟩ := hn 13 84 (by kernel_rfl) rfl
      obtain rfl := hq84.1 (by decide)
      clear ho hn
      refine ⟨wanted_free rfl, ?_⟩
      go_simp
    omega
  · intro dn fv w5 hb5 hR5 hall
    have h7 : fv 7 = _ := (hR5 14 7 rfl).1 (by decide)
    simp only [putAll, List.foldl_cons, List.foldl_nil, Act.put, List.setIfInBounds_toArray, List.set_cons_succ, List.set_cons_zero, h7, List.getD_cons_zero, List.getD_cons_succ]
    clear hR5 hall
    have h : AlW z p y w w5 B9 := ⟨HW9.out.1.below hb5, HW9.out.2.below hb5⟩
    obtain ⟨c0, c1, c2, c3, c4, c5⟩ := h.2.cells
    have HC10 := Lib.hid (nm_10 h)
    clear hb5 h HLG HW9
    go_wp2_with (first
      | (go_at_call 26; (have l0 := HK36.out; clear l0); refine (plalive_any _).mono ?_; rintro e u36 ⟨rfl, hb⟩
         have HK37 := Lib.hid (HK36.out.below hb)
         have HZ12 := Lib.hid ((hb.cell (block_lt_of_cell HZ11.out)).trans HZ11.out)
         clear hb c0 c1 c2 c3 c4 c5
         obtain ⟨c0, c1, c2, c3, c4, c5⟩ := HK37.out.cells)
      | (go_at_call 18; (have l0 := HK35.out; clear l0); refine (keys_dead (a := none) (.inl rfl)).mono ?_; rintro e _ ⟨rfl, rfl⟩
         have HK36 := Lib.hid HK35.out
         have HZ11 := Lib.hid HZ10.out)
      | (go_at_call 19; (have l0 := HK34.out; clear l0); refine (pins_dead (.inr ⟨_, rfl, HZ9.out⟩)).mono ?_; rintro e _ ⟨rfl, rfl⟩
         have HK35 := Lib.hid HK34.out
         have HZ10 := Lib.hid HZ9.out)
      | (go_at_call 20; (have l0 := HK33.out; clear l0); refine (held_dead (a := none) (.inl rfl)).mono ?_; rintro e _ ⟨rfl, rfl⟩
         have HK34 := Lib.hid HK33.out
         have HZ9 := Lib.hid HZ8.out)
      | (go_at_call 21; (have l0 := HK32.out; clear l0); refine (drop_dead (a := none) 1 0 (.inl rfl)).mono ?_; rintro e u32 ⟨rfl, hb⟩
         have HK33 := Lib.hid (HK32.out.below hb)
         have HZ8 := Lib.hid ((hb.cell (block_lt_of_cell HZ7.out)).trans HZ7.out)
         clear hb c0 c1 c2 c3 c4 c5
         obtain ⟨c0, c1, c2, c3, c4, c5⟩ := HK33.out.cells)
      | (go_at_call 22; (have l0 := HK31.out; clear l0); refine (clean_dead 1 0 (.inr ⟨_, rfl, HZ6.out⟩)).mono ?_; rintro e u31 ⟨rfl, hb⟩
         have HK32 := Lib.hid (HK31.out.below hb)
         have HZ7 := Lib.hid ((hb.cell (block_lt_of_cell HZ6.out)).trans HZ6.out)
         clear hb c0 c1 c2 c3 c4 c5
         obtain ⟨c0, c1, c2, c3, c4, c5⟩ := HK32.out.cells)
      | (go_at_call 15; (have l0 := HK30.out; clear l0); refine (plset_dead (a := none) 1 0 0 0 0 (.inl rfl)).mono ?_; rintro e u30 ⟨rfl, hb⟩
         have HK31 := Lib.hid (HK30.out.below hb)
         have HZ6 := Lib.hid ((hb.cell (block_lt_of_cell HZ5.out)).trans HZ5.out)
         clear hb c0 c1 c2 c3 c4 c5
         obtain ⟨c0, c1, c2, c3, c4, c5⟩ := HK31.out.cells)
      | (go_at_call 16; (have l0 := HK29.out; clear l0); refine (unpin_dead 1 0 (.inr ⟨_, rfl, HZ4.out⟩)).mono ?_; rintro e u29 ⟨rfl, hb⟩
         have HK30 := Lib.hid (HK29.out.below hb)
         have HZ5 := Lib.hid ((hb.cell (block_lt_of_cell HZ4.out)).trans HZ4.out)
         clear hb c0 c1 c2 c3 c4 c5
         obtain ⟨c0, c1, c2, c3, c4, c5⟩ := HK30.out.cells)
      | (go_at_call 25; (have l0 := HK28.out; clear l0); refine (fresh_dead 0 0 0 (.inr ⟨_, rfl, HZ3.out⟩)).mono ?_; rintro e u28 ⟨rfl, hb⟩
         have HK29 := Lib.hid (HK28.out.below hb)
         have HZ4 := Lib.hid ((hb.cell (block_lt_of_cell HZ3.out)).trans HZ3.out)
         clear hb c0 c1 c2 c3 c4 c5
         obtain ⟨c0, c1, c2, c3, c4, c5⟩ := HK29.out.cells)
      | (go_at_call 14; (have l0 := HK27.out; clear l0); refine (pin_dead (a := none) 1 0 (.inl rfl)).mono ?_; rintro e u27 ⟨rfl, hb⟩
         have HK28 := Lib.hid (HK27.out.below hb)
         have HZ3 := Lib.hid ((hb.cell (block_lt_of_cell HZ2.out)).trans HZ2.out)
         clear hb c0 c1 c2 c3 c4 c5
         obtain ⟨c0, c1, c2, c3, c4, c5⟩ := HK28.out.cells)
      | (go_at_call 20; (have l0 := HK26.out; clear l0); refine (held_any HA26.out).mono ?_; rintro e _ ⟨rfl, rfl⟩
         rw [nm_held15]
         have HK27 := Lib.hid HK26.out
         have HZ2 := Lib.hid HZ1.out)
      | (go_at_call 23; (have l0 := HK25.out; clear l0); refine (get_dead (a := none) 1 0 0 (.inl rfl)).mono ?_; rintro e u25 ⟨rfl, hb⟩
         have HK26 := Lib.hid (HK25.out.below hb)
         have HZ1 := Lib.hid ((hb.cell (block_lt_of_cell HZ0.out)).trans HZ0.out)
         have HA26 := Lib.hid (HA25.out.below hb)
         clear hb c0 c1 c2 c3 c4 c5
         obtain ⟨c0, c1, c2, c3, c4, c5⟩ := HK26.out.cells)
      | (go_at_call 13; (have l0 := HNC.out; clear l0); refine HNC.out.mono ?_; rintro e _ ⟨rfl, rfl⟩
         have HZ0 : Hid ((w24.alloc (.cells #[.pointer none, .nilIface, .int .i64 0, .slice none 0 0, .bool false] 54)).cell? ⟨w24.heap.size, 0, none⟩ = some (.pointer none)) := Lib.hid ((Blk.new w24 54 #[.pointer none, .nilIface, .int .i64 0, .slice none 0 0, .bool false]).cell 0)
         have HA25 := Lib.hid (HA24.out.1.below ((Below.refl w24.heap.size w24).alloc (Nat.le_refl _) (.cells #[.pointer none, .nilIface, .int .i64 0, .slice none 0 0, .bool false] 54)))
         have HK25 := Lib.hid (HA24.out.2.below ((Below.refl w24.heap.size w24).alloc (Nat.le_refl _) (.cells #[.pointer none, .nilIface, .int .i64 0, .slice none 0 0, .bool false] 54)))
         clear HNC c0 c1 c2 c3 c4 c5
         obtain ⟨c0, c1, c2, c3, c4, c5⟩ := HK25.out.cells)
      | (go_at_call 13; (have l0 := HNB.out; clear l0); refine HNB.out.mono ?_; rintro e _ ⟨rfl, rfl⟩
         have HNC := Lib.hid (plnew_nil w24)
         clear HNB)
      | (go_at_call 13; (have l0 := HNA.out; clear l0); refine HNA.out.mono ?_; rintro e _ ⟨rfl, rfl⟩
         have HNB := Lib.hid (plnew_many 65 (.iface 22 (pv z)) w24 (by decide))
         clear HNA)
      | (go_at_call 21; (have l0 := HC24.out; clear l0); refine HC24.out.mono ?_; rintro e w24 ⟨rfl, h⟩
         clear c0 c1 c2 c3 c4 c5
         obtain ⟨c0, c1, c2, c3, c4, c5⟩ := h.2.cells
         have HNA := Lib.hid (plnew_few 0 (.iface 22 (pv z)) w24 (by decide))
         have HA24 := Lib.hid h
         clear h)
      | (go_at_call 14; (have l0 := HC23.out; clear l0); refine HC23.out.mono ?_; rintro e w23 ⟨rfl, h⟩
         clear c0 c1 c2 c3 c4 c5
         obtain ⟨c0, c1, c2, c3, c4, c5⟩ := h.2.cells
         have HC24 := Lib.hid (nm_24 h)
         clear h)
      | (go_at_call 16; (have l0 := HC22.out; clear l0); refine HC22.out.mono ?_; rintro e w22 ⟨rfl, h⟩
         clear c0 c1 c2 c3 c4 c5
         obtain ⟨c0, c1, c2, c3, c4, c5⟩ := h.2.cells
         have HC23 := Lib.hid (nm_23 h)
         clear h)
      | (go_at_call 14; (have l0 := HC21.out; clear l0); refine HC21.out.mono ?_; rintro e w21 ⟨rfl, h⟩
         clear c0 c1 c2 c3 c4 c5
         obtain ⟨c0, c1, c2, c3, c4, c5⟩ := h.2.cells
         have HC22 := Lib.hid (nm_22 h)
         clear h)
      | (go_at_call 25; (have l0 := HC20.out; clear l0); refine HC20.out.mono ?_; rintro e w20 ⟨rfl, h⟩
         clear c0 c1 c2 c3 c4 c5
         obtain ⟨c0, c1, c2, c3, c4, c5⟩ := h.2.cells
         have HC21 := Lib.hid (nm_21 h)
         clear h)
      | (go_at_call 24; (have l0 := HC19.out; clear l0); refine HC19.out.mono ?_; rintro e w19 ⟨rfl, h⟩
         have h : AlW z p y w (w19.alloc (.cells #[.int .i64 0, .int .i64 0, .int .i64 0, .slice none 0 0] 43)) B13 := ⟨h.1.below ((Below.refl _ _).alloc (Nat.le_refl _) _), h.2.below ((Below.refl _ _).alloc (Nat.le_refl _) _)⟩
         clear c0 c1 c2 c3 c4 c5
         obtain ⟨c0, c1, c2, c3, c4, c5⟩ := h.2.cells
         have HC20 := Lib.hid (nm_20 h)
         clear h)
      | (go_at_call 15; (have l0 := HC18.out; clear l0); refine HC18.out.mono ?_; rintro e w18 ⟨rfl, h⟩
         clear c0 c1 c2 c3 c4 c5
         obtain ⟨c0, c1, c2, c3, c4, c5⟩ := h.2.cells
         have HC19 := Lib.hid (nm_19 h)
         clear h)
      | (go_at_call 23; (have l0 := HC17.out; clear l0); refine HC17.out.mono ?_; rintro e w17 ⟨rfl, h⟩
         clear c0 c1 c2 c3 c4 c5
         obtain ⟨c0, c1, c2, c3, c4, c5⟩ := h.2.cells
         have HC18 := Lib.hid (nm_18 h)
         clear h)
      | (go_at_call 22; (have l0 := HC16.out; clear l0); refine HC16.out.mono ?_; rintro e w16 ⟨rfl, h⟩
         clear c0 c1 c2 c3 c4 c5
         obtain ⟨c0, c1, c2, c3, c4, c5⟩ := h.2.cells
         have HC17 := Lib.hid (nm_17 h)
         clear h)
      | (go_at_call 21; (have l0 := HC15.out; clear l0); refine HC15.out.mono ?_; rintro e w15 ⟨rfl, h⟩
         clear c0 c1 c2 c3 c4 c5
         obtain ⟨c0, c1, c2, c3, c4, c5⟩ := h.2.cells
         have HC16 := Lib.hid (nm_16 h)
         clear h)
      | (go_at_call 16; (have l0 := HC14.out; clear l0); refine HC14.out.mono ?_; rintro e w14 ⟨rfl, h⟩
         clear c0 c1 c2 c3 c4 c5
         obtain ⟨c0, c1, c2, c3, c4, c5⟩ := h.2.cells
         have HC15 := Lib.hid (nm_15 h)
         clear h)
      | (go_at_call 20; (have l0 := HHE.out; clear l0); refine HHE.out.mono ?_; rintro e v14 ⟨rfl, h⟩
         clear c0 c1 c2 c3 c4 c5
         obtain ⟨c0, c1, c2, c3, c4, c5⟩ := h.2.cells
         have HC14 := Lib.hid (nm_14 h)
         clear h)
      | (go_at_call 19; (have l0 := HPP.out; clear l0); refine HPP.out.mono ?_; rintro e v13 ⟨rfl, h⟩
         clear d0 d1 d2 d3 d4 d5 d6 d7 d8 d9 d10 d11 d12
         clear c0 c1 c2 c3 c4 c5
         obtain ⟨c0, c1, c2, c3, c4, c5⟩ := h.2.cells
         have HHE := Lib.hid (nm_held h)
         clear h)
      | (go_at_call 14; (have l0 := HC13.out; clear l0); refine HC13.out.mono ?_; rintro e w13 ⟨rfl, h⟩
         clear c0 c1 c2 c3 c4 c5
         obtain ⟨c0, c1, c2, c3, c4, c5⟩ := h.2.cells
         have HFA := Lib.hid (nm_facts h.1)
         obtain ⟨gl3, cl3, lg3, lc3, tg3, tc3, d0, d1, d2, d3, d4, d5, d6, d7, d8, d9, d10, d11, d12⟩ := HFA.out
         have HPP := Lib.hid (nm_pins h)
         clear h)
      | (go_at_call 14; (have l0 := HC12.out; clear l0); refine HC12.out.mono ?_; rintro e w12 ⟨rfl, h⟩
         clear c0 c1 c2 c3 c4 c5
         obtain ⟨c0, c1, c2, c3, c4, c5⟩ := h.2.cells
         have HC13 := Lib.hid (nm_13 h)
         clear h)
      | (go_at_call 14; (have l0 := HC11.out; clear l0); refine HC11.out.mono ?_; rintro e w11 ⟨rfl, h⟩
         clear c0 c1 c2 c3 c4 c5
         obtain ⟨c0, c1, c2, c3, c4, c5⟩ := h.2.cells
         have HC12 := Lib.hid (nm_12 h)
         clear h)
      | (go_at_call 16; (have l0 := HC10.out; clear l0); refine HC10.out.mono ?_; rintro e w10 ⟨rfl, h⟩
         clear c0 c1 c2 c3 c4 c5
         obtain ⟨c0, c1, c2, c3, c4, c5⟩ := h.2.cells
         have HC11 := Lib.hid (nm_11 h)
         clear h))
    go_ret
    exact ⟨rfl, by rw [HZ.out]; exact HK37.out.b⟩
end Go.Proofs.Ytlmdijijlbmddaa.pool

/-
  The pool of layer 10: a frame's tile is written back: what the backing store is asked.
-/
import Derived.Test.YtlmdijijlbmddaaPlStoreM
namespace Go.Proofs.Ytlmdijijlbmddaa.pool
open Go.RowKit

section
variable {N p m size : Nat} {w : World} {q : QL} {ml : ML} {L : List TV} {log : List LV}
theorem FinS.of {w0 : World} {j : Nat} {t : TV} {W : World} (hk : KT N [38, 40, 43] w0 w) (hs : w0.heap.size ≤ w.heap.size) (h : FinS N w m ml L log j t W) : FinS N w0 m ml L log j t W := by
  obtain ⟨g, c, h1, h2, h3⟩ := h
  exact ⟨g, c, h1, hk.trans h2, Nat.le_trans hs h3⟩
theorem kt23 {a b : World} (h : KT N [38, 40] a b) : KT N [38, 40, 43] a b := h.more (by intro t ht; simp only [List.mem_cons, List.not_mem_nil, or_false] at ht; rcases ht with rfl | rfl <;> decide)

theorem methodReady : ∀ (a : Addr) (w : World), (method 285 22 (.pointer (some a)) "Ready").run Try.prog w = .ok (168, .pointer (some a)) w := fun _ _ => by kernel_rfl
theorem methodStore : ∀ (a : Addr) (w : World), (method 285 22 (.pointer (some a)) "Store").run Try.prog w = .ok (169, .pointer (some a)) w := fun _ _ => by kernel_rfl
set_option maxRecDepth 100000 in
set_option maxHeartbeats 4000000 in
theorem wr1_any (x : FL × FV) (C1 C2 j : Nat) (t0 : TV) (h : PoolAt N w p m size true q) (hx : x ∈ q) (hm : MemAt N w m ml L log) (h1 : Blk w C1 24 #[pv p]) (h2 : Blk w C2 79 #[pv x.1.b]) (hj : L[j]? = some t0) (his : t0.is x.2.t.file x.2.t.no = true) (hfst : ∀ (i : Nat) (u : TV), i < j → L[i]? = some u → u.is x.2.t.file x.2.t.no = false) (hl : log.length + 2 ≤ 1000000) (hLl : L.length ≤ 1000000) (hN : N ≤ w.heap.size) :
    Calls Try.prog 90 #[.pointer (some ⟨C1, 0, none⟩), .pointer (some ⟨C2, 0, none⟩)] w fun e w' => e = .returned (.int .i64 0) ∧ FinS N w m ml L (log ++ [⟨2, x.2.num, 0⟩, ⟨3, x.2.t.no, x.2.t.file⟩]) j x.2.t w' := by
  obtain ⟨⟨fb, fg, fc⟩, ⟨tf, tn, tk, el⟩, pins, dirty, num⟩ := x
  simp only at h2 his hfst ⊢
  have hfr := (h.fr _ hx).1
  have hfb := hfr.blk
  have hel := hfr.el
  unfold frC at hfb
  simp only at hfb hel
  obtain ⟨_, p1, _, _⟩ := h.blk5
  have hpl : p < w.heap.size := block_lt_of_cell p1
  have hbx : Below w.heap.size w w.drew := (Below.refl _ _).drew
  have HRD := Lib.hid (ready_any num (hm.below hbx) (by omega) hN)
  have HLD : Hid (∀ (n : Nat) (W : World), (match n with | 0 => W = w.drew | _ => MemAt N W m ml L (log ++ [⟨2, num, 0⟩]) ∧ KT N [38, 40] w W) → W.cell? ⟨C1, 0, none⟩ = some (pv p) ∧ W.cell? ⟨p, 1, none⟩ = some (.iface 22 (pv m)) ∧ W.cell? ⟨C2, 0, none⟩ = some (pv fb) ∧ W.cell? ⟨fb, 6, none⟩ = some (.int .i64 num)) := Lib.hid (fun n W hT => by
    match n, hT with
    | 0, hT => rw [show W = w.drew from hT]; exact ⟨h1.cell 0, p1, h2.cell 0, hfb.cell 6⟩
    | _ + 1, ⟨_, hk⟩ => exact ⟨(hk.blk h1 (by decide)).cell 0, (h.keep hk (by decide)).blk5.2.1, (hk.blk h2 (by decide)).cell 0, (hk.blk hfb (by decide)).cell 6⟩)
  have hmr := methodReady
  have hms := methodStore
  have H := Lib.hid h
  have HFB := Lib.hid hfb
  have HEL := Lib.hid hel
  have H1 := Lib.hid h1
  have H2 := Lib.hid h2
  have HJ := Lib.hid hj
  have HIS := Lib.hid his
  have HFST := Lib.hid hfst
  clear h hm h1 h2 hj his hfst hfr hfb hel p1 hbx hx
  go_enter Try.func90, Try.ntmps90
  go_wp2
  refine wp_region_done_on (SS [10] (fun n W => match n with | 0 => W = w.drew | _ => MemAt N W m ml L (log ++ [⟨2, num, 0⟩]) ∧ KT N [38, 40] w W)) (RR [10] (fun _ v => v = .int .i64 0) (fun _ _ _ => True) [pv p, pv p, .pointer (some ⟨p, 1, none⟩), .iface 22 (pv m), pv fb, pv fb, .pointer (some ⟨fb, 6, none⟩), .int .i64 num, .iface 22 (pv m), .iface 22 (pv m), undef, .int .i64 0]) (by kernel_rfl) 30 rfl (by kernel_rfl) (SS.start (rfl)) ?_ ?_
  · intro i hi
    have hi2 : i < 12 := hi
    clear hi
    rcases i with _ | i
    · refine ss_value rfl (by decide) (pv p) rfl 1 (.inl rfl) ?_
      intro a8 w8 ns hns hT ho hn
      have o0 : a8.tmps[0]? = some _ := (ho 0 (by kernel_rfl)).trans rfl
      clear ho hn
      refine ⟨wanted_free rfl, ?_⟩
      obtain ⟨b0, b1, b2, b3⟩ := HLD.out ns w8 hT
      go_simp
    rcases i with _ | i
    · refine ss_value rfl (by decide) (pv p) rfl 1 (.inl rfl) ?_
      intro a8 w8 ns hns hT ho hn
      obtain ⟨v4, n4, hq4⟩ := hn 0 4 (by kernel_rfl) rfl
      obtain rfl := hq4.1 (by decide)
      clear ho hn
      refine ⟨wanted_free rfl, ?_⟩
      go_simp
    rcases i with _ | i
    · refine ss_value rfl (by decide) (.pointer (some ⟨p, 1, none⟩)) rfl 1 (.inl rfl) ?_
      intro a8 w8 ns hns hT ho hn
      obtain ⟨v5, n5, hq5⟩ := hn 1 5 (by kernel_rfl) rfl
      obtain rfl := hq5.1 (by decide)
      clear ho hn
      refine ⟨wanted_free rfl, ?_⟩
      go_simp
    rcases i with _ | i
    · refine ss_value rfl (by decide) (.iface 22 (pv m)) rfl 1 (.inl rfl) ?_
      intro a8 w8 ns hns hT ho hn
      obtain ⟨v6, n6, hq6⟩ := hn 2 6 (by kernel_rfl) rfl
      obtain rfl := hq6.1 (by decide)
      clear ho hn
      refine ⟨wanted_free rfl, ?_⟩
      obtain ⟨b0, b1, b2, b3⟩ := HLD.out ns w8 hT
      go_simp
    rcases i with _ | i
    · refine ss_value rfl (by decide) (pv fb) rfl 1 (.inl rfl) ?_
      intro a8 w8 ns hns hT ho hn
      have o1 : a8.tmps[1]? = some _ := (ho 1 (by kernel_rfl)).trans rfl
      clear ho hn
      refine ⟨wanted_free rfl, ?_⟩
      obtain ⟨b0, b1, b2, b3⟩ := HLD.out ns w8 hT
      go_simp
    rcases i with _ | i
    · refine ss_value rfl (by decide) (pv fb) rfl 1 (.inl rfl) ?_
      intro a8 w8 ns hns hT ho hn
      obtain ⟨v8, n8, hq8⟩ := hn 4 8 (by kernel_rfl) rfl
      obtain rfl := hq8.1 (by decide)
      clear ho hn
      refine ⟨wanted_free rfl, ?_⟩
      go_simp
    rcases i with _ | i
    · refine ss_value rfl (by decide) (.pointer (some ⟨fb, 6, none⟩)) rfl 1 (.inl rfl) ?_
      intro a8 w8 ns hns hT ho hn
      obtain ⟨v9, n9, hq9⟩ := hn 5 9 (by kernel_rfl) rfl
      obtain rfl := hq9.1 (by decide)
      clear ho hn
      refine ⟨wanted_free rfl, ?_⟩
      go_simp
    rcases i with _ | i
    · refine ss_value rfl (by decide) (.int .i64 num) rfl 1 (.inl rfl) ?_
      intro a8 w8 ns hns hT ho hn
      obtain ⟨v10, n10, hq10⟩ := hn 6 10 (by kernel_rfl) rfl
      obtain rfl := hq10.1 (by decide)
      clear ho hn
      refine ⟨wanted_free rfl, ?_⟩
      obtain ⟨b0, b1, b2, b3⟩ := HLD.out ns w8 hT
      go_simp
    rcases i with _ | i
    · refine ss_value rfl (by decide) (.iface 22 (pv m)) rfl 1 (.inl rfl) ?_
      intro a8 w8 ns hns hT ho hn
      obtain ⟨v7, n7, hq7⟩ := hn 3 7 (by kernel_rfl) rfl
      obtain rfl := hq7.1 (by decide)
      clear ho hn
      refine ⟨wanted_free rfl, ?_⟩
      go_simp
    rcases i with _ | i
    · refine ss_value rfl (by decide) (.iface 22 (pv m)) rfl 1 (.inl rfl) ?_
      intro a8 w8 ns hns hT ho hn
      obtain ⟨v7, n7, hq7⟩ := hn 3 7 (by kernel_rfl) rfl
      obtain rfl := hq7.1 (by decide)
      clear ho hn
      refine ⟨wanted_free rfl, ?_⟩
      go_simp
    rcases i with _ | i
    · refine ss_call 0 (by decide) 168 rfl rfl (.inl rfl) ?_
      intro a8 w8 hT ho hn
      obtain ⟨v13, n13, hq13⟩ := hn 9 13 (by kernel_rfl) rfl
      obtain rfl := hq13.1 (by decide)
      obtain ⟨v11, n11, hq11⟩ := hn 7 11 (by kernel_rfl) rfl
      obtain rfl := hq11.1 (by decide)
      clear ho hn
      refine ⟨wanted_free rfl, ?_⟩
      obtain rfl : w8 = _ := hT
      refine ⟨#[pv m, .int .i64 num], (by go_simp), HRD.out.mono ?_⟩
      rintro e w9 ⟨rfl, h9a, h9b⟩
      exact ⟨_, rfl, ⟨h9a, (KT.of_below (Below.refl _ _).drew).trans h9b⟩, rfl, trivial⟩
    rcases i with _ | i
    · refine ss_value rfl (by decide) (.int .i64 0) rfl 1 (.inl rfl) ?_
      intro a8 w8 ns hns hT ho hn
      obtain ⟨v14, n14, hq14⟩ := hn 10 14 (by kernel_rfl) rfl
      have hv14 := hq14.2 0 rfl
      clear ho hn
      refine ⟨wanted_free rfl, ?_⟩
      obtain ⟨_, e14, _⟩ := hv14
      obtain rfl : v14 = _ := e14
      go_simp
    omega
  · intro dn f w5 hS5 hR5 hall
    have hT5 := hS5.2
    rw [stg_all (l := [10]) (by intro k hk; simp only [List.mem_cons, List.not_mem_nil, or_false] at hk; rcases hk with rfl <;> exact hall _ (by decide))] at hT5
    have h3 : f 3 = _ := (hR5 11 3 rfl).1 (by decide)
    simp only [putAll, List.foldl_cons, List.foldl_nil, Act.put, List.setIfInBounds_toArray, List.set_cons_succ, List.set_cons_zero, h3, List.getD_cons_zero, List.getD_cons_succ]
    clear hR5 hS5 hall
    obtain ⟨hm5, hk5⟩ : MemAt N w5 m ml L (log ++ [⟨2, num, 0⟩]) ∧ KT N [38, 40] w w5 := hT5
    obtain ⟨w4, hw4⟩ : ∃ w4, w5.drew = w4 := ⟨_, rfl⟩
    have hb4 : Below w5.heap.size w5 w4 := by rw [← hw4]; exact (Below.refl _ _).drew
    have hk4 : KT N [38, 40] w w4 := hk5.trans (KT.of_below hb4)
    have hm4 := hm5.below hb4
    have h4 := H.out.keep hk4 (by decide)
    have hfb4 := hk4.blk HFB.out (by decide)
    have hel4 := hk4.el HEL.out (by decide)
    have h14 := hk4.blk H1.out (by decide)
    have h24 := hk4.blk H2.out (by decide)
    obtain ⟨_, p1, _, _⟩ := h4.blk5
    have HCP := Lib.hid (copied_any ⟨tf, tn, tk, el⟩ fg fc w4 hel4)
    unfold tvv at HCP
    simp only at HCP
    have HST : Hid (∀ W g9 c9, Below w4.heap.size w4 W → El W g9 c9 el → Calls Try.prog 169 #[pv m, tvv ⟨tf, tn, tk, el⟩ g9 c9] W fun e w' => e = .returned (.int .i64 0) ∧ FinS N w m ml L (log ++ [⟨2, num, 0⟩, ⟨3, tn, tf⟩]) j ⟨tf, tn, tk, el⟩ w') := Lib.hid (fun W g9 c9 hb he => (mstore_any ⟨tf, tn, tk, el⟩ t0 g9 c9 j (hm4.below hb) he HJ.out HIS.out HFST.out (by rw [List.length_append]; simp only [List.length_cons, List.length_nil]; omega) hLl (by have := hk4.keep.size; have := hb.size; omega)).mono (fun e w' h => ⟨h.1, by
      have h2 := h.2
      rw [List.append_assoc] at h2
      exact h2.of (kt23 (hk4.trans (KT.of_below hb))) (by have := hk4.keep.size; have := hb.size; omega)⟩))
    unfold tvv at HST
    simp only at HST
    have HLE : Hid (∀ (n : Nat) (W : World), (match n with | 0 => W = w4 | 1 => Below w4.heap.size w4 W | _ => FinS N w m ml L (log ++ [⟨2, num, 0⟩, ⟨3, tn, tf⟩]) j ⟨tf, tn, tk, el⟩ W) → W.cell? ⟨C1, 0, none⟩ = some (pv p) ∧ W.cell? ⟨p, 1, none⟩ = some (.iface 22 (pv m)) ∧ W.cell? ⟨C2, 0, none⟩ = some (pv fb) ∧ W.cell? ⟨fb, 0, none⟩ = some (.int .i64 tf) ∧ W.cell? ⟨fb, 1, none⟩ = some (.int .i64 tn) ∧ W.cell? ⟨fb, 2, none⟩ = some (.int .i64 tk) ∧ W.cell? ⟨fb, 3, none⟩ = some (.slice (some ⟨fg, 0, none⟩) 4 fc)) := Lib.hid (fun n W hT => by
      have hk : KT N [38, 40, 43] w W := by
        match n, hT with
        | 0, hT => rw [show W = w4 from hT]; exact kt23 hk4
        | 1, hT => exact (kt23 hk4).trans (KT.of_below (show Below w4.heap.size w4 W from hT))
        | _ + 2, hT => exact (show FinS N w m ml L (log ++ [(⟨2, num, 0⟩ : LV), ⟨3, tn, tf⟩]) j ⟨tf, tn, tk, el⟩ W from hT).elim (fun _ h => h.elim (fun _ h => h.2.1))
      exact ⟨(hk.blk H1.out (by decide)).cell 0, (H.out.keep hk (by decide)).blk5.2.1, (hk.blk H2.out (by decide)).cell 0, (hk.blk HFB.out (by decide)).cell 0, (hk.blk HFB.out (by decide)).cell 1, (hk.blk HFB.out (by decide)).cell 2, (hk.blk HFB.out (by decide)).cell 3⟩)
    have HW4 := Lib.hid hw4
    clear hm5 hk5 hT5 hb4 hk4 hm4 h4 hfb4 hel4 h14 h24 p1 hw4 HLD HRD
    go_wp2
    refine wp_region_done_on (SS [8, 11] (fun n W => match n with | 0 => W = w4 | 1 => Below w4.heap.size w4 W | _ => FinS N w m ml L (log ++ [⟨2, num, 0⟩, ⟨3, tn, tf⟩]) j ⟨tf, tn, tk, el⟩ W)) (RR [8, 11] (fun k v => match k with | 0 => ∃ g' c', v = .agg #[.int .i64 tf, .int .i64 tn, .int .i64 tk, .slice (some ⟨g', 0, none⟩) 4 c'] | _ => v = .int .i64 0) (fun k v W => match k with | 0 => ∃ g' c', v = .agg #[.int .i64 tf, .int .i64 tn, .int .i64 tk, .slice (some ⟨g', 0, none⟩) 4 c'] ∧ w4.heap.size ≤ g' ∧ El W g' c' el | _ => True) [pv p, pv p, .pointer (some ⟨p, 1, none⟩), .iface 22 (pv m), pv fb, pv fb, .pointer (some ⟨fb, 0, none⟩), .agg #[.int .i64 tf, .int .i64 tn, .int .i64 tk, .slice (some ⟨fg, 0, none⟩) 4 fc], undef, .iface 22 (pv m), .iface 22 (pv m), undef, .int .i64 0]) (by kernel_rfl) 30 rfl (by kernel_rfl) (SS.start (HW4.out)) ?_ ?_
    · intro i hi
      have hi2 : i < 13 := hi
      clear hi
      rcases i with _ | i
      · refine ss_value rfl (by decide) (pv p) rfl 2 (.inl rfl) ?_
        intro a8 w8 ns hns hT ho hn
        have o0 : a8.tmps[0]? = some _ := (ho 0 (by kernel_rfl)).trans rfl
        clear ho hn
        refine ⟨wanted_free rfl, ?_⟩
        obtain ⟨b0, b1, b2, c0, c1, c2, c3⟩ := HLE.out ns w8 hT
        go_simp
      rcases i with _ | i
      · refine ss_value rfl (by decide) (pv p) rfl 2 (.inl rfl) ?_
        intro a8 w8 ns hns hT ho hn
        obtain ⟨v18, n18, hq18⟩ := hn 0 18 (by kernel_rfl) rfl
        obtain rfl := hq18.1 (by decide)
        clear ho hn
        refine ⟨wanted_free rfl, ?_⟩
        go_simp
      rcases i with _ | i
      · refine ss_value rfl (by decide) (.pointer (some ⟨p, 1, none⟩)) rfl 2 (.inl rfl) ?_
        intro a8 w8 ns hns hT ho hn
        obtain ⟨v19, n19, hq19⟩ := hn 1 19 (by kernel_rfl) rfl
        obtain rfl := hq19.1 (by decide)
        clear ho hn
        refine ⟨wanted_free rfl, ?_⟩
        go_simp
      rcases i with _ | i
      · refine ss_value rfl (by decide) (.iface 22 (pv m)) rfl 2 (.inl rfl) ?_
        intro a8 w8 ns hns hT ho hn
        obtain ⟨v20, n20, hq20⟩ := hn 2 20 (by kernel_rfl) rfl
        obtain rfl := hq20.1 (by decide)
        clear ho hn
        refine ⟨wanted_free rfl, ?_⟩
        obtain ⟨b0, b1, b2, c0, c1, c2, c3⟩ := HLE.out ns w8 hT
        go_simp
      rcases i with _ | i
      · refine ss_value rfl (by decide) (pv fb) rfl 2 (.inl rfl) ?_
        intro a8 w8 ns hns hT ho hn
        have o1 : a8.tmps[1]? = some _ := (ho 1 (by kernel_rfl)).trans rfl
        clear ho hn
        refine ⟨wanted_free rfl, ?_⟩
        obtain ⟨b0, b1, b2, c0, c1, c2, c3⟩ := HLE.out ns w8 hT
        go_simp
      rcases i with _ | i
      · refine ss_value rfl (by decide) (pv fb) rfl 2 (.inl rfl) ?_
        intro a8 w8 ns hns hT ho hn
        obtain ⟨v22, n22, hq22⟩ := hn 4 22 (by kernel_rfl) rfl
        obtain rfl := hq22.1 (by decide)
        clear ho hn
        refine ⟨wanted_free rfl, ?_⟩
        go_simp
      rcases i with _ | i
      · refine ss_value rfl (by decide) (.pointer (some ⟨fb, 0, none⟩)) rfl 2 (.inl rfl) ?_
        intro a8 w8 ns hns hT ho hn
        obtain ⟨v23, n23, hq23⟩ := hn 5 23 (by kernel_rfl) rfl
        obtain rfl := hq23.1 (by decide)
        clear ho hn
        refine ⟨wanted_free rfl, ?_⟩
        go_simp
      rcases i with _ | i
      · refine ss_value rfl (by decide) (.agg #[.int .i64 tf, .int .i64 tn, .int .i64 tk, .slice (some ⟨fg, 0, none⟩) 4 fc]) rfl 2 (.inl rfl) ?_
        intro a8 w8 ns hns hT ho hn
        obtain ⟨v24, n24, hq24⟩ := hn 6 24 (by kernel_rfl) rfl
        obtain rfl := hq24.1 (by decide)
        clear ho hn
        refine ⟨wanted_free rfl, ?_⟩
        obtain ⟨b0, b1, b2, c0, c1, c2, c3⟩ := HLE.out ns w8 hT
        go_simp
      rcases i with _ | i
      · refine ss_call 0 (by decide) 60 rfl rfl (.inl rfl) ?_
        intro a8 w8 hT ho hn
        obtain ⟨v25, n25, hq25⟩ := hn 7 25 (by kernel_rfl) rfl
        obtain rfl := hq25.1 (by decide)
        clear ho hn
        refine ⟨wanted_free rfl, ?_⟩
        obtain rfl : w8 = _ := hT
        refine ⟨_, (by go_simp), HCP.out.mono ?_⟩
        rintro e w9 ⟨g9, c9, rfl, hg9, he9, hb9⟩
        exact ⟨_, rfl, hb9, ⟨g9, c9, rfl⟩, ⟨g9, c9, rfl, hg9, he9⟩⟩
      rcases i with _ | i
      · refine ss_value rfl (by decide) (.iface 22 (pv m)) rfl 2 (.inl rfl) ?_
        intro a8 w8 ns hns hT ho hn
        obtain ⟨v21, n21, hq21⟩ := hn 3 21 (by kernel_rfl) rfl
        obtain rfl := hq21.1 (by decide)
        clear ho hn
        refine ⟨wanted_free rfl, ?_⟩
        go_simp
      rcases i with _ | i
      · refine ss_value rfl (by decide) (.iface 22 (pv m)) rfl 2 (.inl rfl) ?_
        intro a8 w8 ns hns hT ho hn
        obtain ⟨v21, n21, hq21⟩ := hn 3 21 (by kernel_rfl) rfl
        obtain rfl := hq21.1 (by decide)
        clear ho hn
        refine ⟨wanted_free rfl, ?_⟩
        go_simp
      rcases i with _ | i
      · refine ss_call 1 (by decide) 169 rfl rfl (.inr ⟨8, 26, rfl, by kernel_rfl, rfl⟩) ?_
        intro a8 w8 hT ho hn
        obtain ⟨v28, n28, hq28⟩ := hn 10 28 (by kernel_rfl) rfl
        obtain rfl := hq28.1 (by decide)
        obtain ⟨v26, n26, hq26⟩ := hn 8 26 (by kernel_rfl) rfl
        have hv26 := hq26.2 0 rfl
        clear ho hn
        refine ⟨wanted_free rfl, ?_⟩
        obtain ⟨g9, c9, rfl, hg9, he9⟩ := hv26.2.2 rfl
        refine ⟨#[pv m, .agg #[.int .i64 tf, .int .i64 tn, .int .i64 tk, .slice (some ⟨g9, 0, none⟩) 4 c9]], (by go_simp), (HST.out w8 g9 c9 hT he9).mono ?_⟩
        rintro e w9 ⟨rfl, h9⟩
        exact ⟨_, rfl, h9, rfl, trivial⟩
      rcases i with _ | i
      · refine ss_value rfl (by decide) (.int .i64 0) rfl 2 (.inl rfl) ?_
        intro a8 w8 ns hns hT ho hn
        obtain ⟨v29, n29, hq29⟩ := hn 11 29 (by kernel_rfl) rfl
        have hv29 := hq29.2 1 rfl
        clear ho hn
        refine ⟨wanted_free rfl, ?_⟩
        obtain ⟨_, e29, _⟩ := hv29
        obtain rfl : v29 = _ := e29
        go_simp
      omega
    · intro dn f w5 hS5 hR5 hall
      have hT5 := hS5.2
      rw [stg_all (l := [8, 11]) (by intro k hk; simp only [List.mem_cons, List.not_mem_nil, or_false] at hk; rcases hk with rfl | rfl <;> exact hall _ (by decide))] at hT5
      have h2 : f 2 = _ := (hR5 12 2 rfl).1 (by decide)
      simp only [putAll, List.foldl_cons, List.foldl_nil, Act.put, List.setIfInBounds_toArray, List.set_cons_succ, List.set_cons_zero, h2, List.getD_cons_zero, List.getD_cons_succ]
      clear hR5 hS5 hall
      have HE := Lib.hid (show FinS N w m ml L (log ++ [⟨2, num, 0⟩, ⟨3, tn, tf⟩]) j ⟨tf, tn, tk, el⟩ w5 from hT5)
      clear hT5
      go_wp2
      go_ret
      exact ⟨rfl, HE.out⟩
end
end Go.Proofs.Ytlmdijijlbmddaa.pool

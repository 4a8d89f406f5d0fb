/-
  The memory behind the pool of layer 10: Store, of a tile that it has.
-/
import Derived.Test.YtlmdijijlbmddaaPlLoadM
namespace Go.Proofs.Ytlmdijijlbmddaa.pool
open Go.RowKit

section
variable {N m : Nat} {w : World} {ml : ML} {L : List TV} {log : List LV}
set_option maxHeartbeats 2000000 in
theorem MemAt.put (h : MemAt N w m ml L log) {j g c : Nat} {t t0 : TV} (hj : L[j]? = some t0) (he : El w g c t.el) (hg : N ≤ g) :
    MemAt N ((((w.setCell ⟨ml.lg, j * 4, none⟩ (.int .i64 t.file)).setCell ⟨ml.lg, j * 4 + 1, none⟩ (.int .i64 t.no)).setCell ⟨ml.lg, j * 4 + 2, none⟩ (.int .i64 t.kind)).setCell ⟨ml.lg, j * 4 + 3, none⟩ (.slice (some ⟨g, 0, none⟩) 4 c)) m ⟨ml.lg, ml.l.set j (g, c)⟩ (L.set j t) log ∧
    KT N [43] w ((((w.setCell ⟨ml.lg, j * 4, none⟩ (.int .i64 t.file)).setCell ⟨ml.lg, j * 4 + 1, none⟩ (.int .i64 t.no)).setCell ⟨ml.lg, j * 4 + 2, none⟩ (.int .i64 t.kind)).setCell ⟨ml.lg, j * 4 + 3, none⟩ (.slice (some ⟨g, 0, none⟩) 4 c)) := by
  obtain ⟨lc, logv, hb, ho, hN, cur, hc, hcur⟩ := h.mem
  have hjl : j < L.length := (List.getElem?_eq_some_iff.1 hj).1
  obtain ⟨⟨g0, c0⟩, hgc⟩ : ∃ gc, ml.l[j]? = some gc := ⟨_, List.getElem?_eq_getElem (by rw [h.len]; exact hjl)⟩
  obtain ⟨z0, z1, z2, z3⟩ := hcur j t0 g0 c0 hj hgc
  have hsz : 4 * j + 3 < cur.size := (Array.getElem?_eq_some_iff.1 z3).1
  obtain ⟨w', hw'⟩ : ∃ w', (((w.setCell ⟨ml.lg, j * 4, none⟩ (.int .i64 t.file)).setCell ⟨ml.lg, j * 4 + 1, none⟩ (.int .i64 t.no)).setCell ⟨ml.lg, j * 4 + 2, none⟩ (.int .i64 t.kind)).setCell ⟨ml.lg, j * 4 + 3, none⟩ (.slice (some ⟨g, 0, none⟩) 4 c) = w' := ⟨_, rfl⟩
  have hblk : Blk w' ml.lg 43 ((((cur.setIfInBounds (j * 4) (.int .i64 t.file)).setIfInBounds (j * 4 + 1) (.int .i64 t.no)).setIfInBounds (j * 4 + 2) (.int .i64 t.kind)).setIfInBounds (j * 4 + 3) (.slice (some ⟨g, 0, none⟩) 4 c)) := by
    rw [← hw']
    exact (((hc.set_ _ _).set_ _ _).set_ _ _).set_ _ _
  have hS : Keep (fun k => k = ml.lg) w w' := by
    rw [← hw']
    have h1 : Keep (fun k => k = ml.lg) w (w.setCell ⟨ml.lg, j * 4, none⟩ (.int .i64 t.file)) := (Keep.refl _ _).setCell _ _ (fun _ => rfl)
    have h2 : Keep (fun k => k = ml.lg) w ((w.setCell ⟨ml.lg, j * 4, none⟩ (.int .i64 t.file)).setCell ⟨ml.lg, j * 4 + 1, none⟩ (.int .i64 t.no)) := h1.setCell _ _ (fun _ => rfl)
    have h3 : Keep (fun k => k = ml.lg) w (((w.setCell ⟨ml.lg, j * 4, none⟩ (.int .i64 t.file)).setCell ⟨ml.lg, j * 4 + 1, none⟩ (.int .i64 t.no)).setCell ⟨ml.lg, j * 4 + 2, none⟩ (.int .i64 t.kind)) := h2.setCell _ _ (fun _ => rfl)
    exact h3.setCell _ _ (fun _ => rfl)
  have hk : KT N [43] w w' := ⟨hS.more (fun i _ e => ⟨e ▸ hN, 43, by decide, e ▸ hc.typ⟩)⟩
  rw [hw']
  refine ⟨⟨h.nm, ⟨lc, logv, by rw [List.length_set]; exact hk.blk hb (by decide), hk.own ho (by decide), hN, _, hblk, fun i u gi ci hu hi => ?_⟩, by rw [List.length_set, List.length_set]; exact h.len, fun i u gi ci hu hi => ?_⟩, hk⟩
  · by_cases hij : j = i
    · subst hij
      rw [List.getElem?_set_self hjl] at hu
      injection hu with hu
      subst hu
      have e2 : (ml.l.set j (g, c))[j]? = some (gi, ci) := hi
      rw [List.getElem?_set_self (by rw [h.len]; exact hjl)] at e2
      injection e2 with e2
      injection e2 with e2 e3
      subst e2 e3
      simp only [Array.getElem?_setIfInBounds, Array.size_setIfInBounds]
      refine ⟨?_, ?_, ?_, ?_⟩
      · rw [if_neg (by omega), if_neg (by omega), if_neg (by omega), if_pos (by omega), if_pos (by omega)]
      · rw [if_neg (by omega), if_neg (by omega), if_pos (by omega), if_pos (by omega)]
      · rw [if_neg (by omega), if_pos (by omega), if_pos (by omega)]
      · rw [if_pos (by omega), if_pos (by omega)]
    · rw [List.getElem?_set_ne hij] at hu
      have e2 : (ml.l.set j (g, c))[i]? = some (gi, ci) := hi
      rw [List.getElem?_set_ne hij] at e2
      obtain ⟨y0, y1, y2, y3⟩ := hcur i u gi ci hu e2
      simp only [Array.getElem?_setIfInBounds]
      refine ⟨?_, ?_, ?_, ?_⟩ <;> rw [if_neg (by omega), if_neg (by omega), if_neg (by omega), if_neg (by omega)] <;> assumption
  · by_cases hij : j = i
    · subst hij
      rw [List.getElem?_set_self hjl] at hu
      injection hu with hu
      subst hu
      have e2 : (ml.l.set j (g, c))[j]? = some (gi, ci) := hi
      rw [List.getElem?_set_self (by rw [h.len]; exact hjl)] at e2
      injection e2 with e2
      injection e2 with e2 e3
      subst e2 e3
      exact ⟨hk.el he (by decide), hg⟩
    · rw [List.getElem?_set_ne hij] at hu
      have e2 : (ml.l.set j (g, c))[i]? = some (gi, ci) := hi
      rw [List.getElem?_set_ne hij] at e2
      exact ⟨hk.el (h.el i u gi ci hu e2).1 (by decide), (h.el i u gi ci hu e2).2⟩

/-- What stands behind a Store since w. -/
def FinS (N : Nat) (w : World) (m : Nat) (ml : ML) (L : List TV) (log : List LV) (j : Nat) (t : TV) (W : World) : Prop :=
  ∃ g c, MemAt N W m ⟨ml.lg, ml.l.set j (g, c)⟩ (L.set j t) log ∧ KT N [38, 40, 43] w W ∧ w.heap.size ≤ g

set_option maxRecDepth 100000 in
set_option maxHeartbeats 4000000 in
theorem mstore_any (t t0 : TV) (g c j0 : Nat) (h : MemAt N w m ml L log) (hel : El w g c t.el) (hj0 : L[j0]? = some t0) (his : t0.is t.file t.no = true) (hfst : ∀ (i : Nat) (u : TV), i < j0 → L[i]? = some u → u.is t.file t.no = false) (hl : log.length ≤ 1000000) (hLl : L.length ≤ 1000000) (hN : N ≤ w.heap.size) :
    Calls Try.prog 169 #[pv m, tvv t g c] w fun e w' => e = .returned (.int .i64 0) ∧ FinS N w m ml L (log ++ [⟨3, t.no, t.file⟩]) j0 t w' := by
  obtain ⟨tf, tn, tk, el⟩ := t
  unfold tvv
  simp only at hel his hfst ⊢
  obtain ⟨w1, hw1⟩ : ∃ w1, w.alloc (.cells #[.int .i64 tf, .int .i64 tn, .int .i64 tk, .slice (some ⟨g, 0, none⟩) 4 c] 43) = w1 := ⟨_, rfl⟩
  have hb1 : Below w.heap.size w w1 := by rw [← hw1]; exact (Below.refl _ _).alloc (Nat.le_refl _) _
  have hx1 : Blk w1 w.heap.size 43 #[.int .i64 tf, .int .i64 tn, .int .i64 tk, .slice (some ⟨g, 0, none⟩) 4 c] := by rw [← hw1]; exact Blk.new w _ _
  have HC := Lib.hid (count_any ⟨3, tn, tf⟩ (h.below hb1) hl (Nat.le_trans hN hb1.size))
  have a0 := hx1.cell 0
  have a1 := hx1.cell 1
  have HX1 := Lib.hid hx1
  have HB1 := Lib.hid hb1
  have HEL1 := Lib.hid (hel.keep (Keep.of_below (S := fun _ => False) hb1) (fun h => h))
  have HJ0 := Lib.hid hj0
  have HIS := Lib.hid his
  have HFST := Lib.hid hfst
  have hj0l : j0 < L.length := (List.getElem?_eq_some_iff.1 hj0).1
  have hlg := h.lt
  clear h hb1 hx1 hel hj0 his hfst
  go_enter Try.func169, Try.ntmps169
  go_wp2_with (go_at_call 170; refine HC.out.mono ?_; rintro e w2 ⟨rfl, h2, k2⟩; have H2 := Lib.hid h2; have K2 := Lib.hid k2; have HX2 := Lib.hid (k2.blk HX1.out (by decide)); have HEL2 := Lib.hid (k2.el HEL1.out (by decide)); have hs2 := k2.keep.size; clear h2 k2)
  clear a0 a1
  go_loopw [6] (fun x wr => ∃ j : Nat, j ≤ j0 ∧ x = .int .i64 (j : Int) ∧ Below w2.heap.size w2 wr) (fun x _ => L.length + 1 - (intOf x).toNat)
  case atStart => exact ⟨0, Nat.zero_le _, rfl, Below.refl _ _⟩
  case round =>
    obtain ⟨j, hj, rfl, hbw⟩ := hrel
    have hm := H2.out.below hbw
    have hx := HX2.out.below hbw HX2.out.lt
    have HBW := Lib.hid hbw
    have HM := Lib.hid hm
    have HXR := Lib.hid hx
    have HELR := Lib.hid (HEL2.out.keep (Keep.of_below (S := fun _ => False) hbw) (fun h => h))
    have k0 := hx.cell 0
    have k1 := hx.cell 1
    clear hbw hx hm
    have hlt : j < L.length := by omega
    obtain ⟨t, ht⟩ : ∃ t, L[j]? = some t := ⟨_, List.getElem?_eq_getElem hlt⟩
    obtain ⟨lc, g0, c0', c0, t0', t1, t2, t3, _, _⟩ := HM.out.tile ht
    have HT := Lib.hid ht
    obtain ⟨uf, un, uk, ue⟩ := t
    simp only at t0' t1 t2
    clear ht
    have hd : (j : Int) < (L.length : Int) := by omega
    obtain ⟨n1, hn1⟩ : ∃ n1, L.length = n1 := ⟨_, rfl⟩
    rw [hn1] at hd c0
    obtain ⟨lg, hlge⟩ : ∃ lg, ml.lg = lg := ⟨_, rfl⟩
    rw [hlge] at c0 t0' t1 t2 t3 hlg
    have HLG := Lib.hid hlge
    have HN1 := Lib.hid hn1
    clear hlge
    rw [hn1]
    clear hn1
    by_cases hyes : uf = tf ∧ un = tn
    · have hjj : j = j0 := by
        rcases Nat.lt_or_ge j j0 with h1 | h1
        · have := HFST.out j _ h1 HT.out
          unfold TV.is at this
          simp [hyes.1, hyes.2] at this
        · omega
      obtain ⟨rfl, rfl⟩ := hyes
      have HTW := Lib.hid (ptwin_any ⟨uf, un, tk, el⟩ g c)
      unfold tvv at HTW
      simp only at HTW
      subst hjj
      go_wp2
      go_quiet (fail)
      obtain ⟨wx, hwx⟩ : ∃ wx, (wr.drewN nq).drew = wx := ⟨_, rfl⟩
      have hbx : Below wr.heap.size wr wx := by rw [← hwx]; exact (below_drewN (Below.refl _ _) nq).drew
      have hmx := HM.out.below hbx
      have HELX : Hid (El wx g c el) := Lib.hid (HELR.out.keep (Keep.of_below (S := fun _ => False) hbx) (fun h => h))
      have HFIN : Hid (∀ W g9 c9, Below wx.heap.size wx W → wx.heap.size ≤ g9 → El W g9 c9 el → FinS N w m ml L (log ++ [⟨3, un, uf⟩]) j ⟨uf, un, tk, el⟩ ((((W.setCell ⟨lg, j * 4, none⟩ (.int .i64 uf)).setCell ⟨lg, j * 4 + 1, none⟩ (.int .i64 un)).setCell ⟨lg, j * 4 + 2, none⟩ (.int .i64 tk)).setCell ⟨lg, j * 4 + 3, none⟩ (.slice (some ⟨g9, 0, none⟩) 4 c9))) := Lib.hid (fun W g9 c9 hb hg9 he9 => by
        have hkw : KT N [38, 40] w W := (((KT.of_below HB1.out).trans K2.out).trans (KT.of_below HBW.out)).trans ((KT.of_below hbx).trans (KT.of_below hb))
        have hz := hkw.keep.size
        have hzz : w.heap.size ≤ wx.heap.size := by have := hb.size; have := hbx.size; have := HBW.out.size; have := HB1.out.size; omega
        obtain ⟨p1, p2⟩ := (hmx.below hb).put (t := ⟨uf, un, tk, el⟩) HT.out he9 (by omega)
        rw [HLG.out] at p1 p2
        exact ⟨g9, c9, by rw [HLG.out]; exact p1, (hkw.more (T' := [38, 40, 43]) (by intro t ht; simp only [List.mem_cons, List.not_mem_nil, or_false] at ht; rcases ht with rfl | rfl <;> decide)).trans (p2.more (by intro t ht; simp only [List.mem_cons, List.not_mem_nil, or_false] at ht; subst ht; decide)), by omega⟩)
      have HLD : Hid (∀ (n : Nat) (W : World), n ≤ 1 → (match n with | 0 => W = wx | 1 => Below wx.heap.size wx W | _ => FinS N w m ml L (log ++ [⟨3, un, uf⟩]) j ⟨uf, un, tk, el⟩ W) → W.cell? ⟨m, 0, none⟩ = some (.slice (some ⟨lg, 0, none⟩) n1 lc)) := Lib.hid (fun n W hn hT => by
        match n, hn, hT with
        | 0, _, hT => rw [show W = wx from hT, ← hwx]; exact c0
        | 1, _, hT =>
          have hb : Below wx.heap.size wx W := hT
          have c0x : wx.cell? ⟨m, 0, none⟩ = some (.slice (some ⟨lg, 0, none⟩) n1 lc) := by rw [← hwx]; exact c0
          exact (hb.cell (block_lt_of_cell c0x)).trans c0x)
      have HCL : Hid (∀ W, Below wx.heap.size wx W → (∃ u, W.cell? ⟨lg, j * 4, none⟩ = some u) ∧ (∃ u, W.cell? ⟨lg, j * 4 + 1, none⟩ = some u) ∧ (∃ u, W.cell? ⟨lg, j * 4 + 2, none⟩ = some u) ∧ (∃ u, W.cell? ⟨lg, j * 4 + 3, none⟩ = some u) ∧ W.frozen? ⟨lg, j * 4, none⟩ = false ∧ W.frozen? ⟨lg, j * 4 + 1, none⟩ = false ∧ W.frozen? ⟨lg, j * 4 + 2, none⟩ = false ∧ W.frozen? ⟨lg, j * 4 + 3, none⟩ = false) := Lib.hid (fun W hb => by
        obtain ⟨_, _, _, _, z0, z1, z2, z3, _, _⟩ := (hmx.below hb).tile HT.out
        obtain ⟨_, _, _, _, _, cur, hc, _⟩ := (hmx.below hb).mem
        rw [HLG.out] at z0 z1 z2 z3 hc
        exact ⟨⟨_, z0⟩, ⟨_, z1⟩, ⟨_, z2⟩, ⟨_, z3⟩, hc.frozen _, hc.frozen _, hc.frozen _, hc.frozen _⟩)
      have hxx := HXR.out.below hbx HXR.out.lt
      have HX : Hid (wx.cell? ⟨w.heap.size, 0, none⟩ = some (.int .i64 uf) ∧ wx.cell? ⟨w.heap.size, 1, none⟩ = some (.int .i64 un) ∧ wx.cell? ⟨w.heap.size, 2, none⟩ = some (.int .i64 tk) ∧ wx.cell? ⟨w.heap.size, 3, none⟩ = some (.slice (some ⟨g, 0, none⟩) 4 c)) := Lib.hid ⟨hxx.cell 0, hxx.cell 1, hxx.cell 2, hxx.cell 3⟩
      have HWX := Lib.hid hwx
      clear hbx hmx hwx hxx
      go_wp2
      refine wp_region_done_on (SS [6, 8] (fun n W => match n with | 0 => W = wx | 1 => Below wx.heap.size wx W | _ => FinS N w m ml L (log ++ [⟨3, un, uf⟩]) j ⟨uf, un, tk, el⟩ W)) (RR [6, 8] (fun k v => match k with | 0 => ∃ g' c', v = .agg #[.int .i64 uf, .int .i64 un, .int .i64 tk, .slice (some ⟨g', 0, none⟩) 4 c'] | _ => True) (fun k v W => match k with | 0 => ∃ g' c', v = .agg #[.int .i64 uf, .int .i64 un, .int .i64 tk, .slice (some ⟨g', 0, none⟩) 4 c'] ∧ wx.heap.size ≤ g' ∧ El W g' c' el | _ => True) [pv m, pv m, pv m, .slice (some ⟨lg, 0, none⟩) n1 lc, .int .i64 (j : Int), .agg #[.int .i64 uf, .int .i64 un, .int .i64 tk, .slice (some ⟨g, 0, none⟩) 4 c], undef, .pointer (some ⟨lg, j * 4, none⟩), undef]) (by kernel_rfl) 69 rfl (by kernel_rfl) (SS.start (HWX.out)) ?_ ?_
      · intro i hi
        have hi2 : i < 9 := hi
        clear hi
        rcases i with _ | i
        · refine ss_value rfl (by decide) (pv m) rfl 2 (.inl rfl) ?_
          intro a8 w8 ns hns hT ho hn
          have o0 : a8.tmps[0]? = some _ := (ho 0 (by kernel_rfl)).trans rfl
          clear ho hn
          refine ⟨wanted_free rfl, ?_⟩
          go_simp
        rcases i with _ | i
        · refine ss_value rfl (by decide) (pv m) rfl 2 (.inl rfl) ?_
          intro a8 w8 ns hns hT ho hn
          obtain ⟨v50, n50, hq50⟩ := hn 0 50 (by kernel_rfl) rfl
          obtain rfl := hq50.1 (by decide)
          clear ho hn
          refine ⟨wanted_free rfl, ?_⟩
          go_simp
        rcases i with _ | i
        · refine ss_value rfl (by decide) (pv m) rfl 2 (.inl rfl) ?_
          intro a8 w8 ns hns hT ho hn
          obtain ⟨v51, n51, hq51⟩ := hn 1 51 (by kernel_rfl) rfl
          obtain rfl := hq51.1 (by decide)
          clear ho hn
          refine ⟨wanted_free rfl, ?_⟩
          go_simp
        rcases i with _ | i
        · refine ss_value rfl (by decide) (.slice (some ⟨lg, 0, none⟩) n1 lc) rfl 1 (.inr ⟨8, rfl, by kernel_rfl⟩) ?_
          intro a8 w8 ns hns hT ho hn
          obtain ⟨v52, n52, hq52⟩ := hn 2 52 (by kernel_rfl) rfl
          obtain rfl := hq52.1 (by decide)
          clear ho hn
          refine ⟨wanted_free rfl, ?_⟩
          have h1 := HLD.out ns w8 hns hT
          go_simp
        rcases i with _ | i
        · refine ss_value rfl (by decide) (.int .i64 (j : Int)) rfl 2 (.inl rfl) ?_
          intro a8 w8 ns hns hT ho hn
          have o6 : a8.tmps[6]? = some _ := (ho 6 (by kernel_rfl)).trans rfl
          clear ho hn
          refine ⟨wanted_free rfl, ?_⟩
          go_simp
        rcases i with _ | i
        · refine ss_value rfl (by decide) (.agg #[.int .i64 uf, .int .i64 un, .int .i64 tk, .slice (some ⟨g, 0, none⟩) 4 c]) rfl 0 (.inr ⟨6, rfl, by kernel_rfl⟩) ?_
          intro a8 w8 ns hns hT ho hn
          have o3 : a8.tmps[3]? = some _ := (ho 3 (by kernel_rfl)).trans rfl
          clear ho hn
          refine ⟨wanted_free rfl, ?_⟩
          obtain rfl : ns = 0 := by omega
          obtain rfl : w8 = _ := hT
          obtain ⟨x0, x1, x2, x3⟩ := HX.out
          go_simp
        rcases i with _ | i
        · refine ss_call 0 (by decide) 171 rfl rfl (.inl rfl) ?_
          intro a8 w8 hT ho hn
          obtain ⟨v55, n55, hq55⟩ := hn 5 55 (by kernel_rfl) rfl
          obtain rfl := hq55.1 (by decide)
          clear ho hn
          refine ⟨wanted_free rfl, ?_⟩
          obtain rfl : w8 = _ := hT
          refine ⟨_, (by go_simp), (HTW.out _ HELX.out).mono ?_⟩
          rintro e w9 ⟨g9, c9, rfl, hg9, he9, hb9⟩
          exact ⟨_, rfl, hb9, ⟨g9, c9, rfl⟩, ⟨g9, c9, rfl, hg9, he9⟩⟩
        rcases i with _ | i
        · refine ss_value rfl (by decide) (.pointer (some ⟨lg, j * 4, none⟩)) rfl 2 (.inl rfl) ?_
          intro a8 w8 ns hns hT ho hn
          obtain ⟨v53, n53, hq53⟩ := hn 3 53 (by kernel_rfl) rfl
          obtain rfl := hq53.1 (by decide)
          obtain ⟨v54, n54, hq54⟩ := hn 4 54 (by kernel_rfl) rfl
          obtain rfl := hq54.1 (by decide)
          clear ho hn
          refine ⟨wanted_free rfl, ?_⟩
          go_simp
        rcases i with _ | i
        · refine ss_store 1 (by decide) rfl rfl rfl (.inr ⟨6, 56, rfl, by kernel_rfl, rfl⟩) ?_
          intro a8 w8 hT ho hn
          obtain ⟨v57, n57, hq57⟩ := hn 7 57 (by kernel_rfl) rfl
          obtain rfl := hq57.1 (by decide)
          obtain ⟨v56, n56, hq56⟩ := hn 6 56 (by kernel_rfl) rfl
          have hv56 := hq56.2 0 rfl
          clear ho hn
          refine ⟨wanted_free rfl, ?_⟩
          obtain ⟨g9, c9, rfl, hg9, he9⟩ := hv56.2.2 rfl
          obtain ⟨⟨u0, t0⟩, ⟨u1, t1⟩, ⟨u2, t2⟩, ⟨u3, t3⟩, f0, f1, f2, f3⟩ := HCL.out w8 hT
          have hfin := HFIN.out w8 g9 c9 hT hg9 he9
          refine ⟨_, (by clear hfin; go_simp), hfin, trivial, trivial⟩
        omega
      · intro dn f w5 hS5 hR5 hall
        have hT5 := hS5.2
        rw [stg_all (l := [6, 8]) (by intro k hk; simp only [List.mem_cons, List.not_mem_nil, or_false] at hk; rcases hk with rfl | rfl <;> exact hall _ (by decide))] at hT5
        simp only [putAll, List.foldl_cons, List.foldl_nil, Act.put, List.setIfInBounds_toArray, List.set_cons_succ, List.set_cons_zero]
        clear hR5 hS5 hall
        obtain ⟨g9, c9, h1, h2, h3⟩ : FinS N w m ml L (log ++ [⟨3, un, uf⟩]) j ⟨uf, un, tk, el⟩ w5 := hT5
        have HE := Lib.hid (show FinS N w m ml L (log ++ [⟨3, un, uf⟩]) j ⟨uf, un, tk, el⟩ w5 from ⟨g9, c9, h1, h2, h3⟩)
        clear h1 h2 h3 hT5
        go_wp2
        go_ret
        exact ⟨rfl, HE.out⟩
    · have hne : j ≠ j0 := fun e => by
        subst e
        have h1 := HJ0.out
        rw [HT.out] at h1
        injection h1 with h1
        subst h1
        have := HIS.out
        unfold TV.is at this
        simp at this
        exact hyes this
      have HYES := Lib.hid hyes
      by_cases hfe : uf = tf
      · have hno : (un == tn) = false := by
          have : ¬ un = tn := fun e => hyes ⟨hfe, e⟩
          simpa using this
        subst hfe
        clear hyes
        go_wp2
        go_quiet (fail)
        go_wp2
        exact ⟨⟨j + 1, by omega, by go_num, below_drewN HBW.out _⟩, by simp [intOf]; omega⟩
      · have hno : (uf == tf) = false := by simpa using hfe
        clear hyes hfe
        go_wp2
        go_quiet (fail)
        go_wp2
        exact ⟨⟨j + 1, by omega, by go_num, below_drewN HBW.out _⟩, by simp [intOf]; omega⟩
end
end Go.Proofs.Ytlmdijijlbmddaa.pool

/-
  The memory behind the pool of layer 10: a note is kept; Ready, Load, Store.
-/
import Derived.Test.YtlmdijijlbmddaaPlFind
import Derived.Test.YtlmdijijlbmddaaStage
namespace Go.Proofs.Ytlmdijijlbmddaa.pool
open Go.RowKit

theorem infoNote : (Try.prog.info? 40).map (fun i => (i.zero, i.size, i.bytes)) = some (some (.agg #[.int .i64 0, .int .i64 0, .int .i64 0, .int .i64 0]), 4, 32) := by kernel_rfl
theorem notesC_len (l : List LV) : (notesC l).length = l.length * 4 := by
  induction l with
  | nil => rfl
  | cons x l ih =>
    unfold notesC at ih ⊢
    rw [List.flatMap_cons, List.length_append, ih, List.length_cons]
    show 4 + _ = _
    omega
theorem notesC_snoc (l : List LV) (x : LV) : notesC (l ++ [x]) = notesC l ++ noteC x := by
  unfold notesC
  rw [List.flatMap_append, List.flatMap_cons, List.flatMap_nil, List.append_nil]
theorem noteC_one (x : LV) : ∀ u ∈ noteC x, u.oneCell' = true := by
  intro u hu
  unfold noteC at hu
  simp only [List.mem_cons, List.not_mem_nil, or_false] at hu
  rcases hu with rfl | rfl | rfl | rfl <;> rfl

section
variable {N m : Nat} {w : World} {ml : ML} {L : List TV} {log : List LV}
set_option maxRecDepth 100000 in
set_option maxHeartbeats 4000000 in
theorem count_any (x : LV) (h : MemAt N w m ml L log) (hl : log.length ≤ 1000000) (hN : N ≤ w.heap.size) : Calls Try.prog 170 #[pv m, .agg #[.int .i64 x.k, .int .i64 x.a, .int .i64 0, .int .i64 x.n]] w fun e w' => e = .returned (.int .i64 0) ∧ MemAt N w' m ml L (log ++ [x]) ∧ KT N [38, 40] w w' := by
  obtain ⟨lc, logv, hb, ho, hlg, cur, hc, hcur⟩ := h.mem
  obtain ⟨i0, hi, hz0, hz1, hz2⟩ := info_parts infoNote
  obtain ⟨k, a, n⟩ := x
  simp only
  obtain ⟨w1, hw1⟩ : ∃ w1, w.alloc (.cells #[.int .i64 k, .int .i64 a, .int .i64 0, .int .i64 n] 40) = w1 := ⟨_, rfl⟩
  have hb1 : Below w.heap.size w w1 := by rw [← hw1]; exact (Below.refl _ _).alloc (Nat.le_refl _) _
  have hx1 : Blk w1 w.heap.size 40 #[.int .i64 k, .int .i64 a, .int .i64 0, .int .i64 n] := by rw [← hw1]; exact Blk.new w _ _
  have hm1 : Blk w1 m 38 #[.slice (some ⟨ml.lg, 0, none⟩) L.length lc, logv, .int .i64 0] := hb.below hb1 hb.lt
  have ho1 : w1.ownsRow N 40 4 logv log.length (notesC log) := (KT.of_below (N := N) (T := []) hb1).own ho (by simp)
  obtain ⟨W1, hW1⟩ : ∃ W1, w1.drew.alloc (.cells #[.int .i64 k, .int .i64 a, .int .i64 0, .int .i64 n] 40) = W1 := ⟨_, rfl⟩
  have hb2 : Below w1.heap.size w1 W1 := by rw [← hW1]; exact (Below.refl _ w1).drew.alloc (Nat.le_refl _) _
  have hn1 : Blk W1 w1.heap.size 40 #[.int .i64 k, .int .i64 a, .int .i64 0, .int .i64 n] := by rw [← hW1]; exact Blk.new w1.drew _ _
  have hs1 : w1.heap.size < W1.heap.size := hn1.lt
  have hm2 := hm1.below hb2 hm1.lt
  have ho2 : W1.ownsRow N 40 4 logv log.length (notesC log) := (KT.of_below (N := N) (T := []) hb2).own ho1 (by simp)
  obtain ⟨v9, W2, hrun, ho3, hg3, hat⟩ := run_append_any (P := Try.prog) W1 N 36 36 40 i0 _ 4 32 Try.underlying36 hi hz0 hz1 hz2 rfl (by decide) logv log.length (notesC log) ho2 (w1.heap.size + 1) (some ⟨w1.heap.size, 0, none⟩) 1 1 (noteC ⟨k, a, n⟩) ⟨rfl, fun _ => ⟨_, rfl, Nat.lt_succ_self _, fun j u hu => by
    rw [Addr.add_mid, Nat.zero_add, hn1.cell j, List.getElem?_toArray]
    exact hu⟩⟩ (noteC_one _) (by unfold maxLen; omega) (by omega) (by have := hb1.size; omega)
  obtain ⟨g9, c9, rfl⟩ : ∃ g c, v9 = .slice (some ⟨g, 0, none⟩) (log.length + 1) c := by
    rcases ho3.2 with ⟨_, h0⟩ | ⟨g, cap, cur, e, _⟩
    · omega
    · exact ⟨g, cap, e⟩
  have hne : some m ≠ logv.ownBlock := fun e => own_blk_ne ho2 hm2 (by decide) e.symm
  have hm3 := hm2.grown hg3 hne
  obtain ⟨W3, hW3⟩ : ∃ W3, W2.setCell ⟨m, 1, none⟩ (.slice (some ⟨g9, 0, none⟩) (log.length + 1) c9) = W3 := ⟨_, rfl⟩
  have kA : KT N [38, 40] w W2 := ((KT.of_below hb1).trans (KT.of_below hb2)).trans (KT.append ho2 hg3 (Nat.le_refl _) (by decide))
  have kB : KT N [38, 40] w W3 := kA.trans (by rw [← hW3]; exact KT.set_ hm3.typ h.nm (by decide) 1 _)
  have hmg : m ≠ g9 := fun e => absurd (Typ.ne hm3.typ (e ▸ (own_typ_of ho3 rfl).2)) (by decide)
  have hfin : MemAt N W3 m ml L (log ++ [⟨k, a, n⟩]) := by
    refine ⟨h.nm, ⟨lc, .slice (some ⟨g9, 0, none⟩) (log.length + 1) c9, by rw [← hW3]; exact hm3.set_ 1 _, ?_, hlg, cur, kB.blk hc (by decide), hcur⟩, h.len, fun i t g c hi hm => ⟨kB.el (h.el i t g c hi hm).1 (by decide), (h.el i t g c hi hm).2⟩⟩
    rw [notesC_snoc, List.length_append]
    rw [← hW3]
    exact (Keep.setCell (S := fun k => k = m) (Keep.refl _ W2) ⟨m, 1, none⟩ _ (fun _ => rfl)).own ho3 (fun k hk e => hmg (by rw [← e]; simpa [Value.ownBlock] using hk.symm))
  have HX : Hid (w1.cell? ⟨w.heap.size, 0, none⟩ = some (.int .i64 k) ∧ w1.cell? ⟨w.heap.size, 1, none⟩ = some (.int .i64 a) ∧ w1.cell? ⟨w.heap.size, 2, none⟩ = some (.int .i64 0) ∧ w1.cell? ⟨w.heap.size, 3, none⟩ = some (.int .i64 n)) := Lib.hid ⟨hx1.cell 0, hx1.cell 1, hx1.cell 2, hx1.cell 3⟩
  have HLD : Hid (∀ (n : Nat) (W : World), n ≤ 1 → (match n with | 0 => W = w1.drew | 1 => W = W1 | 2 => W = W2 | _ => W = W3) → W.cell? ⟨m, 1, none⟩ = some logv) := Lib.hid (fun n W hn hT => by
    match n, hn, hT with
    | 0, _, hT => rw [show W = w1.drew from hT]; exact hm1.cell 1
    | 1, _, hT => rw [show W = W1 from hT]; exact hm2.cell 1)
  have HG3 : Hid ((∃ u, W2.cell? ⟨m, 1, none⟩ = some u) ∧ W2.frozen? ⟨m, 1, none⟩ = false) := Lib.hid ⟨⟨_, hm3.cell 1⟩, hm3.frozen 1⟩
  have HRUN := Lib.hid hrun
  have HW1 := Lib.hid hW1
  have HW3 := Lib.hid hW3
  have HFIN := Lib.hid hfin
  have HKB := Lib.hid kB
  have hb3 : Blk W3 m 38 #[.slice (some ⟨ml.lg, 0, none⟩) L.length lc, .slice (some ⟨g9, 0, none⟩) (log.length + 1) c9, .int .i64 0] := by rw [← hW3]; exact hm3.set_ 1 _
  have m2 := hb3.cell 2
  clear hb ho hc hcur hb1 hx1 hm1 ho1 hW1 hb2 hn1 hm2 ho2 hrun ho3 hg3 hat hne hm3 hW3 kA kB hfin hb3 h
  go_enter Try.func170, Try.ntmps170
  go_wp2
  refine wp_region_done_on (SS [6, 7, 10] (fun n W => match n with | 0 => W = w1.drew | 1 => W = W1 | 2 => W = W2 | _ => W = W3)) (RR [6, 7, 10] (fun j v => match j with | 0 => v = .slice (some ⟨w1.heap.size, 0, none⟩) 1 1 | 1 => v = .slice (some ⟨g9, 0, none⟩) (log.length + 1) c9 | _ => True) (fun _ _ _ => True) [pv m, pv m, pv m, .pointer (some ⟨m, 1, none⟩), logv, .agg #[.int .i64 k, .int .i64 a, .int .i64 0, .int .i64 n], undef, undef, pv m, .pointer (some ⟨m, 1, none⟩), undef]) (by kernel_rfl) 32 rfl (by kernel_rfl) (SS.start (rfl)) ?_ ?_
  · intro i hi
    have hi2 : i < 11 := hi
    clear hi
    rcases i with _ | i
    · refine ss_value rfl (by decide) (pv m) rfl 3 (.inl rfl) ?_
      intro a8 w8 ns hns hT ho hn
      have o0 : a8.tmps[0]? = some _ := (ho 0 (by kernel_rfl)).trans rfl
      clear ho hn
      refine ⟨wanted_free rfl, ?_⟩
      go_simp
    rcases i with _ | i
    · refine ss_value rfl (by decide) (pv m) rfl 3 (.inl rfl) ?_
      intro a8 w8 ns hns hT ho hn
      have o0 : a8.tmps[0]? = some _ := (ho 0 (by kernel_rfl)).trans rfl
      clear ho hn
      refine ⟨wanted_free rfl, ?_⟩
      go_simp
    rcases i with _ | i
    · refine ss_value rfl (by decide) (pv m) rfl 3 (.inl rfl) ?_
      intro a8 w8 ns hns hT ho hn
      obtain ⟨v6, n6, hq6⟩ := hn 1 6 (by kernel_rfl) rfl
      obtain rfl := hq6.1 (by decide)
      clear ho hn
      refine ⟨wanted_free rfl, ?_⟩
      go_simp
    rcases i with _ | i
    · refine ss_value rfl (by decide) (.pointer (some ⟨m, 1, none⟩)) rfl 3 (.inl rfl) ?_
      intro a8 w8 ns hns hT ho hn
      obtain ⟨v7, n7, hq7⟩ := hn 2 7 (by kernel_rfl) rfl
      obtain rfl := hq7.1 (by decide)
      clear ho hn
      refine ⟨wanted_free rfl, ?_⟩
      go_simp
    rcases i with _ | i
    · refine ss_value rfl (by decide) (logv) rfl 1 (.inr ⟨7, rfl, by kernel_rfl⟩) ?_
      intro a8 w8 ns hns hT ho hn
      obtain ⟨v8, n8, hq8⟩ := hn 3 8 (by kernel_rfl) rfl
      obtain rfl := hq8.1 (by decide)
      clear ho hn
      refine ⟨wanted_free rfl, ?_⟩
      have h1 := HLD.out ns w8 hns hT
      go_simp
    rcases i with _ | i
    · refine ss_value rfl (by decide) (.agg #[.int .i64 k, .int .i64 a, .int .i64 0, .int .i64 n]) rfl 0 (.inr ⟨6, rfl, by kernel_rfl⟩) ?_
      intro a8 w8 ns hns hT ho hn
      have o3 : a8.tmps[3]? = some _ := (ho 3 (by kernel_rfl)).trans rfl
      clear ho hn
      refine ⟨wanted_free rfl, ?_⟩
      obtain rfl : ns = 0 := by omega
      obtain rfl : w8 = _ := hT
      obtain ⟨x0, x1, x2, x3⟩ := HX.out
      go_simp
    rcases i with _ | i
    · refine ss_make 0 (by decide) rfl rfl (.inl rfl) ?_
      intro a8 w8 hT ho hn
      obtain ⟨v10, n10, hq10⟩ := hn 5 10 (by kernel_rfl) rfl
      obtain rfl := hq10.1 (by decide)
      clear ho hn
      refine ⟨wanted_free rfl, ?_⟩
      obtain rfl : w8 = _ := hT
      exact ⟨.slice (some ⟨w1.heap.size, 0, none⟩) 1 1, W1, (by rw [← HW1.out]; go_simp), rfl, rfl, trivial⟩
    rcases i with _ | i
    · refine ss_make 1 (by decide) rfl rfl (.inr ⟨6, 11, rfl, by kernel_rfl, rfl⟩) ?_
      intro a8 w8 hT ho hn
      obtain ⟨v9, n9, hq9⟩ := hn 4 9 (by kernel_rfl) rfl
      obtain rfl := hq9.1 (by decide)
      obtain ⟨v11, n11, hq11⟩ := hn 6 11 (by kernel_rfl) rfl
      have hv11 := hq11.2 0 rfl
      clear ho hn
      refine ⟨wanted_free rfl, ?_⟩
      obtain rfl : w8 = _ := hT
      obtain ⟨_, e11, _⟩ := hv11
      obtain rfl : v11 = _ := e11
      exact ⟨.slice (some ⟨g9, 0, none⟩) (log.length + 1) c9, W2, exec_append _ _ 36 rfl (eval_of n9) (eval_of n11) HRUN.out, rfl, rfl, trivial⟩
    rcases i with _ | i
    · refine ss_value rfl (by decide) (pv m) rfl 3 (.inl rfl) ?_
      intro a8 w8 ns hns hT ho hn
      obtain ⟨v5, n5, hq5⟩ := hn 0 5 (by kernel_rfl) rfl
      obtain rfl := hq5.1 (by decide)
      clear ho hn
      refine ⟨wanted_free rfl, ?_⟩
      go_simp
    rcases i with _ | i
    · refine ss_value rfl (by decide) (.pointer (some ⟨m, 1, none⟩)) rfl 3 (.inl rfl) ?_
      intro a8 w8 ns hns hT ho hn
      obtain ⟨v13, n13, hq13⟩ := hn 8 13 (by kernel_rfl) rfl
      obtain rfl := hq13.1 (by decide)
      clear ho hn
      refine ⟨wanted_free rfl, ?_⟩
      go_simp
    rcases i with _ | i
    · refine ss_store 2 (by decide) rfl rfl rfl (.inr ⟨7, 12, rfl, by kernel_rfl, rfl⟩) ?_
      intro a8 w8 hT ho hn
      obtain ⟨v14, n14, hq14⟩ := hn 9 14 (by kernel_rfl) rfl
      obtain rfl := hq14.1 (by decide)
      obtain ⟨v12, n12, hq12⟩ := hn 7 12 (by kernel_rfl) rfl
      have hv12 := hq12.2 1 rfl
      clear ho hn
      refine ⟨wanted_free rfl, ?_⟩
      obtain rfl : w8 = _ := hT
      obtain ⟨_, e12, _⟩ := hv12
      obtain rfl : v12 = _ := e12
      obtain ⟨⟨u3, g3⟩, f3⟩ := HG3.out
      exact ⟨W3, (by rw [← HW3.out]; go_simp), rfl, trivial, trivial⟩
    omega
  · intro dn f w5 hS5 hR5 hall
    have hT5 := hS5.2
    rw [stg_all (l := [6, 7, 10]) (by intro k hk; simp only [List.mem_cons, List.not_mem_nil, or_false] at hk; rcases hk with rfl | rfl | rfl <;> exact hall _ (by decide))] at hT5
    simp only [putAll, List.foldl_cons, List.foldl_nil, Act.put, List.setIfInBounds_toArray, List.set_cons_succ, List.set_cons_zero]
    clear hR5 hS5 hall
    obtain rfl : w5 = W3 := hT5
    go_wp2
    go_quiet (fail)
    go_wp2
    go_ret
    exact ⟨rfl, HFIN.out.below (below_drewN (Below.refl _ _) _), HKB.out.trans (KT.of_below (below_drewN (Below.refl _ _) _))⟩

set_option maxHeartbeats 1000000 in
theorem ready_any (n : Int) (h : MemAt N w m ml L log) (hl : log.length ≤ 1000000) (hN : N ≤ w.heap.size) : Calls Try.prog 168 #[pv m, .int .i64 n] w fun e w' => e = .returned (.int .i64 0) ∧ MemAt N w' m ml L (log ++ [⟨2, n, 0⟩]) ∧ KT N [38, 40] w w' := by
  have HC := Lib.hid (count_any ⟨2, n, 0⟩ h hl hN)
  clear h
  go_enter Try.func168, Try.ntmps168
  go_wp2_with (go_at_call 170; refine HC.out.mono ?_; rintro e w2 ⟨rfl, h2⟩; have H2 := Lib.hid h2; clear h2)
  go_ret
  exact ⟨rfl, H2.out⟩
end
end Go.Proofs.Ytlmdijijlbmddaa.pool

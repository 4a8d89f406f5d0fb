/-
  Layer 10: alive, the chapter's examples, is true for every world.
-/
import Derived.Test.YtlmdijijlbmddaaPlInv
import Derived.Test.YtlmdijijlbmddaaStage
namespace Go.Proofs.Ytlmdijijlbmddaa.pool
open Go.RowKit

def A0 : PS := ps0 2
def A1 : PS := (A0.pin 1 0).2
def A2 : PS := (A1.pin 1 1).2
def A3 : PS := (A2.pin 2 0).2
def A4 : PS := (A3.unpin 1 0).2
def A5 : PS := (A4.pin 2 0).2
theorem al_g0 : G 0 A0 := G.zero 2
theorem al_g1 : G 1 A1 := al_g0.pin 1 0
theorem al_g2 : G 2 A2 := al_g1.pin 1 1
theorem al_g3 : G 3 A3 := al_g2.pin 2 0
theorem al_g4 : G 3 A4 := al_g3.unpin 1 0
theorem al_keys : A5.keys = [(2, 0), (1, 1)] := by decide +kernel
section
variable {N p m : Nat} {w : World}
theorem al_1 (h : PB N w p m A0) (hN : N ≤ w.heap.size) : Calls Try.prog 14 #[pv p, kvv 1 0] w fun e w' => e = .returned (.int .i64 0) ∧ PB N w' p m A1 ∧ KT N TT w w' := by
  have h := pin_any 1 0 h (al_g0.ok (by decide)) hN
  rw [show (A0.pin 1 0).1 = 0 by decide +kernel] at h
  exact h
theorem al_2 (h : PB N w p m A1) (hN : N ≤ w.heap.size) : Calls Try.prog 14 #[pv p, kvv 1 1] w fun e w' => e = .returned (.int .i64 0) ∧ PB N w' p m A2 ∧ KT N TT w w' := by
  have h := pin_any 1 1 h (al_g1.ok (by decide)) hN
  rw [show (A1.pin 1 1).1 = 0 by decide +kernel] at h
  exact h
theorem al_3 (h : PB N w p m A2) (hN : N ≤ w.heap.size) : Calls Try.prog 14 #[pv p, kvv 2 0] w fun e w' => e = .returned (.int .i64 101) ∧ PB N w' p m A3 ∧ KT N TT w w' := by
  have h := pin_any 2 0 h (al_g2.ok (by decide)) hN
  rw [show (A2.pin 2 0).1 = 101 by decide +kernel] at h
  exact h
theorem al_4 (h : PB N w p m A3) (hN : N ≤ w.heap.size) : Calls Try.prog 16 #[pv p, kvv 1 0] w fun e w' => e = .returned (.int .i64 0) ∧ PB N w' p m A4 ∧ KT N TT w w' := by
  have h := unpin_any 1 0 h (al_g3.ok (by decide)) hN
  rw [show (A3.unpin 1 0).1 = 0 by decide +kernel] at h
  exact h
theorem al_5 (h : PB N w p m A4) (hN : N ≤ w.heap.size) : Calls Try.prog 14 #[pv p, kvv 2 0] w fun e w' => e = .returned (.int .i64 0) ∧ PB N w' p m A5 ∧ KT N TT w w' := by
  have h := pin_any 2 0 h (al_g4.ok (by decide)) hN
  rw [show (A4.pin 2 0).1 = 0 by decide +kernel] at h
  exact h
theorem al_6 (h : PB N w p m A5) (hN : N ≤ w.heap.size) : Calls Try.prog 23 #[pv p, kvv 1 0, .int .i64 0] w fun e w' => (∃ x : Int, e = .returned (.tuple #[.int .i64 x, .int .i64 100])) ∧ PB N w' p m A5 ∧ KT N TT w w' := by
  refine (get_any 1 0 0 h hN).mono ?_
  rintro e w' ⟨rfl, h1, h2⟩
  exact ⟨⟨_, by rw [show (A5.get 1 0 0).2 = 100 by decide +kernel]⟩, h1, h2⟩
theorem al_7 (h : PB N w p m A5) (hN : N ≤ w.heap.size) : Calls Try.prog 23 #[pv p, kvv 2 0, .int .i64 1] w fun e w' => e = .returned (.tuple #[.int .i64 40, .int .i64 0]) ∧ PB N w' p m A5 ∧ KT N TT w w' := by
  refine (get_any 2 0 1 h hN).mono ?_
  rintro e w' ⟨rfl, h1, h2⟩
  exact ⟨by rw [show A5.get 2 0 1 = (40, 0) by decide +kernel], h1, h2⟩
end
theorem al_made (w : World) : KR (w.alloc (.cells #[.int .i64 2, .int .i64 0, .int .i64 1, .int .i64 1] 29)) (.slice (some ⟨w.heap.size, 0, none⟩) 2 2) [(2, 0), (1, 1)] :=
  KR.of_own (base := 0) (n := 2) ⟨rfl, .inr ⟨w.heap.size, 2, _, rfl, Nat.zero_le _, Blk.new w _ _, Nat.le_refl _, by unfold maxLen; omega, rfl, rfl⟩⟩
theorem al_gu : GU (fun i v W => if i = 24 then KR W v A5.keys else if i = 27 then KR W v [(2, 0), (1, 1)] else v = .bool true) := by
  intro i v W W' hb h
  by_cases h24 : i = 24
  · rw [if_pos h24] at h ⊢
    exact h.below hb
  · rw [if_neg h24] at h ⊢
    by_cases h27 : i = 27
    · rw [if_pos h27] at h ⊢
      exact h.below hb
    · rw [if_neg h27] at h ⊢
      exact h

/-- The three keys' boxes, and what was made since. -/
structure AlK (z y : Nat) (w W : World) : Prop where
  zle : z ≤ W.heap.size
  b : Below z w W
  ka : Blk W y 29 #[.int .i64 1, .int .i64 0]
  kb : Blk W (y + 1) 29 #[.int .i64 1, .int .i64 1]
  kc : Blk W (y + 1 + 1) 29 #[.int .i64 2, .int .i64 0]
theorem AlK.keep {z y : Nat} {w W W' : World} (h : AlK z y w W) (hk : KT z TT W W') : AlK z y w W' :=
  ⟨Nat.le_trans h.zle hk.keep.size, h.b.trans (hk.below h.zle), hk.blk h.ka (by decide), hk.blk h.kb (by decide), hk.blk h.kc (by decide)⟩
theorem AlK.below {z y : Nat} {w W W' : World} (h : AlK z y w W) (hk : Below W.heap.size W W') : AlK z y w W' := h.keep (KT.of_below hk)
theorem AlK.cells {z y : Nat} {w W : World} (h : AlK z y w W) : W.cell? ⟨y, 0, none⟩ = some (.int .i64 1) ∧ W.cell? ⟨y, 1, none⟩ = some (.int .i64 0) ∧ W.cell? ⟨y + 1, 0, none⟩ = some (.int .i64 1) ∧ W.cell? ⟨y + 1, 1, none⟩ = some (.int .i64 1) ∧ W.cell? ⟨y + 1 + 1, 0, none⟩ = some (.int .i64 2) ∧ W.cell? ⟨y + 1 + 1, 1, none⟩ = some (.int .i64 0) :=
  ⟨h.ka.cell 0, h.ka.cell 1, h.kb.cell 0, h.kb.cell 1, h.kc.cell 0, h.kc.cell 1⟩
def AlW (z p y : Nat) (w W : World) (s : PS) : Prop := PB z W p z s ∧ AlK z y w W
theorem AlW.drew {z p y : Nat} {w W : World} {s : PS} (h : AlW z p y w W s) : AlW z p y w W.drew s := ⟨h.1.below (Below.refl _ _).drew, h.2.below (Below.refl _ _).drew⟩

set_option maxRecDepth 100000 in
set_option maxHeartbeats 4000000 in
theorem plalive_any (w : World) : Calls Try.prog 26 #[] w fun e w' => e = .returned (.bool true) ∧ Below w.heap.size w w' := by
  obtain ⟨z, hz⟩ : ∃ z, w.heap.size = z := ⟨_, rfl⟩
  have HBK := Lib.hid (back_any w)
  have HZ := Lib.hid hz
  rw [hz] at HBK
  go_enter Try.func26, Try.ntmps26
  go_wp2_with (first
    | (go_at_call 12; refine HBK.out.mono ?_; rintro e w1 ⟨rfl, v, ll, hF⟩
       have HF := Lib.hid hF
       have hnew := Lib.hid (plnew_any 2 z w1 (by decide) (by decide))
       clear hF)
    | (go_at_call 13; refine hnew.out.mono ?_; rintro e w2 ⟨rfl, hx2, hb2⟩
       have h2 : PB z w2 w1.heap.size z A0 := pool_new HF.out (by decide) rfl hb2 hx2
       have hzz : z < w1.heap.size := HF.out.box.lt
       have hbz : Below z w w2 := HF.out.b.trans (hb2.mono (by omega))
       have H2 := Lib.hid h2
       have HB2 := Lib.hid hbz
       have hs2 := hb2.size
       clear hx2 hb2 h2 hbz))
  obtain ⟨p, hp⟩ : ∃ p, w1.heap.size = p := ⟨_, rfl⟩
  rw [hp] at H2 hzz hs2
  simp only [hp]
  obtain ⟨y, hy⟩ : ∃ y, w2.heap.size = y := ⟨_, rfl⟩
  obtain ⟨w3, hw3⟩ : ∃ w3, ((w2.alloc (.cells #[.int .i64 1, .int .i64 0] 29)).alloc (.cells #[.int .i64 1, .int .i64 1] 29)).alloc (.cells #[.int .i64 2, .int .i64 0] 29) = w3 := ⟨_, rfl⟩
  have hb3 : Below w2.heap.size w2 w3 := by rw [← hw3]; exact (((Below.refl _ _).alloc (Nat.le_refl _) _).alloc (by simp) _).alloc (by simp; omega) _
  have h3 : AlW z p y w w3.drew A0 := by
    refine AlW.drew ⟨H2.out.below hb3, ⟨by have := hb3.size; omega, HB2.out.trans (hb3.mono (by omega)), ?_, ?_, ?_⟩⟩
    · rw [← hy, ← hw3]
      exact ((Blk.new w2 _ _).alloc _).alloc _
    · have h := (Blk.new (w2.alloc (.cells #[.int .i64 1, .int .i64 0] 29)) 29 #[.int .i64 1, .int .i64 1]).alloc (.cells #[.int .i64 2, .int .i64 0] 29)
      rw [hw3] at h
      simpa only [World.size_alloc, hy] using h
    · have h := Blk.new ((w2.alloc (.cells #[.int .i64 1, .int .i64 0] 29)).alloc (.cells #[.int .i64 1, .int .i64 1] 29)) 29 #[.int .i64 2, .int .i64 0]
      rw [hw3] at h
      simpa only [World.size_alloc, hy] using h
  have H3 := Lib.hid h3
  have HT : Hid (∀ (n : Nat) (W : World), (match n with | 0 => AlW z p y w W A0 | 1 => AlW z p y w W A1 | 2 => AlW z p y w W A2 | _ => AlW z p y w W A3) → AlK z y w W) := Lib.hid (fun n W h => by
    match n, h with
    | 0, h => exact h.2
    | 1, h => exact h.2
    | 2, h => exact h.2
    | n + 3, h => exact h.2)
  simp only [hy]
  rw [hw3]
  clear h3 hb3 hw3 hs2 hzz hnew HBK HF H2 HB2 hz hp hy
  refine wp_region_done_on (SS [2, 5, 8] (fun n W => match n with | 0 => AlW z p y w W A0 | 1 => AlW z p y w W A1 | 2 => AlW z p y w W A2 | _ => AlW z p y w W A3)) (RR [2, 5, 8] (fun j v => match j with | 2 => v = .int .i64 101 | _ => v = .int .i64 0) (fun _ _ _ => True) [pv p, .agg #[.int .i64 1, .int .i64 0], undef, pv p, .agg #[.int .i64 1, .int .i64 1], undef, pv p, .agg #[.int .i64 2, .int .i64 0], undef, .int .i64 0, .int .i64 0, .int .i64 101]) (by kernel_rfl) 93 rfl (by kernel_rfl) (SS.start (H3.out)) ?_ ?_
  · intro i hi
    have hi2 : i < 12 := hi
    clear hi
    rcases i with _ | i
    · refine ss_value rfl (by decide) (pv p) rfl 3 (.inl rfl) ?_
      intro a8 w8 ns hns hT ho hn
      have o1 : a8.tmps[1]? = some _ := (ho 1 (by kernel_rfl)).trans rfl
      clear ho hn
      refine ⟨wanted_free rfl, ?_⟩
      go_simp
    rcases i with _ | i
    · refine ss_value rfl (by decide) (.agg #[.int .i64 1, .int .i64 0]) rfl 3 (.inl rfl) ?_
      intro a8 w8 ns hns hT ho hn
      have o3 : a8.tmps[3]? = some _ := (ho 3 (by kernel_rfl)).trans rfl
      clear ho hn
      refine ⟨wanted_free rfl, ?_⟩
      obtain ⟨x0, x1, y0, y1, z0, z1⟩ := (HT.out ns w8 hT).cells
      go_simp
    rcases i with _ | i
    · refine ss_call 0 (by decide) 14 rfl rfl (.inl rfl) ?_
      intro a8 w8 hT ho hn
      obtain ⟨v24, n24, hq24⟩ := hn 0 24 (by kernel_rfl) rfl
      obtain rfl := hq24.1 (by decide)
      obtain ⟨v25, n25, hq25⟩ := hn 1 25 (by kernel_rfl) rfl
      obtain rfl := hq25.1 (by decide)
      clear ho hn
      refine ⟨wanted_free rfl, ?_⟩
      obtain ⟨hpb, hkb⟩ := hT
      refine ⟨#[pv p, kvv 1 0], (by go_simp), (al_1 hpb hkb.zle).mono ?_⟩
      rintro e w9 ⟨rfl, h9, k9⟩
      exact ⟨_, rfl, ⟨h9, hkb.keep k9⟩, rfl, trivial⟩
    rcases i with _ | i
    · refine ss_value rfl (by decide) (pv p) rfl 3 (.inl rfl) ?_
      intro a8 w8 ns hns hT ho hn
      have o1 : a8.tmps[1]? = some _ := (ho 1 (by kernel_rfl)).trans rfl
      clear ho hn
      refine ⟨wanted_free rfl, ?_⟩
      go_simp
    rcases i with _ | i
    · refine ss_value rfl (by decide) (.agg #[.int .i64 1, .int .i64 1]) rfl 3 (.inl rfl) ?_
      intro a8 w8 ns hns hT ho hn
      have o4 : a8.tmps[4]? = some _ := (ho 4 (by kernel_rfl)).trans rfl
      clear ho hn
      refine ⟨wanted_free rfl, ?_⟩
      obtain ⟨x0, x1, y0, y1, z0, z1⟩ := (HT.out ns w8 hT).cells
      go_simp
    rcases i with _ | i
    · refine ss_call 1 (by decide) 14 rfl rfl (.inr ⟨2, 26, rfl, by kernel_rfl, rfl⟩) ?_
      intro a8 w8 hT ho hn
      obtain ⟨v27, n27, hq27⟩ := hn 3 27 (by kernel_rfl) rfl
      obtain rfl := hq27.1 (by decide)
      obtain ⟨v28, n28, hq28⟩ := hn 4 28 (by kernel_rfl) rfl
      obtain rfl := hq28.1 (by decide)
      clear ho hn
      refine ⟨wanted_free rfl, ?_⟩
      obtain ⟨hpb, hkb⟩ := hT
      refine ⟨#[pv p, kvv 1 1], (by go_simp), (al_2 hpb hkb.zle).mono ?_⟩
      rintro e w9 ⟨rfl, h9, k9⟩
      exact ⟨_, rfl, ⟨h9, hkb.keep k9⟩, rfl, trivial⟩
    rcases i with _ | i
    · refine ss_value rfl (by decide) (pv p) rfl 3 (.inl rfl) ?_
      intro a8 w8 ns hns hT ho hn
      have o1 : a8.tmps[1]? = some _ := (ho 1 (by kernel_rfl)).trans rfl
      clear ho hn
      refine ⟨wanted_free rfl, ?_⟩
      go_simp
    rcases i with _ | i
    · refine ss_value rfl (by decide) (.agg #[.int .i64 2, .int .i64 0]) rfl 3 (.inl rfl) ?_
      intro a8 w8 ns hns hT ho hn
      have o5 : a8.tmps[5]? = some _ := (ho 5 (by kernel_rfl)).trans rfl
      clear ho hn
      refine ⟨wanted_free rfl, ?_⟩
      obtain ⟨x0, x1, y0, y1, z0, z1⟩ := (HT.out ns w8 hT).cells
      go_simp
    rcases i with _ | i
    · refine ss_call 2 (by decide) 14 rfl rfl (.inr ⟨5, 29, rfl, by kernel_rfl, rfl⟩) ?_
      intro a8 w8 hT ho hn
      obtain ⟨v30, n30, hq30⟩ := hn 6 30 (by kernel_rfl) rfl
      obtain rfl := hq30.1 (by decide)
      obtain ⟨v31, n31, hq31⟩ := hn 7 31 (by kernel_rfl) rfl
      obtain rfl := hq31.1 (by decide)
      clear ho hn
      refine ⟨wanted_free rfl, ?_⟩
      obtain ⟨hpb, hkb⟩ := hT
      refine ⟨#[pv p, kvv 2 0], (by go_simp), (al_3 hpb hkb.zle).mono ?_⟩
      rintro e w9 ⟨rfl, h9, k9⟩
      exact ⟨_, rfl, ⟨h9, hkb.keep k9⟩, rfl, trivial⟩
    rcases i with _ | i
    · refine ss_value rfl (by decide) (.int .i64 0) rfl 3 (.inl rfl) ?_
      intro a8 w8 ns hns hT ho hn
      obtain ⟨v26, n26, hq26⟩ := hn 2 26 (by kernel_rfl) rfl
      have hv26 := hq26.2 0 rfl
      clear ho hn
      refine ⟨wanted_free rfl, ?_⟩
      obtain ⟨_, e26, _⟩ := hv26
      obtain rfl : v26 = _ := e26
      go_simp
    rcases i with _ | i
    · refine ss_value rfl (by decide) (.int .i64 0) rfl 3 (.inl rfl) ?_
      intro a8 w8 ns hns hT ho hn
      obtain ⟨v29, n29, hq29⟩ := hn 5 29 (by kernel_rfl) rfl
      have hv29 := hq29.2 1 rfl
      clear ho hn
      refine ⟨wanted_free rfl, ?_⟩
      obtain ⟨_, e29, _⟩ := hv29
      obtain rfl : v29 = _ := e29
      go_simp
    rcases i with _ | i
    · refine ss_value rfl (by decide) (.int .i64 101) rfl 3 (.inl rfl) ?_
      intro a8 w8 ns hns hT ho hn
      obtain ⟨v32, n32, hq32⟩ := hn 8 32 (by kernel_rfl) rfl
      have hv32 := hq32.2 2 rfl
      clear ho hn
      refine ⟨wanted_free rfl, ?_⟩
      obtain ⟨_, e32, _⟩ := hv32
      obtain rfl : v32 = _ := e32
      go_simp
    omega
  · intro dn fv w5 hS5 hR5 hall
    have hT5 := hS5.2
    rw [stg_all (l := [2, 5, 8]) (by intro k hk; simp only [List.mem_cons, List.not_mem_nil, or_false] at hk; rcases hk with rfl | rfl | rfl <;> exact hall _ (by decide))] at hT5
    have h6 : fv 6 = _ := (hR5 9 6 rfl).1 (by decide)
    have h7 : fv 7 = _ := (hR5 10 7 rfl).1 (by decide)
    have h8 : fv 8 = _ := (hR5 11 8 rfl).1 (by decide)
    simp only [putAll, List.foldl_cons, List.foldl_nil, Act.put, List.setIfInBounds_toArray, List.set_cons_succ, List.set_cons_zero, h6, h7, h8, List.getD_cons_zero, List.getD_cons_succ]
    clear hR5 hS5 hall
    have H4 : Hid (AlW z p y w w5.drew A3) := Lib.hid (AlW.drew hT5)
    have HT : Hid (∀ (n : Nat) (W : World), (match n with | 0 => AlW z p y w W A3 | 1 => AlW z p y w W A4 | _ => AlW z p y w W A5) → AlK z y w W) := Lib.hid (fun n W h => by
      match n, h with
      | 0, h => exact h.2
      | 1, h => exact h.2
      | n + 2, h => exact h.2)
    clear hT5
    go_wp2
    refine wp_region_done_on (SS [2, 5] (fun n W => match n with | 0 => AlW z p y w W A3 | 1 => AlW z p y w W A4 | _ => AlW z p y w W A5)) (RR [2, 5] (fun _ v => v = .int .i64 0) (fun _ _ _ => True) [pv p, .agg #[.int .i64 1, .int .i64 0], undef, pv p, .agg #[.int .i64 2, .int .i64 0], undef, .int .i64 0, .int .i64 0]) (by kernel_rfl) 93 rfl (by kernel_rfl) (SS.start (H4.out)) ?_ ?_
    · intro i hi
      have hi2 : i < 8 := hi
      clear hi
      rcases i with _ | i
      · refine ss_value rfl (by decide) (pv p) rfl 2 (.inl rfl) ?_
        intro a8 w8 ns hns hT ho hn
        have o1 : a8.tmps[1]? = some _ := (ho 1 (by kernel_rfl)).trans rfl
        clear ho hn
        refine ⟨wanted_free rfl, ?_⟩
        go_simp
      rcases i with _ | i
      · refine ss_value rfl (by decide) (.agg #[.int .i64 1, .int .i64 0]) rfl 2 (.inl rfl) ?_
        intro a8 w8 ns hns hT ho hn
        have o3 : a8.tmps[3]? = some _ := (ho 3 (by kernel_rfl)).trans rfl
        clear ho hn
        refine ⟨wanted_free rfl, ?_⟩
        obtain ⟨x0, x1, y0, y1, z0, z1⟩ := (HT.out ns w8 hT).cells
        go_simp
      rcases i with _ | i
      · refine ss_call 0 (by decide) 16 rfl rfl (.inl rfl) ?_
        intro a8 w8 hT ho hn
        obtain ⟨v33, n33, hq33⟩ := hn 0 33 (by kernel_rfl) rfl
        obtain rfl := hq33.1 (by decide)
        obtain ⟨v34, n34, hq34⟩ := hn 1 34 (by kernel_rfl) rfl
        obtain rfl := hq34.1 (by decide)
        clear ho hn
        refine ⟨wanted_free rfl, ?_⟩
        obtain ⟨hpb, hkb⟩ := hT
        refine ⟨#[pv p, kvv 1 0], (by go_simp), (al_4 hpb hkb.zle).mono ?_⟩
        rintro e w9 ⟨rfl, h9, k9⟩
        exact ⟨_, rfl, ⟨h9, hkb.keep k9⟩, rfl, trivial⟩
      rcases i with _ | i
      · refine ss_value rfl (by decide) (pv p) rfl 2 (.inl rfl) ?_
        intro a8 w8 ns hns hT ho hn
        have o1 : a8.tmps[1]? = some _ := (ho 1 (by kernel_rfl)).trans rfl
        clear ho hn
        refine ⟨wanted_free rfl, ?_⟩
        go_simp
      rcases i with _ | i
      · refine ss_value rfl (by decide) (.agg #[.int .i64 2, .int .i64 0]) rfl 2 (.inl rfl) ?_
        intro a8 w8 ns hns hT ho hn
        have o5 : a8.tmps[5]? = some _ := (ho 5 (by kernel_rfl)).trans rfl
        clear ho hn
        refine ⟨wanted_free rfl, ?_⟩
        obtain ⟨x0, x1, y0, y1, z0, z1⟩ := (HT.out ns w8 hT).cells
        go_simp
      rcases i with _ | i
      · refine ss_call 1 (by decide) 14 rfl rfl (.inr ⟨2, 35, rfl, by kernel_rfl, rfl⟩) ?_
        intro a8 w8 hT ho hn
        obtain ⟨v36, n36, hq36⟩ := hn 3 36 (by kernel_rfl) rfl
        obtain rfl := hq36.1 (by decide)
        obtain ⟨v37, n37, hq37⟩ := hn 4 37 (by kernel_rfl) rfl
        obtain rfl := hq37.1 (by decide)
        clear ho hn
        refine ⟨wanted_free rfl, ?_⟩
        obtain ⟨hpb, hkb⟩ := hT
        refine ⟨#[pv p, kvv 2 0], (by go_simp), (al_5 hpb hkb.zle).mono ?_⟩
        rintro e w9 ⟨rfl, h9, k9⟩
        exact ⟨_, rfl, ⟨h9, hkb.keep k9⟩, rfl, trivial⟩
      rcases i with _ | i
      · refine ss_value rfl (by decide) (.int .i64 0) rfl 2 (.inl rfl) ?_
        intro a8 w8 ns hns hT ho hn
        obtain ⟨v35, n35, hq35⟩ := hn 2 35 (by kernel_rfl) rfl
        have hv35 := hq35.2 0 rfl
        clear ho hn
        refine ⟨wanted_free rfl, ?_⟩
        obtain ⟨_, e35, _⟩ := hv35
        obtain rfl : v35 = _ := e35
        go_simp
      rcases i with _ | i
      · refine ss_value rfl (by decide) (.int .i64 0) rfl 2 (.inl rfl) ?_
        intro a8 w8 ns hns hT ho hn
        obtain ⟨v38, n38, hq38⟩ := hn 5 38 (by kernel_rfl) rfl
        have hv38 := hq38.2 1 rfl
        clear ho hn
        refine ⟨wanted_free rfl, ?_⟩
        obtain ⟨_, e38, _⟩ := hv38
        obtain rfl : v38 = _ := e38
        go_simp
      omega
    · intro dn fv w5 hS5 hR5 hall
      have hT5 := hS5.2
      rw [stg_all (l := [2, 5]) (by intro k hk; simp only [List.mem_cons, List.not_mem_nil, or_false] at hk; rcases hk with rfl | rfl <;> exact hall _ (by decide))] at hT5
      have h9 : fv 9 = _ := (hR5 6 9 rfl).1 (by decide)
      have h10 : fv 10 = _ := (hR5 7 10 rfl).1 (by decide)
      simp only [putAll, List.foldl_cons, List.foldl_nil, Act.put, List.setIfInBounds_toArray, List.set_cons_succ, List.set_cons_zero, h9, h10, List.getD_cons_zero, List.getD_cons_succ]
      clear hR5 hS5 hall
      obtain ⟨h6, k6⟩ : AlW z p y w w5 A5 := hT5
      have HG := Lib.hid (al_6 h6 k6.zle)
      have HK := Lib.hid k6
      obtain ⟨x0, x1, y0, y1, z0, z1⟩ := k6.cells
      clear h6 k6
      go_wp2_with (first
        | (go_at_call 23; (have l0 := HG2.out; clear l0); refine HG2.out.mono ?_; rintro e w7 ⟨rfl, h8, k8⟩
           have HKB := Lib.hid (HK6.out.keep k8)
           have HPB := Lib.hid h8
           clear h8 k8)
        | (go_at_call 23; refine HG.out.mono ?_; rintro e w6 ⟨⟨gx, rfl⟩, h7, k7⟩
           have HK6 := Lib.hid (HK.out.keep k7)
           have HG2 := Lib.hid (al_7 h7 HK6.out.zle)
           obtain ⟨xx0, xx1, yy0, yy1, zz0, zz1⟩ := HK6.out.cells
           clear h7 k7))
      refine wp_region_done_on (GS _) (GR [24, 27, 28] (fun i v W => if i = 24 then KR W v A5.keys else if i = 27 then KR W v [(2, 0), (1, 1)] else v = .bool true) [.int .i64 0, .bool true, .bool true, .int .i64 0, .bool true, .bool true, .bool true, .int .i64 0, .bool true, .bool true, .bool true, .int .i64 101, .bool true, .bool true, .bool true, .int .i64 0, .bool true, .bool true, .bool true, .int .i64 0, .bool true, .bool true, .bool true, pv p, undef, .agg #[.int .i64 2, .int .i64 0], .agg #[.int .i64 1, .int .i64 1], undef, undef, .bool true, .bool true, .int .i64 100, .bool true, .bool true, .bool true, .int .i64 40, .bool true, .bool true, .bool true, .int .i64 0, .bool true, .bool true, .bool true]) (by kernel_rfl) 93 rfl (by kernel_rfl) ((Below.refl _ _).drew) ?_ ?_
      · intro i hi
        have hi2 : i < 43 := hi
        clear hi
        rcases i with _ | i
        · refine gr_value rfl (by decide) (.int .i64 0) rfl ?_
          intro a8 w8 hb8 ho hn
          have o2 : a8.tmps[2]? = some _ := (ho 2 (by kernel_rfl)).trans rfl
          clear ho hn
          refine ⟨wanted_free rfl, ?_⟩
          go_simp
        rcases i with _ | i
        · refine gr_value rfl (by decide) (.bool true) rfl ?_
          intro a8 w8 hb8 ho hn
          obtain ⟨v51, n51, hq51⟩ := hn 0 51 (by kernel_rfl) rfl
          obtain rfl := hq51.1 (by decide)
          clear ho hn
          refine ⟨wanted_free rfl, ?_⟩
          go_simp
        rcases i with _ | i
        · refine gr_value rfl (by decide) (.bool true) rfl ?_
          intro a8 w8 hb8 ho hn
          obtain ⟨v52, n52, hq52⟩ := hn 1 52 (by kernel_rfl) rfl
          obtain rfl := hq52.1 (by decide)
          clear ho hn
          refine ⟨wanted_free rfl, ?_⟩
          go_simp
        rcases i with _ | i
        · refine gr_value rfl (by decide) (.int .i64 0) rfl ?_
          intro a8 w8 hb8 ho hn
          have o6 : a8.tmps[6]? = some _ := (ho 6 (by kernel_rfl)).trans rfl
          obtain ⟨v53, n53, hq53⟩ := hn 2 53 (by kernel_rfl) rfl
          obtain rfl := hq53.1 (by decide)
          clear ho hn
          refine ⟨wanted_of 2 53 rfl rfl n53, ?_⟩
          go_simp
        rcases i with _ | i
        · refine gr_value rfl (by decide) (.bool true) rfl ?_
          intro a8 w8 hb8 ho hn
          obtain ⟨v54, n54, hq54⟩ := hn 3 54 (by kernel_rfl) rfl
          obtain rfl := hq54.1 (by decide)
          obtain ⟨v53, n53, hq53⟩ := hn 2 53 (by kernel_rfl) rfl
          obtain rfl := hq53.1 (by decide)
          clear ho hn
          refine ⟨wanted_of 2 53 rfl rfl n53, ?_⟩
          go_simp
        rcases i with _ | i
        · refine gr_value rfl (by decide) (.bool true) rfl ?_
          intro a8 w8 hb8 ho hn
          obtain ⟨v53, n53, hq53⟩ := hn 2 53 (by kernel_rfl) rfl
          obtain rfl := hq53.1 (by decide)
          obtain ⟨v55, n55, hq55⟩ := hn 4 55 (by kernel_rfl) rfl
          obtain rfl := hq55.1 (by decide)
          clear ho hn
          refine ⟨wanted_free rfl, ?_⟩
          go_simp
        rcases i with _ | i
        · refine gr_value rfl (by decide) (.bool true) rfl ?_
          intro a8 w8 hb8 ho hn
          obtain ⟨v56, n56, hq56⟩ := hn 5 56 (by kernel_rfl) rfl
          obtain rfl := hq56.1 (by decide)
          clear ho hn
          refine ⟨wanted_free rfl, ?_⟩
          go_simp
        rcases i with _ | i
        · refine gr_value rfl (by decide) (.int .i64 0) rfl ?_
          intro a8 w8 hb8 ho hn
          have o7 : a8.tmps[7]? = some _ := (ho 7 (by kernel_rfl)).trans rfl
          obtain ⟨v57, n57, hq57⟩ := hn 6 57 (by kernel_rfl) rfl
          obtain rfl := hq57.1 (by decide)
          clear ho hn
          refine ⟨wanted_of 6 57 rfl rfl n57, ?_⟩
          go_simp
        rcases i with _ | i
        · refine gr_value rfl (by decide) (.bool true) rfl ?_
          intro a8 w8 hb8 ho hn
          obtain ⟨v58, n58, hq58⟩ := hn 7 58 (by kernel_rfl) rfl
          obtain rfl := hq58.1 (by decide)
          obtain ⟨v57, n57, hq57⟩ := hn 6 57 (by kernel_rfl) rfl
          obtain rfl := hq57.1 (by decide)
          clear ho hn
          refine ⟨wanted_of 6 57 rfl rfl n57, ?_⟩
          go_simp
        rcases i with _ | i
        · refine gr_value rfl (by decide) (.bool true) rfl ?_
          intro a8 w8 hb8 ho hn
          obtain ⟨v57, n57, hq57⟩ := hn 6 57 (by kernel_rfl) rfl
          obtain rfl := hq57.1 (by decide)
          obtain ⟨v59, n59, hq59⟩ := hn 8 59 (by kernel_rfl) rfl
          obtain rfl := hq59.1 (by decide)
          clear ho hn
          refine ⟨wanted_free rfl, ?_⟩
          go_simp
        rcases i with _ | i
        · refine gr_value rfl (by decide) (.bool true) rfl ?_
          intro a8 w8 hb8 ho hn
          obtain ⟨v60, n60, hq60⟩ := hn 9 60 (by kernel_rfl) rfl
          obtain rfl := hq60.1 (by decide)
          clear ho hn
          refine ⟨wanted_free rfl, ?_⟩
          go_simp
        rcases i with _ | i
        · refine gr_value rfl (by decide) (.int .i64 101) rfl ?_
          intro a8 w8 hb8 ho hn
          have o8 : a8.tmps[8]? = some _ := (ho 8 (by kernel_rfl)).trans rfl
          obtain ⟨v61, n61, hq61⟩ := hn 10 61 (by kernel_rfl) rfl
          obtain rfl := hq61.1 (by decide)
          clear ho hn
          refine ⟨wanted_of 10 61 rfl rfl n61, ?_⟩
          go_simp
        rcases i with _ | i
        · refine gr_value rfl (by decide) (.bool true) rfl ?_
          intro a8 w8 hb8 ho hn
          obtain ⟨v62, n62, hq62⟩ := hn 11 62 (by kernel_rfl) rfl
          obtain rfl := hq62.1 (by decide)
          obtain ⟨v61, n61, hq61⟩ := hn 10 61 (by kernel_rfl) rfl
          obtain rfl := hq61.1 (by decide)
          clear ho hn
          refine ⟨wanted_of 10 61 rfl rfl n61, ?_⟩
          go_simp
        rcases i with _ | i
        · refine gr_value rfl (by decide) (.bool true) rfl ?_
          intro a8 w8 hb8 ho hn
          obtain ⟨v61, n61, hq61⟩ := hn 10 61 (by kernel_rfl) rfl
          obtain rfl := hq61.1 (by decide)
          obtain ⟨v63, n63, hq63⟩ := hn 12 63 (by kernel_rfl) rfl
          obtain rfl := hq63.1 (by decide)
          clear ho hn
          refine ⟨wanted_free rfl, ?_⟩
          go_simp
        rcases i with _ | i
        · refine gr_value rfl (by decide) (.bool true) rfl ?_
          intro a8 w8 hb8 ho hn
          obtain ⟨v64, n64, hq64⟩ := hn 13 64 (by kernel_rfl) rfl
          obtain rfl := hq64.1 (by decide)
          clear ho hn
          refine ⟨wanted_free rfl, ?_⟩
          go_simp
        rcases i with _ | i
        · refine gr_value rfl (by decide) (.int .i64 0) rfl ?_
          intro a8 w8 hb8 ho hn
          have o9 : a8.tmps[9]? = some _ := (ho 9 (by kernel_rfl)).trans rfl
          obtain ⟨v65, n65, hq65⟩ := hn 14 65 (by kernel_rfl) rfl
          obtain rfl := hq65.1 (by decide)
          clear ho hn
          refine ⟨wanted_of 14 65 rfl rfl n65, ?_⟩
          go_simp
        rcases i with _ | i
        · refine gr_value rfl (by decide) (.bool true) rfl ?_
          intro a8 w8 hb8 ho hn
          obtain ⟨v66, n66, hq66⟩ := hn 15 66 (by kernel_rfl) rfl
          obtain rfl := hq66.1 (by decide)
          obtain ⟨v65, n65, hq65⟩ := hn 14 65 (by kernel_rfl) rfl
          obtain rfl := hq65.1 (by decide)
          clear ho hn
          refine ⟨wanted_of 14 65 rfl rfl n65, ?_⟩
          go_simp
        rcases i with _ | i
        · refine gr_value rfl (by decide) (.bool true) rfl ?_
          intro a8 w8 hb8 ho hn
          obtain ⟨v65, n65, hq65⟩ := hn 14 65 (by kernel_rfl) rfl
          obtain rfl := hq65.1 (by decide)
          obtain ⟨v67, n67, hq67⟩ := hn 16 67 (by kernel_rfl) rfl
          obtain rfl := hq67.1 (by decide)
          clear ho hn
          refine ⟨wanted_free rfl, ?_⟩
          go_simp
        rcases i with _ | i
        · refine gr_value rfl (by decide) (.bool true) rfl ?_
          intro a8 w8 hb8 ho hn
          obtain ⟨v68, n68, hq68⟩ := hn 17 68 (by kernel_rfl) rfl
          obtain rfl := hq68.1 (by decide)
          clear ho hn
          refine ⟨wanted_free rfl, ?_⟩
          go_simp
        rcases i with _ | i
        · refine gr_value rfl (by decide) (.int .i64 0) rfl ?_
          intro a8 w8 hb8 ho hn
          have o10 : a8.tmps[10]? = some _ := (ho 10 (by kernel_rfl)).trans rfl
          obtain ⟨v69, n69, hq69⟩ := hn 18 69 (by kernel_rfl) rfl
          obtain rfl := hq69.1 (by decide)
          clear ho hn
          refine ⟨wanted_of 18 69 rfl rfl n69, ?_⟩
          go_simp
        rcases i with _ | i
        · refine gr_value rfl (by decide) (.bool true) rfl ?_
          intro a8 w8 hb8 ho hn
          obtain ⟨v70, n70, hq70⟩ := hn 19 70 (by kernel_rfl) rfl
          obtain rfl := hq70.1 (by decide)
          obtain ⟨v69, n69, hq69⟩ := hn 18 69 (by kernel_rfl) rfl
          obtain rfl := hq69.1 (by decide)
          clear ho hn
          refine ⟨wanted_of 18 69 rfl rfl n69, ?_⟩
          go_simp
        rcases i with _ | i
        · refine gr_value rfl (by decide) (.bool true) rfl ?_
          intro a8 w8 hb8 ho hn
          obtain ⟨v69, n69, hq69⟩ := hn 18 69 (by kernel_rfl) rfl
          obtain rfl := hq69.1 (by decide)
          obtain ⟨v71, n71, hq71⟩ := hn 20 71 (by kernel_rfl) rfl
          obtain rfl := hq71.1 (by decide)
          clear ho hn
          refine ⟨wanted_free rfl, ?_⟩
          go_simp
        rcases i with _ | i
        · refine gr_value rfl (by decide) (.bool true) rfl ?_
          intro a8 w8 hb8 ho hn
          obtain ⟨v72, n72, hq72⟩ := hn 21 72 (by kernel_rfl) rfl
          obtain rfl := hq72.1 (by decide)
          clear ho hn
          refine ⟨wanted_free rfl, ?_⟩
          go_simp
        rcases i with _ | i
        · refine gr_value rfl (by decide) (pv p) rfl ?_
          intro a8 w8 hb8 ho hn
          have o1 : a8.tmps[1]? = some _ := (ho 1 (by kernel_rfl)).trans rfl
          obtain ⟨v73, n73, hq73⟩ := hn 22 73 (by kernel_rfl) rfl
          obtain rfl := hq73.1 (by decide)
          clear ho hn
          refine ⟨wanted_of 22 73 rfl rfl n73, ?_⟩
          go_simp
        rcases i with _ | i
        · refine gr_call al_gu 18 rfl (by decide) ?_
          intro a8 w8 hb8 ho hn
          obtain ⟨v74, n74, hq74⟩ := hn 23 74 (by kernel_rfl) rfl
          obtain rfl := hq74.1 (by decide)
          obtain ⟨v73, n73, hq73⟩ := hn 22 73 (by kernel_rfl) rfl
          obtain rfl := hq73.1 (by decide)
          clear ho hn
          refine ⟨wanted_of 22 73 rfl rfl n73, ?_⟩
          refine ⟨#[pv p], (by go_simp), (keys_any (HPB.out.below hb8)).mono ?_⟩
          rintro e w9 ⟨v, rfl, ho9, hb9⟩
          exact ⟨v, rfl, hb9, KR.of_own ho9⟩
        rcases i with _ | i
        · refine gr_value rfl (by decide) (.agg #[.int .i64 2, .int .i64 0]) rfl ?_
          intro a8 w8 hb8 ho hn
          have o5 : a8.tmps[5]? = some _ := (ho 5 (by kernel_rfl)).trans rfl
          obtain ⟨v73, n73, hq73⟩ := hn 22 73 (by kernel_rfl) rfl
          obtain rfl := hq73.1 (by decide)
          clear ho hn
          refine ⟨wanted_of 22 73 rfl rfl n73, ?_⟩
          obtain ⟨x0, x1, y0, y1, z0, z1⟩ := (HKB.out.below hb8).cells
          go_simp
        rcases i with _ | i
        · refine gr_value rfl (by decide) (.agg #[.int .i64 1, .int .i64 1]) rfl ?_
          intro a8 w8 hb8 ho hn
          have o4 : a8.tmps[4]? = some _ := (ho 4 (by kernel_rfl)).trans rfl
          obtain ⟨v73, n73, hq73⟩ := hn 22 73 (by kernel_rfl) rfl
          obtain rfl := hq73.1 (by decide)
          clear ho hn
          refine ⟨wanted_of 22 73 rfl rfl n73, ?_⟩
          obtain ⟨x0, x1, y0, y1, z0, z1⟩ := (HKB.out.below hb8).cells
          go_simp
        rcases i with _ | i
        · refine gr_make al_gu rfl (by decide) ?_
          intro a8 w8 hb8 ho hn
          obtain ⟨v76, n76, hq76⟩ := hn 25 76 (by kernel_rfl) rfl
          obtain rfl := hq76.1 (by decide)
          obtain ⟨v77, n77, hq77⟩ := hn 26 77 (by kernel_rfl) rfl
          obtain rfl := hq77.1 (by decide)
          obtain ⟨v73, n73, hq73⟩ := hn 22 73 (by kernel_rfl) rfl
          obtain rfl := hq73.1 (by decide)
          clear ho hn
          refine ⟨wanted_of 22 73 rfl rfl n73, ?_⟩
          exact ⟨.slice (some ⟨w8.heap.size, 0, none⟩) 2 2, w8.alloc (.cells #[.int .i64 2, .int .i64 0, .int .i64 1, .int .i64 1] 29), (by go_simp), (Below.refl _ _).alloc (Nat.le_refl _) _, al_made w8⟩
        rcases i with _ | i
        · refine gr_call al_gu 17 rfl (by decide) ?_
          intro a8 w8 hb8 ho hn
          obtain ⟨v75, n75, hq75⟩ := hn 24 75 (by kernel_rfl) rfl
          have hv75 := hq75.2 (by decide)
          obtain ⟨v78, n78, hq78⟩ := hn 27 78 (by kernel_rfl) rfl
          have hv78 := hq78.2 (by decide)
          obtain ⟨v73, n73, hq73⟩ := hn 22 73 (by kernel_rfl) rfl
          obtain rfl := hq73.1 (by decide)
          clear ho hn
          refine ⟨wanted_of 22 73 rfl rfl n73, ?_⟩
          refine ⟨#[v75, v78], (by go_simp), (rkeys_any _ _ v75 v78 w8 hv75 hv78 (by decide)).mono ?_⟩
          rintro e w9 ⟨rfl, hb9⟩
          exact ⟨_, rfl, hb9, by rw [al_keys]; rfl⟩
        rcases i with _ | i
        · refine gr_value rfl (by decide) (.bool true) rfl ?_
          intro a8 w8 hb8 ho hn
          obtain ⟨v73, n73, hq73⟩ := hn 22 73 (by kernel_rfl) rfl
          obtain rfl := hq73.1 (by decide)
          obtain ⟨v79, n79, hq79⟩ := hn 28 79 (by kernel_rfl) rfl
          have hv79 := hq79.2 (by decide)
          clear ho hn
          refine ⟨wanted_free rfl, ?_⟩
          obtain rfl : v79 = .bool true := hv79
          go_simp
        rcases i with _ | i
        · refine gr_value rfl (by decide) (.bool true) rfl ?_
          intro a8 w8 hb8 ho hn
          obtain ⟨v80, n80, hq80⟩ := hn 29 80 (by kernel_rfl) rfl
          obtain rfl := hq80.1 (by decide)
          clear ho hn
          refine ⟨wanted_free rfl, ?_⟩
          go_simp
        rcases i with _ | i
        · refine gr_value rfl (by decide) (.int .i64 100) rfl ?_
          intro a8 w8 hb8 ho hn
          have o12 : a8.tmps[12]? = some _ := (ho 12 (by kernel_rfl)).trans rfl
          obtain ⟨v81, n81, hq81⟩ := hn 30 81 (by kernel_rfl) rfl
          obtain rfl := hq81.1 (by decide)
          clear ho hn
          refine ⟨wanted_of 30 81 rfl rfl n81, ?_⟩
          go_simp
        rcases i with _ | i
        · refine gr_value rfl (by decide) (.bool true) rfl ?_
          intro a8 w8 hb8 ho hn
          obtain ⟨v82, n82, hq82⟩ := hn 31 82 (by kernel_rfl) rfl
          obtain rfl := hq82.1 (by decide)
          obtain ⟨v81, n81, hq81⟩ := hn 30 81 (by kernel_rfl) rfl
          obtain rfl := hq81.1 (by decide)
          clear ho hn
          refine ⟨wanted_of 30 81 rfl rfl n81, ?_⟩
          go_simp
        rcases i with _ | i
        · refine gr_value rfl (by decide) (.bool true) rfl ?_
          intro a8 w8 hb8 ho hn
          obtain ⟨v81, n81, hq81⟩ := hn 30 81 (by kernel_rfl) rfl
          obtain rfl := hq81.1 (by decide)
          obtain ⟨v83, n83, hq83⟩ := hn 32 83 (by kernel_rfl) rfl
          obtain rfl := hq83.1 (by decide)
          clear ho hn
          refine ⟨wanted_free rfl, ?_⟩
          go_simp
        rcases i with _ | i
        · refine gr_value rfl (by decide) (.bool true) rfl ?_
          intro a8 w8 hb8 ho hn
          obtain ⟨v84, n84, hq84⟩ := hn 33 84 (by kernel_rfl) rfl
          obtain rfl := hq84.1 (by decide)
          clear ho hn
          refine ⟨wanted_free rfl, ?_⟩
          go_simp
        rcases i with _ | i
        · refine gr_value rfl (by decide) (.int .i64 40) rfl ?_
          intro a8 w8 hb8 ho hn
          have o13 : a8.tmps[13]? = some _ := (ho 13 (by kernel_rfl)).trans rfl
          obtain ⟨v85, n85, hq85⟩ := hn 34 85 (by kernel_rfl) rfl
          obtain rfl := hq85.1 (by decide)
          clear ho hn
          refine ⟨wanted_of 34 85 rfl rfl n85, ?_⟩
          go_simp
        rcases i with _ | i
        · refine gr_value rfl (by decide) (.bool true) rfl ?_
          intro a8 w8 hb8 ho hn
          obtain ⟨v86, n86, hq86⟩ := hn 35 86 (by kernel_rfl) rfl
          obtain rfl := hq86.1 (by decide)
          obtain ⟨v85, n85, hq85⟩ := hn 34 85 (by kernel_rfl) rfl
          obtain rfl := hq85.1 (by decide)
          clear ho hn
          refine ⟨wanted_of 34 85 rfl rfl n85, ?_⟩
          go_simp
        rcases i with _ | i
        · refine gr_value rfl (by decide) (.bool true) rfl ?_
          intro a8 w8 hb8 ho hn
          obtain ⟨v85, n85, hq85⟩ := hn 34 85 (by kernel_rfl) rfl
          obtain rfl := hq85.1 (by decide)
          obtain ⟨v87, n87, hq87⟩ := hn 36 87 (by kernel_rfl) rfl
          obtain rfl := hq87.1 (by decide)
          clear ho hn
          refine ⟨wanted_free rfl, ?_⟩
          go_simp
        rcases i with _ | i
        · refine gr_value rfl (by decide) (.bool true) rfl ?_
          intro a8 w8 hb8 ho hn
          obtain ⟨v88, n88, hq88⟩ := hn 37 88 (by kernel_rfl) rfl
          obtain rfl := hq88.1 (by decide)
          clear ho hn
          refine ⟨wanted_free rfl, ?_⟩
          go_simp
        rcases i with _ | i
        · refine gr_value rfl (by decide) (.int .i64 0) rfl ?_
          intro a8 w8 hb8 ho hn
          have o14 : a8.tmps[14]? = some _ := (ho 14 (by kernel_rfl)).trans rfl
          obtain ⟨v89, n89, hq89⟩ := hn 38 89 (by kernel_rfl) rfl
          obtain rfl := hq89.1 (by decide)
          clear ho hn
          refine ⟨wanted_of 38 89 rfl rfl n89, ?_⟩
          go_simp
        rcases i with _ | i
        · refine gr_value rfl (by decide) (.bool true) rfl ?_
          intro a8 w8 hb8 ho hn
          obtain ⟨v90, n90, hq90⟩ := hn 39 90 (by kernel_rfl) rfl
          obtain rfl := hq90.1 (by decide)
          obtain ⟨v89, n89, hq89⟩ := hn 38 89 (by kernel_rfl) rfl
          obtain rfl := hq89.1 (by decide)
          clear ho hn
          refine ⟨wanted_of 38 89 rfl rfl n89, ?_⟩
          go_simp
        rcases i with _ | i
        · refine gr_value rfl (by decide) (.bool true) rfl ?_
          intro a8 w8 hb8 ho hn
          obtain ⟨v89, n89, hq89⟩ := hn 38 89 (by kernel_rfl) rfl
          obtain rfl := hq89.1 (by decide)
          obtain ⟨v91, n91, hq91⟩ := hn 40 91 (by kernel_rfl) rfl
          obtain rfl := hq91.1 (by decide)
          clear ho hn
          refine ⟨wanted_free rfl, ?_⟩
          go_simp
        rcases i with _ | i
        · refine gr_value rfl (by decide) (.bool true) rfl ?_
          intro a8 w8 hb8 ho hn
          obtain ⟨v92, n92, hq92⟩ := hn 41 92 (by kernel_rfl) rfl
          obtain rfl := hq92.1 (by decide)
          clear ho hn
          refine ⟨wanted_free rfl, ?_⟩
          go_simp
        omega
      · intro dn fv w5 hb5 hR5 hall
        have h0 : fv 0 = _ := (hR5 42 0 rfl).1 (by decide)
        simp only [putAll, List.foldl_cons, List.foldl_nil, Act.put, List.setIfInBounds_toArray, List.set_cons_succ, List.set_cons_zero, h0, List.getD_cons_zero, List.getD_cons_succ]
        clear hR5 hall
        have HE : Hid (Below w.heap.size w w5) := Lib.hid (by rw [HZ.out]; exact HKB.out.b.trans (hb5.mono HKB.out.zle))
        clear hb5
        go_wp2
        go_ret
        exact ⟨rfl, HE.out⟩
end Go.Proofs.Ytlmdijijlbmddaa.pool

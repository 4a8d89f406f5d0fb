/-
  Layer 11 (array): Copy: an equal array in new memory.
-/
import Derived.Test.YtiiapljjopcabaaDoorArNew
import Derived.Test.YtiiapljjopcabaaDoorGrowSt
namespace Go.Proofs.YtiiapljjopcabaaDoor.arr
open Go.RowKit

/-- A clone, and an array of clones, as values that a region made. -/
def CpR (t : TypeId) (B : Nat) (l : List Int) (v : Value) (W : World) : Prop := ∃ A c, v = .slice A l.length c ∧ W.ownsRow B t 1 (.slice A l.length c) l.length (l.map iv)
theorem CpR.mk {t : TypeId} {B : Nat} {l : List Int} {A : Option Addr} {c : Nat} {W : World} (h : W.ownsRow B t 1 (.slice A l.length c) l.length (l.map iv)) : CpR t B l (.slice A l.length c) W := ⟨_, _, rfl, h⟩
def CpA (B : Nat) (a : AV) (v : Value) (W : World) : Prop := ∃ q, v = .agg (arC a q) ∧ AOwn B W a q
theorem CpA.mk {B : Nat} {a : AV} {q : AP} {W : World} (h : AOwn B W a q) : CpA B a (.agg (arC a q)) W := ⟨_, rfl, h⟩
def CpU (a : AV) (z : Nat) (i : Nat) (v : Value) (W : World) : Prop := if i = 4 then CpR 3 (z + 2) a.sh v W else if i = 7 then CpR 2 (z + 2) a.el v W else CpA (z + 2) a v W
structure CpT (w : World) (a : AV) (p : AP) (W : World) : Prop where
  xa : Blk W w.heap.size 33 (arC a p)
  e0 : AEl w a p
  b : Below w.heap.size w W
  s : w.heap.size + 2 ≤ W.heap.size
  r : ∃ x y u, Blk W (w.heap.size + 1) 33 #[x, y, u]
def CpF (z : Nat) (a : AV) (W : World) : Prop := ∃ q, Blk W (z + 1) 33 (arC a q) ∧ AOwn (z + 2) W a q
theorem CpT.el {w W : World} {a : AV} {p : AP} (h : CpT w a p W) : AEl W a p := h.e0.below h.b
theorem CpT.cells {w W : World} {a : AV} {p : AP} (h : CpT w a p W) : W.cell? ⟨w.heap.size, 0, none⟩ = some (.int .i64 a.kind) ∧ W.cell? ⟨w.heap.size, 1, none⟩ = some (.slice p.A0 a.sh.length p.c0) ∧ W.cell? ⟨w.heap.size, 2, none⟩ = some (.slice p.A1 a.el.length p.c1) :=
  ⟨h.xa.cell 0, h.xa.cell 1, h.xa.cell 2⟩
theorem CpT.store {w W : World} {a : AV} {p : AP} (h : CpT w a p W) {x y u : Value} (r : Blk W (w.heap.size + 1) 33 #[x, y, u]) (x' y' u' : Value) : CpT w a p (((W.setCell ⟨w.heap.size + 1, 0, none⟩ x').setCell ⟨w.heap.size + 1, 1, none⟩ y').setCell ⟨w.heap.size + 1, 2, none⟩ u') := by
  have hk := arkeep_three W (w.heap.size + 1) x' y' u'
  have hb := hk.below h.b.size (fun i hi e => by omega)
  exact ⟨hk.blk h.xa (by omega), h.e0, h.b.trans hb, Nat.le_trans h.s hk.size, _, _, _, arblk_three x' y' u' r⟩
theorem cpF_store {z : Nat} {W : World} {a : AV} {q : AP} {x y u : Value} (r : Blk W (z + 1) 33 #[x, y, u]) (h : AOwn (z + 2) W a q) : CpF z a (((W.setCell ⟨z + 1, 0, none⟩ (.int .i64 a.kind)).setCell ⟨z + 1, 1, none⟩ (.slice q.A0 a.sh.length q.c0)).setCell ⟨z + 1, 2, none⟩ (.slice q.A1 a.el.length q.c1)) :=
  ⟨q, arblk_three _ _ _ r, h.keep (arkeep_three W (z + 1) _ _ _) (fun k h1 _ _ e => by omega)⟩
theorem cpU_store (a : AV) (z : Nat) (W : World) (x y u : Value) (j : Nat) (v : Value) (h : CpU a z j v W) : CpU a z j v (((W.setCell ⟨z + 1, 0, none⟩ x).setCell ⟨z + 1, 1, none⟩ y).setCell ⟨z + 1, 2, none⟩ u) := by
  have hk := arkeep_three W (z + 1) x y u
  unfold CpU at h ⊢
  split
  · rename_i e
    rw [if_pos e] at h
    obtain ⟨A, c, rfl, h⟩ := h
    exact ⟨A, c, rfl, hk.own h (fun g hg e => by have := (arown_lt h g hg).1; omega)⟩
  · rename_i e
    rw [if_neg e] at h
    split
    · rename_i e
      rw [if_pos e] at h
      obtain ⟨A, c, rfl, h⟩ := h
      exact ⟨A, c, rfl, hk.own h (fun g hg e => by have := (arown_lt h g hg).1; omega)⟩
    · rename_i e
      rw [if_neg e] at h
      obtain ⟨q, rfl, h⟩ := h
      exact ⟨q, rfl, h.keep hk (fun k h1 _ _ e => by omega)⟩
theorem cpCT (w : World) (a : AV) (p : AP) : CT (CpT w a p) (CpF w.heap.size a) (CpU a w.heap.size) := by
  refine ⟨fun W W' hb h => ?_, fun W W' hb h => ?_, fun i v W W' hb h => ?_⟩
  · obtain ⟨x, y, u, r⟩ := h.r
    exact ⟨h.xa.below hb h.xa.lt, h.e0, h.b.trans (hb.mono h.b.size), Nat.le_trans h.s hb.size, x, y, u, r.below hb r.lt⟩
  · obtain ⟨q, r, o⟩ := h
    exact ⟨q, r.below hb r.lt, o.stay hb (Nat.le_refl _)⟩
  · unfold CpU at h ⊢
    split
    · rename_i e
      rw [if_pos e] at h
      obtain ⟨A, c, rfl, h⟩ := h
      exact ⟨A, c, rfl, arown_stay h hb (fun g hg => (arown_lt h g hg).2)⟩
    · rename_i e
      rw [if_neg e] at h
      split
      · rename_i e
        rw [if_pos e] at h
        obtain ⟨A, c, rfl, h⟩ := h
        exact ⟨A, c, rfl, arown_stay h hb (fun g hg => (arown_lt h g hg).2)⟩
      · rename_i e
        rw [if_neg e] at h
        obtain ⟨q, rfl, h⟩ := h
        exact ⟨q, rfl, h.stay hb (Nat.le_refl _)⟩

set_option maxRecDepth 100000 in
set_option maxHeartbeats 4000000 in
theorem arcopy_any (a : AV) (p : AP) (w : World) (h : AEl w a p) (n0 : a.sh.length ≤ 1000000) (n1 : a.el.length ≤ 1000000) :
    Calls Tryd.prog 26 #[.agg (arC a p)] w fun e w' => ∃ v, e = .returned v ∧ GiveA w w' v a := by
  have hb := (Below.refl w.heap.size w).alloc (Nat.le_refl _) (.cells (arC a p) 33)
  have hb2 := hb.alloc hb.size (.cells #[.int .i64 0, .slice none 0 0, .slice none 0 0] 33)
  have hx := (Blk.new w 33 (arC a p)).alloc (.cells #[.int .i64 0, .slice none 0 0, .slice none 0 0] 33)
  have hr := Blk.new (w.alloc (.cells (arC a p) 33)) 33 #[.int .i64 0, .slice none 0 0, .slice none 0 0]
  rw [World.size_alloc] at hr
  have hs : CpT w a p (((w.alloc (.cells (arC a p) 33)).alloc (.cells #[.int .i64 0, .slice none 0 0, .slice none 0 0] 33)).drew) := ⟨hx, h, hb2.drew, by simp [World.drew], _, _, _, hr⟩
  have HS := Lib.hid hs
  have HN := Lib.hid (And.intro n0 n1)
  have HCT := cpCT w a p
  clear hb hb2 hx hr hs h
  go_enter Tryd.func26, Tryd.ntmps26
  go_wp2
  refine wp_region_done_on (CS (CpT w a p) (CpF w.heap.size a) 9) (GR [4, 7, 8] (CpU a w.heap.size) [.pointer (some ⟨w.heap.size, 0, none⟩), .int .i64 a.kind, .pointer (some ⟨w.heap.size, 1, none⟩), .slice p.A0 a.sh.length p.c0, undef, .pointer (some ⟨w.heap.size, 2, none⟩), .slice p.A1 a.el.length p.c1, undef, undef, undef]) (by kernel_rfl) 12 rfl (by kernel_rfl) ⟨HS.out, fun e => by cases e⟩ ?_ ?_
  · intro i hi
    have hi2 : i < 10 := hi
    clear hi
    rcases i with _ | i
    · refine cs_value (by decide) rfl (by decide) (.pointer (some ⟨w.heap.size, 0, none⟩)) rfl ?_
      intro a8 w8 hb8 ho hn
      have o1 : a8.tmps[1]? = some _ := (ho 1 (by kernel_rfl)).trans rfl
      clear ho hn
      refine ⟨wanted_free rfl, ?_⟩
      go_simp
    rcases i with _ | i
    · refine cs_value (by decide) rfl (by decide) (.int .i64 a.kind) rfl ?_
      intro a8 w8 hb8 ho hn
      obtain ⟨v3, n3, hq3⟩ := hn 0 3 (by kernel_rfl) rfl
      obtain rfl := hq3.1 (by decide)
      clear ho hn
      refine ⟨wanted_free rfl, ?_⟩
      obtain ⟨x0, x1, x2⟩ := hb8.cells
      go_simp
    rcases i with _ | i
    · refine cs_value (by decide) rfl (by decide) (.pointer (some ⟨w.heap.size, 1, none⟩)) rfl ?_
      intro a8 w8 hb8 ho hn
      have o1 : a8.tmps[1]? = some _ := (ho 1 (by kernel_rfl)).trans rfl
      clear ho hn
      refine ⟨wanted_free rfl, ?_⟩
      go_simp
    rcases i with _ | i
    · refine cs_value (by decide) rfl (by decide) (.slice p.A0 a.sh.length p.c0) rfl ?_
      intro a8 w8 hb8 ho hn
      obtain ⟨v5, n5, hq5⟩ := hn 2 5 (by kernel_rfl) rfl
      obtain rfl := hq5.1 (by decide)
      clear ho hn
      refine ⟨wanted_free rfl, ?_⟩
      obtain ⟨x0, x1, x2⟩ := hb8.cells
      go_simp
    rcases i with _ | i
    · refine cs_call HCT 31 (by decide) rfl (by decide) ?_
      intro a8 w8 hb8 ho hn
      obtain ⟨v6, n6, hq6⟩ := hn 3 6 (by kernel_rfl) rfl
      obtain rfl := hq6.1 (by decide)
      clear ho hn
      refine ⟨wanted_free rfl, ?_⟩
      refine ⟨#[.slice p.A0 a.sh.length p.c0], (by go_simp), (arcloneI_any p.A0 a.sh.length p.c0 a.sh w8 rfl hb8.el.r0 HN.out.1).mono ?_⟩
      rintro e w9 ⟨A9, c9, rfl, o9, b9⟩
      exact ⟨_, rfl, b9, CpR.mk (arown_mono o9 hb8.s)⟩
    rcases i with _ | i
    · refine cs_value (by decide) rfl (by decide) (.pointer (some ⟨w.heap.size, 2, none⟩)) rfl ?_
      intro a8 w8 hb8 ho hn
      have o1 : a8.tmps[1]? = some _ := (ho 1 (by kernel_rfl)).trans rfl
      clear ho hn
      refine ⟨wanted_free rfl, ?_⟩
      go_simp
    rcases i with _ | i
    · refine cs_value (by decide) rfl (by decide) (.slice p.A1 a.el.length p.c1) rfl ?_
      intro a8 w8 hb8 ho hn
      obtain ⟨v8, n8, hq8⟩ := hn 5 8 (by kernel_rfl) rfl
      obtain rfl := hq8.1 (by decide)
      clear ho hn
      refine ⟨wanted_free rfl, ?_⟩
      obtain ⟨x0, x1, x2⟩ := hb8.cells
      go_simp
    rcases i with _ | i
    · refine cs_call HCT 33 (by decide) rfl (by decide) ?_
      intro a8 w8 hb8 ho hn
      obtain ⟨v9, n9, hq9⟩ := hn 6 9 (by kernel_rfl) rfl
      obtain rfl := hq9.1 (by decide)
      clear ho hn
      refine ⟨wanted_free rfl, ?_⟩
      refine ⟨#[.slice p.A1 a.el.length p.c1], (by go_simp), (arcloneL_any p.A1 a.el.length p.c1 a.el w8 rfl hb8.el.r1 HN.out.2).mono ?_⟩
      rintro e w9 ⟨A9, c9, rfl, o9, b9⟩
      exact ⟨_, rfl, b9, CpR.mk (arown_mono o9 hb8.s)⟩
    rcases i with _ | i
    · refine cs_make HCT (by decide) rfl (by decide) ?_
      intro a8 w8 hb8 ho hn
      obtain ⟨v4, n4, hq4⟩ := hn 1 4 (by kernel_rfl) rfl
      obtain rfl := hq4.1 (by decide)
      obtain ⟨v7, n7, hq7⟩ := hn 4 7 (by kernel_rfl) rfl
      have hv7 := hq7.2 (by decide)
      obtain ⟨v10, n10, hq10⟩ := hn 7 10 (by kernel_rfl) rfl
      have hv10 := hq10.2 (by decide)
      clear ho hn
      refine ⟨wanted_free rfl, ?_⟩
      have hv7 : CpR 3 (w.heap.size + 2) a.sh v7 w8 := hv7
      have hv10 : CpR 2 (w.heap.size + 2) a.el v10 w8 := hv10
      obtain ⟨A9, c9, rfl, o9⟩ := hv7
      obtain ⟨B9, d9, rfl, p9⟩ := hv10
      exact ⟨.agg (arC a ⟨A9, c9, B9, d9⟩), w8, (by unfold arC; go_simp), Below.refl _ _, CpA.mk ⟨o9, p9⟩⟩
    rcases i with _ | i
    · refine cs_store rfl rfl (by decide) rfl ?_
      intro a8 w8 hb8 ho hn
      have o2 : a8.tmps[2]? = some _ := (ho 2 (by kernel_rfl)).trans rfl
      obtain ⟨v11, n11, hq11⟩ := hn 8 11 (by kernel_rfl) rfl
      have hv11 := hq11.2 (by decide)
      clear ho hn
      refine ⟨wanted_free rfl, ?_⟩
      have hv11 : CpA (w.heap.size + 2) a v11 w8 := hv11
      obtain ⟨q9, rfl, ow9⟩ := hv11
      obtain ⟨y0, y1, y2, r9⟩ := hb8.r
      have x0 := r9.cell 0
      have x1 := r9.cell 1
      have x2 := r9.cell 2
      have f0 := r9.frozen 0
      have f1 := r9.frozen 1
      have f2 := r9.frozen 2
      refine ⟨((w8.setCell ⟨w.heap.size + 1, 0, none⟩ (.int .i64 a.kind)).setCell ⟨w.heap.size + 1, 1, none⟩ (.slice q9.A0 a.sh.length q9.c0)).setCell ⟨w.heap.size + 1, 2, none⟩ (.slice q9.A1 a.el.length q9.c1), ?_, hb8.store r9 _ _ _, cpF_store r9 ow9, cpU_store a w.heap.size w8 _ _ _⟩
      clear hb8 r9 ow9
      unfold arC at *
      go_simp
    omega
  · intro dn fv w5 hb5 hR5 hall
    simp only [putAll, List.foldl_cons, List.foldl_nil, Act.put, List.setIfInBounds_toArray, List.set_cons_succ, List.set_cons_zero]
    clear hR5
    obtain ⟨q, hq, ho⟩ := hb5.2 (hall 9 (by decide))
    go_wp2
    refine bodyPost_ret (results_arr rfl rfl hq) rfl ?_
    exact ⟨_, rfl, q, rfl, ⟨arown_mono ho.o0 (by omega), arown_mono ho.o1 (by omega)⟩, hb5.1.b⟩
end Go.Proofs.YtiiapljjopcabaaDoor.arr

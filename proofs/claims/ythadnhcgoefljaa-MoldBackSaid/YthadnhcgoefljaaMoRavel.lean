/-
  Layer 13 (mold): Ravel.
-/
import Derived.Test.YthadnhcgoefljaaMoVec
import Derived.Test.YthadnhcgoefljaaMoAlive
import Derived.Test.YthadnhcgoefljaaArCopy
namespace Go.Proofs.Ythadnhcgoefljaa.mo
open Go.RowKit Go.Proofs.Ythadnhcgoefljaa.arr

def stz (z : Nat) (P : Value → World → Prop) : Prop := stk P ∧ ∀ v W x y u, P v W → P v (((W.setCell ⟨z + 1, 0, none⟩ x).setCell ⟨z + 1, 1, none⟩ y).setCell ⟨z + 1, 2, none⟩ u)
theorem cpR_z (t : TypeId) (z : Nat) (l : List Int) : stz z (CpR t (z + 2) l) := ⟨fun v W W' hb h => by
    obtain ⟨A, c, rfl, h⟩ := h
    exact ⟨A, c, rfl, arown_stay h hb (fun g hg => (arown_lt h g hg).2)⟩, fun v W x y u h => by
    obtain ⟨A, c, rfl, h⟩ := h
    exact ⟨A, c, rfl, (arkeep_three W (z + 1) x y u).own h (fun g hg e => by have := (arown_lt h g hg).1; omega)⟩⟩
theorem cpA_z (z : Nat) (X : AV) : stz z (CpA (z + 2) X) := ⟨fun v W W' hb h => by
    obtain ⟨q, rfl, h⟩ := h
    exact ⟨q, rfl, h.stay hb (Nat.le_refl _)⟩, fun v W x y u h => by
    obtain ⟨q, rfl, h⟩ := h
    exact ⟨q, rfl, h.keep (arkeep_three W (z + 1) x y u) (fun k h1 _ _ e => by omega)⟩⟩
theorem lookU_z {z : Nat} : ∀ {l : List (Nat × (Value → World → Prop))}, (∀ x ∈ l, stz z x.2) → ∀ (W : World) (x y u : Value) (j : Nat) (v : Value), lookU l j v W → lookU l j v (((W.setCell ⟨z + 1, 0, none⟩ x).setCell ⟨z + 1, 1, none⟩ y).setCell ⟨z + 1, 2, none⟩ u)
  | [], _ => fun _ _ _ _ _ _ h => h
  | (k, P) :: l, hl => fun W x y u j v h => by
    unfold lookU at h ⊢
    by_cases hk : j = k
    · rw [if_pos hk] at h ⊢
      exact (hl (k, P) (List.mem_cons_self ..)).2 v W x y u h
    · rw [if_neg hk] at h ⊢
      exact lookU_z (fun x hx => hl x (List.mem_cons_of_mem _ hx)) W x y u j v h
theorem cpT_drew {w W : World} {a : AV} {p : AP} (h : CpT w a p W) : CpT w a p W.drew := (cpCT w a p).t _ _ ((Below.refl _ _).drew) h
theorem cpCTz {w : World} {a X : AV} {p : AP} {l : List (Nat × (Value → World → Prop))} (hl : ∀ x ∈ l, stz w.heap.size x.2) : CT (CpT w a p) (CpF w.heap.size X) (lookU l) :=
  ⟨(cpCT w a p).t, (cpCT w X p).f, lookU_stay (fun x hx => (hl x hx).1)⟩
/-- What Ravel makes. -/
def raA (a : AV) : AV := if okA a = true then ⟨a.kind, [(a.el.length : Int)], a.el⟩ else noA
set_option maxRecDepth 100000 in
set_option maxHeartbeats 4000000 in
theorem moravel_any (a : AV) (p : AP) (w : World) (ha : AEl w a p) :
    Calls Try.prog 18 #[.agg (arC a p)] w (GiveE (raA a) (checkE a) w) := by
  have hI := OnI.start ha
  have hs : CpT w a p ((w.alloc (.cells (arC a p) 25)).alloc (.cells #[.int .i64 0, .slice none 0 0, .slice none 0 0] 25)) := ⟨hI.x, ha, hI.fb, by simp, _, _, _, hI.r⟩
  obtain ⟨w1, hw1⟩ : ∃ w1, (w.alloc (.cells (arC a p) 25)).alloc (.cells #[.int .i64 0, .slice none 0 0, .slice none 0 0] 25) = w1 := ⟨_, rfl⟩
  rw [hw1] at hI hs
  have HCA := Lib.hid (fun W (h : OnI w a p W) => archeck_any a p W h.ea)
  have hca : checkE a = if okA a = true then 0 else 110 := rfl
  have hA : raA a = if okA a = true then ⟨a.kind, [(a.el.length : Int)], a.el⟩ else noA := rfl
  have hLC : arC a p = #[.int .i64 a.kind, .slice p.A0 a.sh.length p.c0, .slice p.A1 a.el.length p.c1] := rfl
  have HI := Lib.hid hI
  have HS := Lib.hid hs
  have HC := Lib.hid (fun W (h : OnI w a p W) => h.cells)
  obtain ⟨⟨x0, x1, x2⟩, ⟨r0, r1, r2⟩, f0, f1, f2⟩ := HC.out w1 hI
  obtain ⟨X, hX⟩ : ∃ X, raA a = X := ⟨_, rfl⟩
  obtain ⟨E, hE⟩ : ∃ E, checkE a = E := ⟨_, rfl⟩
  rw [hX, hE]
  rw [hX] at hA
  rw [hE] at hca HCA
  rw [hLC] at HCA hw1
  rw [hLC]
  clear ha hI hs hLC hX hE
  cases hoa : okA a
  · rw [hoa, if_neg (by decide)] at hca hA
    subst hca
    subst hA
    go_enter Try.func18, Try.ntmps18
    go_wp2_with (go_at_call 55; (try rw [hw1]); refine (HCA.out _ HI.out).mono ?_; rintro e w2 ⟨rfl, b2⟩; have hI2 := HI.out.below b2; obtain ⟨⟨x0, x1, x2⟩, ⟨r0, r1, r2⟩, f0, f1, f2⟩ := HC.out w2 hI2; have HI2 := Lib.hid hI2; clear b2 hI2)
    refine bodyPost_ret (results_arr2 rfl rfl rfl (arblk_three _ _ _ HI2.out.r)) rfl ?_
    exact GiveE.no rfl (HI2.out.fin _ _ _)
  · rw [hoa, if_pos rfl] at hca hA
    subst hca
    have hlen := (okA_len hoa).1
    obtain ⟨N, hN⟩ : ∃ N, a.el.length = N := ⟨_, rfl⟩
    rw [hN] at hlen hA hw1 HCA x2
    rw [hN]
    have HN := Lib.hid (And.intro hN hlen)
    have HCL : Hid (∀ W, AEl W a p → Calls Try.prog 57 #[.slice p.A1 N p.c1] W fun e w' => ∃ A' c', e = .returned (.slice A' N c') ∧ (w.heap.size + 2 ≤ W.heap.size → CpR 2 (w.heap.size + 2) a.el (.slice A' N c') w') ∧ Below W.heap.size W w') := Lib.hid (fun W h => by
      have h1 := h.r1
      rw [HN.out.1] at h1
      refine (arcloneL_any p.A1 N p.c1 a.el W HN.out.1 h1 (by have := HN.out.2; omega)).mono ?_
      rintro e w' ⟨A', c', rfl, o, b⟩
      refine ⟨A', c', rfl, fun hs => ?_, b⟩
      rw [← HN.out.1] at o ⊢
      exact CpR.mk (arown_mono o hs))
    have HMK : Hid (∀ A9 c9 B9 d9 W, W.ownsRow (w.heap.size + 2) 3 1 (.slice A9 [(N : Int)].length c9) [(N : Int)].length ([(N : Int)].map iv) → W.ownsRow (w.heap.size + 2) 2 1 (.slice B9 a.el.length d9) a.el.length (a.el.map iv) → CpA (w.heap.size + 2) X (.agg #[.int .i64 a.kind, .slice A9 1 c9, .slice B9 a.el.length d9]) W) := Lib.hid (fun A9 c9 B9 d9 W h1 h2 => by
      rw [hA]
      exact ⟨⟨A9, c9, B9, d9⟩, rfl, h1, h2⟩)
    have HZ : ∀ x ∈ [(5, CpR 3 (w.heap.size + 2) [(N : Int)]), (8, CpR 2 (w.heap.size + 2) a.el), (9, CpA (w.heap.size + 2) X)], stz w.heap.size x.2 := by
      intro x hx
      simp only [List.mem_cons, List.not_mem_nil, or_false] at hx
      rcases hx with rfl | rfl | rfl <;> first | exact cpR_z _ _ _ | exact cpA_z _ _
    have HCT : CT (CpT w a p) (CpF w.heap.size X) (lookU [(5, CpR 3 (w.heap.size + 2) [(N : Int)]), (8, CpR 2 (w.heap.size + 2) a.el), (9, CpA (w.heap.size + 2) X)]) := cpCTz HZ
    clear hA hN
    go_enter Try.func18, Try.ntmps18
    go_upto_region 4 with (go_at_call 55; (try rw [hw1]); refine (HCA.out _ HI.out).mono ?_; rintro e w2 ⟨rfl, b2⟩; have HS2 := Lib.hid ((cpCT w a p).t _ _ b2 HS.out); clear b2)
    clear x0 x1 x2 r0 r1 r2 f0 f1 f2
    refine wp_region_done_on (CS (CpT w a p) (CpF w.heap.size X) 10) (GR [5, 8, 9] (lookU [(5, CpR 3 (w.heap.size + 2) [(N : Int)]), (8, CpR 2 (w.heap.size + 2) a.el), (9, CpA (w.heap.size + 2) X)]) [.pointer (some ⟨w.heap.size, 0, none⟩), .int .i64 a.kind, .pointer (some ⟨w.heap.size, 2, none⟩), .slice p.A1 N p.c1, .int .i64 (N : Int), undef, .pointer (some ⟨w.heap.size, 2, none⟩), .slice p.A1 N p.c1, undef, undef, undef, .int .i64 0]) (by kernel_rfl) 21 rfl (by kernel_rfl) ⟨cpT_drew HS2.out, fun e => by cases e⟩ ?_ ?_
    · intro i hi
      have hi2 : i < 12 := hi
      clear hi
      rcases i with _ | i
      · refine cs_value (by decide) rfl (by decide) (.pointer (some ⟨w.heap.size, 0, none⟩)) rfl ?_
        intro a8 w8 hb8 ho hn
        have o1 : a8.tmps[1]? = some _ := (ho 1 (by kernel_rfl)).trans rfl
        clear ho hn
        refine ⟨wanted_free rfl, ?_⟩
        go_simp
      rcases i with _ | i
      · refine cs_value (by decide) rfl (by decide) (.int .i64 a.kind) rfl ?_
        intro a8 w8 hb8 ho hn
        obtain ⟨v11, n11, hq11⟩ := hn 0 11 (by kernel_rfl) rfl
        obtain rfl := hq11.1 (by decide)
        clear ho hn
        refine ⟨wanted_free rfl, ?_⟩
        obtain ⟨x0, x1, x2⟩ := hb8.cells
        go_simp
      rcases i with _ | i
      · refine cs_value (by decide) rfl (by decide) (.pointer (some ⟨w.heap.size, 2, none⟩)) rfl ?_
        intro a8 w8 hb8 ho hn
        have o1 : a8.tmps[1]? = some _ := (ho 1 (by kernel_rfl)).trans rfl
        clear ho hn
        refine ⟨wanted_free rfl, ?_⟩
        go_simp
      rcases i with _ | i
      · refine cs_value (by decide) rfl (by decide) (.slice p.A1 N p.c1) rfl ?_
        intro a8 w8 hb8 ho hn
        obtain ⟨v13, n13, hq13⟩ := hn 2 13 (by kernel_rfl) rfl
        obtain rfl := hq13.1 (by decide)
        clear ho hn
        refine ⟨wanted_free rfl, ?_⟩
        obtain ⟨x0, x1, x2⟩ := hb8.cells
        rw [HN.out.1] at x2
        go_simp
      rcases i with _ | i
      · refine cs_value (by decide) rfl (by decide) (.int .i64 (N : Int)) rfl ?_
        intro a8 w8 hb8 ho hn
        obtain ⟨v14, n14, hq14⟩ := hn 3 14 (by kernel_rfl) rfl
        obtain rfl := hq14.1 (by decide)
        clear ho hn
        refine ⟨wanted_free rfl, ?_⟩
        go_simp
      rcases i with _ | i
      · refine cs_make HCT (by decide) rfl (by decide) ?_
        intro a8 w8 hb8 ho hn
        obtain ⟨v15, n15, hq15⟩ := hn 4 15 (by kernel_rfl) rfl
        obtain rfl := hq15.1 (by decide)
        clear ho hn
        refine ⟨wanted_free rfl, ?_⟩
        refine ⟨.slice (some ⟨w8.heap.size, 0, none⟩) 1 1, w8.alloc (.cells #[.int .i64 (N : Int)] 3), (by go_simp), albel _ _, CpR.mk (l := [(N : Int)]) (arown_lit w8 _ hb8.s _)⟩
      rcases i with _ | i
      · refine cs_value (by decide) rfl (by decide) (.pointer (some ⟨w.heap.size, 2, none⟩)) rfl ?_
        intro a8 w8 hb8 ho hn
        have o1 : a8.tmps[1]? = some _ := (ho 1 (by kernel_rfl)).trans rfl
        clear ho hn
        refine ⟨wanted_free rfl, ?_⟩
        go_simp
      rcases i with _ | i
      · refine cs_value (by decide) rfl (by decide) (.slice p.A1 N p.c1) rfl ?_
        intro a8 w8 hb8 ho hn
        obtain ⟨v17, n17, hq17⟩ := hn 6 17 (by kernel_rfl) rfl
        obtain rfl := hq17.1 (by decide)
        clear ho hn
        refine ⟨wanted_free rfl, ?_⟩
        obtain ⟨x0, x1, x2⟩ := hb8.cells
        rw [HN.out.1] at x2
        go_simp
      rcases i with _ | i
      · refine cs_call HCT 57 (by decide) rfl (by decide) ?_
        intro a8 w8 hb8 ho hn
        obtain ⟨v18, n18, hq18⟩ := hn 7 18 (by kernel_rfl) rfl
        obtain rfl := hq18.1 (by decide)
        clear ho hn
        refine ⟨wanted_free rfl, ?_⟩
        refine ⟨#[.slice p.A1 N p.c1], (by go_simp), (HCL.out w8 hb8.el).mono ?_⟩
        rintro e w9 ⟨A9, c9, rfl, o9, b9⟩
        exact ⟨_, rfl, b9, o9 hb8.s⟩
      rcases i with _ | i
      · refine cs_make HCT (by decide) rfl (by decide) ?_
        intro a8 w8 hb8 ho hn
        obtain ⟨v12, n12, hq12⟩ := hn 1 12 (by kernel_rfl) rfl
        obtain rfl := hq12.1 (by decide)
        obtain ⟨v16, n16, hq16⟩ := hn 5 16 (by kernel_rfl) rfl
        have hv16 : CpR 3 (w.heap.size + 2) [(N : Int)] v16 w8 := hq16.2 (by decide)
        obtain ⟨v19, n19, hq19⟩ := hn 8 19 (by kernel_rfl) rfl
        have hv19 : CpR 2 (w.heap.size + 2) a.el v19 w8 := hq19.2 (by decide)
        clear ho hn
        refine ⟨wanted_free rfl, ?_⟩
        obtain ⟨A9, c9, rfl, o9⟩ := hv16
        obtain ⟨B9, d9, rfl, p9⟩ := hv19
        exact ⟨.agg #[.int .i64 a.kind, .slice A9 1 c9, .slice B9 a.el.length d9], w8, (by go_simp), Below.refl _ _, HMK.out A9 c9 B9 d9 w8 o9 p9⟩
      rcases i with _ | i
      · refine cs_store rfl rfl (by decide) rfl ?_
        intro a8 w8 hb8 ho hn
        have o2 : a8.tmps[2]? = some _ := (ho 2 (by kernel_rfl)).trans rfl
        obtain ⟨v20, n20, hq20⟩ := hn 9 20 (by kernel_rfl) rfl
        have hv20 : CpA (w.heap.size + 2) X v20 w8 := hq20.2 (by decide)
        clear ho hn
        refine ⟨wanted_free rfl, ?_⟩
        obtain ⟨q9, rfl, ow9⟩ := hv20
        obtain ⟨y0, y1, y2, r9⟩ := hb8.r
        have x0 := r9.cell 0
        have x1 := r9.cell 1
        have x2 := r9.cell 2
        have f0 := r9.frozen 0
        have f1 := r9.frozen 1
        have f2 := r9.frozen 2
        refine ⟨((w8.setCell ⟨w.heap.size + 1, 0, none⟩ (.int .i64 X.kind)).setCell ⟨w.heap.size + 1, 1, none⟩ (.slice q9.A0 X.sh.length q9.c0)).setCell ⟨w.heap.size + 1, 2, none⟩ (.slice q9.A1 X.el.length q9.c1), ?_, hb8.store r9 _ _ _, cpF_store r9 ow9, fun j v h => lookU_z HZ w8 _ _ _ j v h⟩
        clear hb8 r9 ow9
        unfold arC at *
        go_simp
      rcases i with _ | i
      · refine cs_value (by decide) rfl (by decide) (.int .i64 0) rfl ?_
        intro a8 w8 hb8 ho hn
        clear ho hn
        refine ⟨wanted_free rfl, ?_⟩
        go_simp
      omega
    · intro dn fv w5 hb5 hR5 hall
      have h3 : fv 3 = _ := (hR5 11 3 rfl).1 (by decide)
      simp only [putAll, List.foldl_cons, List.foldl_nil, Act.put, List.setIfInBounds_toArray, List.set_cons_succ, List.set_cons_zero, h3, List.getD_cons_zero, List.getD_cons_succ]
      have hfin := hb5.2 (hall 10 (by decide))
      have hfb := hb5.1.b
      clear hR5 hall hb5
      obtain ⟨q, hq, ho⟩ := hfin
      go_wp2
      refine bodyPost_ret (results_arr2 rfl rfl rfl hq) rfl ?_
      exact ⟨q, rfl, ⟨arown_mono ho.o0 (by omega), arown_mono ho.o1 (by omega)⟩, hfb⟩
end Go.Proofs.Ythadnhcgoefljaa.mo

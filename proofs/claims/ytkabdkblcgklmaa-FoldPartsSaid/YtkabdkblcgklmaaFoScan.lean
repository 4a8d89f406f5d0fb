/-
  Layer 16 (fold): rowsOf, beginning, Scan.
-/
import Derived.Test.YtkabdkblcgklmaaFoLook
import Derived.Test.YtkabdkblcgklmaaFoKit
namespace Go.Proofs.Ytkabdkblcgklmaa.fo
open Go.RowKit Go.Proofs.Ytkabdkblcgklmaa.arr Go.Proofs.Ytkabdkblcgklmaa.sc

theorem load_rows (w : World) (g : Nat) (x y z : Value) (hb : Blk w g 110 #[x, y, z]) : (loadVar 110 ⟨g, 0, none⟩).run Try.prog w = .ok (.agg #[x, y, z]) w := by
  have h1 : w.rangeAt g 0 [x, y, z] := fun j v hv => by
    rw [Nat.zero_add, hb.cell]
    simpa using hv
  exact run_loadVar_mid w g 0 110 [x, y, z] _ h1 Try.underlying110 rfl (by kernel_rfl)
theorem results_rows2 {fn : Func} {t i : Tmp} {tmps : Array Value} {w : World} {g : Nat} {x y z v : Value} (h : fn.results = #[.cell t 110, .tmp i]) (ht : tmps.getD t undef = .pointer (some ⟨g, 0, none⟩)) (hv : tmps.getD i undef = v) (hb : Blk w g 110 #[x, y, z]) : (results fn tmps).run Try.prog w = .ok (.tuple #[.agg #[x, y, z], v]) w := by
  have h1 := load_rows w g x y z hb
  rw [Array.getD_eq_getD_getElem?] at ht hv
  simp [results, h, ht, h1, hv, asAddr]
def rowsC (f : Int) (a : AV) (p : AP) : Array Value := if rowsE f a = 0 then #[.int .i64 f, .slice p.A1 a.el.length p.c1, .int .i64 (longI a.sh)] else #[.int .i64 0, .slice none 0 0, .int .i64 0]
theorem chk_rows (f : Int) (a : AV) : (chkE [f] [a] ≠ 0 → rowsE f a = chkE [f] [a]) ∧ (chkE [f] [a] = 0 → binB f = true ∧ okA a = true ∧ rowsE f a = if a.kind = 2 then 5 else 0) := by
  unfold chkE rowsE
  rw [List.all_cons, List.all_cons, List.all_nil, List.all_nil, Bool.and_true, Bool.and_true]
  cases binB f
  · exact ⟨fun _ => rfl, fun h => by cases h⟩
  · cases okA a
    · exact ⟨fun _ => rfl, fun h => by cases h⟩
    · exact ⟨fun h => absurd rfl h, fun _ => ⟨rfl, rfl, rfl⟩⟩
set_option maxRecDepth 100000 in
set_option maxHeartbeats 4000000 in
theorem forowsof_any (f : Int) (a : AV) (p : AP) (w : World) (ea : AEl w a p) (hc : a.sh.length ≤ p.c0) :
    Calls Try.prog 77 #[.int .i64 f, .agg (arC a p)] w fun e w' => e = .returned (.tuple #[.agg (rowsC f a p), .int .i64 (rowsE f a)]) ∧ Below w.heap.size w w' := by
  obtain ⟨w1, hw1⟩ : ∃ w1, (w.alloc (.cells (arC a p) 25)).alloc (.cells #[.int .i64 0, .slice none 0 0, .int .i64 0] 110) = w1 := ⟨_, rfl⟩
  have hx : Blk w1 w.heap.size 25 (arC a p) := by rw [← hw1]; exact (Blk.new w _ _).alloc _
  have hr : Blk w1 (w.heap.size + 1) 110 #[.int .i64 0, .slice none 0 0, .int .i64 0] := by rw [← hw1]; exact blk_n2 w _ _ _
  have hb1 : Below w.heap.size w w1 := by rw [← hw1]; exact below_n2 w _ _
  have hs1 : w1.heap.size = w.heap.size + 1 + 1 := by rw [← hw1]; simp
  have he1 : AEl w1 a p := ea.below hb1
  have hLC : arC a p = #[.int .i64 a.kind, .slice p.A0 a.sh.length p.c0, .slice p.A1 a.el.length p.c1] := rfl
  have HCK : Hid (∀ W, Below w1.heap.size w1 W → Calls Try.prog 90 #[.slice (some ⟨W.heap.size, 0, none⟩) 1 1, .slice (some ⟨W.heap.size + 1, 0, none⟩) 1 1] ((W.alloc (.cells #[.int .i64 f] 3)).alloc (.cells #[.int .i64 a.kind, .slice p.A0 a.sh.length p.c0, .slice p.A1 a.el.length p.c1] 25)) fun e w' => e = .returned (.int .i64 (chkE [f] [a])) ∧ Below W.heap.size W w') := Lib.hid (fun W hb => by
    have h1 : AEl (W.alloc (.cells #[.int .i64 f] 3)) a p := (he1.below hb).below (alloc_below _ _)
    have h2 := Ars.one h1
    rw [World.size_alloc] at h2
    have hal := below_n2 W (.cells #[.int .i64 f] 3) (.cells (arC a p) 25)
    refine (fochk_any (some ⟨W.heap.size, 0, none⟩) 1 1 [f] (W.heap.size + 1) 1 1 [a] _ rfl ?_ (by omega) rfl h2 (by omega)).mono ?_
    · refine ⟨rfl, fun _ => ⟨_, rfl, by simp; omega, fun j u hu => ?_⟩⟩
      rw [Addr.add_mid, Nat.zero_add, ((Blk.new W 3 #[.int .i64 f]).alloc (.cells (arC a p) 25)).cell j, List.getElem?_toArray]
      exact hu
    · rintro e w' ⟨rfl, b⟩
      exact ⟨rfl, hal.trans (b.mono hal.size)⟩)
  have HS := Lib.hid hs1
  have HB1 := Lib.hid hb1
  have HX : Hid (Blk w1 w.heap.size 25 #[.int .i64 a.kind, .slice p.A0 a.sh.length p.c0, .slice p.A1 a.el.length p.c1]) := Lib.hid hx
  have HR := Lib.hid hr
  have HE1 := Lib.hid he1
  obtain ⟨hch1, hch2⟩ := chk_rows f a
  have hrc : rowsC f a p = if rowsE f a = 0 then #[.int .i64 f, .slice p.A1 a.el.length p.c1, .int .i64 (longI a.sh)] else #[.int .i64 0, .slice none 0 0, .int .i64 0] := rfl
  obtain ⟨E, hE⟩ : ∃ E, chkE [f] [a] = E := ⟨_, rfl⟩
  rw [hE] at HCK hch1 hch2
  have x0 := hx.cell 0
  have x1 := hx.cell 1
  have x2 := hx.cell 2
  rw [hLC] at hw1 x0 x1 x2
  rw [hLC]
  by_cases h0 : E = 0
  · subst h0
    obtain ⟨hbin, hok, hre⟩ := hch2 rfl
    have hko : okShape a.sh = true := (okA_iff.1 hok).1
    have HRW : Hid (∀ W, Below w1.heap.size w1 W → Calls Try.prog 32 #[.slice p.A0 a.sh.length p.c0] W fun e w' => ∃ x, e = .returned (.tuple #[.int .i64 x, .int .i64 (longI a.sh)]) ∧ Below W.heap.size W w') := Lib.hid (fun W hb => by
      have h := (he1.below hb)
      refine (forows_any p.A0 a.sh.length p.c0 a.sh W rfl h.r0 h.b0 hc).mono ?_
      rintro e w' ⟨rfl, b⟩
      unfold rowsV
      rw [hko, if_neg (by decide)]
      exact ⟨_, rfl, b⟩)
    by_cases hk : a.kind = 2
    · rw [if_pos hk] at hre
      rw [hre, if_neg (by decide)] at hrc
      rw [hrc, hre]
      rw [hk] at hw1 x0 HCK HX
      rw [hk]
      clear ea he1 hb1 hch1 hch2 hE hLC hrc hre hbin hok hko hk hx hr
      go_enter Try.func77, Try.ntmps77
      go_wp2_with (go_at_call 90; (try simp only [HS.out.symm]); refine (HCK.out w1 (Below.refl _ _)).mono ?_; rintro e w4 ⟨rfl, b4⟩; have r4 := HR.out.below b4 HR.out.lt; have y0 := (HX.out.below b4 HX.out.lt).cell 0; have f0 := r4.cell 0; have f1 := r4.cell 1; have f2 := r4.cell 2; have q0 := r4.frozen 0; have q1 := r4.frozen 1; have q2 := r4.frozen 2; have R4 := Lib.hid r4; have B4 := Lib.hid b4; clear r4 b4)
      refine bodyPost_ret (results_rows2 rfl rfl rfl (arblk_three _ _ _ R4.out)) rfl ?_
      exact ⟨rfl, (HB1.out.trans (B4.out.mono HB1.out.size)).trans ((arkeep_three w4 (w.heap.size + 1) _ _ _).below (HB1.out.trans (B4.out.mono HB1.out.size)).size (fun i hi e => by omega))⟩
    · rw [if_neg hk] at hre
      rw [hre, if_pos rfl] at hrc
      rw [hrc, hre]
      have hk2 : (a.kind == 2) = false := by simp [hk]
      generalize longI a.sh = LL at *
      generalize a.kind = ka at *
      clear ea he1 hb1 hch1 hch2 hE hLC hrc hre hbin hok hko hk hr
      go_enter Try.func77, Try.ntmps77
      go_wp2_with (first
        | (go_at_call 32; refine (HRW.out _ B4.out).mono ?_; rintro e w5 ⟨zz, rfl, b5⟩; have b5' := B4.out.trans (b5.mono B4.out.size); have r4 := HR.out.below b5' HR.out.lt; have y0 := (HX.out.below b5' HX.out.lt).cell 0; have y1 := (HX.out.below b5' HX.out.lt).cell 1; have y2 := (HX.out.below b5' HX.out.lt).cell 2; have f0 := r4.cell 0; have f1 := r4.cell 1; have f2 := r4.cell 2; have q0 := r4.frozen 0; have q1 := r4.frozen 1; have q2 := r4.frozen 2; have R4 := Lib.hid r4; have B5 := Lib.hid b5'; clear r4 b5 b5')
        | (go_at_call 90; (try simp only [HS.out.symm]); refine (HCK.out w1 (Below.refl _ _)).mono ?_; rintro e w4 ⟨rfl, b4⟩; have y0 := (HX.out.below b4 HX.out.lt).cell 0; have y1 := (HX.out.below b4 HX.out.lt).cell 1; have B4 := Lib.hid b4; clear b4))
      refine bodyPost_ret (results_rows2 rfl rfl rfl (arblk_three _ _ _ R4.out)) rfl ?_
      exact ⟨rfl, (HB1.out.trans (B5.out.mono HB1.out.size)).trans ((arkeep_three w5 (w.heap.size + 1) _ _ _).below (HB1.out.trans (B5.out.mono HB1.out.size)).size (fun i hi e => by omega))⟩
  · have hre := hch1 h0
    rw [hre, if_neg h0] at hrc
    rw [hrc, hre]
    have hne : (E != 0) = true := by simp [h0]
    clear ea he1 hb1 hch1 hch2 hE hLC hrc hre hx hr h0
    go_enter Try.func77, Try.ntmps77
    go_wp2_with (go_at_call 90; (try simp only [HS.out.symm]); refine (HCK.out w1 (Below.refl _ _)).mono ?_; rintro e w4 ⟨rfl, b4⟩; have r4 := HR.out.below b4 HR.out.lt; have f0 := r4.cell 0; have f1 := r4.cell 1; have f2 := r4.cell 2; have q0 := r4.frozen 0; have q1 := r4.frozen 1; have q2 := r4.frozen 2; have R4 := Lib.hid r4; have B4 := Lib.hid b4; clear r4 b4)
    refine bodyPost_ret (results_rows2 rfl rfl rfl (arblk_three _ _ _ R4.out)) rfl ?_
    exact ⟨rfl, (HB1.out.trans (B4.out.mono HB1.out.size)).trans ((arkeep_three w4 (w.heap.size + 1) _ _ _).below (HB1.out.trans (B4.out.mono HB1.out.size)).size (fun i hi e => by omega))⟩

/-! ### A beginning of a row -/
set_option maxRecDepth 100000 in
set_option maxHeartbeats 4000000 in
theorem fobeg_any (f : Int) (A : Option Addr) (n c L : Nat) (l : List Int) (i : Nat) (w : World) (hl : l.length = n) (hr : Reads w w.heap.size 1 A n (l.map iv)) (hn : n ≤ 100000) (hL : 0 < L) (hL1 : L ≤ 100000) (hi : i < n) (hc : n ≤ c) (hin : ∀ x ∈ l, InR x) :
    Calls Try.prog 83 #[.agg #[.int .i64 f, .slice A n c, .int .i64 (L : Int)], .int .i64 (i : Int)] w fun e w' => e = .returned (.tuple #[.int .i64 (rowV f ((l.drop (i - i % L)).take (i % L + 1))), .int .i64 (rowE f ((l.drop (i - i % L)).take (i % L + 1)))]) ∧ Below w.heap.size w w' := by
  obtain ⟨ad, rfl, hla, hca⟩ := hr.int_at hi hl
  clear hca
  obtain ⟨m, hm⟩ : ∃ m, i % L = m := ⟨_, rfl⟩
  have hmi : m ≤ i := by rw [← hm]; exact Nat.mod_le _ _
  obtain ⟨lo, hlo⟩ : ∃ lo, i - m = lo := ⟨_, rfl⟩
  rw [hm, hlo]
  have et : (i : Int).tmod (L : Int) = (m : Int) := by rw [← hm]; exact (Int.ofNat_tmod i L).symm
  obtain ⟨w1, hw1⟩ : ∃ w1, w.alloc (.cells #[.int .i64 f, .slice (some ad) n c, .int .i64 (L : Int)] 110) = w1 := ⟨_, rfl⟩
  have hb1 : Below w.heap.size w w1 := by rw [← hw1]; exact alloc_below _ _
  have hx : Blk w1 w.heap.size 110 #[.int .i64 f, .slice (some ad) n c, .int .i64 (L : Int)] := by rw [← hw1]; exact Blk.new w _ _
  have HBX : Hid (∀ W, Below w1.heap.size w1 W → W.cell? ⟨w.heap.size, 0, none⟩ = some (.int .i64 f) ∧ W.cell? ⟨w.heap.size, 1, none⟩ = some (.slice (some ad) n c) ∧ W.cell? ⟨w.heap.size, 2, none⟩ = some (.int .i64 (L : Int))) := Lib.hid (fun W hb => by
    have h := hx.below hb hx.lt
    exact ⟨h.cell 0, h.cell 1, h.cell 2⟩)
  have hwl : ((l.drop lo).take (m + 1)).length = m + 1 := by rw [List.length_take, List.length_drop]; omega
  have HRW : Hid (∀ W, Below w1.heap.size w1 W → Calls Try.prog 30 #[.int .i64 f, .slice (some (ad.add lo)) (m + 1) (c - lo)] W fun e w' => e = .returned (.tuple #[.int .i64 (rowV f ((l.drop lo).take (m + 1))), .int .i64 (rowE f ((l.drop lo).take (m + 1)))]) ∧ Below W.heap.size W w') := Lib.hid (fun W hb => by
    have hbb := hb1.trans (hb.mono hb1.size)
    have h := reads_win (i := lo) (k := m + 1) (cap := c) ((hr.below hbb).more hbb.size) (by omega) hc
    rw [if_neg (by omega)] at h
    exact forow_any f (some (ad.add lo)) (m + 1) (c - lo) _ W hwl h (by omega) (fun x hx => hin x (List.mem_of_mem_drop (List.mem_of_mem_take hx))))
  obtain ⟨V, hV⟩ : ∃ V, rowV f ((l.drop lo).take (m + 1)) = V := ⟨_, rfl⟩
  obtain ⟨E, hE⟩ : ∃ E, rowE f ((l.drop lo).take (m + 1)) = E := ⟨_, rfl⟩
  rw [hV, hE] at HRW
  rw [hV, hE]
  have HB1 := Lib.hid hb1
  have hL0 : ¬ L = 0 := by omega
  have hL0' : ¬ (L : Int) = 0 := by omega
  have e1 : (i : Int) - (m : Int) = (lo : Int) := by omega
  have w1' : IntKind.i64.wrap ((i : Int) + 1) = (i : Int) + 1 := by rw [IntKind.wrap_i64]; omega
  have w2' : IntKind.i64.wrap (lo : Int) = (lo : Int) := by rw [IntKind.wrap_i64]; omega
  have w3' : IntKind.i64.wrap (m : Int) = (m : Int) := by rw [IntKind.wrap_i64]; omega
  have g1 : (lo : Int) ≤ (i : Int) + 1 := by omega
  have g2 : (i : Int) + 1 ≤ (c : Int) := by omega
  have g3 : i + 1 - lo = m + 1 := by omega
  have g4 : ¬ c = lo := by omega
  have g5 : i + 1 ≤ c := by omega
  have g6 : lo ≤ i + 1 := by omega
  clear hla hm hlo hb1 hx hwl hV hE hl hr hin
  go_enter Try.func83, Try.ntmps83
  go_wp2
  refine wp_region_done_on (GS w1) (GR [13] (fun (_ : Nat) (v : Value) (_ : World) => v = .tuple #[.int .i64 V, .int .i64 E]) [.pointer (some ⟨w.heap.size, 0, none⟩), .int .i64 f, .pointer (some ⟨w.heap.size, 1, none⟩), .slice (some ad) n c, .int .i64 (i : Int), .int .i64 (i : Int), .pointer (some ⟨w.heap.size, 2, none⟩), .int .i64 (L : Int), .int .i64 (m : Int), .int .i64 (lo : Int), .int .i64 (i : Int), .int .i64 ((i : Int) + 1), .slice (some (ad.add lo)) (m + 1) (c - lo), undef, .int .i64 V, .int .i64 E, .int .i64 V, .int .i64 E]) (by kernel_rfl) 22 rfl (by kernel_rfl) ((Below.refl _ _).drew) ?_ ?_
  · intro i hi
    have hi2 : i < 18 := hi
    clear hi
    rcases i with _ | i
    · refine gr_value rfl (by decide) (.pointer (some ⟨w.heap.size, 0, none⟩)) rfl ?_
      intro a8 w8 hb8 ho hn
      have o2 : a8.tmps[2]? = some _ := (ho 2 (by kernel_rfl)).trans rfl
      clear ho hn
      refine ⟨wanted_free rfl, ?_⟩
      go_simp
    rcases i with _ | i
    · refine gr_value rfl (by decide) (.int .i64 f) rfl ?_
      intro a8 w8 hb8 ho hn
      obtain ⟨v6, n6, hq6⟩ := hn 0 6 (by kernel_rfl) rfl
      obtain rfl := hq6.1 (by decide)
      clear ho hn
      refine ⟨wanted_free rfl, ?_⟩
      obtain ⟨y0, y1, y2⟩ := HBX.out w8 hb8
      go_simp
    rcases i with _ | i
    · refine gr_value rfl (by decide) (.pointer (some ⟨w.heap.size, 1, none⟩)) rfl ?_
      intro a8 w8 hb8 ho hn
      have o2 : a8.tmps[2]? = some _ := (ho 2 (by kernel_rfl)).trans rfl
      clear ho hn
      refine ⟨wanted_free rfl, ?_⟩
      go_simp
    rcases i with _ | i
    · refine gr_value rfl (by decide) (.slice (some ad) n c) rfl ?_
      intro a8 w8 hb8 ho hn
      obtain ⟨v8, n8, hq8⟩ := hn 2 8 (by kernel_rfl) rfl
      obtain rfl := hq8.1 (by decide)
      clear ho hn
      refine ⟨wanted_free rfl, ?_⟩
      obtain ⟨y0, y1, y2⟩ := HBX.out w8 hb8
      go_simp
    rcases i with _ | i
    · refine gr_value rfl (by decide) (.int .i64 (i : Int)) rfl ?_
      intro a8 w8 hb8 ho hn
      have o1 : a8.tmps[1]? = some _ := (ho 1 (by kernel_rfl)).trans rfl
      clear ho hn
      refine ⟨wanted_free rfl, ?_⟩
      go_simp
    rcases i with _ | i
    · refine gr_value rfl (by decide) (.int .i64 (i : Int)) rfl ?_
      intro a8 w8 hb8 ho hn
      have o1 : a8.tmps[1]? = some _ := (ho 1 (by kernel_rfl)).trans rfl
      clear ho hn
      refine ⟨wanted_free rfl, ?_⟩
      go_simp
    rcases i with _ | i
    · refine gr_value rfl (by decide) (.pointer (some ⟨w.heap.size, 2, none⟩)) rfl ?_
      intro a8 w8 hb8 ho hn
      have o2 : a8.tmps[2]? = some _ := (ho 2 (by kernel_rfl)).trans rfl
      clear ho hn
      refine ⟨wanted_free rfl, ?_⟩
      go_simp
    rcases i with _ | i
    · refine gr_value rfl (by decide) (.int .i64 (L : Int)) rfl ?_
      intro a8 w8 hb8 ho hn
      obtain ⟨v12, n12, hq12⟩ := hn 6 12 (by kernel_rfl) rfl
      obtain rfl := hq12.1 (by decide)
      clear ho hn
      refine ⟨wanted_free rfl, ?_⟩
      obtain ⟨y0, y1, y2⟩ := HBX.out w8 hb8
      go_simp
    rcases i with _ | i
    · refine gr_value rfl (by decide) (.int .i64 (m : Int)) rfl ?_
      intro a8 w8 hb8 ho hn
      obtain ⟨v11, n11, hq11⟩ := hn 5 11 (by kernel_rfl) rfl
      obtain rfl := hq11.1 (by decide)
      obtain ⟨v13, n13, hq13⟩ := hn 7 13 (by kernel_rfl) rfl
      obtain rfl := hq13.1 (by decide)
      clear ho hn
      refine ⟨wanted_free rfl, ?_⟩
      go_simp
    rcases i with _ | i
    · refine gr_value rfl (by decide) (.int .i64 (lo : Int)) rfl ?_
      intro a8 w8 hb8 ho hn
      obtain ⟨v10, n10, hq10⟩ := hn 4 10 (by kernel_rfl) rfl
      obtain rfl := hq10.1 (by decide)
      obtain ⟨v14, n14, hq14⟩ := hn 8 14 (by kernel_rfl) rfl
      obtain rfl := hq14.1 (by decide)
      clear ho hn
      refine ⟨wanted_free rfl, ?_⟩
      go_simp
    rcases i with _ | i
    · refine gr_value rfl (by decide) (.int .i64 (i : Int)) rfl ?_
      intro a8 w8 hb8 ho hn
      have o1 : a8.tmps[1]? = some _ := (ho 1 (by kernel_rfl)).trans rfl
      clear ho hn
      refine ⟨wanted_free rfl, ?_⟩
      go_simp
    rcases i with _ | i
    · refine gr_value rfl (by decide) (.int .i64 ((i : Int) + 1)) rfl ?_
      intro a8 w8 hb8 ho hn
      obtain ⟨v16, n16, hq16⟩ := hn 10 16 (by kernel_rfl) rfl
      obtain rfl := hq16.1 (by decide)
      clear ho hn
      refine ⟨wanted_free rfl, ?_⟩
      go_simp
    rcases i with _ | i
    · refine gr_value rfl (by decide) (.slice (some (ad.add lo)) (m + 1) (c - lo)) rfl ?_
      intro a8 w8 hb8 ho hn
      obtain ⟨v9, n9, hq9⟩ := hn 3 9 (by kernel_rfl) rfl
      obtain rfl := hq9.1 (by decide)
      obtain ⟨v15, n15, hq15⟩ := hn 9 15 (by kernel_rfl) rfl
      obtain rfl := hq15.1 (by decide)
      obtain ⟨v17, n17, hq17⟩ := hn 11 17 (by kernel_rfl) rfl
      obtain rfl := hq17.1 (by decide)
      clear ho hn
      refine ⟨wanted_free rfl, ?_⟩
      go_simp
    rcases i with _ | i
    · refine gr_call (fun _ _ _ _ _ h => h) 30 rfl (by decide) ?_
      intro a8 w8 hb8 ho hn
      obtain ⟨v7, n7, hq7⟩ := hn 1 7 (by kernel_rfl) rfl
      obtain rfl := hq7.1 (by decide)
      obtain ⟨v18, n18, hq18⟩ := hn 12 18 (by kernel_rfl) rfl
      obtain rfl := hq18.1 (by decide)
      clear ho hn
      refine ⟨wanted_free rfl, ?_⟩
      refine ⟨#[.int .i64 f, .slice (some (ad.add lo)) (m + 1) (c - lo)], (by go_simp), (HRW.out w8 hb8).mono ?_⟩
      rintro e w9 ⟨rfl, b9⟩
      exact ⟨_, rfl, b9, rfl⟩
    rcases i with _ | i
    · refine gr_value rfl (by decide) (.int .i64 V) rfl ?_
      intro a8 w8 hb8 ho hn
      obtain ⟨v19, n19, hq19⟩ := hn 13 19 (by kernel_rfl) rfl
      have hv19 := hq19.2 (by decide)
      clear ho hn
      refine ⟨wanted_free rfl, ?_⟩
      obtain rfl : v19 = .tuple #[.int .i64 V, .int .i64 E] := hv19
      clear hq19
      go_simp
    rcases i with _ | i
    · refine gr_value rfl (by decide) (.int .i64 E) rfl ?_
      intro a8 w8 hb8 ho hn
      obtain ⟨v19, n19, hq19⟩ := hn 13 19 (by kernel_rfl) rfl
      have hv19 := hq19.2 (by decide)
      clear ho hn
      refine ⟨wanted_free rfl, ?_⟩
      obtain rfl : v19 = .tuple #[.int .i64 V, .int .i64 E] := hv19
      clear hq19
      go_simp
    rcases i with _ | i
    · refine gr_value rfl (by decide) (.int .i64 V) rfl ?_
      intro a8 w8 hb8 ho hn
      obtain ⟨v20, n20, hq20⟩ := hn 14 20 (by kernel_rfl) rfl
      obtain rfl := hq20.1 (by decide)
      clear ho hn
      refine ⟨wanted_free rfl, ?_⟩
      go_simp
    rcases i with _ | i
    · refine gr_value rfl (by decide) (.int .i64 E) rfl ?_
      intro a8 w8 hb8 ho hn
      obtain ⟨v21, n21, hq21⟩ := hn 15 21 (by kernel_rfl) rfl
      obtain rfl := hq21.1 (by decide)
      clear ho hn
      refine ⟨wanted_free rfl, ?_⟩
      go_simp
    omega
  · intro dn fv w5 hb5 hR5 hall
    have h4 : fv 4 = _ := (hR5 16 4 rfl).1 (by decide)
    have h5 : fv 5 = _ := (hR5 17 5 rfl).1 (by decide)
    simp only [putAll, List.foldl_cons, List.foldl_nil, Act.put, List.setIfInBounds_toArray, List.set_cons_succ, List.set_cons_zero, h4, h5, List.getD_cons_zero, List.getD_cons_succ]
    clear hR5 hall
    go_wp2
    go_ret2
    exact ⟨rfl, HB1.out.trans (hb5.mono HB1.out.size)⟩

/-! ### Scan -/
def ScT (w : World) (a : AV) (p : AP) (g : Nat) (cs : Array Value) (W : World) : Prop := CpT w a p W ∧ Blk W g 110 cs
def ScU (X : AV) (E : Int) (B : Nat) (v : Value) (W : World) : Prop := ∃ q, v = .tuple #[.agg (arC X q), .int .i64 E] ∧ AOwn B W X q
theorem scU_z (X : AV) (E : Int) (z : Nat) : stz z (ScU X E (z + 2)) := ⟨fun v W W' hb h => by
    obtain ⟨q, rfl, h⟩ := h
    exact ⟨q, rfl, h.stay hb (Nat.le_refl _)⟩, fun v W x y u h => by
    obtain ⟨q, rfl, h⟩ := h
    exact ⟨q, rfl, h.keep (arkeep_three W (z + 1) x y u) (fun k h1 _ _ e => by omega)⟩⟩
theorem scCT {w : World} {a X : AV} {p : AP} {g : Nat} {cs : Array Value} {l : List (Nat × (Value → World → Prop))} (hl : ∀ x ∈ l, stz w.heap.size x.2) : CT (ScT w a p g cs) (CpF w.heap.size X) (lookU l) :=
  ⟨fun W W' hb h => ⟨(cpCT w a p).t W W' hb h.1, h.2.below hb h.2.lt⟩, (cpCT w X p).f, lookU_stay (fun x hx => (hl x hx).1)⟩
/-- What made answers, its shape a list of the call's own. -/
theorem apA_scU {gv ge : Nat → Int} {S : Option Addr} {c N B : Nat} {sh : List Int} {W w' : World} {e : Ending} (h : ApA gv ge S sh.length c N W e w') (o : W.ownsRow B 3 1 (.slice S sh.length c) sh.length (sh.map iv)) (hB : B ≤ W.heap.size) :
    ∃ v, e = .returned v ∧ Below W.heap.size W w' ∧ ScU (if apE ge N = 0 then ⟨1, sh, apL gv N⟩ else ⟨0, [], []⟩) (apE ge N) B v w' := by
  obtain ⟨v, rfl, b, n0, n1⟩ := h
  refine ⟨_, rfl, b, ?_⟩
  by_cases h0 : apE ge N = 0
  · obtain ⟨A, c', rfl, o1⟩ := n1 h0
    rw [if_pos h0]
    refine ⟨⟨S, c, A, c'⟩, ?_, arown_stay o b (fun g hg => (arown_lt o g hg).2), ?_⟩
    · unfold arC
      simp only [apL_length]
    · show World.ownsRow _ B 2 1 (.slice A (apL gv N).length c') (apL gv N).length ((apL gv N).map iv)
      rw [apL_length]
      exact arown_mono o1 hB
  · obtain rfl := n0 h0
    rw [if_neg h0]
    exact ⟨⟨none, 0, none, 0⟩, rfl, noA_own _ _⟩
theorem long_pos {a : AV} (ho : okA a = true) (h : 0 < a.el.length) : 0 < longN a.sh ∧ longN a.sh ≤ 4096 ∧ longI a.sh = (longN a.sh : Int) := by
  obtain ⟨h1, h2, _⟩ := okA_iff.1 ho
  obtain ⟨k1, k2⟩ := long_ok h1
  have e : longI a.sh = (longN a.sh : Int) := by unfold longN; omega
  refine ⟨?_, by omega, e⟩
  by_cases h0 : longN a.sh = 0
  · exfalso
    rw [h0] at e
    unfold longI at e
    by_cases hs : a.sh.length = 0
    · rw [if_pos hs] at e
      omega
    · rw [if_neg hs] at e
      have hm : a.sh.length - 1 < a.sh.length := by omega
      rw [List.getD_eq_getElem?_getD, List.getElem?_eq_getElem hm] at e
      have e2 : a.sh[a.sh.length - 1] = 0 := e
      have hp := prodI_snoc a.sh hm
      rw [e2, Int.mul_zero, List.take_of_length_le (by omega)] at hp
      omega
  · omega
theorem beg_in {a : AV} (h : ∀ z ∈ a.el, InR z) (n : Nat) : ∀ z ∈ begL a n, InR z := fun z hz => h z (List.mem_of_mem_drop (List.mem_of_mem_take hz))
theorem md_len {a : AV} (ho : okA a = true) : mdN a.sh = a.el.length := by
  have := (okA_iff.1 ho).2.1
  unfold mdN
  omega
set_option maxRecDepth 100000 in
set_option maxHeartbeats 4000000 in
theorem foscan_any (f : Int) (a : AV) (p : AP) (w : World) (ea : AEl w a p) (hc : a.sh.length ≤ p.c0) (hc1 : a.el.length ≤ p.c1) :
    Calls Try.prog 36 #[.int .i64 f, .agg (arC a p)] w (GiveE (scnA f a) (scnE f a) w) := by
  have hI := OnI.start ea
  have hs : CpT w a p ((w.alloc (.cells (arC a p) 25)).alloc (.cells #[.int .i64 0, .slice none 0 0, .slice none 0 0] 25)) := ⟨hI.x, ea, hI.fb, by simp, _, _, _, hI.r⟩
  obtain ⟨w1, hw1⟩ : ∃ w1, (w.alloc (.cells (arC a p) 25)).alloc (.cells #[.int .i64 0, .slice none 0 0, .slice none 0 0] 25) = w1 := ⟨_, rfl⟩
  rw [hw1] at hI hs
  have HRO := Lib.hid (fun W (h : OnI w a p W) => forowsof_any f a p W h.ea hc)
  have hLC : arC a p = #[.int .i64 a.kind, .slice p.A0 a.sh.length p.c0, .slice p.A1 a.el.length p.c1] := rfl
  have hrc : rowsC f a p = if rowsE f a = 0 then #[.int .i64 f, .slice p.A1 a.el.length p.c1, .int .i64 (longI a.sh)] else #[.int .i64 0, .slice none 0 0, .int .i64 0] := rfl
  have hsE : scnE f a = if rowsE f a ≠ 0 then rowsE f a else apE (fun n => rowE f (begL a n)) (mdN a.sh) := rfl
  have hsA : scnA f a = if scnE f a = 0 then ⟨1, a.sh, apL (fun n => rowV f (begL a n)) (mdN a.sh)⟩ else ⟨0, [], []⟩ := rfl
  have HI := Lib.hid hI
  have HS := Lib.hid hs
  have HC := Lib.hid (fun W (h : OnI w a p W) => h.cells)
  obtain ⟨⟨x0, x1, x2⟩, ⟨r0, r1, r2⟩, f0, f1, f2⟩ := HC.out w1 hI
  by_cases h0 : rowsE f a = 0
  · rw [if_pos h0] at hrc
    rw [if_neg (by rw [h0]; decide)] at hsE
    have hok : okA a = true := by
      obtain ⟨h1, h2⟩ := chk_rows f a
      by_cases hk : chkE [f] [a] = 0
      · exact (h2 hk).2.1
      · exact absurd ((h1 hk).symm.trans h0) hk
    have hX : scnA f a = if apE (fun n => rowE f (begL a n)) (mdN a.sh) = 0 then ⟨1, a.sh, apL (fun n => rowV f (begL a n)) (mdN a.sh)⟩ else ⟨0, [], []⟩ := by
      unfold scnA
      rw [hsE]
    obtain ⟨X, hXX⟩ : ∃ X, scnA f a = X := ⟨_, rfl⟩
    obtain ⟨E, hEE⟩ : ∃ E, scnE f a = E := ⟨_, rfl⟩
    rw [hXX, hEE]
    rw [hXX] at hX
    rw [hEE] at hsE
    have hsh := (okA_iff.1 hok).1
    have HMD : Hid (∀ (W : World) (A9 : Option Addr) (c9 : Nat), CpT w a p W → W.ownsRow (w.heap.size + 2) 3 1 (.slice A9 a.sh.length c9) a.sh.length (a.sh.map iv) →
        Calls Try.prog 79 #[.slice A9 a.sh.length c9, .func (.func 83) #[.agg #[.int .i64 f, .slice p.A1 a.el.length p.c1, .int .i64 (longI a.sh)]] #[]] W fun e w' => ∃ v, e = .returned v ∧ Below W.heap.size W w' ∧ ScU X E (w.heap.size + 2) v w') := Lib.hid (fun W A9 c9 hT o => by
      have h := fomade_any A9 a.sh.length c9 a.sh 83 #[.agg #[.int .i64 f, .slice p.A1 a.el.length p.c1, .int .i64 (longI a.sh)]] #[] (enters_of Try.func83 (by kernel_rfl) rfl) (fun n => rowV f (begL a n)) (fun n => rowE f (begL a n)) W hsh rfl (Reads.of_own o) (fun i W2 hi hb => by
        rw [md_len hok] at hi
        obtain ⟨l1, l2, l3⟩ := long_pos hok (by omega)
        have e : (#[(.agg #[.int .i64 f, .slice p.A1 a.el.length p.c1, .int .i64 (longI a.sh)] : Value)].push (.int .i64 (i : Int)) ++ #[]) = #[.agg #[.int .i64 f, .slice p.A1 a.el.length p.c1, .int .i64 (longN a.sh : Int)], .int .i64 (i : Int)] := by rw [l3]; simp
        rw [e]
        have h2 := (hT.el.below hb)
        exact fobeg_any f p.A1 a.el.length p.c1 (longN a.sh) a.el i W2 rfl h2.r1 (by have := (okA_len hok).1; omega) l1 (by omega) hi hc1 h2.f1)
      refine h.mono ?_
      intro e w' hA
      have h3 := apA_scU hA o hT.s
      rwa [← hX, ← hsE] at h3)
    have HCL : Hid (∀ W, CpT w a p W → Calls Try.prog 82 #[.slice p.A0 a.sh.length p.c0] W fun e w' => ∃ A' c', e = .returned (.slice A' a.sh.length c') ∧ w'.ownsRow (w.heap.size + 2) 3 1 (.slice A' a.sh.length c') a.sh.length (a.sh.map iv) ∧ Below W.heap.size W w') := Lib.hid (fun W h => by
      refine (arcloneI_any p.A0 a.sh.length p.c0 a.sh W rfl h.el.r0 (by have := (okA_len hok).2; omega)).mono ?_
      rintro e w' ⟨A', c', rfl, o, b⟩
      exact ⟨A', c', rfl, arown_mono o h.s, b⟩)
    rw [hLC] at HRO hw1
    rw [hLC]
    rw [hrc, h0] at HRO
    generalize hLL : longI a.sh = LL at *
    have HZ : ∀ x ∈ [(2, CpR 3 (w.heap.size + 2) a.sh), (5, ScU X E (w.heap.size + 2)), (6, CpA (w.heap.size + 2) X)], stz w.heap.size x.2 := by
      intro x hx
      simp only [List.mem_cons, List.not_mem_nil, or_false] at hx
      rcases hx with rfl | rfl | rfl
      · exact cpR_z _ _ _
      · exact scU_z _ _ _
      · exact cpA_z _ _
    clear ea hI hs hLC hrc hsE hsA hX hXX hEE hok hsh h0 hLL
    go_enter Try.func36, Try.ntmps36
    go_upto_region 4 with (go_at_call 77; (try rw [hw1]); refine (HRO.out _ HI.out).mono ?_; rintro e w2 ⟨rfl, b2⟩; have hT2 := (cpCT w a p).t _ _ b2 HS.out; have hGZ : Hid (w.heap.size + 2 ≤ w2.heap.size) := Lib.hid hT2.s; have HT2 := Lib.hid ((cpCT w a p).t _ _ (alloc_below w2 (.cells #[.int .i64 f, .slice p.A1 a.el.length p.c1, .int .i64 LL] 110)) hT2); have HG2 := Lib.hid (Blk.new w2 110 #[.int .i64 f, .slice p.A1 a.el.length p.c1, .int .i64 LL]); clear b2 hT2)
    obtain ⟨g, hg⟩ : ∃ g, w2.heap.size = g := ⟨_, rfl⟩
    have HGZ : Hid (w.heap.size + 2 ≤ g) := Lib.hid (by have := hGZ.out; omega)
    have HS2 : Hid (ScT w a p g #[.int .i64 f, .slice p.A1 a.el.length p.c1, .int .i64 LL] ((w2.alloc (.cells #[.int .i64 f, .slice p.A1 a.el.length p.c1, .int .i64 LL] 110)).drew)) := Lib.hid ⟨(cpCT w a p).t _ _ ((Below.refl _ _).drew) HT2.out, by rw [← hg]; exact HG2.out⟩
    have HCT : CT (ScT w a p g #[.int .i64 f, .slice p.A1 a.el.length p.c1, .int .i64 LL]) (CpF w.heap.size X) (lookU [(2, CpR 3 (w.heap.size + 2) a.sh), (5, ScU X E (w.heap.size + 2)), (6, CpA (w.heap.size + 2) X)]) := scCT HZ
    simp only [hg]
    clear x0 x1 x2 r0 r1 r2 f0 f1 f2 HT2 HG2 hGZ HRO hw1 hg
    refine wp_region_done_on (CS (ScT w a p g #[.int .i64 f, .slice p.A1 a.el.length p.c1, .int .i64 LL]) (CpF w.heap.size X) 8) (GR [2, 5, 6] (lookU [(2, CpR 3 (w.heap.size + 2) a.sh), (5, ScU X E (w.heap.size + 2)), (6, CpA (w.heap.size + 2) X)]) [.pointer (some ⟨w.heap.size, 1, none⟩), .slice p.A0 a.sh.length p.c0, undef, .agg #[.int .i64 f, .slice p.A1 a.el.length p.c1, .int .i64 LL], .func (.func 83) #[.agg #[.int .i64 f, .slice p.A1 a.el.length p.c1, .int .i64 LL]] #[], undef, undef, .int .i64 E, undef, .int .i64 E]) (by kernel_rfl) 26 rfl (by kernel_rfl) ⟨HS2.out, fun e => by cases e⟩ ?_ ?_
    · intro i hi
      have hi2 : i < 10 := hi
      clear hi
      rcases i with _ | i
      · refine cs_value (by decide) rfl (by decide) (.pointer (some ⟨w.heap.size, 1, none⟩)) rfl ?_
        intro a8 w8 hb8 ho hn
        have o3 : a8.tmps[3]? = some _ := (ho 3 (by kernel_rfl)).trans rfl
        clear ho hn
        refine ⟨wanted_free rfl, ?_⟩
        go_simp
      rcases i with _ | i
      · refine cs_value (by decide) rfl (by decide) (.slice p.A0 a.sh.length p.c0) rfl ?_
        intro a8 w8 hb8 ho hn
        obtain ⟨v18, n18, hq18⟩ := hn 0 18 (by kernel_rfl) rfl
        obtain rfl := hq18.1 (by decide)
        clear ho hn
        refine ⟨wanted_free rfl, ?_⟩
        obtain ⟨x0, x1, x2⟩ := hb8.1.cells
        go_simp
      rcases i with _ | i
      · refine cs_call HCT 82 (by decide) rfl (by decide) ?_
        intro a8 w8 hb8 ho hn
        obtain ⟨v19, n19, hq19⟩ := hn 1 19 (by kernel_rfl) rfl
        obtain rfl := hq19.1 (by decide)
        clear ho hn
        refine ⟨wanted_free rfl, ?_⟩
        refine ⟨#[.slice p.A0 a.sh.length p.c0], (by go_simp), (HCL.out w8 hb8.1).mono ?_⟩
        rintro e w9 ⟨A9, c9, rfl, o9, b9⟩
        exact ⟨_, rfl, b9, A9, c9, rfl, o9⟩
      rcases i with _ | i
      · refine cs_value (by decide) rfl (by decide) (.agg #[.int .i64 f, .slice p.A1 a.el.length p.c1, .int .i64 LL]) rfl ?_
        intro a8 w8 hb8 ho hn
        have o6 : a8.tmps[6]? = some _ := (ho 6 (by kernel_rfl)).trans rfl
        clear ho hn
        refine ⟨wanted_free rfl, ?_⟩
        have z0 := hb8.2.cell 0
        have z1 := hb8.2.cell 1
        have z2 := hb8.2.cell 2
        go_simp
      rcases i with _ | i
      · refine cs_value (by decide) rfl (by decide) (.func (.func 83) #[.agg #[.int .i64 f, .slice p.A1 a.el.length p.c1, .int .i64 LL]] #[]) rfl ?_
        intro a8 w8 hb8 ho hn
        obtain ⟨v21, n21, hq21⟩ := hn 3 21 (by kernel_rfl) rfl
        obtain rfl := hq21.1 (by decide)
        clear ho hn
        refine ⟨wanted_free rfl, ?_⟩
        go_simp
      rcases i with _ | i
      · refine cs_call HCT 79 (by decide) rfl (by decide) ?_
        intro a8 w8 hb8 ho hn
        obtain ⟨v20, n20, hq20⟩ := hn 2 20 (by kernel_rfl) rfl
        have hv20 : CpR 3 (w.heap.size + 2) a.sh v20 w8 := hq20.2 (by decide)
        obtain ⟨v22, n22, hq22⟩ := hn 4 22 (by kernel_rfl) rfl
        obtain rfl := hq22.1 (by decide)
        clear ho hn
        refine ⟨wanted_free rfl, ?_⟩
        obtain ⟨A9, c9, rfl, o9⟩ := hv20
        refine ⟨#[.slice A9 a.sh.length c9, .func (.func 83) #[.agg #[.int .i64 f, .slice p.A1 a.el.length p.c1, .int .i64 LL]] #[]], (by go_simp), (HMD.out w8 A9 c9 hb8.1 o9).mono ?_⟩
        rintro e w9 ⟨v, rfl, b9, h9⟩
        exact ⟨_, rfl, b9, h9⟩
      rcases i with _ | i
      · refine cs_make HCT (by decide) rfl (by decide) ?_
        intro a8 w8 hb8 ho hn
        obtain ⟨v23, n23, hq23⟩ := hn 5 23 (by kernel_rfl) rfl
        have hv23 := hq23.2 (by decide)
        clear ho hn
        refine ⟨wanted_free rfl, ?_⟩
        obtain ⟨q9, rfl, ow9⟩ : ScU X E (w.heap.size + 2) v23 w8 := hv23
        exact ⟨.agg (arC X q9), w8, (by go_simp), Below.refl _ _, q9, rfl, ow9⟩
      rcases i with _ | i
      · refine cs_value (by decide) rfl (by decide) (.int .i64 E) rfl ?_
        intro a8 w8 hb8 ho hn
        obtain ⟨v23, n23, hq23⟩ := hn 5 23 (by kernel_rfl) rfl
        have hv23 := hq23.2 (by decide)
        clear ho hn
        refine ⟨wanted_free rfl, ?_⟩
        obtain ⟨q9, rfl, ow9⟩ : ScU X E (w.heap.size + 2) v23 w8 := hv23
        go_simp
      rcases i with _ | i
      · refine cs_store rfl rfl (by decide) rfl ?_
        intro a8 w8 hb8 ho hn
        have o4 : a8.tmps[4]? = some _ := (ho 4 (by kernel_rfl)).trans rfl
        obtain ⟨v24, n24, hq24⟩ := hn 6 24 (by kernel_rfl) rfl
        have hv24 : CpA (w.heap.size + 2) X v24 w8 := hq24.2 (by decide)
        clear ho hn
        refine ⟨wanted_free rfl, ?_⟩
        obtain ⟨q9, rfl, ow9⟩ := hv24
        obtain ⟨y0, y1, y2, r9⟩ := hb8.1.r
        have x0 := r9.cell 0
        have x1 := r9.cell 1
        have x2 := r9.cell 2
        have f0 := r9.frozen 0
        have f1 := r9.frozen 1
        have f2 := r9.frozen 2
        refine ⟨((w8.setCell ⟨w.heap.size + 1, 0, none⟩ (.int .i64 X.kind)).setCell ⟨w.heap.size + 1, 1, none⟩ (.slice q9.A0 X.sh.length q9.c0)).setCell ⟨w.heap.size + 1, 2, none⟩ (.slice q9.A1 X.el.length q9.c1), ?_, ⟨hb8.1.store r9 _ _ _, (arkeep_three w8 (w.heap.size + 1) _ _ _).blk hb8.2 (by have := HGZ.out; omega)⟩, cpF_store r9 ow9, fun j v h => lookU_z HZ w8 _ _ _ j v h⟩
        clear hb8 r9 ow9
        unfold arC at *
        go_simp
      rcases i with _ | i
      · refine cs_value (by decide) rfl (by decide) (.int .i64 E) rfl ?_
        intro a8 w8 hb8 ho hn
        obtain ⟨v25, n25, hq25⟩ := hn 7 25 (by kernel_rfl) rfl
        obtain rfl := hq25.1 (by decide)
        clear ho hn
        refine ⟨wanted_free rfl, ?_⟩
        go_simp
      omega
    · intro dn fv w5 hb5 hR5 hall
      have h5 : fv 5 = _ := (hR5 9 5 rfl).1 (by decide)
      simp only [putAll, List.foldl_cons, List.foldl_nil, Act.put, List.setIfInBounds_toArray, List.set_cons_succ, List.set_cons_zero, h5, List.getD_cons_zero, List.getD_cons_succ]
      have hfin := hb5.2 (hall 8 (by decide))
      have hfb := hb5.1.1.b
      clear hR5 hall hb5
      obtain ⟨q, hq, ho⟩ := hfin
      go_wp2
      refine bodyPost_ret (results_arr2 rfl rfl rfl hq) rfl ?_
      exact ⟨q, rfl, ⟨arown_mono ho.o0 (by omega), arown_mono ho.o1 (by omega)⟩, hfb⟩
  · rw [if_neg h0] at hrc
    rw [if_pos h0] at hsE
    rw [hsE, if_neg h0] at hsA
    rw [hsA, hsE]
    obtain ⟨E, hE⟩ : ∃ E, rowsE f a = E := ⟨_, rfl⟩
    rw [hE] at h0 HRO
    rw [hE]
    rw [hrc] at HRO
    rw [hLC] at HRO hw1
    rw [hLC]
    have hne : (E != 0) = true := by simp [h0]
    clear ea hI hs hLC hrc hsE hsA h0 hE
    go_enter Try.func36, Try.ntmps36
    go_wp2_with (go_at_call 77; (try rw [hw1]); refine (HRO.out _ HI.out).mono ?_; rintro e w2 ⟨rfl, b2⟩; have hI2 := (HI.out.below b2).below (alloc_below w2 (.cells #[.int .i64 0, .slice none 0 0, .int .i64 0] 110)); obtain ⟨⟨x0, x1, x2⟩, ⟨r0, r1, r2⟩, f0, f1, f2⟩ := HC.out _ hI2; have HI2 := Lib.hid hI2; clear b2 hI2)
    refine bodyPost_ret (results_arr2 rfl rfl rfl (arblk_three _ _ _ HI2.out.r)) rfl ?_
    exact GiveE.no rfl (HI2.out.fin _ _ _)
end Go.Proofs.Ytkabdkblcgklmaa.fo

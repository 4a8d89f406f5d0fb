/-
  Layer 13 (mold): TakeWay, DropWay, Take, Drop.
-/
import Derived.Test.YtenpohnccnlngaaMoCut
namespace Go.Proofs.Ytenpohnccnlngaa.mo
open Go.RowKit Go.Proofs.Ytenpohnccnlngaa.arr

theorem tak_ok (n h : Int) (h0 : -4097 ≤ n) (h1 : n ≤ 4097) (h2 : 0 ≤ h) (h3 : h ≤ 4096) : spOk (takN n h) ∧ ∀ W, Calls Try.prog 81 #[.int .i64 n, .int .i64 h] W (CutA (takN n h) W) := by
  refine ⟨?_, fun W => motaken_any n h h0 h1 h2 h3 W⟩
  unfold takN spOk
  split <;> simp only <;> omega
theorem dro_ok (n h : Int) (h0 : -4097 ≤ n) (h1 : n ≤ 4097) (h2 : 0 ≤ h) (h3 : h ≤ 4096) : spOk (droN n h) ∧ ∀ W, Calls Try.prog 82 #[.int .i64 n, .int .i64 h] W (CutA (droN n h) W) := by
  refine ⟨?_, fun W => modropped_any n h h0 h1 h2 h3 W⟩
  unfold droN spOk
  split <;> simp only <;> omega
def ctSh (cf : Int → Int → Sp) (l : AV) (sh : List Int) : List Int := lensI (cutL cf (axL l sh) (sh1 sh))
def ctF (cf : Int → Int → Sp) (l : AV) (sh : List Int) : Nat → Int × Int := srcF (cutL cf (axL l sh) (sh1 sh))
def tkE (l a : AV) : Int := mdE a (cwE takN l a.sh) (ctSh takN l a.sh) (ctF takN l a.sh)
def tkA (l a : AV) : AV := mdA a (cwE takN l a.sh) (ctSh takN l a.sh) (ctF takN l a.sh)
def dpE (l a : AV) : Int := mdE a (cwE droN l a.sh) (ctSh droN l a.sh) (ctF droN l a.sh)
def dpA (l a : AV) : AV := mdA a (cwE droN l a.sh) (ctSh droN l a.sh) (ctF droN l a.sh)
theorem mocut_any (cg : Nat) (hcg : ∀ args w, (callFunc cg args).run Try.prog w = .ok (.enter cg args) w) (cf : Int → Int → Sp) (hcf : ∀ n h, -4097 ≤ n → n ≤ 4097 → 0 ≤ h → h ≤ 4096 → spOk (cf n h) ∧ ∀ W, Calls Try.prog cg #[.int .i64 n, .int .i64 h] W (CutA (cf n h) W)) (a : AV) (p : AP) (S : Option Addr) (c : Nat) (sh : List Int) (w : World) (h : AEl w a p) (rs : Reads w w.heap.size 1 S sh.length (sh.map iv)) (hs : sh.length ≤ 9223372036854775807) :
    Calls Try.prog 80 #[.agg (arC a p), .slice S sh.length c, .func (.func cg) #[] #[]] w (GiveW w.heap.size (ctSh cf a sh) (ctF cf a sh) (cwE cf a sh) w) := by
  by_cases h0 : sh.length = 0
  · exact mocutz_any cg hcg cf hcf a p S c sh w h rs hs h0
  · exact mocutn_any cg hcg cf hcf a p S c sh w h rs hs h0

set_option maxRecDepth 100000 in
set_option maxHeartbeats 4000000 in
theorem motakeway_any (a : AV) (p : AP) (S : Option Addr) (c : Nat) (sh : List Int) (w : World) (h : AEl w a p) (rs : Reads w w.heap.size 1 S sh.length (sh.map iv)) (hs : sh.length ≤ 9223372036854775807) :
    Calls Try.prog 34 #[.agg (arC a p), .slice S sh.length c] w (GiveW w.heap.size (ctSh takN a sh) (ctF takN a sh) (cwE takN a sh) w) := by
  have hb2 := mobelow2 (w := w) (.cells (arC a p) 25) (.cells #[.slice none 0 0, .nilFunc] 37)
  have h2 := (Blk.new w 25 (arC a p)).alloc (.cells #[.slice none 0 0, .nilFunc] 37)
  have h4 := Blk.new (w.alloc (.cells (arC a p) 25)) 37 #[.slice none 0 0, .nilFunc]
  rw [World.size_alloc] at h4
  have HCT := Lib.hid (mocut_any 81 (enters_of Try.func81 (by kernel_rfl) rfl) takN tak_ok a p S c sh _ (h.below hb2) ((rs.below hb2).more hb2.size) hs)
  obtain ⟨w1, hw1⟩ : ∃ w1, (w.alloc (.cells (arC a p) 25)).alloc (.cells #[.slice none 0 0, .nilFunc] 37) = w1 := ⟨_, rfl⟩
  rw [hw1] at HCT hb2 h2 h4
  have hAC : arC a p = #[.int .i64 a.kind, .slice p.A0 a.sh.length p.c0, .slice p.A1 a.el.length p.c1] := rfl
  rw [hAC] at HCT hw1 h2
  rw [hAC]
  have u0 := h2.cell 0
  have u1 := h2.cell 1
  have u2 := h2.cell 2
  have H4 := Lib.hid h4
  have HB2 := Lib.hid hb2
  generalize a.kind = ka at *
  generalize (Value.slice p.A0 a.sh.length p.c0) = sa at *
  generalize (Value.slice p.A1 a.el.length p.c1) = la at *
  generalize ctSh takN a sh = L at *
  generalize ctF takN a sh = f at *
  generalize cwE takN a sh = E at *
  clear h rs h2 h4 hb2 hAC
  by_cases h0 : E = 0
  · subst h0
    go_enter Try.func34, Try.ntmps34
    go_wp2_with (go_at_call 80; (try rw [hw1]); refine HCT.out.mono ?_; rintro e w4 ⟨v, rfl, b4, hy, hn⟩; obtain ⟨hok4, A4, c4, gf4, cap4, rfl, hy5⟩ := hy rfl; have HY : Hid (WayAt w1.heap.size w4 (.agg #[.slice A4 L.length c4, .func (.func gf4) #[] cap4]) L f) := Lib.hid ⟨A4, c4, gf4, cap4, rfl, hy5⟩; have HOK4 := Lib.hid hok4; have hx := H4.out.below b4 H4.out.lt; have x0 := hx.cell 0; have x1 := hx.cell 1; have f0 := hx.frozen 0; have f1 := hx.frozen 1; have HX := Lib.hid hx; have HB4 := Lib.hid (bon HB2.out b4); clear hx b4 hy hn hy5 hok4)
    refine bodyPost_ret (results_way2 rfl rfl rfl (moblk_two _ _ HX.out)) rfl ?_
    have hk := mokeep_two w4 (w.heap.size + 1) (.slice A4 L.length c4) (.func (.func gf4) #[] cap4)
    have h41 := H4.out.lt
    exact ⟨_, rfl, HB4.out.trans (hk.below HB4.out.size (fun i hi e => by omega)), fun _ => ⟨HOK4.out, (HY.out.sin (Sin.keep hk (fun i hi e => by omega))).base HB2.out.size⟩, fun h => absurd rfl h⟩
  · have H0 := Lib.hid h0
    clear h0
    go_enter Try.func34, Try.ntmps34
    go_wp2_with (go_at_call 80; (try rw [hw1]); refine HCT.out.mono ?_; rintro e w4 ⟨v, rfl, b4, hy, hn⟩; obtain rfl := hn H0.out; have hx := H4.out.below b4 H4.out.lt; have x0 := hx.cell 0; have x1 := hx.cell 1; have f0 := hx.frozen 0; have f1 := hx.frozen 1; have HX := Lib.hid hx; have HB4 := Lib.hid (bon HB2.out b4); clear hx b4 hy hn)
    refine bodyPost_ret (results_way2 rfl rfl rfl (moblk_two _ _ HX.out)) rfl ?_
    have hk := mokeep_two w4 (w.heap.size + 1) (.slice none 0 0) .nilFunc
    exact GiveW.no H0.out (HB4.out.trans (hk.below HB4.out.size (fun i hi e => by omega)))

set_option maxRecDepth 100000 in
set_option maxHeartbeats 4000000 in
theorem modropway_any (a : AV) (p : AP) (S : Option Addr) (c : Nat) (sh : List Int) (w : World) (h : AEl w a p) (rs : Reads w w.heap.size 1 S sh.length (sh.map iv)) (hs : sh.length ≤ 9223372036854775807) :
    Calls Try.prog 35 #[.agg (arC a p), .slice S sh.length c] w (GiveW w.heap.size (ctSh droN a sh) (ctF droN a sh) (cwE droN a sh) w) := by
  have hb2 := mobelow2 (w := w) (.cells (arC a p) 25) (.cells #[.slice none 0 0, .nilFunc] 37)
  have h2 := (Blk.new w 25 (arC a p)).alloc (.cells #[.slice none 0 0, .nilFunc] 37)
  have h4 := Blk.new (w.alloc (.cells (arC a p) 25)) 37 #[.slice none 0 0, .nilFunc]
  rw [World.size_alloc] at h4
  have HCT := Lib.hid (mocut_any 82 (enters_of Try.func82 (by kernel_rfl) rfl) droN dro_ok a p S c sh _ (h.below hb2) ((rs.below hb2).more hb2.size) hs)
  obtain ⟨w1, hw1⟩ : ∃ w1, (w.alloc (.cells (arC a p) 25)).alloc (.cells #[.slice none 0 0, .nilFunc] 37) = w1 := ⟨_, rfl⟩
  rw [hw1] at HCT hb2 h2 h4
  have hAC : arC a p = #[.int .i64 a.kind, .slice p.A0 a.sh.length p.c0, .slice p.A1 a.el.length p.c1] := rfl
  rw [hAC] at HCT hw1 h2
  rw [hAC]
  have u0 := h2.cell 0
  have u1 := h2.cell 1
  have u2 := h2.cell 2
  have H4 := Lib.hid h4
  have HB2 := Lib.hid hb2
  generalize a.kind = ka at *
  generalize (Value.slice p.A0 a.sh.length p.c0) = sa at *
  generalize (Value.slice p.A1 a.el.length p.c1) = la at *
  generalize ctSh droN a sh = L at *
  generalize ctF droN a sh = f at *
  generalize cwE droN a sh = E at *
  clear h rs h2 h4 hb2 hAC
  by_cases h0 : E = 0
  · subst h0
    go_enter Try.func35, Try.ntmps35
    go_wp2_with (go_at_call 80; (try rw [hw1]); refine HCT.out.mono ?_; rintro e w4 ⟨v, rfl, b4, hy, hn⟩; obtain ⟨hok4, A4, c4, gf4, cap4, rfl, hy5⟩ := hy rfl; have HY : Hid (WayAt w1.heap.size w4 (.agg #[.slice A4 L.length c4, .func (.func gf4) #[] cap4]) L f) := Lib.hid ⟨A4, c4, gf4, cap4, rfl, hy5⟩; have HOK4 := Lib.hid hok4; have hx := H4.out.below b4 H4.out.lt; have x0 := hx.cell 0; have x1 := hx.cell 1; have f0 := hx.frozen 0; have f1 := hx.frozen 1; have HX := Lib.hid hx; have HB4 := Lib.hid (bon HB2.out b4); clear hx b4 hy hn hy5 hok4)
    refine bodyPost_ret (results_way2 rfl rfl rfl (moblk_two _ _ HX.out)) rfl ?_
    have hk := mokeep_two w4 (w.heap.size + 1) (.slice A4 L.length c4) (.func (.func gf4) #[] cap4)
    have h41 := H4.out.lt
    exact ⟨_, rfl, HB4.out.trans (hk.below HB4.out.size (fun i hi e => by omega)), fun _ => ⟨HOK4.out, (HY.out.sin (Sin.keep hk (fun i hi e => by omega))).base HB2.out.size⟩, fun h => absurd rfl h⟩
  · have H0 := Lib.hid h0
    clear h0
    go_enter Try.func35, Try.ntmps35
    go_wp2_with (go_at_call 80; (try rw [hw1]); refine HCT.out.mono ?_; rintro e w4 ⟨v, rfl, b4, hy, hn⟩; obtain rfl := hn H0.out; have hx := H4.out.below b4 H4.out.lt; have x0 := hx.cell 0; have x1 := hx.cell 1; have f0 := hx.frozen 0; have f1 := hx.frozen 1; have HX := Lib.hid hx; have HB4 := Lib.hid (bon HB2.out b4); clear hx b4 hy hn)
    refine bodyPost_ret (results_way2 rfl rfl rfl (moblk_two _ _ HX.out)) rfl ?_
    have hk := mokeep_two w4 (w.heap.size + 1) (.slice none 0 0) .nilFunc
    exact GiveW.no H0.out (HB4.out.trans (hk.below HB4.out.size (fun i hi e => by omega)))

set_option maxRecDepth 100000 in
set_option maxHeartbeats 4000000 in
theorem motake_any (l a : AV) (p q : AP) (w : World) (hl : AEl w l p) (ha : AEl w a q) :
    Calls Try.prog 21 #[.agg (arC l p), .agg (arC a q)] w (GiveE (tkA l a) (tkE l a) w) := by
  have hI := TwI.start hl ha
  obtain ⟨w1, hw1⟩ : ∃ w1, ((w.alloc (.cells (arC l p) 25)).alloc (.cells (arC a q) 25)).alloc (.cells #[.int .i64 0, .slice none 0 0, .slice none 0 0] 25) = w1 := ⟨_, rfl⟩
  rw [hw1] at hI
  have HM : Hid (Calls Try.prog 64 #[.func (.func 34) #[] #[], .agg (arC l p), .agg (arC a q)] w1 (GiveE (tkA l a) (tkE l a) w1)) := Lib.hid (momolded_any 34 (enters_of Try.func34 (by kernel_rfl) rfl) _ _ _ l a p q w1 hI.ea hI.eb (fun _ W hb => motakeway_any l p q.A0 q.c0 a.sh W (hI.ea.below hb) (hI.eb.below hb).r0 ha.b0))
  have hLC : arC l p = #[.int .i64 l.kind, .slice p.A0 l.sh.length p.c0, .slice p.A1 l.el.length p.c1] := rfl
  have hAC : arC a q = #[.int .i64 a.kind, .slice q.A0 a.sh.length q.c0, .slice q.A1 a.el.length q.c1] := rfl
  have x0 := hI.x.cell 0
  have x1 := hI.x.cell 1
  have x2 := hI.x.cell 2
  have y0 := hI.y.cell 0
  have y1 := hI.y.cell 1
  have y2 := hI.y.cell 2
  have HI := Lib.hid hI
  obtain ⟨X, hX⟩ : ∃ X, tkA l a = X := ⟨_, rfl⟩
  obtain ⟨E, hE⟩ : ∃ E, tkE l a = E := ⟨_, rfl⟩
  rw [hX, hE] at HM
  rw [hX, hE]
  rw [hLC, hAC] at HM hw1
  rw [hLC] at x0 x1 x2
  rw [hAC] at y0 y1 y2
  rw [hLC, hAC]
  have HPC : Hid (∀ p, arC X p = #[.int .i64 X.kind, .slice p.A0 X.sh.length p.c0, .slice p.A1 X.el.length p.c1]) := Lib.hid (fun p => rfl)
  clear hl ha hI hLC hAC hX hE
  go_enter Try.func21, Try.ntmps21
  go_wp2_with (go_at_call 64; (try rw [hw1]); refine HM.out.mono ?_; rintro e w2 ⟨r, rfl, o2, b2⟩; rw [HPC.out r]; have HI2 := Lib.hid (HI.out.below b2); have HGV := Lib.hid (HI.out.give b2 o2); have hr := (HI.out.below b2).r; have r0 := hr.cell 0; have r1 := hr.cell 1; have r2 := hr.cell 2; have f0 := hr.frozen 0; have f1 := hr.frozen 1; have f2 := hr.frozen 2; clear o2 b2 hr)
  refine bodyPost_ret (results_arr2 rfl rfl rfl (arblk_three _ _ _ HI2.out.r)) rfl ?_
  exact ⟨r, rfl, HGV.out⟩

set_option maxRecDepth 100000 in
set_option maxHeartbeats 4000000 in
theorem modrop_any (l a : AV) (p q : AP) (w : World) (hl : AEl w l p) (ha : AEl w a q) :
    Calls Try.prog 22 #[.agg (arC l p), .agg (arC a q)] w (GiveE (dpA l a) (dpE l a) w) := by
  have hI := TwI.start hl ha
  obtain ⟨w1, hw1⟩ : ∃ w1, ((w.alloc (.cells (arC l p) 25)).alloc (.cells (arC a q) 25)).alloc (.cells #[.int .i64 0, .slice none 0 0, .slice none 0 0] 25) = w1 := ⟨_, rfl⟩
  rw [hw1] at hI
  have HM : Hid (Calls Try.prog 64 #[.func (.func 35) #[] #[], .agg (arC l p), .agg (arC a q)] w1 (GiveE (dpA l a) (dpE l a) w1)) := Lib.hid (momolded_any 35 (enters_of Try.func35 (by kernel_rfl) rfl) _ _ _ l a p q w1 hI.ea hI.eb (fun _ W hb => modropway_any l p q.A0 q.c0 a.sh W (hI.ea.below hb) (hI.eb.below hb).r0 ha.b0))
  have hLC : arC l p = #[.int .i64 l.kind, .slice p.A0 l.sh.length p.c0, .slice p.A1 l.el.length p.c1] := rfl
  have hAC : arC a q = #[.int .i64 a.kind, .slice q.A0 a.sh.length q.c0, .slice q.A1 a.el.length q.c1] := rfl
  have x0 := hI.x.cell 0
  have x1 := hI.x.cell 1
  have x2 := hI.x.cell 2
  have y0 := hI.y.cell 0
  have y1 := hI.y.cell 1
  have y2 := hI.y.cell 2
  have HI := Lib.hid hI
  obtain ⟨X, hX⟩ : ∃ X, dpA l a = X := ⟨_, rfl⟩
  obtain ⟨E, hE⟩ : ∃ E, dpE l a = E := ⟨_, rfl⟩
  rw [hX, hE] at HM
  rw [hX, hE]
  rw [hLC, hAC] at HM hw1
  rw [hLC] at x0 x1 x2
  rw [hAC] at y0 y1 y2
  rw [hLC, hAC]
  have HPC : Hid (∀ p, arC X p = #[.int .i64 X.kind, .slice p.A0 X.sh.length p.c0, .slice p.A1 X.el.length p.c1]) := Lib.hid (fun p => rfl)
  clear hl ha hI hLC hAC hX hE
  go_enter Try.func22, Try.ntmps22
  go_wp2_with (go_at_call 64; (try rw [hw1]); refine HM.out.mono ?_; rintro e w2 ⟨r, rfl, o2, b2⟩; rw [HPC.out r]; have HI2 := Lib.hid (HI.out.below b2); have HGV := Lib.hid (HI.out.give b2 o2); have hr := (HI.out.below b2).r; have r0 := hr.cell 0; have r1 := hr.cell 1; have r2 := hr.cell 2; have f0 := hr.frozen 0; have f1 := hr.frozen 1; have f2 := hr.frozen 2; clear o2 b2 hr)
  refine bodyPost_ret (results_arr2 rfl rfl rfl (arblk_three _ _ _ HI2.out.r)) rfl ?_
  exact ⟨r, rfl, HGV.out⟩
end Go.Proofs.Ytenpohnccnlngaa.mo

/-
  Layer 12 (scalar): applied.
-/
import Derived.Test.YtkabdkblcgklmaaScApp
import Derived.Test.YtkabdkblcgklmaaWriter
namespace Go.Proofs.Ytkabdkblcgklmaa.sc
open Go.RowKit Go.Proofs.Ytkabdkblcgklmaa.arr

section
attribute [local go_sem] Oper.semAt_some
set_option maxRecDepth 100000 in
set_option maxHeartbeats 4000000 in
theorem scapplied_any (gf : Nat) (cap : Array Value) (hgf : ∀ args w, (callFunc gf args).run Try.prog w = .ok (.enter gf args) w) (gv ge : Int → Int → Int) (S : Option Addr) (n c : Nat) (sh : List Int) (a b : AV) (p q : AP) (N : Nat) (w : World)
    (hok : okShape sh = true) (hN : prodI sh = (N : Int)) (hn : sh.length = n) (rs : Reads w w.heap.size 1 S n (sh.map iv)) (ea : AEl w a p) (eb : AEl w b q) (hel : ∀ i, i < N → elOk a i ∧ elOk b i)
    (hcall : ∀ (x y : Int) (W : World), InR x → InR y → Below w.heap.size w W → Calls Try.prog gf (#[pv x y] ++ cap) W fun e w' => e = .returned (.tuple #[.int .i64 (gv x y), .int .i64 (ge x y)]) ∧ Below W.heap.size W w') :
    Calls Try.prog 96 #[.func (.func gf) #[] cap, .slice S n c, .agg (arC a p), .agg (arC b q)] w (ApA (fun i => gv (elA a i) (elA b i)) (fun i => ge (elA a i) (elA b i)) S n c N w) := by
  obtain ⟨i0, hi, hz0, hz1, hz2⟩ := info_parts arInfoI64
  obtain ⟨gv', hgv⟩ : ∃ gv' : Nat → Int, (fun i => gv (elA a i) (elA b i)) = gv' := ⟨_, rfl⟩
  obtain ⟨ge', hge⟩ : ∃ ge' : Nat → Int, (fun i => ge (elA a i) (elA b i)) = ge' := ⟨_, rfl⟩
  have HGV : Hid (∀ i, gv (elA a i) (elA b i) = gv' i) := Lib.hid (fun i => by rw [← hgv])
  have HGE : Hid (∀ i, ge (elA a i) (elA b i) = ge' i) := Lib.hid (fun i => by rw [← hge])
  rw [hgv, hge]
  clear hgv hge
  have hN2 : (N : Int) ≤ 4096 := by rw [← hN]; exact (okShape_iff.1 hok).2.2
  have hfp : Fence.wide.fn 159 := trivial
  obtain ⟨z, hz⟩ : ∃ z, w.heap.size = z := ⟨_, rfl⟩
  obtain ⟨AC, hAC⟩ : ∃ AC, arC a p = AC := ⟨_, rfl⟩
  obtain ⟨BC, hBC⟩ : ∃ BC, arC b q = BC := ⟨_, rfl⟩
  have hAC2 : AC = #[.int .i64 a.kind, .slice p.A0 a.sh.length p.c0, .slice p.A1 a.el.length p.c1] := hAC.symm
  have hBC2 : BC = #[.int .i64 b.kind, .slice q.A0 b.sh.length q.c0, .slice q.A1 b.el.length q.c1] := hBC.symm
  generalize hka : a.kind = ka at hAC2
  generalize hsa : (Value.slice p.A0 a.sh.length p.c0) = sa at hAC2
  generalize hla : (Value.slice p.A1 a.el.length p.c1) = la at hAC2
  generalize hkb : b.kind = kb at hBC2
  generalize hsb : (Value.slice q.A0 b.sh.length q.c0) = sb at hBC2
  generalize hlb : (Value.slice q.A1 b.el.length q.c1) = lb at hBC2
  clear hka hsa hla hkb hsb hlb
  -- the world behind the boxes
  obtain ⟨W3, hW3⟩ : ∃ W3, ((((((((w.alloc (.cells #[.func (.func gf) #[] cap] 120)).alloc (.cells AC 25)).alloc (.cells BC 25)).alloc (.cells #[.int .i64 0, .slice none 0 0, .slice none 0 0] 25)).alloc (.cells #[.slice none 0 0] 23)).alloc (.cells #[.int .i64 0] 28)).alloc (.cells #[.slice S n c] 22)).alloc (.cells AC 25)).alloc (.cells BC 25) = W3 := ⟨_, rfl⟩
  have hb3 : Below w.heap.size w W3 := by
    rw [← hW3]
    exact (((((((((Below.refl _ w).alloc (Nat.le_refl _) _).alloc (by simp) _).alloc (by simp; omega) _).alloc (by simp; omega) _).alloc (by simp; omega) _).alloc (by simp; omega) _).alloc (by simp; omega) _).alloc (by simp; omega) _).alloc (by simp; omega) _
  have hs3 : W3.heap.size = z + 9 := by rw [← hW3, ← hz]; simp
  have kF : Blk W3 z 120 #[.func (.func gf) #[] cap] := by
    rw [← hW3, ← hz]
    exact ((((((((Blk.new w _ _).alloc _).alloc _).alloc _).alloc _).alloc _).alloc _).alloc _).alloc _
  have kR : Blk W3 (z + 3) 25 #[.int .i64 0, .slice none 0 0, .slice none 0 0] := by
    have h := (((((Blk.new (((w.alloc (.cells #[.func (.func gf) #[] cap] 120)).alloc (.cells AC 25)).alloc (.cells BC 25)) 25 #[.int .i64 0, .slice none 0 0, .slice none 0 0]).alloc (.cells #[.slice none 0 0] 23)).alloc (.cells #[.int .i64 0] 28)).alloc (.cells #[.slice S n c] 22)).alloc (.cells AC 25)).alloc (.cells BC 25)
    rw [hW3] at h
    simpa only [World.size_alloc, hz] using h
  have kE : Blk W3 (z + 4) 23 #[.slice none 0 0] := by
    have h := ((((Blk.new ((((w.alloc (.cells #[.func (.func gf) #[] cap] 120)).alloc (.cells AC 25)).alloc (.cells BC 25)).alloc (.cells #[.int .i64 0, .slice none 0 0, .slice none 0 0] 25)) 23 #[.slice none 0 0]).alloc (.cells #[.int .i64 0] 28)).alloc (.cells #[.slice S n c] 22)).alloc (.cells AC 25)).alloc (.cells BC 25)
    rw [hW3] at h
    simpa only [World.size_alloc, hz] using h
  have kT : Blk W3 (z + 5) 28 #[.int .i64 0] := by
    have h := (((Blk.new (((((w.alloc (.cells #[.func (.func gf) #[] cap] 120)).alloc (.cells AC 25)).alloc (.cells BC 25)).alloc (.cells #[.int .i64 0, .slice none 0 0, .slice none 0 0] 25)).alloc (.cells #[.slice none 0 0] 23)) 28 #[.int .i64 0]).alloc (.cells #[.slice S n c] 22)).alloc (.cells AC 25)).alloc (.cells BC 25)
    rw [hW3] at h
    simpa only [World.size_alloc, hz] using h
  have k6 : Blk W3 (z + 6) 22 #[.slice S n c] := by
    have h := ((Blk.new ((((((w.alloc (.cells #[.func (.func gf) #[] cap] 120)).alloc (.cells AC 25)).alloc (.cells BC 25)).alloc (.cells #[.int .i64 0, .slice none 0 0, .slice none 0 0] 25)).alloc (.cells #[.slice none 0 0] 23)).alloc (.cells #[.int .i64 0] 28)) 22 #[.slice S n c]).alloc (.cells AC 25)).alloc (.cells BC 25)
    rw [hW3] at h
    simpa only [World.size_alloc, hz] using h
  have k7 : Blk W3 (z + 7) 25 AC := by
    have h := (Blk.new (((((((w.alloc (.cells #[.func (.func gf) #[] cap] 120)).alloc (.cells AC 25)).alloc (.cells BC 25)).alloc (.cells #[.int .i64 0, .slice none 0 0, .slice none 0 0] 25)).alloc (.cells #[.slice none 0 0] 23)).alloc (.cells #[.int .i64 0] 28)).alloc (.cells #[.slice S n c] 22)) 25 AC).alloc (.cells BC 25)
    rw [hW3] at h
    simpa only [World.size_alloc, hz] using h
  have k8 : Blk W3 (z + 8) 25 BC := by
    have h := Blk.new ((((((((w.alloc (.cells #[.func (.func gf) #[] cap] 120)).alloc (.cells AC 25)).alloc (.cells BC 25)).alloc (.cells #[.int .i64 0, .slice none 0 0, .slice none 0 0] 25)).alloc (.cells #[.slice none 0 0] 23)).alloc (.cells #[.int .i64 0] 28)).alloc (.cells #[.slice S n c] 22)).alloc (.cells AC 25)) 25 BC
    rw [hW3] at h
    simpa only [World.size_alloc, hz] using h
  have HPRE : Hid (∀ W, Keep (fun i => i = z + 4 ∨ i = z + 5) W3 W → Below w.heap.size w W ∧ PrPre (z + 6) (z + 7) (z + 8) S c sh a b p q W) := Lib.hid (fun W hk => by
    have hb := hb3.trans (hk.below (B := w.heap.size) hb3.size (fun i hi e => by omega))
    refine ⟨hb, ?_, ?_, ?_, ?_, ea.below hb, eb.below hb⟩
    · rw [hn]; exact hk.blk k6 (by omega)
    · rw [hAC]; exact hk.blk k7 (by omega)
    · rw [hBC]; exact hk.blk k8 (by omega)
    · rw [hn]; exact (rs.below hb).more hb.size)
  have HF3 := Lib.hid kF
  have HR3 := Lib.hid kR
  have H0 : Hid (ApI W3 z [] 0 W3) := Lib.hid ⟨Keep.refl _ _, ⟨none, 0, kE, World.ownsRow_nil _ _ _ _⟩, kT⟩
  have HS3 := Lib.hid hs3
  have HZ := Lib.hid hz
  have HB3 := Lib.hid hb3
  have hMV := pairs_moves 6 (by omega) (z + 6) (z + 7) (z + 8) S c sh a b p q N hok hN hel W3
  have HEL : Hid (∀ i, i < N → InR (elA a i) ∧ InR (elA b i)) := Lib.hid (fun i h => ⟨elA_in ea.f1 (hel i h).1, elA_in eb.f1 (hel i h).2⟩)
  have HCL := Lib.hid hcall
  rw [hAC, hBC]
  have HW3 := Lib.hid hW3
  clear hb3 kF kR kE kT k6 k7 k8 ea eb rs hel hcall hok hN hn hW3 hs3 hz
  refine (callsIn_wide (n := 7)).1 ?_
  refine callsIn_of_wp_marks Try.func96 rfl trivial ?_
  simp only [Try.ntmps96, List.size_toArray, List.length_cons, List.length_nil, Nat.reduceAdd, Nat.reduceSub, Array.replicate_succ, Array.replicate_zero, List.push_toArray, List.append_toArray, List.nil_append, List.cons_append]
  have hAC3 := hAC2
  have hBC3 := hBC2
  clear hAC hBC
  subst hAC2
  subst hBC2
  gi_wp2
  refine wpIn_scope_wide ?_
  gi_wp2
  refine wpIn_label ?_
  gi_wp2_with (gi_at_call 159; refine (callsIn_wide.2 (scpairs_any _ _ _ _ _ _ _ _ rfl rfl)).mono ?_; rintro e w7 ⟨rfl, hw7⟩)
  obtain rfl : W3 = w7 := by rw [← HW3.out, ← hw7]
  clear hw7
  have hz := HZ.out
  rw [hz] at *
  simp only [Nat.add_assoc, Nat.reduceAdd]
  clear hz
  refine wpIn_rangeFunc_movesV rfl (by omega) (gf := 197) (lb := #[.pointer (some ⟨z + 6, 0, none⟩), .pointer (some ⟨z + 7, 0, none⟩), .pointer (some ⟨z + 8, 0, none⟩)]) rfl trivial (enters_of Try.func197 (by kernel_rfl) rfl)
    hMV (Below.refl _ _) (fun _ _ => rfl)
    (fun k W => ApI W3 z (apL gv' k) 0 W ∧ apE ge' k = 0 ∧ k ≤ N)
    (fun k _ W => ApI W3 z (apL gv' k) 0 W ∧ apE ge' k = 0 ∧ k < N)
    (fun W => ApI W3 z (apL gv' N) 0 W ∧ apE ge' N = 0)
    (fun cc W => cc = .exit 0 ∧ apE ge' N ≠ 0 ∧ ∃ vals, ApI W3 z vals (apE ge' N) W)
    (fun k W W' row hs hg hr => ⟨hs.1.own hg hr, hs.2⟩)
    (fun _ W W' row hs hg hr => ⟨hs.1.own hg hr, hs.2⟩)
    (fun cc W W' row hs hg hr => by
      obtain ⟨h1, h2, vals, h3⟩ := hs
      exact ⟨h1, h2, vals, h3.own hg hr⟩)
    (fun k W hs => (HPRE.out W hs.1.keep).2)
    (fun k W W' hs hx l o ho hc => by
      rcases hx with ⟨_, _, hb⟩ | ⟨_, rfl⟩
      · exact (hb.block l (Array.getElem?_eq_some_iff.1 ho).1).trans ho
      · exact ho)
    (fun k x W W' hs hx => ⟨hs.1.below hx.2, hs.2.1, hx.1⟩)
    (fun k W W' hs hx => by
      obtain ⟨rfl, rfl⟩ := hx
      exact ⟨hs.1, hs.2.1⟩)
    ⟨H0.out, rfl, Nat.zero_le _⟩
    (fun k _ a' W => ∃ rb, W3.heap.size ≤ rb ∧ a' = { tmps := #[.func (.func gf) #[] cap, .slice S n c, .agg #[.int .i64 ka, sa, la], .agg #[.int .i64 kb, sb, lb], .pointer (some ⟨z, 0, none⟩), undef, .pointer (some ⟨z + 1, 0, none⟩), .pointer (some ⟨z + 2, 0, none⟩), .pointer (some ⟨z + 3, 0, none⟩), .int .i64 0, .pointer (some ⟨z + 4, 0, none⟩), .pointer (some ⟨z + 5, 0, none⟩), .pointer (some ⟨rb, 0, none⟩), undef, undef, .slice S n c, .agg #[.int .i64 ka, sa, la], .agg #[.int .i64 kb, sb, lb], .func (.func 197) #[] #[.pointer (some ⟨z + 6, 0, none⟩), .pointer (some ⟨z + 7, 0, none⟩), .pointer (some ⟨z + 8, 0, none⟩)], .agg #[.int .i64 (elA a k), .int .i64 (elA b k)], undef, undef, undef, undef, undef, undef, undef, undef, undef, undef, undef, undef, undef, undef, undef, undef, undef, undef, undef, undef], defers := [] } ∧ Blk W rb 123 #[.int .i64 (elA a k), .int .i64 (elA b k)] ∧ ApI W3 z (apL gv' k) 0 W ∧ apE ge' k = 0 ∧ k < N)
    (fun k x a' _ W W' row hs hg hr => by
      obtain ⟨rb, h1, h2, h3, h4, h5⟩ := hs
      exact ⟨rb, h1, h2, blk_turned h3 hg hr, h4.own hg hr, h5⟩)
    ?assign ?body ?done ?stop
  case assign =>
    intro l k x W K hI hK
    have HK := Lib.hid hK
    have HI := Lib.hid hI
    clear hK hI
    unfold prAt pv
    gi_wp2
    exact HK.out _ _ (keeps_below _ (alloc_below _ _)) ⟨W.heap.size, HI.out.1.keep.size, rfl, Blk.new W _ _, HI.out.1.alloc _, HI.out.2⟩
  case body =>
    rintro l k x a' W ⟨rb, hrb, rfl, hbx, hI, hE, hkN⟩
    have cF := (hI.keep.blk HF3.out (by omega)).cell 0
    have p0 := hbx.cell 0
    have p1 := hbx.cell 1
    have hin := HEL.out k hkN
    have HC := Lib.hid (HCL.out (elA a k) (elA b k) W hin.1 hin.2 (HPRE.out W hI.keep).1)
    rw [HGV.out k, HGE.out k] at HC
    generalize elA a k = xa at *
    generalize elA b k = xb at *
    have HI := Lib.hid hI
    have HEK := Lib.hid hE
    have HKN := Lib.hid hkN
    have HXS := Lib.hid (apL_succ gv' k)
    have HXL := Lib.hid (apL_length gv' k)
    have HST := Lib.hid (fun h => apE_step hE h hkN)
    have HNX := Lib.hid (fun h => apE_next (g := ge') hE h)
    generalize gv' k = v at *
    generalize ge' k = e at *
    clear hI hE hkN hbx hin
    by_cases he : e = 0
    · subst he
      have hkb : k ≤ 4096 := by have := HKN.out; omega
      gi_wp2_with (first
        | (refine ⟨trivial, (CallsIn.inRound l (callsIn_wide.2 HC.out)).mono ?_⟩; rintro e' w9 ⟨rfl, b9⟩
           have hI9 := HI.out.below b9
           obtain ⟨A9, c9, he9, ho9⟩ := hI9.el
           have HFIN := Lib.hid (fun v' w10 (ho : World.ownsRow w10 W3.heap.size 2 1 v' ((apL gv' k).length + 1) ((apL gv' k).map iv ++ [.int .i64 v])) (hg : (w9.alloc (.cells #[.int .i64 v] 2)).grownBy w10 (Value.slice A9 (apL gv' k).length c9).ownBlock) => hI9.push (by have := HS3.out; omega) he9 ho9 v v' ho hg)
           simp only [HXL.out] at HFIN
           rw [HXL.out] at he9 ho9
           have g0 := he9.cell 0
           have hsz9 : W3.heap.size ≤ w9.heap.size := hI9.keep.size
           have HO1 := Lib.hid (arown_stay ho9 (alloc_below w9 (.cells #[.int .i64 v] 2)) (fun g hg => (arown_lt ho9 g hg).2))
           have HNEW : Hid (∀ i u, ([.int .i64 v] : List Value)[i]? = some u → (w9.alloc (.cells #[.int .i64 v] 2)).cell? ((⟨w9.heap.size, 0, none⟩ : Addr).add i) = some u) := Lib.hid (fun i u hu => by
             rw [Addr.add_mid, Nat.zero_add, (Blk.new w9 2 _).cell i, List.getElem?_toArray]
             exact hu)
           have HB9 := Lib.hid b9
           clear hI9 he9 ho9 b9)
        | (gi_at_builtin; refine wpListIn_append_own _ rfl _ _ 23 rfl W3.heap.size 2 i0 (.int .i64 0) 1 8 Try.underlying23 hi hz0 hz1 hz2 rfl (by decide) _ k _ rfl HO1.out ⟨w9.heap.size, 0, none⟩ 1 1 [.int .i64 v] rfl rfl HNEW.out (by intro u hu; rw [List.mem_singleton] at hu; subst hu; rfl) (by unfold maxLen; omega) (by omega) (by simp; omega) ?_; intro v' w10 hown hgrow _; obtain ⟨cq9, fq9, A', c', rfl, hf9⟩ := HFIN.out v' w10 hown hgrow; have HF9 := Lib.hid hf9; clear hown hgrow hf9))
      exact ⟨keeps_on (keeps_below _ HB9.out) HF9.out.1, by rw [HXS.out]; exact HF9.out.2, HNX.out trivial, HKN.out⟩
    · have hne : (e != 0) = true := by simp [he]
      have HE := Lib.hid he
      clear he
      gi_wp2_with (refine ⟨trivial, (CallsIn.inRound l (callsIn_wide.2 HC.out)).mono ?_⟩; rintro e' w9 ⟨rfl, b9⟩; have hI9 := HI.out.below b9; have g0 := hI9.ft.cell 0; have g1 := hI9.ft.frozen 0; have HI9 := Lib.hid hI9; have HB9 := Lib.hid b9; clear hI9 b9)
      have h := HST.out HE.out
      refine ⟨keeps_on (keeps_below _ HB9.out) (keeps_set (by have := HS3.out; omega) _), rfl, ?_, apL gv' k, ?_⟩
      · rw [h]; exact HE.out
      · rw [h]; exact HI9.out.fail (by have := HS3.out; omega) _
  case done =>
    rintro D W hD ⟨hI, hE⟩ hK
    have hB := (HPRE.out W hI.keep).1
    obtain ⟨A9, c9, he9, ho9⟩ := hI.el
    rw [apL_length] at he9 ho9
    have g0 := he9.cell 0
    have t0 := hI.ft.cell 0
    have hR := hI.keep.blk HR3.out (by omega)
    have r0 := hR.cell 0
    have r1 := hR.cell 1
    have r2 := hR.cell 2
    have f0 := hR.frozen 0
    have f1 := hR.frozen 1
    have f2 := hR.frozen 2
    have HE := Lib.hid (fin_gen (rc := z + 3) hB (by have := HZ.out; omega) (by have := HB3.out.size; omega) hR hK (arkeep_three W (z + 3) (.int .i64 1) (.slice S n c) (.slice A9 N c9)) (arblk_three (.int .i64 1) (.slice S n c) (.slice A9 N c9) hR))
    have HO9 := Lib.hid (arown_mono ho9 (show w.heap.size ≤ W3.heap.size from HB3.out.size))
    have HEN := Lib.hid hE
    clear hB he9 ho9 hI hR hE
    gi_wp2
    refine ⟨by simp, .inl ⟨_, _, rfl, run_takeDeferred HE.out.1, ?_⟩⟩
    refine ⟨_, results_arr2 rfl rfl rfl HE.out.2.1, _, by rw [HEN.out]; rfl, HE.out.2.2.1, fun h => absurd HEN.out h, fun _ => ⟨A9, c9, rfl, HE.out.2.2.2 _ _ _ _ HO9.out⟩⟩
  case stop =>
    rintro D c' W hD ⟨rfl, hE, vals, hI⟩ hK
    have hB := (HPRE.out W hI.keep).1
    have t0 := hI.ft.cell 0
    have hR := hI.keep.blk HR3.out (by omega)
    have r0 := hR.cell 0
    have r1 := hR.cell 1
    have r2 := hR.cell 2
    have f0 := hR.frozen 0
    have f1 := hR.frozen 1
    have f2 := hR.frozen 2
    have HE := Lib.hid (fin_gen (W2 := World.drew (((W.setCell ⟨z + 3, 0, none⟩ (.int .i64 0)).setCell ⟨z + 3, 1, none⟩ (.slice none 0 0)).setCell ⟨z + 3, 2, none⟩ (.slice none 0 0))) (rc := z + 3) hB (by have := HZ.out; omega) (by have := HB3.out.size; omega) hR hK ((arkeep_three W (z + 3) (.int .i64 0) (.slice none 0 0) (.slice none 0 0)).drew) ((arblk_three (.int .i64 0) (.slice none 0 0) (.slice none 0 0) hR).drew))
    obtain ⟨E, hEE⟩ : ∃ E, apE ge' N = E := ⟨_, rfl⟩
    rw [hEE] at t0 hE
    have hne : (E != 0) = true := by simp [hE]
    have HEE := Lib.hid hEE
    have HEN := Lib.hid hE
    clear hB hI hR hE hEE
    gi_wp2
    gi_region
    gi_wp2
    refine ⟨by simp, .inl ⟨_, _, rfl, run_takeDeferred HE.out.1, ?_⟩⟩
    exact ⟨_, results_arr2 rfl rfl rfl HE.out.2.1, _, by rw [HEE.out]; rfl, HE.out.2.2.1, fun _ => rfl, fun h => absurd (HEE.out.symm.trans h) HEN.out⟩
end
end Go.Proofs.Ytkabdkblcgklmaa.sc

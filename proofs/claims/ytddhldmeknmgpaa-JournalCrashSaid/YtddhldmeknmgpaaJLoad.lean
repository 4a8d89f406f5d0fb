/-
  The journal of layer 8: load.
-/
import Derived.Test.YtddhldmeknmgpaaJLoadB
import Derived.Laws.EntriesVeiled
namespace Go.Proofs.Ytddhldmeknmgpaa.journal
open Go.RowKit Go.Proofs.Ytddhldmeknmgpaa.crc Go.Proofs.Ytddhldmeknmgpaa.root

section
attribute [local go_sem] Oper.semAt_some
set_option maxRecDepth 100000 in
set_option maxHeartbeats 4000000 in
theorem jload_any {wE w : World} {b M ep : Nat} {p : Option Addr} {at_ : Int} {er : Int → Int} {L : Int → List UInt8} (hS : Src p (fun W => Below wE.heap.size wE W) er L) (hE : Below wE.heap.size wE w) (h : JAt wE.heap.size w b p (.slice none 0 0) [] ⟨at_, M, ep, []⟩)
    (hM : (M : Int) ≤ 9223372036854775807) (hlim : ∀ k, k < M → (∀ i, i ≤ k → er (adr at_ i) = 0) → k < 4096) :
    Calls Try.prog 36 #[.pointer (some ⟨b, 0, none⟩)] w fun e w' => e = .returned (.int .i64 (errP (fun k => er (adr at_ k)) M)) ∧ Below wE.heap.size wE w' ∧
      (errP (fun k => er (adr at_ k)) M = 0 → ∃ pv vs, JAt wE.heap.size w' b p pv vs ⟨at_, M, ep, (pfx ep (fun k => L (adr at_ k)) M).1⟩) := by
  obtain ⟨q, hq⟩ : ∃ q, w.heap.size = q := ⟨_, rfl⟩
  have c4 : w.cell? ⟨b, 4, none⟩ = some (.int .u64 (ep : Int)) := h.blk.cell 4
  have hblt := h.lt
  have c4' : (w.alloc (.cells #[.pointer (some ⟨b, 0, none⟩)] 38)).cell? ⟨b, 4, none⟩ = some (.int .u64 (ep : Int)) := (World.cell?_alloc_lt w _ ⟨b, 4, none⟩ hblt).trans c4
  obtain ⟨wa, hwa⟩ : ∃ wa, w.alloc (.cells #[.pointer (some ⟨b, 0, none⟩)] 38) = wa := ⟨_, rfl⟩
  have hsa : wa.heap.size = q + 1 := by rw [← hwa, World.size_alloc, hq]
  have HPX := Lib.hid (show Calls Try.prog 59 #[.int .u64 ep] wa fun e w' => e = .returned (.func (.func 69) #[] #[.pointer (some ⟨q + 2, 0, none⟩), .pointer (some ⟨q + 3, 0, none⟩), .pointer (some ⟨q + 1, 0, none⟩)]) ∧
    Blk w' (q + 1) 22 #[.int .u64 ep] ∧ Blk w' (q + 2) 22 #[.int .u64 0] ∧ Blk w' (q + 3) 4 #[.bool true] ∧ Below wa.heap.size wa w' from by
      have := jprefix_any ep wa
      rw [hsa] at this
      rw [hsa]
      exact this)
  have H := Lib.hid h
  have HE0 := Lib.hid hE
  have HS := Lib.hid hS
  obtain ⟨ERR, hERR⟩ : ∃ E, errP (fun k => er (adr at_ k)) M = E := ⟨_, rfl⟩
  rw [hERR]
  have HERR := Lib.hid hERR
  have HLIM := Lib.hid hlim
  have HM := Lib.hid hM
  have HQ := Lib.hid hq
  have hbq : Blk wa q 38 #[.pointer (some ⟨b, 0, none⟩)] := by rw [← hq, ← hwa]; exact Blk.new w _ _
  have hba : Below w.heap.size w wa := by rw [← hwa]; exact (Below.refl _ _).alloc (Nat.le_refl _) _
  rw [hwa] at c4'
  have cq := hbq.cell 0
  have HBQ := Lib.hid hbq
  have HBA := Lib.hid hba
  have HSA := Lib.hid hsa
  clear h hE hS hERR hlim hM hbq hba hsa
  refine (callsIn_wide (n := 7)).1 ?_
  refine callsIn_of_wp_marks Try.func36 rfl trivial ?_
  simp only [Try.ntmps36, List.size_toArray, List.length_cons, List.length_nil, Nat.reduceAdd, Nat.reduceSub, Array.replicate_succ, Array.replicate_zero, List.push_toArray, List.append_toArray, List.nil_append, List.cons_append]
  gi_wp2
  refine wpIn_scope_wide ?_
  have HJ0 : Hid (∀ w2 : World, Blk w2 (q + 1) 22 #[.int .u64 ep] → Blk w2 (q + 2) 22 #[.int .u64 0] → Blk w2 (q + 3) 4 #[.bool true] → Below wa.heap.size wa w2 → ∃ f, w2.heap.size = f ∧ q + 3 < f ∧
      ((w2.alloc (.cells #[.int .i64 0] 25)).alloc (.cells #[.nilFunc] 96)).cell? ⟨f, 0, none⟩ = some (.int .i64 0) ∧ ((w2.alloc (.cells #[.int .i64 0] 25)).alloc (.cells #[.nilFunc] 96)).cell? ⟨f + 1, 0, none⟩ = some .nilFunc) := Lib.hid (fun w2 g0 g1 g2 gb => by
    refine ⟨_, rfl, g2.lt, ?_, ?_⟩
    · exact ((Blk.new w2 25 #[.int .i64 0]).alloc _).cell 0
    · have := (Blk.new (w2.alloc (.cells #[.int .i64 0] 25)) 96 #[.nilFunc]).cell 0
      rw [World.size_alloc] at this
      exact this)
  gi_wp2_with (first
    | (refine ⟨trivial, ?_⟩; gi_at_call 59; refine (callsIn_wide.2 HPX.out).mono ?_; rintro e w2 ⟨rfl, g0, g1, g2, gb⟩; have B2 := Lib.hid gb; have G0 := Lib.hid g0; have G1 := Lib.hid g1; have G2 := Lib.hid g2; obtain ⟨f, hf, hqf, z0, z1⟩ := HJ0.out w2 g0 g1 g2 gb; clear g0 g1 g2 gb hq c4 c4' hwa))
  obtain ⟨W3, hW3⟩ : ∃ W3, ((w2.alloc (.cells #[.int .i64 0] 25)).alloc (.cells #[.func (.func 69) #[] #[.pointer (some ⟨q + 2, 0, none⟩), .pointer (some ⟨q + 3, 0, none⟩), .pointer (some ⟨q + 1, 0, none⟩)]] 96)) = W3 := ⟨_, rfl⟩
  rw [hW3]
  have hs3 : W3.heap.size = f + 2 := by rw [← hW3, World.size_alloc, World.size_alloc, hf]
  have hb23 : Below w2.heap.size w2 W3 := by rw [← hW3]; exact ((Below.refl _ w2).alloc (Nat.le_refl _) _).alloc (by simp) _
  have hbf : Blk W3 f 25 #[.int .i64 0] := by rw [← hW3, ← hf]; exact (Blk.new w2 _ _).alloc _
  have hbu : Blk W3 (f + 1) 96 #[.func (.func 69) #[] #[.pointer (some ⟨q + 2, 0, none⟩), .pointer (some ⟨q + 3, 0, none⟩), .pointer (some ⟨q + 1, 0, none⟩)]] := by
    have h := Blk.new (w2.alloc (.cells #[.int .i64 0] 25)) 96 #[.func (.func 69) #[] #[.pointer (some ⟨q + 2, 0, none⟩), .pointer (some ⟨q + 3, 0, none⟩), .pointer (some ⟨q + 1, 0, none⟩)]]
    rw [World.size_alloc, hf, hW3] at h
    exact h
  have hba3 : Below wa.heap.size wa W3 := B2.out.trans (hb23.mono B2.out.size)
  have hbq3 : Blk W3 q 38 #[.pointer (some ⟨b, 0, none⟩)] := HBQ.out.below hba3 (by rw [HSA.out]; omega)
  have cq3 := hbq3.cell 0
  have hw3 : Below w.heap.size w W3 := HBA.out.trans (hba3.mono (by rw [HSA.out, HQ.out]; omega))
  have hlo : wE.heap.size ≤ w.heap.size := HE0.out.size
  have HLI3 : Hid (∀ w4, Below W3.heap.size W3 w4 → Blk w4 (f + 2) 38 #[.pointer (some ⟨b, 0, none⟩)] → w4.heap.size = f + 3 → LI wE (f + 3) q f b M ep p at_ 0 [] true w4) := Lib.hid (fun w4 h34 hc hs4 => by
    have h4 : Below w.heap.size w w4 := hw3.trans (h34.mono hw3.size)
    have h24 : Below w2.heap.size w2 w4 := hb23.trans (h34.mono hb23.size)
    exact ⟨HE0.out.trans (h4.mono hlo), by omega, hbq3.below h34 (by omega), G0.out.below h24 (by omega), G1.out.below h24 (by omega), G2.out.below h24 (by omega), hbf.below h34 (by omega), hbu.below h34 (by omega), hc, _, _, H.out.below h4⟩)
  have HS3 := Lib.hid hs3
  have HLO := Lib.hid hlo
  clear hW3 hb23 hbf hbu hba3 hbq3 hw3 hs3 hlo cq z0 z1
  refine wpIn_label ?_
  gi_wp2_with (refine ⟨trivial, ?_⟩; gi_at_call 60; refine (callsIn_wide.2 (jsectors_any _ _)).mono ?_; rintro e w4 ⟨rfl, hw4⟩)
  have hs4 : w4.heap.size = f + 3 := by rw [← hw4, World.size_alloc, HS3.out]
  have h34 : Below W3.heap.size W3 w4 := by rw [← hw4]; exact (Below.refl _ _).alloc (Nat.le_refl _) _
  have hc4 : Blk w4 (f + 2) 38 #[.pointer (some ⟨b, 0, none⟩)] := by rw [← hw4, ← HS3.out]; exact Blk.new W3 _ _
  have hLI0 := HLI3.out w4 h34 hc4 hs4
  have HLI0 := Lib.hid hLI0
  have HS4 := Lib.hid hs4
  rw [HS3.out]
  have hqf3 : q + 3 < f := hqf
  have hn4 : wE.heap.size ≤ f + 3 := by have := HLO.out; have := HQ.out; omega
  have hwq : wE.heap.size ≤ q := by have := HLO.out; have := HQ.out; omega
  clear hw4 h34 hc4 hLI0 HLI3 G0 G1 G2
  obtain ⟨i0, hi, hz0, hz1, hz2⟩ := info_parts info_rows
  refine wpIn_rangeFunc_movesV rfl (by omega) (gf := 70) (lb := #[.pointer (some ⟨f + 2, 0, none⟩)]) rfl trivial (enters_of Try.func70 (by kernel_rfl) rfl)
    (jsectors_moves 6 (by omega) (f + 2) b M HS.out HM.out w4) (Below.refl _ _) (fun _ _ => rfl)
    (fun k W => k ≤ M ∧ (∀ i, i < k → er (adr at_ i) = 0) ∧ LI wE (f + 3) q f b M ep p at_ k (pfx ep (fun i => L (adr at_ i)) k).1 (pfx ep (fun i => L (adr at_ i)) k).2 W)
    (LM wE (f + 3) q f b M ep p at_ er L)
    (fun W => (∀ i, i < M → er (adr at_ i) = 0) ∧ LI wE (f + 3) q f b M ep p at_ M (pfx ep (fun i => L (adr at_ i)) M).1 (pfx ep (fun i => L (adr at_ i)) M).2 W)
    (fun c W => c = .exit 0 ∧ LX wE f ERR W)
    (fun k W W' row hs hg hr => ⟨hs.1, hs.2.1, hs.2.2.turn hn4 hg (fun r e => by have := hr r e; rwa [HS4.out] at this)⟩)
    (fun _ W W' row hs hg hr => ⟨hs.1, hs.2.turn hn4 hg (fun r e => by have := hr r e; rwa [HS4.out] at this)⟩)
    (fun c W W' row hs hg hr => ⟨hs.1, hs.2.turn hn4 hg (fun r e => by have := hr r e; rwa [HS4.out] at this)⟩)
    (fun k W hs => by
      obtain ⟨h1, h2, h3⟩ := hs
      obtain ⟨pv, vs, hj⟩ := h3.jn
      exact ⟨h1, ⟨h3.bc.cell 0, hj.blk.cell 1, hj.blk.cell 2, hj.blk.cell 3⟩, h3.below⟩)
    (fun k W W' hs hx i o hi ho => by
      rcases hx with ⟨x, hx⟩ | hz
      · exact (hx.2.2.block i (Array.getElem?_eq_some_iff.1 hi).1).trans hi
      · rw [hz.2]; exact hi)
    (fun k x W W' hs hx => ⟨hx.1, hs.2.1, hs.2.2.next hx.2.2, Head.own hx.2.1⟩)
    (fun k W W' hs hz => by
      obtain ⟨rfl, rfl⟩ := hz
      exact ⟨hs.2.1, hs.2.2⟩)
    ⟨Nat.zero_le _, fun i hi => by omega, HLI0.out⟩
    (fun k x a' W => LA wE (f + 3) q f b M ep p at_ er L (fun rb => { tmps := #[.pointer (some ⟨b, 0, none⟩), .pointer (some ⟨q, 0, none⟩), .int .i64 0, .pointer (some ⟨f, 0, none⟩), .pointer (some ⟨f + 1, 0, none⟩), .pointer (some ⟨rb, 0, none⟩), .int .i64 (er (adr at_ k)), .pointer (some ⟨b, 0, none⟩), .pointer (some ⟨b, 0, none⟩), .pointer (some ⟨b, 4, none⟩), .int .u64 (ep : Int), .func (.func 69) #[] #[.pointer (some ⟨q + 2, 0, none⟩), .pointer (some ⟨q + 3, 0, none⟩), .pointer (some ⟨q + 1, 0, none⟩)], .pointer (some ⟨b, 0, none⟩), .func (.func 70) #[] #[.pointer (some ⟨f + 2, 0, none⟩)], recV (L (adr at_ k)) x, .int .i64 (er (adr at_ k)), undef, undef, undef, undef, undef, undef, undef, undef, undef, undef, undef, undef, undef, undef, undef, undef, undef, undef, undef, undef], defers := [] }) k x a' W) (fun k x a' _ W W' row hs hg hr => hs.turn hn4 hg (fun r e => by have := hr r e; rwa [HS4.out] at this))
    ?assign ?body ?done ?stop
  case assign =>
    intro l k x W K hI hK
    have HK := Lib.hid hK
    have HI := Lib.hid hI
    clear hK hI
    unfold jvAt recV
    gi_wp2
    refine HK.out _ _ (KeepsFrom.of_grownBy (World.grownBy_alloc W _ none) (fun j e => by cases e)) ⟨⟨HI.out.lt, HI.out.no, HI.out.li.next ((Below.refl _ _).alloc (Nat.le_refl _) _), HI.out.hd.keep (Keep.of_below (S := fun _ => False) ((Below.refl _ _).alloc (Nat.le_refl _) _)) (fun _ e => e.elim)⟩, W.heap.size, HI.out.li.size, ?_, Blk.new W _ _⟩
    rfl
  case body =>
    rintro l k ⟨A6, c6⟩ a' W ⟨hM, rb, hrb, rfl, hbx⟩
    obtain ⟨D, hD⟩ : ∃ D, decJ (L (adr at_ k)) = D := ⟨_, rfl⟩
    have hlt := hM.lt
    have hno := hM.no
    have hli := hM.li
    have hhd := hM.hd
    have hpf : pfx ep (fun i => L (adr at_ i)) (k + 1) = (if ((pfx ep (fun i => L (adr at_ i)) k).2 && (decide (D.ep = ep) && decide (D.n = k + 1))) = true then (pfx ep (fun i => L (adr at_ i)) k).1 ++ [D.pl] else (pfx ep (fun i => L (adr at_ i)) k).1, (pfx ep (fun i => L (adr at_ i)) k).2 && (decide (D.ep = ep) && decide (D.n = k + 1))) := by
      rw [← hD]
      rfl
    have hple := pfx_le ep (fun i => L (adr at_ i)) k
    unfold recV
    simp only at hbx hhd ⊢
    rw [hD] at hbx hhd ⊢
    generalize D.pl.length = pn at *
    clear hM hD
    have b0 := hbx.cell 0
    have b1 := hbx.cell 1
    have b2 := hbx.cell 2
    by_cases he : er (adr at_ k) = 0
    case neg =>
      have hne : (er (adr at_ k) != 0) = true := by rw [bne_iff_ne]; exact he
      have hEk : er (adr at_ k) = ERR := by rw [← HERR.out]; exact (errP_first (e := fun i => er (adr at_ i)) hno he hlt).symm
      have y0 := hli.bf.cell 0
      have y0f := hli.bf.frozen 0
      have HFIN : Hid (KeepsFrom w4.heap.size W (W.setCell ⟨f, 0, none⟩ (.int .i64 (er (adr at_ k)))) ∧ LX wE f ERR (W.setCell ⟨f, 0, none⟩ (.int .i64 (er (adr at_ k))))) := Lib.hid ⟨(KeepsOthers.setCell _ _ _).from _, by rw [← hEk]; exact he, hli.below.setCell (by show wE.heap.size ≤ f; omega) _, by
        rw [← hEk]
        exact hli.bf.set_ 0 _⟩
      clear hli hbx hhd hpf hple hno hEk he b0 b1 b2
      gi_wp2
      exact ⟨HFIN.out.1, rfl, HFIN.out.2⟩
    case pos =>
      have hne : (er (adr at_ k) != 0) = false := by rw [bne_eq_false_iff_eq]; exact he
      have hno1 : ∀ j, j < k + 1 → er (adr at_ j) = 0 := fun j hj => by
        rcases Nat.lt_or_ge j k with h | h
        · exact hno j h
        · obtain rfl : j = k := by omega
          exact he
      have HNO := Lib.hid hno1
      have hk4 : k < 4096 := HLIM.out k hlt (fun i hi => hno1 i (by omega))
      have y1 := hli.bu.cell 0
      have HP1 := Lib.hid (jprefix1_any (w := W) (q + 2) (q + 3) (q + 1) k ep D.n D.ep (pfx ep (fun i => L (adr at_ i)) k).2 (.slice A6 pn c6) hli.bn hli.bw hli.be (by omega) (by omega))
      obtain ⟨ok, hok⟩ : ∃ ok, ((pfx ep (fun i => L (adr at_ i)) k).2 && (decide (D.ep = ep) && decide (D.n = k + 1))) = ok := ⟨_, rfl⟩
      rw [hok] at HP1 hpf
      obtain ⟨ls, hls⟩ : ∃ ls, (pfx ep (fun i => L (adr at_ i)) k).1 = ls := ⟨_, rfl⟩
      rw [hls] at hli hpf hple
      have HLI := Lib.hid hli
      have HBX := Lib.hid hbx
      have HHD := Lib.hid hhd
      have HPF := Lib.hid hpf
      have HPL := Lib.hid hple
      have HLT := Lib.hid hlt
      have HK4 := Lib.hid hk4
      have HAS : Hid (∀ W5, Keep (fun i => i = q + 2 ∨ i = q + 3) W W5 → Blk W5 (q + 2) 22 #[.int .u64 (k + 1 : Nat)] → Blk W5 (q + 3) 4 #[.bool ok] → LI wE (f + 3) q f b M ep p at_ (k + 1) ls ok W5 ∧ Blk W5 rb 69 #[.int .u64 D.ep, .int .u64 D.n, .slice A6 pn c6] ∧ Head W5 5 (D.pl.map bv) (.slice A6 pn c6) ∧ Keep (Cl W) W W5) := Lib.hid (fun W5 hk h1 h2 => by
        refine ⟨hli.asked hwq hk h1 h2, hk.blk hbx (fun e => ?_), hhd.keep hk (fun i e t => ?_), hk.more (fun i _ e => ?_)⟩
        · rcases e with e | e
          · exact absurd (hbx.typ.ne (e ▸ hli.bn.typ)) (by decide)
          · exact absurd (hbx.typ.ne (e ▸ hli.bw.typ)) (by decide)
        · rcases e with rfl | rfl
          · exact absurd (t.ne hli.bn.typ) (by decide)
          · exact absurd (t.ne hli.bw.typ) (by decide)
        · rcases e with rfl | rfl
          · exact cl_blk hli.bn
          · exact cl_blk hli.bw)
      have hfw : (Fence.wide.inRound l).fn 69 := trivial
      clear hli hbx hhd hpf hple hno hno1 hlt hk4 he hls hok
      cases ok
      · gi_wp2_with (refine ⟨trivial, ?_⟩; (with_reducible refine (CallsIn.inRound l (callsIn_wide.2 HP1.out)).mono ?_); rintro e w5 ⟨rfl, g1, g2, gk⟩; have HW5 := Lib.hid (HAS.out w5 gk g1 g2); clear g1 g2 gk)
        obtain ⟨h1, _, _, h4⟩ := HW5.out
        refine ⟨keepsFrom_cl h4, by have := HLT.out; omega, HNO.out, ?_⟩
        rw [HPF.out]
        exact h1
      · gi_wp2_with (refine ⟨trivial, ?_⟩; (with_reducible refine (CallsIn.inRound l (callsIn_wide.2 HP1.out)).mono ?_); rintro e W5 ⟨rfl, g1, g2, gk⟩; have HW5 := Lib.hid (HAS.out W5 gk g1 g2); clear g1 g2 gk)
        obtain ⟨li5, bx5, hd5, k5⟩ := HW5.out
        obtain ⟨W7, hW7⟩ : ∃ W7, W5.drew.alloc (.cells #[.slice A6 pn c6] 23) = W7 := ⟨_, rfl⟩
        have k57 : Below W5.heap.size W5 W7 := by rw [← hW7]; exact (Below.refl _ W5).drew.alloc (Nat.le_refl _) _
        have hd7 : Head W7 5 (D.pl.map bv) (.slice A6 pn c6) := hd5.keep (Keep.of_below (S := fun _ => False) k57) (fun _ e => e.elim)
        have hu7 : W7.cell? ⟨W5.heap.size, 0, none⟩ = some (.slice A6 pn c6) := by rw [← hW7]; exact (Blk.new W5.drew _ _).cell 0
        obtain ⟨pv, v9, W8, hrun, li8, cl8, cl11, hbW5, hbW7, hbW8, fA, fB, ⟨A9, c9, rfl⟩, A1, c1, rfl⟩ := li5.push k57 44 ⟨W5.heap.size, 0, none⟩ 1 (.slice A6 pn c6) hu7 rfl hd7 (by have := HPL.out; have := HK4.out; omega)
        obtain ⟨n1, hn1⟩ : ∃ n1, ls.length = n1 := ⟨_, rfl⟩
        rw [hn1] at hrun li8 cl11 hbW5 hbW7 hbW8 fB
        obtain ⟨W11, hW11⟩ : ∃ W11, W8.setCell ⟨b, 5, none⟩ (.slice A9 (n1 + 1) c9) = W11 := ⟨_, rfl⟩
        rw [hW11] at li8 cl11 fB
        have HC0 : Hid (∀ dn : Nat → Bool, (pick4 W5.drew W7 W8 W11 7 8 11 dn).cell? ⟨q, 0, none⟩ = some (.pointer (some ⟨b, 0, none⟩))) := Lib.hid (pick4_all (P := fun X => X.cell? ⟨q, 0, none⟩ = some (.pointer (some ⟨b, 0, none⟩))) (li5.bj.cell 0) ((li5.bj.below k57 li5.bj.lt).cell 0) ((fA _ _ _ li5.bj (by decide)).cell 0) (li8.bj.cell 0))
        have HC2 : Hid (∀ dn : Nat → Bool, (pick4 W5.drew W7 W8 W11 7 8 11 dn).cell? ⟨rb, 2, none⟩ = some (.slice A6 pn c6)) := Lib.hid (pick4_all (P := fun X => X.cell? ⟨rb, 2, none⟩ = some (.slice A6 pn c6)) (bx5.cell 2) ((bx5.below k57 bx5.lt).cell 2) ((fA _ _ _ bx5 (by decide)).cell 2) ((fB _ _ _ bx5 (by decide) (by decide)).cell 2))
        have HC5 : Hid (∀ dn : Nat → Bool, dn 11 = false → (pick4 W5.drew W7 W8 W11 7 8 11 dn).cell? ⟨b, 5, none⟩ = some (.slice A1 n1 c1)) := Lib.hid (fun dn h11 => by
          unfold pick4
          rw [h11]
          simp only [Bool.false_eq_true, if_false]
          split
          · exact hbW8.cell 5
          · split
            · exact hbW7.cell 5
            · exact hbW5.cell 5)
        have HG3 : Hid (W8.cell? ⟨b, 5, none⟩ = some (.slice A1 n1 c1) ∧ W8.frozen? ⟨b, 5, none⟩ = false) := Lib.hid ⟨hbW8.cell 5, hbW8.frozen 5⟩
        have HRUN := Lib.hid hrun
        have HW7 := Lib.hid hW7
        have HW11 := Lib.hid hW11
        have HLI8 := Lib.hid li8
        have HCL := Lib.hid (k5.trans cl11 (fun i hi ⟨t, cs, fr, e⟩ => by
          by_cases hc : Cl W i
          · exact hc
          · exact ⟨t, cs, fr, by rw [← k5.block i hi hc]; exact e⟩))
        clear hW7 k57 hd7 hu7 hrun li8 cl8 cl11 hbW5 hbW7 hbW8 fA fB hW11 li5 bx5 hd5 k5 HW5 hn1
        refine wpIn_region_done_mute_on (fun ⟨_, _, h⟩ => h) (fun dn W => W = pick4 W5.drew W7 W8 W11 7 8 11 dn ∧ (dn 8 = true → dn 7 = true) ∧ (dn 11 = true → dn 8 = true)) (fun dn i v _ => v = ([.pointer (some ⟨b, 0, none⟩), .pointer (some ⟨b, 0, none⟩), .pointer (some ⟨b, 0, none⟩), .pointer (some ⟨b, 5, none⟩), .slice A1 n1 c1, .pointer (some ⟨rb, 2, none⟩), .slice A6 pn c6, .slice (some ⟨W5.heap.size, 0, none⟩) 1 1, .slice A9 (n1 + 1) c9, .pointer (some ⟨b, 0, none⟩), .pointer (some ⟨b, 5, none⟩)] : List Value).getD i undef ∧ (i = 7 → dn 7 = true) ∧ (i = 8 → dn 8 = true)) (by kernel_rfl) (by intro o ho; simp only [List.mem_toArray, List.mem_cons, List.not_mem_nil, or_false] at ho; rcases ho with rfl | rfl | rfl | rfl | rfl | rfl | rfl | rfl | rfl | rfl | rfl | rfl <;> first | exact mute_load rfl | exact mute_nilCheck rfl | exact mute_fieldAddr rfl | exact mute_buildSlice rfl | exact mute_append rfl | exact mute_store rfl) 36 rfl (by kernel_rfl) (⟨rfl, fun e => e, fun e => e⟩) ?_ ?_
        · intro i hi
          have hi2 : i < 12 := hi
          clear hi
          rcases i with _ | i
          · refine done_value (fun _ _ h => h) (fun dn j u w h => ⟨h.1, fun e => by have := h.2.1 e; simp [upd, this], fun e => by have := h.2.2 e; simp [upd, this]⟩) (.pointer (some ⟨b, 0, none⟩)) rfl ?_
            intro dn a8 w8 hS ho hn
            have o1 : a8.tmps[1]? = some _ := (ho 1 (by kernel_rfl)).trans rfl
            clear ho hn
            refine ⟨wanted_free rfl, ?_, rfl, fun e => absurd e (by decide), fun e => absurd e (by decide)⟩
            have h1 := HC0.out dn
            have hS2 : w8 = pick4 W5.drew W7 W8 W11 7 8 11 dn := hS.1
            subst hS2
            clear hS
            go_simp
          rcases i with _ | i
          · refine done_value (fun _ _ h => h) (fun dn j u w h => ⟨h.1, fun e => by have := h.2.1 e; simp [upd, this], fun e => by have := h.2.2 e; simp [upd, this]⟩) (.pointer (some ⟨b, 0, none⟩)) rfl ?_
            intro dn a8 w8 hS ho hn
            have o1 : a8.tmps[1]? = some _ := (ho 1 (by kernel_rfl)).trans rfl
            clear ho hn
            refine ⟨wanted_free rfl, ?_, rfl, fun e => absurd e (by decide), fun e => absurd e (by decide)⟩
            have h1 := HC0.out dn
            have hS2 : w8 = pick4 W5.drew W7 W8 W11 7 8 11 dn := hS.1
            subst hS2
            clear hS
            go_simp
          rcases i with _ | i
          · refine done_value (fun _ _ h => h) (fun dn j u w h => ⟨h.1, fun e => by have := h.2.1 e; simp [upd, this], fun e => by have := h.2.2 e; simp [upd, this]⟩) (.pointer (some ⟨b, 0, none⟩)) rfl ?_
            intro dn a8 w8 hS ho hn
            obtain ⟨_, n25, rfl, fa25⟩ := hn 1 25 (by kernel_rfl) rfl
            clear ho hn
            refine ⟨wanted_free rfl, ?_, rfl, fun e => absurd e (by decide), fun e => absurd e (by decide)⟩
            go_simp
          rcases i with _ | i
          · refine done_value (fun _ _ h => h) (fun dn j u w h => ⟨h.1, fun e => by have := h.2.1 e; simp [upd, this], fun e => by have := h.2.2 e; simp [upd, this]⟩) (.pointer (some ⟨b, 5, none⟩)) rfl ?_
            intro dn a8 w8 hS ho hn
            obtain ⟨_, n26, rfl, fa26⟩ := hn 2 26 (by kernel_rfl) rfl
            clear ho hn
            refine ⟨wanted_free rfl, ?_, rfl, fun e => absurd e (by decide), fun e => absurd e (by decide)⟩
            go_simp
          rcases i with _ | i
          · refine done_read (fun _ _ h => h) (fun dn j u w h => ⟨h.1, fun e => by have := h.2.1 e; simp [upd, this], fun e => by have := h.2.2 e; simp [upd, this]⟩) (.slice A1 n1 c1) rfl ?_
            intro dn a8 w8 hS hx ho hn
            obtain ⟨_, n27, rfl, fa27⟩ := hn 3 27 (by kernel_rfl) rfl
            clear ho hn
            refine ⟨wanted_free rfl, ?_, rfl, fun e => absurd e (by decide), fun e => absurd e (by decide)⟩
            have h8 : dn 8 = false := hx 8 (by kernel_rfl)
            have h11 : dn 11 = false := Bool.eq_false_iff.2 (fun e => (by have h0 := hS.2.2 e; rw [h8] at h0; cases h0))
            have h1 := HC5.out dn h11
            have hS2 : w8 = pick4 W5.drew W7 W8 W11 7 8 11 dn := hS.1
            subst hS2
            clear hS
            go_simp
          rcases i with _ | i
          · refine done_value (fun _ _ h => h) (fun dn j u w h => ⟨h.1, fun e => by have := h.2.1 e; simp [upd, this], fun e => by have := h.2.2 e; simp [upd, this]⟩) (.pointer (some ⟨rb, 2, none⟩)) rfl ?_
            intro dn a8 w8 hS ho hn
            have o5 : a8.tmps[5]? = some _ := (ho 5 (by kernel_rfl)).trans rfl
            clear ho hn
            refine ⟨wanted_free rfl, ?_, rfl, fun e => absurd e (by decide), fun e => absurd e (by decide)⟩
            go_simp
          rcases i with _ | i
          · refine done_value (fun _ _ h => h) (fun dn j u w h => ⟨h.1, fun e => by have := h.2.1 e; simp [upd, this], fun e => by have := h.2.2 e; simp [upd, this]⟩) (.slice A6 pn c6) rfl ?_
            intro dn a8 w8 hS ho hn
            obtain ⟨_, n29, rfl, fa29⟩ := hn 5 29 (by kernel_rfl) rfl
            clear ho hn
            refine ⟨wanted_free rfl, ?_, rfl, fun e => absurd e (by decide), fun e => absurd e (by decide)⟩
            have h1 := HC2.out dn
            have hS2 : w8 = pick4 W5.drew W7 W8 W11 7 8 11 dn := hS.1
            subst hS2
            clear hS
            go_simp
          rcases i with _ | i
          · refine done_make rfl ?_
            intro dn a8 w8 hS hd hx ho hn
            obtain ⟨_, n30, rfl, fa30⟩ := hn 6 30 (by kernel_rfl) rfl
            clear ho hn
            refine ⟨wanted_free rfl, ?_⟩
            have h7 : dn 7 = false := hd
            have h8 : dn 8 = false := Bool.eq_false_iff.2 (fun e => (by have h0 := hS.2.1 e; rw [h7] at h0; cases h0))
            have h11 : dn 11 = false := Bool.eq_false_iff.2 (fun e => (by have h0 := hS.2.2 e; rw [h8] at h0; cases h0))
            have i8 := hS.2.1
            have i11 := hS.2.2
            have hS2 : w8 = W5.drew := by { have h : w8 = pick4 W5.drew W7 W8 W11 7 8 11 dn := hS.1; unfold pick4 at h; rw [h11, h8, h7] at h; exact h }
            subst hS2
            refine ⟨.slice (some ⟨W5.heap.size, 0, none⟩) 1 1, W7, (by rw [← HW7.out]; clear hS i8 i11; go_simp), ⟨(by show W7 = pick4 W5.drew W7 W8 W11 7 8 11 (upd dn 7); unfold pick4; rw [show upd dn 7 11 = false from h11, show upd dn 7 8 = false from h8, show upd dn 7 7 = true from rfl]; rfl), fun _ => rfl, i11⟩, ⟨rfl, fun _ => rfl, fun e => absurd e (by decide)⟩, fun j u _ _ h => ⟨h.1, fun e => by have := h.2.1 e; simp [upd, this], fun e => by have := h.2.2 e; simp [upd, this]⟩⟩
          rcases i with _ | i
          · refine done_make rfl ?_
            intro dn a8 w8 hS hd hx ho hn
            obtain ⟨_, n28, rfl, fa28⟩ := hn 4 28 (by kernel_rfl) rfl
            obtain ⟨_, n31, hR31⟩ := hn 7 31 (by kernel_rfl) rfl
            clear ho hn
            refine ⟨wanted_free rfl, ?_⟩
            obtain ⟨rfl, fa7, _⟩ := hR31
            have h7 : dn 7 = true := fa7 rfl
            have h8 : dn 8 = false := hd
            have h11 : dn 11 = false := Bool.eq_false_iff.2 (fun e => (by have h0 := hS.2.2 e; rw [h8] at h0; cases h0))
            have i8 := hS.2.1
            have i11 := hS.2.2
            have hS2 : w8 = W7 := by { have h : w8 = pick4 W5.drew W7 W8 W11 7 8 11 dn := hS.1; unfold pick4 at h; rw [h11, h8, h7] at h; exact h }
            subst hS2
            exact ⟨.slice A9 (n1 + 1) c9, W8, exec_append _ _ 44 rfl (eval_of n28) (eval_of n31) HRUN.out, ⟨(by show W8 = pick4 W5.drew w8 W8 W11 7 8 11 (upd dn 8); unfold pick4; rw [show upd dn 8 11 = false from h11, show upd dn 8 8 = true from rfl]; rfl), fun _ => h7, fun _ => rfl⟩, ⟨rfl, fun e => absurd e (by decide), fun _ => rfl⟩, fun j u _ _ h => ⟨h.1, fun e => by have := h.2.1 e; simp [upd, this], fun e => by have := h.2.2 e; simp [upd, this]⟩⟩
          rcases i with _ | i
          · refine done_value (fun _ _ h => h) (fun dn j u w h => ⟨h.1, fun e => by have := h.2.1 e; simp [upd, this], fun e => by have := h.2.2 e; simp [upd, this]⟩) (.pointer (some ⟨b, 0, none⟩)) rfl ?_
            intro dn a8 w8 hS ho hn
            obtain ⟨_, n24, rfl, fa24⟩ := hn 0 24 (by kernel_rfl) rfl
            clear ho hn
            refine ⟨wanted_free rfl, ?_, rfl, fun e => absurd e (by decide), fun e => absurd e (by decide)⟩
            go_simp
          rcases i with _ | i
          · refine done_value (fun _ _ h => h) (fun dn j u w h => ⟨h.1, fun e => by have := h.2.1 e; simp [upd, this], fun e => by have := h.2.2 e; simp [upd, this]⟩) (.pointer (some ⟨b, 5, none⟩)) rfl ?_
            intro dn a8 w8 hS ho hn
            obtain ⟨_, n33, rfl, fa33⟩ := hn 9 33 (by kernel_rfl) rfl
            clear ho hn
            refine ⟨wanted_free rfl, ?_, rfl, fun e => absurd e (by decide), fun e => absurd e (by decide)⟩
            go_simp
          rcases i with _ | i
          · refine done_store rfl rfl ?_
            intro dn a8 w8 hS hd hx ho hn
            obtain ⟨_, n34, rfl, fa34⟩ := hn 10 34 (by kernel_rfl) rfl
            obtain ⟨_, n32, hR32⟩ := hn 8 32 (by kernel_rfl) rfl
            clear ho hn
            refine ⟨wanted_free rfl, ?_⟩
            obtain ⟨rfl, _, fa8⟩ := hR32
            have h11 : dn 11 = false := hd
            have h8 : dn 8 = true := fa8 rfl
            have i8 := hS.2.1
            have i11 := hS.2.2
            have hS2 : w8 = W8 := by { have h : w8 = pick4 W5.drew W7 W8 W11 7 8 11 dn := hS.1; unfold pick4 at h; rw [h11, h8] at h; exact h }
            clear hS
            obtain ⟨g3, f3⟩ := HG3.out
            rw [← hS2] at g3 f3
            refine ⟨W11, (by rw [← HW11.out, ← hS2]; clear hS2 i8 i11; go_simp), ⟨(by show W11 = pick4 W5.drew W7 W8 W11 7 8 11 (upd dn 11); unfold pick4; rw [show upd dn 11 11 = true from rfl]; rfl), i8, fun _ => h8⟩, ⟨rfl, fun e => absurd e (by decide), fun e => absurd e (by decide)⟩, fun j u _ _ h => ⟨h.1, fun e => by have := h.2.1 e; simp [upd, this], fun e => by have := h.2.2 e; simp [upd, this]⟩⟩
          omega
        · intro done fv w5 hS5 hR5 hall
          obtain rfl : w5 = W11 := by
            have h : w5 = pick4 W5.drew W7 W8 W11 7 8 11 done := hS5.1
            unfold pick4 at h
            rw [hall 11 (by decide)] at h
            exact h
          simp only [putAll, List.foldl_cons, List.foldl_nil, Act.put, List.setIfInBounds_toArray, List.set_cons_succ, List.set_cons_zero]
          clear hR5 hS5 hall
          refine ⟨keepsFrom_cl HCL.out, by have := HLT.out; omega, HNO.out, ?_⟩
          rw [HPF.out]
          exact HLI8.out
  case done =>
    rintro D W hD ⟨hno, hli⟩ hK
    have hE0 : ERR = 0 := by rw [← HERR.out]; exact errP_zero hno
    have y0 := hli.bf.cell 0
    have hDl : D < W.heap.size := (Array.getElem?_eq_some_iff.1 hK).1
    have hcl : ¬ Cl W D := fun ⟨t, cs, fr, e⟩ => by rw [hK] at e; cases e
    have hp : Keep (fun k => k = D) W (W.putObj D (.deferred none)) := (Keep.refl _ _).grown (grownBy_putObj' _ D _) (fun k e _ => by injection e with e; exact e.symm)
    have HL2 := Lib.hid (hli.keep hp (fun i e => by subst e; exact hcl) (fun i e => by omega))
    have HK := Lib.hid hK
    clear hli hp hcl hno hK
    subst hE0
    gi_wp2
    refine ⟨by simp, .inl ⟨_, _, rfl, run_takeDeferred HK.out, ?_⟩⟩
    refine ⟨_, results_tmp rfl _ _ _, rfl, HL2.out.below, fun _ => ?_⟩
    exact HL2.out.jn
  case stop =>
    rintro D c' W hD ⟨rfl, hX⟩ hK
    have y0 := hX.bf.cell 0
    have hp : Keep (fun k => k = D) W (W.putObj D (.deferred none)) := (Keep.refl _ _).grown (grownBy_putObj' _ D _) (fun k e _ => by injection e with e; exact e.symm)
    have HB := Lib.hid (hX.below.trans (hp.below hX.below.size (fun i hi e => by omega)))
    have HNE := Lib.hid hX.ne
    have HK := Lib.hid hK
    clear hp hX hK
    gi_wp2
    refine ⟨by simp, .inl ⟨_, _, rfl, run_takeDeferred HK.out, ?_⟩⟩
    exact ⟨_, results_tmp rfl _ _ _, rfl, HB.out, fun e => absurd e HNE.out⟩
end
end Go.Proofs.Ytddhldmeknmgpaa.journal

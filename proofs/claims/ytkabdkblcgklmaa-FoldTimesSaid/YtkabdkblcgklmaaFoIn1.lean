/-
  Layer 16 (fold): one element of an inner product.
-/
import Derived.Test.YtkabdkblcgklmaaFoInS
namespace Go.Proofs.Ytkabdkblcgklmaa.fo
open Go.RowKit Go.Proofs.Ytkabdkblcgklmaa.arr Go.Proofs.Ytkabdkblcgklmaa.sc

/-- Where the boxes of an inner product lie. -/
structure IG where
  (m s o g l j c f r : Nat)
structure InE (f g ka kb : Int) (la lb : List Int) (A B : Option Addr) (ca cb C L M : Nat) (G : IG) (W : World) : Prop where
  bm : Blk W G.m 3 #[.int .i64 (M : Int)]
  bs : Blk W G.s 23 #[.slice (some ⟨G.r, 0, none⟩) L L]
  bo : Blk W G.o 72 #[.func (.func (mixF ka kb)) #[] #[.pointer (some ⟨G.g, 0, none⟩)]]
  bg : Blk W G.g 3 #[.int .i64 g]
  bl : Blk W G.l 23 #[.slice A la.length ca]
  bj : Blk W G.j 3 #[.int .i64 (L : Int)]
  bc : Blk W G.c 23 #[.slice B lb.length cb]
  bf : Blk W G.f 3 #[.int .i64 f]
  ra : Reads W C 1 A la.length (la.map iv)
  rb : Reads W C 1 B lb.length (lb.map iv)
  rr : ∃ xs : Array Value, xs.size = L ∧ Blk W G.r 2 xs
  cr : C ≤ G.r
theorem InE.keep {f g ka kb : Int} {la lb : List Int} {A B : Option Addr} {ca cb C L M : Nat} {G : IG} {W W' : World} {S : Nat → Prop} (h : InE f g ka kb la lb A B ca cb C L M G W) (hk : Keep S W W') (hC : ∀ i, S i → C ≤ i) (hn : ¬ S G.m ∧ ¬ S G.s ∧ ¬ S G.o ∧ ¬ S G.g ∧ ¬ S G.l ∧ ¬ S G.j ∧ ¬ S G.c ∧ ¬ S G.f) (hr : ∃ xs : Array Value, xs.size = L ∧ Blk W' G.r 2 xs) : InE f g ka kb la lb A B ca cb C L M G W' := by
  obtain ⟨n1, n2, n3, n4, n5, n6, n7, n8⟩ := hn
  have hb : Below C W W' := hk.below (by obtain ⟨xs, _, hb⟩ := h.rr; have := hb.lt; have := h.cr; omega) (fun i hi hs => by have := hC i hs; omega)
  exact ⟨hk.blk h.bm n1, hk.blk h.bs n2, hk.blk h.bo n3, hk.blk h.bg n4, hk.blk h.bl n5, hk.blk h.bj n6, hk.blk h.bc n7, hk.blk h.bf n8, h.ra.below hb, h.rb.below hb, hr, h.cr⟩
theorem InE.up {f g ka kb : Int} {la lb : List Int} {A B : Option Addr} {ca cb C L M : Nat} {G : IG} {W W' : World} (h : InE f g ka kb la lb A B ca cb C L M G W) (hb : Below W.heap.size W W') : InE f g ka kb la lb A B ca cb C L M G W' := by
  have hc : Below C W W' := hb.mono (by obtain ⟨xs, _, hb⟩ := h.rr; have := hb.lt; have := h.cr; omega)
  obtain ⟨xs, h1, h2⟩ := h.rr
  exact ⟨blk_up h.bm hb, blk_up h.bs hb, blk_up h.bo hb, blk_up h.bg hb, blk_up h.bl hb, blk_up h.bj hb, blk_up h.bc hb, blk_up h.bf hb, h.ra.below hc, h.rb.below hc, ⟨xs, h1, blk_up h2 hb⟩, h.cr⟩
theorem InE.turn {f g ka kb : Int} {la lb : List Int} {A B : Option Addr} {ca cb C L M : Nat} {G : IG} {W W' : World} (h : InE f g ka kb la lb A B ca cb C L M G W) (hk : Keep (fun i => i = G.r) W W') (hr : ∃ xs : Array Value, xs.size = L ∧ Blk W' G.r 2 xs) : InE f g ka kb la lb A B ca cb C L M G W' := by
  obtain ⟨xs, _, hb⟩ := h.rr
  exact h.keep hk (fun i e => by rw [e]; exact h.cr) ⟨h.bm.ne_ hb (by decide), h.bs.ne_ hb (by decide), h.bo.ne_ hb (by decide), h.bg.ne_ hb (by decide), h.bl.ne_ hb (by decide), h.bj.ne_ hb (by decide), h.bc.ne_ hb (by decide), h.bf.ne_ hb (by decide)⟩ hr
/-- What the second function makes of pair i behind element n. -/
def inXV (g ka kb : Int) (la lb : List Int) (L M n i : Nat) : Int := mixV g ka kb (la.getD (n / M * L + i) 0) (lb.getD (i * M + n % M) 0)
def inXE (g ka kb : Int) (la lb : List Int) (L M n i : Nat) : Int := mixE g ka kb (la.getD (n / M * L + i) 0) (lb.getD (i * M + n % M) 0)
def inGE (f g ka kb : Int) (la lb : List Int) (L M n : Nat) : Int := if apE (inXE g ka kb la lb L M n) L ≠ 0 then apE (inXE g ka kb la lb L M n) L else rowE f (apL (inXV g ka kb la lb L M n) L)
def inGV (f g ka kb : Int) (la lb : List Int) (L M n : Nat) : Int := if apE (inXE g ka kb la lb L M n) L ≠ 0 then 0 else rowV f (apL (inXV g ka kb la lb L M n) L)
/-- The row of results, as far as it is written. -/
def RwX (W : World) (r L : Nat) (gv : Nat → Int) (k : Nat) : Prop := ∃ xs : Array Value, xs.size = L ∧ Blk W r 2 xs ∧ ∀ j, j < k → xs[j]? = some (.int .i64 (gv j))
theorem RwX.rr {W : World} {r L k : Nat} {gv : Nat → Int} (h : RwX W r L gv k) : ∃ xs : Array Value, xs.size = L ∧ Blk W r 2 xs := by
  obtain ⟨xs, h1, h2, _⟩ := h
  exact ⟨xs, h1, h2⟩
theorem RwX.up {W W' : World} {r L k : Nat} {gv : Nat → Int} (h : RwX W r L gv k) (hb : Below W.heap.size W W') : RwX W' r L gv k := by
  obtain ⟨xs, h1, h2, h3⟩ := h
  exact ⟨xs, h1, blk_up h2 hb, h3⟩
theorem RwX.put {W : World} {r L k : Nat} {gv : Nat → Int} (h : RwX W r L gv k) (hk : k < L) : (∃ u, W.cell? ⟨r, k, none⟩ = some u) ∧ W.frozen? ⟨r, k, none⟩ = false ∧ Keep (fun i => i = r) W (W.setCell ⟨r, k, none⟩ (.int .i64 (gv k))) ∧ RwX (W.setCell ⟨r, k, none⟩ (.int .i64 (gv k))) r L gv (k + 1) := by
  obtain ⟨xs, h1, h2, h3⟩ := h
  refine ⟨⟨xs[k]'(by omega), by rw [h2.cell k]; exact Array.getElem?_eq_getElem (by omega)⟩, h2.frozen k, (Keep.refl _ _).setCell _ _ (fun _ => rfl), xs.setIfInBounds k (.int .i64 (gv k)), by simp [h1], h2.set_ k _, fun j hj => ?_⟩
  by_cases e : j = k
  · subst e
    rw [Array.getElem?_setIfInBounds_self_of_lt (by omega)]
  · rw [Array.getElem?_setIfInBounds_ne (fun h => e h.symm)]
    exact h3 j (by omega)
theorem RwX.reads {W : World} {r L : Nat} {gv : Nat → Int} (h : RwX W r L gv L) : Reads W W.heap.size 1 (some ⟨r, 0, none⟩) L ((apL gv L).map iv) := by
  obtain ⟨xs, h1, h2, h3⟩ := h
  refine ⟨by rw [List.length_map, apL_length, Nat.mul_one], fun _ => ⟨_, rfl, h2.lt, fun j u hu => ?_⟩⟩
  rw [Addr.add_mid, Nat.zero_add, h2.cell j]
  rw [List.getElem?_map] at hu
  by_cases hj : j < L
  · rw [apL_at hj] at hu
    rw [h3 j hj, ← hu]
    rfl
  · rw [List.getElem?_eq_none (by rw [apL_length]; omega)] at hu
    cases hu
set_option maxRecDepth 100000 in
set_option maxHeartbeats 8000000 in
theorem foin1_any (f g ka kb : Int) (la lb : List Int) (A B : Option Addr) (ca cb C L M n : Nat) (G : IG) (w : World) (h : InE f g ka kb la lb A B ca cb C L M G w) (hM : 0 < M) (hM4 : M ≤ 4096) (hL4 : L ≤ 4096) (hn4 : n ≤ 4096) (hA4 : la.length ≤ 4096) (hB4 : lb.length ≤ 4096) (hA : ∀ z ∈ la, InR z) (hB : ∀ z ∈ lb, InR z)
    (ha : ∀ i, i < L → n / M * L + i < la.length) (hb : ∀ i, i < L → i * M + n % M < lb.length) :
    Calls Try.prog 88 #[.int .i64 (n : Int), .pointer (some ⟨G.m, 0, none⟩), .pointer (some ⟨G.s, 0, none⟩), .pointer (some ⟨G.o, 0, none⟩), .pointer (some ⟨G.l, 0, none⟩), .pointer (some ⟨G.j, 0, none⟩), .pointer (some ⟨G.c, 0, none⟩), .pointer (some ⟨G.f, 0, none⟩)] w fun e w' => e = .returned (.tuple #[.int .i64 (inGV f g ka kb la lb L M n), .int .i64 (inGE f g ka kb la lb L M n)]) ∧ Keep (fun i => i = G.r) w w' ∧ InE f g ka kb la lb A B ca cb C L M G w' := by
  have hgm := mixF_enters ka kb
  have hgx : ∀ i, InR (la.getD i 0) := fun i => by
    rw [List.getD_eq_getElem?_getD]
    by_cases hi : i < la.length
    · rw [List.getElem?_eq_getElem hi]; exact hA _ (List.getElem_mem hi)
    · rw [List.getElem?_eq_none (by omega)]; exact ⟨by decide, by decide⟩
  have hgy : ∀ i, InR (lb.getD i 0) := fun i => by
    rw [List.getD_eq_getElem?_getD]
    by_cases hi : i < lb.length
    · rw [List.getElem?_eq_getElem hi]; exact hB _ (List.getElem_mem hi)
    · rw [List.getElem?_eq_none (by omega)]; exact ⟨by decide, by decide⟩
  have HXA : Hid (∀ W i, InE f g ka kb la lb A B ca cb C L M G W → i < la.length → ∃ ad, A = some ad ∧ W.cell? (ad.add i) = some (.int .i64 (la.getD i 0))) := Lib.hid (fun W i h hi => by
    obtain ⟨ad, e, _, hc⟩ := Reads.int_at (l := la) h.ra hi rfl
    rw [List.getD_eq_getElem?_getD, List.getElem?_eq_getElem hi]
    exact ⟨ad, e, hc⟩)
  have HXB : Hid (∀ W i, InE f g ka kb la lb A B ca cb C L M G W → i < lb.length → ∃ ad, B = some ad ∧ W.cell? (ad.add i) = some (.int .i64 (lb.getD i 0))) := Lib.hid (fun W i h hi => by
    obtain ⟨ad, e, _, hc⟩ := Reads.int_at (l := lb) h.rb hi rfl
    rw [List.getD_eq_getElem?_getD, List.getElem?_eq_getElem hi]
    exact ⟨ad, e, hc⟩)
  have HMX : Hid (∀ W i, InE f g ka kb la lb A B ca cb C L M G W → Calls Try.prog (mixF ka kb) #[.int .i64 (la.getD (n / M * L + i) 0), .int .i64 (lb.getD (i * M + n % M) 0), .pointer (some ⟨G.g, 0, none⟩)] W fun e w' => e = .returned (.tuple #[.int .i64 (inXV g ka kb la lb L M n i), .int .i64 (inXE g ka kb la lb L M n i)]) ∧ Below W.heap.size W w') := Lib.hid (fun W i hb => mix_any g ka kb _ _ (hgx _) (hgy _) G.g W hb.bg)
  have hrow : ∀ x ∈ apL (inXV g ka kb la lb L M n) L, InR x := fun x hx => by
    unfold apL at hx
    rw [List.mem_map] at hx
    obtain ⟨i, _, rfl⟩ := hx
    exact mixV_in (hgx _) (hgy _)
  have HRO : Hid (∀ W, RwX W G.r L (inXV g ka kb la lb L M n) L → Calls Try.prog 30 #[.int .i64 f, .slice (some ⟨G.r, 0, none⟩) L L] W fun e w' => e = .returned (.tuple #[.int .i64 (rowV f (apL (inXV g ka kb la lb L M n) L)), .int .i64 (rowE f (apL (inXV g ka kb la lb L M n) L))]) ∧ Below W.heap.size W w') := Lib.hid (fun W hx => forow_any f _ L L _ W (apL_length _ _) hx.reads (by omega) hrow)
  have hGE : inGE f g ka kb la lb L M n = if apE (inXE g ka kb la lb L M n) L ≠ 0 then apE (inXE g ka kb la lb L M n) L else rowE f (apL (inXV g ka kb la lb L M n) L) := rfl
  have hGV : inGV f g ka kb la lb L M n = if apE (inXE g ka kb la lb L M n) L ≠ 0 then 0 else rowV f (apL (inXV g ka kb la lb L M n) L) := rfl
  have hrx : RwX w G.r L (inXV g ka kb la lb L M n) 0 := by
    obtain ⟨xs, h1, h2⟩ := h.rr
    exact ⟨xs, h1, h2, fun j hj => absurd hj (by omega)⟩
  have hcells : ∀ W, InE f g ka kb la lb A B ca cb C L M G W → W.cell? ⟨G.m, 0, none⟩ = some (.int .i64 (M : Int)) ∧ W.cell? ⟨G.s, 0, none⟩ = some (.slice (some ⟨G.r, 0, none⟩) L L) ∧ W.cell? ⟨G.o, 0, none⟩ = some (.func (.func (mixF ka kb)) #[] #[.pointer (some ⟨G.g, 0, none⟩)]) ∧ W.cell? ⟨G.l, 0, none⟩ = some (.slice A la.length ca) ∧ W.cell? ⟨G.j, 0, none⟩ = some (.int .i64 (L : Int)) ∧ W.cell? ⟨G.c, 0, none⟩ = some (.slice B lb.length cb) ∧ W.cell? ⟨G.f, 0, none⟩ = some (.int .i64 f) := fun W h => ⟨h.bm.cell 0, h.bs.cell 0, h.bo.cell 0, h.bl.cell 0, h.bj.cell 0, h.bc.cell 0, h.bf.cell 0⟩
  have HCE := Lib.hid hcells
  obtain ⟨c1, c2, c3, c4, c5, c6, c7⟩ := hcells w h
  obtain ⟨l, hql⟩ : ∃ l, n / M = l := ⟨_, rfl⟩
  obtain ⟨d, hrd⟩ : ∃ d, n % M = d := ⟨_, rfl⟩
  have e1 : (n : Int).tdiv (M : Int) = (l : Int) := by rw [← hql]; exact (Int.ofNat_tdiv n _).symm
  have e2 : (n : Int).tmod (M : Int) = (d : Int) := by rw [← hrd]; exact (Int.ofNat_tmod n _).symm
  have hl4 : l ≤ 4096 := by rw [← hql]; exact Nat.le_trans (Nat.div_le_self _ _) hn4
  have hd4 : d < M := by rw [← hrd]; exact Nat.mod_lt _ hM
  rw [hql, hrd] at HMX
  rw [hql] at ha
  rw [hrd] at hb
  obtain ⟨gv, hgv⟩ : ∃ gv, inXV g ka kb la lb L M n = gv := ⟨_, rfl⟩
  obtain ⟨ge, hge⟩ : ∃ ge, inXE g ka kb la lb L M n = ge := ⟨_, rfl⟩
  rw [hgv] at HMX HRO hGE hGV hrx
  rw [hge] at HMX hGE hGV
  obtain ⟨GV, hG1⟩ : ∃ GV, inGV f g ka kb la lb L M n = GV := ⟨_, rfl⟩
  obtain ⟨GE, hG2⟩ : ∃ GE, inGE f g ka kb la lb L M n = GE := ⟨_, rfl⟩
  rw [hG1] at hGV
  rw [hG2] at hGE
  rw [hG1, hG2]
  have q1 : IntKind.i64.wrap (l : Int) = (l : Int) := by rw [IntKind.wrap_i64]; omega
  have q2 : IntKind.i64.wrap (d : Int) = (d : Int) := by rw [IntKind.wrap_i64]; omega
  have d3 : ¬ (M : Int) = 0 := by omega
  have d4 : ¬ M = 0 := by omega
  have HGV := Lib.hid hGV
  have HGE := Lib.hid hGE
  have HE := Lib.hid h
  have HR := Lib.hid hrx
  have HA := Lib.hid ha
  have HB := Lib.hid hb
  have HL := Lib.hid hL4
  have HM4 := Lib.hid hM4
  have Hl4 := Lib.hid hl4
  have Hd4 := Lib.hid hd4
  have HA4 := Lib.hid hA4
  have HB4 := Lib.hid hB4
  generalize rowV f (apL gv L) = RV at *
  generalize rowE f (apL gv L) = RE at *
  generalize mixF ka kb = gm at *
  generalize la.length = na at *
  generalize lb.length = nb at *
  clear hG1 hG2 h hrx ha hb hL4 hM4 hl4 hd4 hA4 hB4 hgx hgy hrow hGE hGV hql hrd hgv hge hA hB hcells
  go_enter Try.func88, Try.ntmps88
  go_upto_region 1 with (fail)
  go_quiet (fail)
  have hdn := below_drewN (Below.refl w.heap.size w) nq
  have HK2 : Hid (Keep (fun i => i = G.r) w (w.drewN nq)) := Lib.hid ((Keep.refl _ _).drewN nq)
  have HE2 := Lib.hid (HE.out.up hdn)
  have HR2 := Lib.hid (HR.out.up hdn)
  clear hdn HE HR c1 c2 c3 c4 c5 c6 c7
  obtain ⟨w2, hw2⟩ : ∃ w2, w.drewN nq = w2 := ⟨_, rfl⟩
  rw [hw2] at HK2 HE2 HR2 ⊢
  clear hw2
  obtain ⟨c1, c2, c3, c4, c5, c6, c7⟩ := HCE.out w2 HE2.out
  go_wp2
  go_loopw [24] (fun i wr => ∃ k : Nat, i = .int .i64 (k : Int) ∧ k ≤ L ∧ apE ge k = 0 ∧ Keep (fun i => i = G.r) w wr ∧ InE f g ka kb la lb A B ca cb C L M G wr ∧ RwX wr G.r L gv k) (fun i _ => L - (intOf i).toNat)
  case atStart => exact ⟨0, rfl, Nat.zero_le _, rfl, HK2.out, HE2.out, HR2.out⟩
  case round =>
    clear c1 c2 c3 c4 c5 c6 c7
    obtain ⟨k, rfl, hkL, hE, hK, hI, hX⟩ := hrel
    by_cases hk : k < L
    · have hd : (k : Int) < (L : Int) := by omega
      have hA1 := HA.out k hk
      have hB1 := HB.out k hk
      obtain ⟨adA, hadA, _⟩ := HXA.out wr _ hI hA1
      obtain ⟨adB, hadB, _⟩ := HXB.out wr _ hI hB1
      subst hadA hadB
      have HCX : Hid (∀ W, Below wr.heap.size wr W → W.cell? (adA.add (l * L + k)) = some (.int .i64 (la.getD (l * L + k) 0))) := Lib.hid (fun W hb => by
        obtain ⟨ad, e, hc⟩ := HXA.out W _ (hI.up hb) hA1
        injection e with e
        subst e
        exact hc)
      have HCY : Hid (∀ W, Below wr.heap.size wr W → W.cell? (adB.add (k * M + d)) = some (.int .i64 (lb.getD (k * M + d) 0))) := Lib.hid (fun W hb => by
        obtain ⟨ad, e, hc⟩ := HXB.out W _ (hI.up hb) hB1
        injection e with e
        subst e
        exact hc)
      have HMK : Hid (∀ W, Below wr.heap.size wr W → Calls Try.prog gm #[.int .i64 (la.getD (l * L + k) 0), .int .i64 (lb.getD (k * M + d) 0), .pointer (some ⟨G.g, 0, none⟩)] W fun e w' => e = .returned (.tuple #[.int .i64 (gv k), .int .i64 (ge k)]) ∧ Below W.heap.size W w') := Lib.hid (fun W hb => HMX.out W k (hI.up hb))
      have HST := Lib.hid (fun h => apE_step (n := L) hE h hk)
      have HNX := Lib.hid (fun h => apE_next (g := ge) hE h)
      have HXP := Lib.hid (fun W (h : RwX W G.r L gv k) => h.put hk)
      generalize la.getD (l * L + k) 0 = x at *
      generalize lb.getD (k * M + d) 0 = y at *
      obtain ⟨s, hs⟩ : ∃ s, l * L + k = s := ⟨_, rfl⟩
      obtain ⟨t, ht⟩ : ∃ t, k * M + d = t := ⟨_, rfl⟩
      obtain ⟨lL, hlL⟩ : ∃ lL, l * L = lL := ⟨_, rfl⟩
      obtain ⟨kM, hkM⟩ : ∃ kM, k * M = kM := ⟨_, rfl⟩
      have b1 : lL ≤ 16777216 := by have := Nat.mul_le_mul Hl4.out HL.out; omega
      have b2 : kM ≤ 16777216 := by have := Nat.mul_le_mul (show k ≤ 4096 by have := HL.out; omega) HM4.out; omega
      have m1 : (l : Int) * (L : Int) = (lL : Int) := by rw [← hlL]; exact (Int.natCast_mul l L).symm
      have m2 : (k : Int) * (M : Int) = (kM : Int) := by rw [← hkM]; exact (Int.natCast_mul k M).symm
      rw [hs] at HCX hA1
      rw [ht] at HCY hB1
      rw [hlL] at hs
      rw [hkM] at ht
      have m3 : (lL : Int) + (k : Int) = (s : Int) := by omega
      have m4 : (kM : Int) + (d : Int) = (t : Int) := by omega
      have hdl := Hd4.out
      have hml := HM4.out
      have hll := HL.out
      have p1 : IntKind.i64.wrap (lL : Int) = (lL : Int) := by rw [IntKind.wrap_i64]; omega
      have p2 : IntKind.i64.wrap (kM : Int) = (kM : Int) := by rw [IntKind.wrap_i64]; omega
      have p3 : IntKind.i64.wrap (s : Int) = (s : Int) := by rw [IntKind.wrap_i64]; omega
      have p4 : IntKind.i64.wrap (t : Int) = (t : Int) := by rw [IntKind.wrap_i64]; omega
      have d5 : (s : Int) < (na : Int) := by omega
      have d6 : (t : Int) < (nb : Int) := by omega
      obtain ⟨V, hV⟩ : ∃ V, gv k = V := ⟨_, rfl⟩
      obtain ⟨E, hEE⟩ : ∃ E, ge k = E := ⟨_, rfl⟩
      rw [hV, hEE] at HMK
      rw [hV] at HXP
      rw [hEE] at HST HNX
      have HI := Lib.hid hI
      have HK := Lib.hid hK
      have HX := Lib.hid hX
      have HE := Lib.hid hE
      have HKL := Lib.hid hk
      clear hs ht hlL hkM b1 b2 hV hEE hI hK hX hE hA1 hB1 HA HB HXA HXB HE2 HR2 HK2 HMX HRO hdl hml
      go_upto_region 5 with (fail)
      refine wp_region_done_on (GS wr) (GR [17] (fun (_ : Nat) (v : Value) (_ : World) => v = .tuple #[.int .i64 V, .int .i64 E]) [.func (.func gm) #[] #[.pointer (some ⟨G.g, 0, none⟩)], .slice (some adA) na ca, .int .i64 (l : Int), .int .i64 (L : Int), .int .i64 (lL : Int), .int .i64 (k : Int), .int .i64 (s : Int), .pointer (some (adA.add s)), .int .i64 x, .slice (some adB) nb cb, .int .i64 (k : Int), .int .i64 (M : Int), .int .i64 (kM : Int), .int .i64 (d : Int), .int .i64 (t : Int), .pointer (some (adB.add t)), .int .i64 y, undef, .tuple #[.int .i64 V, .int .i64 E], .int .i64 V, .int .i64 E, .int .i64 V, .int .i64 E]) (by kernel_rfl) 61 rfl (by kernel_rfl) ((Below.refl _ _).drew) ?_ ?_
      · intro i hi
        have hi2 : i < 23 := hi
        clear hi
        rcases i with _ | i
        · refine gr_value rfl (by decide) (.func (.func gm) #[] #[.pointer (some ⟨G.g, 0, none⟩)]) rfl ?_
          intro a8 w8 hb8 ho hn
          have o3 : a8.tmps[3]? = some _ := (ho 3 (by kernel_rfl)).trans rfl
          clear ho hn
          refine ⟨wanted_free rfl, ?_⟩
          obtain ⟨c1, c2, c3, c4, c5, c6, c7⟩ := HCE.out w8 (HI.out.up hb8)
          go_simp
        rcases i with _ | i
        · refine gr_value rfl (by decide) (.slice (some adA) na ca) rfl ?_
          intro a8 w8 hb8 ho hn
          have o4 : a8.tmps[4]? = some _ := (ho 4 (by kernel_rfl)).trans rfl
          clear ho hn
          refine ⟨wanted_free rfl, ?_⟩
          obtain ⟨c1, c2, c3, c4, c5, c6, c7⟩ := HCE.out w8 (HI.out.up hb8)
          go_simp
        rcases i with _ | i
        · refine gr_value rfl (by decide) (.int .i64 (l : Int)) rfl ?_
          intro a8 w8 hb8 ho hn
          have o11 : a8.tmps[11]? = some _ := (ho 11 (by kernel_rfl)).trans rfl
          clear ho hn
          refine ⟨wanted_free rfl, ?_⟩
          go_simp
        rcases i with _ | i
        · refine gr_value rfl (by decide) (.int .i64 (L : Int)) rfl ?_
          intro a8 w8 hb8 ho hn
          have o5 : a8.tmps[5]? = some _ := (ho 5 (by kernel_rfl)).trans rfl
          clear ho hn
          refine ⟨wanted_free rfl, ?_⟩
          obtain ⟨c1, c2, c3, c4, c5, c6, c7⟩ := HCE.out w8 (HI.out.up hb8)
          go_simp
        rcases i with _ | i
        · refine gr_value rfl (by decide) (.int .i64 (lL : Int)) rfl ?_
          intro a8 w8 hb8 ho hn
          obtain ⟨v30, n30, hq30⟩ := hn 2 30 (by kernel_rfl) rfl
          obtain rfl := hq30.1 (by decide)
          obtain ⟨v31, n31, hq31⟩ := hn 3 31 (by kernel_rfl) rfl
          obtain rfl := hq31.1 (by decide)
          clear ho hn
          refine ⟨wanted_free rfl, ?_⟩
          go_simp
        rcases i with _ | i
        · refine gr_value rfl (by decide) (.int .i64 (k : Int)) rfl ?_
          intro a8 w8 hb8 ho hn
          have o13 : a8.tmps[13]? = some _ := (ho 13 (by kernel_rfl)).trans rfl
          clear ho hn
          refine ⟨wanted_free rfl, ?_⟩
          go_simp
        rcases i with _ | i
        · refine gr_value rfl (by decide) (.int .i64 (s : Int)) rfl ?_
          intro a8 w8 hb8 ho hn
          obtain ⟨v32, n32, hq32⟩ := hn 4 32 (by kernel_rfl) rfl
          obtain rfl := hq32.1 (by decide)
          obtain ⟨v33, n33, hq33⟩ := hn 5 33 (by kernel_rfl) rfl
          obtain rfl := hq33.1 (by decide)
          clear ho hn
          refine ⟨wanted_free rfl, ?_⟩
          go_simp
        rcases i with _ | i
        · refine gr_value rfl (by decide) (.pointer (some (adA.add s))) rfl ?_
          intro a8 w8 hb8 ho hn
          obtain ⟨v29, n29, hq29⟩ := hn 1 29 (by kernel_rfl) rfl
          obtain rfl := hq29.1 (by decide)
          obtain ⟨v34, n34, hq34⟩ := hn 6 34 (by kernel_rfl) rfl
          obtain rfl := hq34.1 (by decide)
          clear ho hn
          refine ⟨wanted_free rfl, ?_⟩
          go_simp
        rcases i with _ | i
        · refine gr_value rfl (by decide) (.int .i64 x) rfl ?_
          intro a8 w8 hb8 ho hn
          obtain ⟨v35, n35, hq35⟩ := hn 7 35 (by kernel_rfl) rfl
          obtain rfl := hq35.1 (by decide)
          clear ho hn
          refine ⟨wanted_free rfl, ?_⟩
          have y3 := HCX.out w8 hb8
          go_simp
        rcases i with _ | i
        · refine gr_value rfl (by decide) (.slice (some adB) nb cb) rfl ?_
          intro a8 w8 hb8 ho hn
          have o6 : a8.tmps[6]? = some _ := (ho 6 (by kernel_rfl)).trans rfl
          clear ho hn
          refine ⟨wanted_free rfl, ?_⟩
          obtain ⟨c1, c2, c3, c4, c5, c6, c7⟩ := HCE.out w8 (HI.out.up hb8)
          go_simp
        rcases i with _ | i
        · refine gr_value rfl (by decide) (.int .i64 (k : Int)) rfl ?_
          intro a8 w8 hb8 ho hn
          have o13 : a8.tmps[13]? = some _ := (ho 13 (by kernel_rfl)).trans rfl
          clear ho hn
          refine ⟨wanted_free rfl, ?_⟩
          go_simp
        rcases i with _ | i
        · refine gr_value rfl (by decide) (.int .i64 (M : Int)) rfl ?_
          intro a8 w8 hb8 ho hn
          have o1 : a8.tmps[1]? = some _ := (ho 1 (by kernel_rfl)).trans rfl
          clear ho hn
          refine ⟨wanted_free rfl, ?_⟩
          obtain ⟨c1, c2, c3, c4, c5, c6, c7⟩ := HCE.out w8 (HI.out.up hb8)
          go_simp
        rcases i with _ | i
        · refine gr_value rfl (by decide) (.int .i64 (kM : Int)) rfl ?_
          intro a8 w8 hb8 ho hn
          obtain ⟨v38, n38, hq38⟩ := hn 10 38 (by kernel_rfl) rfl
          obtain rfl := hq38.1 (by decide)
          obtain ⟨v39, n39, hq39⟩ := hn 11 39 (by kernel_rfl) rfl
          obtain rfl := hq39.1 (by decide)
          clear ho hn
          refine ⟨wanted_free rfl, ?_⟩
          go_simp
        rcases i with _ | i
        · refine gr_value rfl (by decide) (.int .i64 (d : Int)) rfl ?_
          intro a8 w8 hb8 ho hn
          have o12 : a8.tmps[12]? = some _ := (ho 12 (by kernel_rfl)).trans rfl
          clear ho hn
          refine ⟨wanted_free rfl, ?_⟩
          go_simp
        rcases i with _ | i
        · refine gr_value rfl (by decide) (.int .i64 (t : Int)) rfl ?_
          intro a8 w8 hb8 ho hn
          obtain ⟨v40, n40, hq40⟩ := hn 12 40 (by kernel_rfl) rfl
          obtain rfl := hq40.1 (by decide)
          obtain ⟨v41, n41, hq41⟩ := hn 13 41 (by kernel_rfl) rfl
          obtain rfl := hq41.1 (by decide)
          clear ho hn
          refine ⟨wanted_free rfl, ?_⟩
          go_simp
        rcases i with _ | i
        · refine gr_value rfl (by decide) (.pointer (some (adB.add t))) rfl ?_
          intro a8 w8 hb8 ho hn
          obtain ⟨v37, n37, hq37⟩ := hn 9 37 (by kernel_rfl) rfl
          obtain rfl := hq37.1 (by decide)
          obtain ⟨v42, n42, hq42⟩ := hn 14 42 (by kernel_rfl) rfl
          obtain rfl := hq42.1 (by decide)
          clear ho hn
          refine ⟨wanted_free rfl, ?_⟩
          go_simp
        rcases i with _ | i
        · refine gr_value rfl (by decide) (.int .i64 y) rfl ?_
          intro a8 w8 hb8 ho hn
          obtain ⟨v43, n43, hq43⟩ := hn 15 43 (by kernel_rfl) rfl
          obtain rfl := hq43.1 (by decide)
          clear ho hn
          refine ⟨wanted_free rfl, ?_⟩
          have y3 := HCY.out w8 hb8
          go_simp
        rcases i with _ | i
        · refine gr_call (fun _ _ _ _ _ h => h) gm rfl (by decide) ?_
          intro a8 w8 hb8 ho hn
          obtain ⟨v28, n28, hq28⟩ := hn 0 28 (by kernel_rfl) rfl
          obtain rfl := hq28.1 (by decide)
          obtain ⟨v36, n36, hq36⟩ := hn 8 36 (by kernel_rfl) rfl
          obtain rfl := hq36.1 (by decide)
          obtain ⟨v44, n44, hq44⟩ := hn 16 44 (by kernel_rfl) rfl
          obtain rfl := hq44.1 (by decide)
          clear ho hn
          refine ⟨wanted_free rfl, ?_⟩
          refine ⟨#[.int .i64 x, .int .i64 y, .pointer (some ⟨G.g, 0, none⟩)], (by go_simp), (HMK.out w8 hb8).mono ?_⟩
          rintro e w9 ⟨rfl, b9⟩
          exact ⟨_, rfl, b9, rfl⟩
        rcases i with _ | i
        · refine gr_value rfl (by decide) (.tuple #[.int .i64 V, .int .i64 E]) rfl ?_
          intro a8 w8 hb8 ho hn
          obtain ⟨v45, n45, hq45⟩ := hn 17 45 (by kernel_rfl) rfl
          have hv45 := hq45.2 (by decide)
          clear ho hn
          refine ⟨wanted_free rfl, ?_⟩
          obtain rfl : v45 = .tuple #[.int .i64 V, .int .i64 E] := hv45
          clear hq45
          go_simp
        rcases i with _ | i
        · refine gr_value rfl (by decide) (.int .i64 V) rfl ?_
          intro a8 w8 hb8 ho hn
          obtain ⟨v27, n27, hq27⟩ := hn 18 27 (by kernel_rfl) rfl
          obtain rfl := hq27.1 (by decide)
          clear ho hn
          refine ⟨wanted_free rfl, ?_⟩
          go_simp
        rcases i with _ | i
        · refine gr_value rfl (by decide) (.int .i64 E) rfl ?_
          intro a8 w8 hb8 ho hn
          obtain ⟨v27, n27, hq27⟩ := hn 18 27 (by kernel_rfl) rfl
          obtain rfl := hq27.1 (by decide)
          clear ho hn
          refine ⟨wanted_free rfl, ?_⟩
          go_simp
        rcases i with _ | i
        · refine gr_value rfl (by decide) (.int .i64 V) rfl ?_
          intro a8 w8 hb8 ho hn
          obtain ⟨v46, n46, hq46⟩ := hn 19 46 (by kernel_rfl) rfl
          obtain rfl := hq46.1 (by decide)
          clear ho hn
          refine ⟨wanted_free rfl, ?_⟩
          go_simp
        rcases i with _ | i
        · refine gr_value rfl (by decide) (.int .i64 E) rfl ?_
          intro a8 w8 hb8 ho hn
          obtain ⟨v47, n47, hq47⟩ := hn 20 47 (by kernel_rfl) rfl
          obtain rfl := hq47.1 (by decide)
          clear ho hn
          refine ⟨wanted_free rfl, ?_⟩
          go_simp
        omega
      · intro dn fv w5 hb5 hR5 hall
        have h14 : fv 14 = _ := (hR5 21 14 rfl).1 (by decide)
        have h15 : fv 15 = _ := (hR5 22 15 rfl).1 (by decide)
        simp only [putAll, List.foldl_cons, List.foldl_nil, Act.put, List.setIfInBounds_toArray, List.set_cons_succ, List.set_cons_zero, h14, h15, List.getD_cons_zero, List.getD_cons_succ]
        clear hR5 hall
        have HI5 := Lib.hid (HI.out.up hb5)
        have HX5 := Lib.hid (HX.out.up hb5)
        have HK5 : Hid (Keep (fun i => i = G.r) w w5) := Lib.hid (HK.out.trans (Keep.of_below (S := fun _ => False) hb5) (fun _ _ h => h.elim))
        obtain ⟨c1, c2, c3, c4, c5, c6, c7⟩ := HCE.out w5 HI5.out
        obtain ⟨⟨u, hu⟩, hfz, _, _⟩ := HXP.out w5 HX5.out
        by_cases h0 : E = 0
        · subst h0
          go_wp2
          obtain ⟨_, _, kp, rx⟩ := HXP.out w5 HX5.out
          have hk3 := HKL.out
          exact ⟨⟨k + 1, by go_num, by omega, HNX.out rfl, HK5.out.trans kp (fun _ _ h => h), HI5.out.turn kp rx.rr, rx⟩, by simp [intOf]; omega⟩
        · have hne : (E != 0) = true := by simp [h0]
          have H0 := Lib.hid h0
          clear h0
          go_wp2
          go_ret2
          have hA := HST.out H0.out
          exact ⟨by rw [HGV.out, HGE.out, if_pos (by rw [hA]; exact H0.out), if_pos (by rw [hA]; exact H0.out), hA]; rfl, HK5.out, HI5.out⟩
    · obtain rfl : k = L := by omega
      obtain ⟨c1, c2, c3, c4, c5, c6, c7⟩ := HCE.out wr hI
      have HK := Lib.hid hK
      have HI := Lib.hid hI
      have HX := Lib.hid hX
      have HE := Lib.hid hE
      clear hK hI hX hE
      go_wp2_with (go_at_call 30; refine (HRO.out _ HX.out).mono ?_; rintro e w9 ⟨rfl, b9⟩)
      go_ret2
      exact ⟨by rw [HGV.out, HGE.out, if_neg (by rw [HE.out]; exact fun h => h rfl), if_neg (by rw [HE.out]; exact fun h => h rfl)]; rfl, HK.out.trans (Keep.of_below (S := fun _ => False) b9) (fun _ _ h => h.elim), HI.out.up b9⟩
end Go.Proofs.Ytkabdkblcgklmaa.fo

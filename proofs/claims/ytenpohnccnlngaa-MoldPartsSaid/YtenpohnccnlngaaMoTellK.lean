/-
  Layer 13 (mold): what the ways and the functions tell (for MoldTells); what is put together, whatever its axes.
  Layers 13 and 14: a way's box and an array's, beside one another, as a switch leaves them (for MoldTells, TurnTells).
-/
import Derived.Test.YtenpohnccnlngaaMoTells
import Derived.Test.YtenpohnccnlngaaTuAll3
namespace Go.Proofs.Ytenpohnccnlngaa.mo
open Go.RowKit Go.Proofs.Ytenpohnccnlngaa.arr

theorem el_char {k : Int} {ls : List AV} (h : ∀ a ∈ ls, a.kind = k ∧ okA a = true) {s : Int × Int} {z : Int} (e : elF k ls s = some z) (hk : k = 2) : charOk z = true := by
  unfold elF at e
  split at e
  · injection e with e
    rw [← e, hk]
    decide
  · split at e
    · split at e
      · rename_i a ha
        split at e
        · obtain ⟨h1, h2⟩ := h a (List.mem_of_getElem? ha)
          have hc := (okA_iff.1 h2).2.2
          unfold arr.kindOk at hc
          rw [h1, hk, Bool.or_eq_true, Bool.and_eq_true] at hc
          rcases hc with hc | hc
          · exact absurd hc (by decide)
          · exact List.all_eq_true.1 hc.2 z (List.mem_of_getElem? e)
        · cases e
      · cases e
    · cases e
theorem goA_fine {k : Int} {ls : List AV} (h : ∀ a ∈ ls, ∀ z ∈ a.el, -9223372036854775808 ≤ z ∧ z ≤ 9223372036854775807) (sh : List Int) (f : Nat → Int × Int) : ∀ z ∈ (goA k ls sh f).el, -9223372036854775808 ≤ z ∧ z ≤ 9223372036854775807 := fun z hz => by
  unfold goA at hz
  split at hz
  · obtain ⟨i, _, rfl⟩ := List.mem_map.1 (show z ∈ (List.range _).map _ from hz)
    exact elV_bounds h _
  · cases hz
theorem mdA_fine {a : AV} (h : ∀ z ∈ a.el, -9223372036854775808 ≤ z ∧ z ≤ 9223372036854775807) (E : Int) (sh : List Int) (f : Nat → Int × Int) : ∀ z ∈ (mdA a E sh f).el, -9223372036854775808 ≤ z ∧ z ≤ 9223372036854775807 := fun z hz => by
  unfold mdA at hz
  split at hz
  · cases hz
  · split at hz
    · cases hz
    · exact goA_fine (fun b hb => by rw [List.mem_singleton] at hb; subst hb; exact h) sh f z hz
/-- What a way and its function tell of an array: one error, and the same array. -/
theorem tells_of {a : AV} (ho : okA a = true) {E : Int} {sh : List Int} {f : Nat → Int × Int} (h0 : E = 0 → okShape sh = true ∧ ∀ i < (prodI sh).toNat, elB a.kind [a] (f i) = true) (h1 : ∀ n, elF a.kind [a, a] (f n) = elF a.kind [a] (f n)) :
    mdE a E sh f = E ∧ (E = 0 → goE a.kind [a, a] sh f = 0 ∧ goA a.kind [a, a] sh f = mdA a E sh f ∧ okA (mdA a E sh f) = true) := by
  by_cases hE : E = 0
  · subst hE
    obtain ⟨hs, he⟩ := h0 rfl
    obtain ⟨g1, g2⟩ := md_yes ho sh f
    obtain ⟨m1, m2, m3⟩ := go_made (ls := [a]) (kind_of ho) hs (fun i hi => by
      have hb := he i hi
      unfold elB at hb
      obtain ⟨z, hz⟩ := Option.isSome_iff_exists.1 hb
      exact ⟨z, hz, el_char (fun b hb => by rw [List.mem_singleton] at hb; subst hb; exact ⟨rfl, ho⟩) hz⟩)
    obtain ⟨o1, o2⟩ := go_one (sh := sh) h1
    refine ⟨g1.trans m1, fun _ => ⟨o1.trans m1, o2.trans g2.symm, ?_⟩⟩
    rw [g2, m2]
    exact m3
  · obtain ⟨g1, _⟩ := md_no ho hE sh f
    exact ⟨g1, fun h => absurd h hE⟩
theorem rw_ok {l : AV} {sh : List Int} (h : rwE l sh = 0) : okShape (axL l sh) = true := by
  unfold rwE at h
  split at h
  · exact absurd h ‹_›
  · split at h
    · omega
    · split at h
      · assumption
      · omega
theorem rsh_tells (l : AV) {a : AV} (ho : okA a = true) :
    rsE l a = rwE l a.sh ∧ (rwE l a.sh = 0 → goE a.kind [a, a] (axL l a.sh) (rshF (prodI a.sh)) = 0 ∧ goA a.kind [a, a] (axL l a.sh) (rshF (prodI a.sh)) = rsA l a ∧ okA (rsA l a) = true) :=
  tells_of ho (fun h => ⟨rw_ok h, fun i _ => by unfold elB; rw [rsh_el a ho i]; rfl⟩) (fun n => rsh_one _ _ _ _ _)
theorem cw_ok {cf : Int → Int → Sp} {l : AV} {sh : List Int} (h : cwE cf l sh = 0) : (axL l sh).length = (sh1 sh).length ∧ okShape (ctSh cf l sh) = true := by
  unfold cwE at h
  split at h
  · exact absurd h ‹_›
  · split at h
    · omega
    · rename_i h1
      split at h
      · exact ⟨Classical.not_not.1 h1, by assumption⟩
      · omega
theorem cut_tells {cf : Int → Int → Sp} (hcf : ∀ n h, (cf n h).has = h) (l : AV) {a : AV} (ho : okA a = true) :
    mdE a (cwE cf l a.sh) (ctSh cf l a.sh) (ctF cf l a.sh) = cwE cf l a.sh ∧ (cwE cf l a.sh = 0 → goE a.kind [a, a] (ctSh cf l a.sh) (ctF cf l a.sh) = 0 ∧ goA a.kind [a, a] (ctSh cf l a.sh) (ctF cf l a.sh) = mdA a (cwE cf l a.sh) (ctSh cf l a.sh) (ctF cf l a.sh) ∧ okA (mdA a (cwE cf l a.sh) (ctSh cf l a.sh) (ctF cf l a.sh)) = true) :=
  tells_of ho (fun h => by
    obtain ⟨h1, h2⟩ := cw_ok h
    refine ⟨h2, fun i _ => cut_el a.kind a [] ?_ i⟩
    rw [cut_has hcf _ _ h1, prodI_sh1]
    exact (okA_iff.1 ho).2.1.symm) (fun n => src_one _ _ _ _ _)
/-- What is put together: each element is there. -/
theorem cat_el (k : Int) {a b : AV} (oa : okA a = true) (ob : okA b = true) (hE : ctwE a.sh b.sh = 0) : okShape (ctwL a.sh b.sh) = true ∧ ∀ i < (prodI (ctwL a.sh b.sh)).toNat, elB k [a, b] (ctwF a.sh b.sh i) = true := by
  have sa := (okA_iff.1 oa).1
  have sb := (okA_iff.1 ob).1
  unfold ctwE at hE
  rw [sa, sb, if_neg (by decide)] at hE
  split at hE
  · omega
  · rename_i hl
    split at hE
    · omega
    · rename_i ht
      split at hE
      · rename_i hok
        refine ⟨hok, fun i hi => ?_⟩
        have hl2 : (exL a.sh b.sh).length = (exL b.sh a.sh).length := Classical.not_not.1 hl
        have ht2 : (exL a.sh b.sh).take (ctwN a.sh b.sh) = (exL b.sh a.sh).take (ctwN a.sh b.sh) := Classical.not_not.1 ht
        have hp := exL_pos a.sh b.sh
        have hX : (exL a.sh b.sh).length = ctwN a.sh b.sh + 1 := by unfold ctwN; omega
        have hY : (exL b.sh a.sh).length = ctwN a.sh b.sh + 1 := by omega
        have x1 : 0 ≤ (exL a.sh b.sh).getD (ctwN a.sh b.sh) 0 := by
          rw [List.getD_eq_getElem?_getD, List.getElem?_eq_getElem (show ctwN a.sh b.sh < (exL a.sh b.sh).length by omega)]
          exact (exL_bounds sa sb _ (List.getElem_mem _)).1
        have y1 : 0 ≤ (exL b.sh a.sh).getD (ctwN a.sh b.sh) 0 := by
          rw [List.getD_eq_getElem?_getD, List.getElem?_eq_getElem (show ctwN a.sh b.sh < (exL b.sh a.sh).length by omega)]
          exact (exL_bounds sb sa _ (List.getElem_mem _)).1
        obtain ⟨xn, hxn⟩ := Int.eq_ofNat_of_zero_le x1
        obtain ⟨yn, hyn⟩ := Int.eq_ofNat_of_zero_le y1
        have la := (okA_iff.1 oa).2.1
        have lb := (okA_iff.1 ob).2.1
        have hwd : (exL a.sh b.sh).getD (ctwN a.sh b.sh) 0 + (exL b.sh a.sh).getD (ctwN a.sh b.sh) 0 = ((xn + yn : Nat) : Int) := by rw [hxn, hyn]; push_cast; rfl
        have hok2 : okShape ((exL a.sh b.sh).take (ctwN a.sh b.sh) ++ [((xn + yn : Nat) : Int)]) = true := by rw [← hwd]; exact hok
        have hi2 : (i : Int) < prodI ((exL a.sh b.sh).take (ctwN a.sh b.sh) ++ [((xn + yn : Nat) : Int)]) := by
          rw [← hwd]
          show (i : Int) < prodI (ctwL a.sh b.sh)
          omega
        obtain ⟨c1, c2, c3, c4⟩ := cat_conds (CA := a.el.length) (CB := b.el.length) hX hY ht2 hxn hyn rfl (fun h => by rw [la]; exact ex_pos h) (fun h => by rw [lb]; exact ex_pos h) hok2 hi2
        unfold ctwF
        rw [hwd, hxn, hyn, ← la, ← lb, Int.toNat_natCast, Int.toNat_natCast, Int.toNat_natCast, Int.toNat_natCast, Int.toNat_natCast]
        unfold catF
        by_cases h : i % (xn + yn) < xn
        · rw [if_pos h]
          have hlt := Nat.mod_lt (i / (xn + yn) * xn + i % (xn + yn)) (c3 h)
          generalize (i / (xn + yn) * xn + i % (xn + yn)) % a.el.length = x at *
          show (a.el[(x : Int).toNat]?).isSome = true
          rw [Int.toNat_natCast, List.getElem?_eq_getElem hlt]
          rfl
        · rw [if_neg h]
          have hlt := Nat.mod_lt (i / (xn + yn) * yn + (i % (xn + yn) - xn)) (c4 h)
          generalize (i / (xn + yn) * yn + (i % (xn + yn) - xn)) % b.el.length = x at *
          show (b.el[(x : Int).toNat]?).isSome = true
          rw [Int.toNat_natCast, List.getElem?_eq_getElem hlt]
          rfl
      · omega
/-- What is put together of one kind: what its way makes. -/
theorem cat_made {a b : AV} (oa : okA a = true) (ob : okA b = true) (hk : a.kind = b.kind) :
    ctE a b = ctwE a.sh b.sh ∧ (ctwE a.sh b.sh = 0 → goE a.kind [a, b] (ctwL a.sh b.sh) (ctwF a.sh b.sh) = 0 ∧ goA a.kind [a, b] (ctwL a.sh b.sh) (ctwF a.sh b.sh) = ctA a b ∧ okA (ctA a b) = true ∧ ctA a b = goR a.kind [a, b] (ctwL a.sh b.sh) (ctwF a.sh b.sh)) := by
  have e1 : ctE a b = if ctwE a.sh b.sh ≠ 0 then ctwE a.sh b.sh else goE a.kind [a, b] (ctwL a.sh b.sh) (ctwF a.sh b.sh) := by
    unfold ctE
    rw [oa, ob, if_neg (by decide), if_neg (fun h => h.1 hk)]
  have e2 : ctA a b = if ctwE a.sh b.sh ≠ 0 then noA else goA a.kind [a, b] (ctwL a.sh b.sh) (ctwF a.sh b.sh) := by
    unfold ctA
    rw [oa, ob, if_neg (by decide), if_neg (fun h => h.1 hk)]
  by_cases hE : ctwE a.sh b.sh = 0
  · obtain ⟨h1, h2⟩ := cat_el a.kind oa ob hE
    obtain ⟨m1, m2, m3⟩ := go_made (ls := [a, b]) (kind_of oa) h1 (fun i hi => by
      have hb := h2 i hi
      unfold elB at hb
      obtain ⟨z, hz⟩ := Option.isSome_iff_exists.1 hb
      exact ⟨z, hz, el_char (fun c hc => by
        rcases List.mem_cons.1 hc with rfl | hc
        · exact ⟨rfl, oa⟩
        · rw [List.mem_singleton] at hc
          subst hc
          exact ⟨hk.symm, ob⟩) hz⟩)
    rw [if_neg (fun h => h hE)] at e1 e2
    refine ⟨by rw [e1, m1, hE], fun _ => ⟨m1, e2.symm, ?_, e2.trans m2⟩⟩
    rw [e2, m2]
    exact m3
  · rw [if_pos hE] at e1
    exact ⟨e1, fun h => absurd h hE⟩
theorem ctA_fine {a b : AV} (ha : ∀ z ∈ a.el, -9223372036854775808 ≤ z ∧ z ≤ 9223372036854775807) (hb : ∀ z ∈ b.el, -9223372036854775808 ≤ z ∧ z ≤ 9223372036854775807) : ∀ z ∈ (ctA a b).el, -9223372036854775808 ≤ z ∧ z ≤ 9223372036854775807 := fun z hz => by
  unfold ctA at hz
  split at hz
  · cases hz
  · split at hz
    · cases hz
    · split at hz
      · cases hz
      · exact goA_fine (fun c hc => by
          rcases List.mem_cons.1 hc with rfl | hc
          · exact ha
          · rw [List.mem_singleton] at hc
            subst hc
            exact hb) _ _ z hz
end Go.Proofs.Ytenpohnccnlngaa.mo

namespace Go.Proofs.Ytenpohnccnlngaa.tu
open Go.RowKit Go.Proofs.Ytenpohnccnlngaa.arr Go.Proofs.Ytenpohnccnlngaa.mo

theorem giveW_yes {B : Nat} {sh : List Int} {f : Nat → Int × Int} {w w' : World} {e : Ending} (h : GiveW B sh f 0 w e w') :
    ∃ A c gf cap, e = .returned (.tuple #[.agg #[.slice A sh.length c, .func (.func gf) #[] cap], .int .i64 0]) ∧ Below w.heap.size w w' ∧ okShape sh = true ∧ WayAt B w' (.agg #[.slice A sh.length c, .func (.func gf) #[] cap]) sh f := by
  obtain ⟨v, rfl, hb, h0, _⟩ := h
  obtain ⟨h1, A, c, gf, cap, rfl, h2⟩ := h0 rfl
  exact ⟨A, c, gf, cap, rfl, hb, h1, A, c, gf, cap, rfl, h2⟩
theorem giveW_no {B : Nat} {sh : List Int} {f : Nat → Int × Int} {E : Int} (hE : E ≠ 0) {w w' : World} {e : Ending} (h : GiveW B sh f E w e w') :
    e = .returned (.tuple #[.agg #[.slice none 0 0, .nilFunc], .int .i64 E]) ∧ Below w.heap.size w w' := by
  obtain ⟨v, rfl, hb, _, h0⟩ := h
  rw [h0 hE]
  exact ⟨rfl, hb⟩
theorem giveP_w {S : Nat → Prop} {sh : List Int} {f : Nat → Int × Int} {E : Int} {w w' : World} {e : Ending} (hS : ∀ k, S k → w.heap.size ≤ k) (h : GiveP S sh f E w e w') : GiveW w.heap.size sh f E w e w' := by
  obtain ⟨v, rfl, hb, h0, h1⟩ := h
  exact ⟨v, rfl, hb, fun h => ⟨(h0 h).1, (h0 h).2.at_ hS hb.size⟩, h1⟩
/-- What a way, gone over arrays, and its function tell: one error E, F, one array X. -/
structure Tel (a : AV) (ls : List AV) (E F : Int) (sh : List Int) (f : Nat → Int × Int) (X : AV) : Prop where
  e : F = E
  go : E = 0 → goE a.kind ls sh f = 0 ∧ goA a.kind ls sh f = X
  l0 : X.sh.length ≤ 9223372036854775807
  l1 : X.el.length ≤ 9223372036854775807
  fn : Fine X
theorem tel_of {a : AV} (ho : okA a = true) (hf : Fine a) {ls : List AV} {E : Int} {sh : List Int} {f : Nat → Int × Int} (h : mdE a E sh f = E ∧ (E = 0 → goE a.kind ls sh f = 0 ∧ goA a.kind ls sh f = mdA a E sh f ∧ okA (mdA a E sh f) = true)) : Tel a ls E (mdE a E sh f) sh f (mdA a E sh f) := by
  obtain ⟨h1, h2⟩ := h
  by_cases hE : E = 0
  · have h3 := okA_len (h2 hE).2.2
    exact ⟨h1, fun e => ⟨(h2 e).1, (h2 e).2.1⟩, by omega, by omega, mdA_fine hf _ _ _⟩
  · have h3 := (md_no ho hE sh f).2
    exact ⟨h1, fun e => absurd e hE, by rw [h3]; exact Nat.zero_le _, by rw [h3]; exact Nat.zero_le _, mdA_fine hf _ _ _⟩
theorem cat_tel {a : AV} (ho : okA a = true) (hf : Fine a) : Tel a [a, a] (ctwE a.sh a.sh) (ctE a a) (ctwL a.sh a.sh) (ctwF a.sh a.sh) (ctA a a) := by
  obtain ⟨h1, h2⟩ := cat_made ho ho rfl
  by_cases hE : ctwE a.sh a.sh = 0
  · have h3 := okA_len (h2 hE).2.2.1
    exact ⟨h1, fun e => ⟨(h2 e).1, (h2 e).2.1⟩, by omega, by omega, ctA_fine hf hf⟩
  · have h3 : ctA a a = noA := by
      unfold ctA
      rw [ho, if_neg (by decide), if_neg (fun h => h.1 rfl), if_pos hE]
    exact ⟨h1, fun e => absurd e hE, by rw [h3]; exact Nat.zero_le _, by rw [h3]; exact Nat.zero_le _, ctA_fine hf hf⟩
/-- A box that holds an array that is only looked at. -/
structure BoxQ (W : World) (g : Nat) (X : AV) (p : AP) : Prop where
  k : Blk W g 25 (arC X p)
  e : AEl W X p
theorem BoxQ.up {W W' : World} {g : Nat} {X : AV} {p : AP} (h : BoxQ W g X p) (hb : Below W.heap.size W W') : BoxQ W' g X p := ⟨blk_up h.k hb, h.e.below hb⟩
theorem BoxQ.cells {W : World} {g : Nat} {X : AV} {p : AP} (h : BoxQ W g X p) : W.cell? ⟨g, 0, none⟩ = some (.int .i64 X.kind) ∧ W.cell? ⟨g, 1, none⟩ = some (.slice p.A0 X.sh.length p.c0) ∧ W.cell? ⟨g, 2, none⟩ = some (.slice p.A1 X.el.length p.c1) := ⟨h.k.cell 0, h.k.cell 1, h.k.cell 2⟩
/-- Behind the way's call. -/
structure TMid (w3 : World) (g : Nat) (E : Int) (v0 v1 : Value) (G : List Int → (Nat → Int × Int) → Prop) (W : World) : Prop where
  z : w3.heap.size ≤ g
  s : g + 2 ≤ W.heap.size
  b : Below w3.heap.size w3 W
  k7 : Blk W g 37 #[v0, v1]
  k8 : Blk W (g + 1) 25 #[.int .i64 0, .slice none 0 0, .slice none 0 0]
  go : E = 0 → ∃ sh f, okShape sh = true ∧ WayAt (g + 2) W (.agg #[v0, v1]) sh f ∧ G sh f
/-- Behind the function's call. -/
structure TMet (w3 : World) (g : Nat) (E : Int) (X : AV) (r : AP) (v0 v1 : Value) (G : List Int → (Nat → Int × Int) → Prop) (W : World) : Prop where
  b : Below w3.heap.size w3 W
  k7 : Blk W g 37 #[v0, v1]
  k8 : Blk W (g + 1) 25 (arC X r)
  x : AEl W X r
  go : E = 0 → ∃ sh f, okShape sh = true ∧ WayAt (g + 2) W (.agg #[v0, v1]) sh f ∧ G sh f
section
variable {w3 wb wv W : World} {g : Nat} {E : Int} {v0 v1 : Value} {G : List Int → (Nat → Int × Int) → Prop}
theorem TMid.start (hz : w3.heap.size ≤ g) (hs : g + 2 ≤ wb.heap.size) (hb : Below w3.heap.size w3 wb) (k7 : Blk wb g 37 #[.slice none 0 0, .nilFunc]) (k8 : Blk wb (g + 1) 25 #[.int .i64 0, .slice none 0 0, .slice none 0 0])
    (hv : Below wb.heap.size wb wv) (go : E = 0 → ∃ sh f, okShape sh = true ∧ WayAt wb.heap.size wv (.agg #[v0, v1]) sh f ∧ G sh f) :
    TMid w3 g E v0 v1 G ((wv.setCell ⟨g, 0, none⟩ v0).setCell ⟨g, 1, none⟩ v1) := by
  have hk := mokeep_two wv g v0 v1
  have hbv : Below w3.heap.size w3 wv := hb.trans (hv.mono hb.size)
  refine ⟨hz, Nat.le_trans hs (Nat.le_trans hv.size hk.size), hbv.trans (hk.below hbv.size (fun i hi e => by omega)), moblk_two _ _ (blk_up k7 hv), hk.blk (blk_up k8 hv) (fun e => by omega), fun h => ?_⟩
  obtain ⟨sh, f, h1, h2, h3⟩ := go h
  exact ⟨sh, f, h1, (h2.base hs).sin (Sin.keep hk (fun i hi e => by omega)), h3⟩
theorem TMid.up (h : TMid w3 g E v0 v1 G W) {W' : World} (hb : Below W.heap.size W W') : TMid w3 g E v0 v1 G W' :=
  ⟨h.z, Nat.le_trans h.s hb.size, h.b.trans (hb.mono h.b.size), blk_up h.k7 hb, blk_up h.k8 hb, fun e => by
    obtain ⟨sh, f, h1, h2, h3⟩ := h.go e
    exact ⟨sh, f, h1, h2.below hb, h3⟩⟩
theorem TMid.cells (h : TMid w3 g E v0 v1 G W) : (W.cell? ⟨g + 1, 0, none⟩ = some (.int .i64 0) ∧ W.cell? ⟨g + 1, 1, none⟩ = some (.slice none 0 0) ∧ W.cell? ⟨g + 1, 2, none⟩ = some (.slice none 0 0)) ∧ W.frozen? ⟨g + 1, 0, none⟩ = false ∧ W.frozen? ⟨g + 1, 1, none⟩ = false ∧ W.frozen? ⟨g + 1, 2, none⟩ = false :=
  ⟨⟨h.k8.cell 0, h.k8.cell 1, h.k8.cell 2⟩, h.k8.frozen 0, h.k8.frozen 1, h.k8.frozen 2⟩
theorem TMid.met (h : TMid w3 g E v0 v1 G W) {W' : World} {X : AV} {r : AP} (hb : Below W.heap.size W W') (o : AOwn W.heap.size W' X r) (f0 : X.sh.length ≤ 9223372036854775807) (f1 : X.el.length ≤ 9223372036854775807) (f2 : Fine X) :
    TMet w3 g E X r v0 v1 G (((W'.setCell ⟨g + 1, 0, none⟩ (.int .i64 X.kind)).setCell ⟨g + 1, 1, none⟩ (.slice r.A0 X.sh.length r.c0)).setCell ⟨g + 1, 2, none⟩ (.slice r.A1 X.el.length r.c1)) := by
  have u := h.up hb
  have hz := h.z
  have hs := h.s
  have hk := arkeep_three W' (g + 1) (.int .i64 X.kind) (.slice r.A0 X.sh.length r.c0) (.slice r.A1 X.el.length r.c1)
  refine ⟨u.b.trans (hk.below u.b.size (fun i hi e => by omega)), hk.blk u.k7 (fun e => by omega), arblk_three _ _ _ u.k8, (bx_own u.k8 o).el f0 f1 f2, fun e => ?_⟩
  obtain ⟨sh, f, h1, h2, h3⟩ := u.go e
  exact ⟨sh, f, h1, h2.sin (Sin.keep hk (fun i hi e => by omega)), h3⟩
theorem TMet.up {X : AV} {r : AP} (h : TMet w3 g E X r v0 v1 G W) {W' : World} (hb : Below W.heap.size W W') : TMet w3 g E X r v0 v1 G W' :=
  ⟨h.b.trans (hb.mono h.b.size), blk_up h.k7 hb, blk_up h.k8 hb, h.x.below hb, fun e => by
    obtain ⟨sh, f, h1, h2, h3⟩ := h.go e
    exact ⟨sh, f, h1, h2.below hb, h3⟩⟩
theorem TMet.cells {X : AV} {r : AP} (h : TMet w3 g E X r v0 v1 G W) : (W.cell? ⟨g, 0, none⟩ = some v0 ∧ W.cell? ⟨g, 1, none⟩ = some v1) ∧ W.cell? ⟨g + 1, 0, none⟩ = some (.int .i64 X.kind) ∧ W.cell? ⟨g + 1, 1, none⟩ = some (.slice r.A0 X.sh.length r.c0) ∧ W.cell? ⟨g + 1, 2, none⟩ = some (.slice r.A1 X.el.length r.c1) :=
  ⟨⟨h.k7.cell 0, h.k7.cell 1⟩, h.k8.cell 0, h.k8.cell 1, h.k8.cell 2⟩
end
end Go.Proofs.Ytenpohnccnlngaa.tu

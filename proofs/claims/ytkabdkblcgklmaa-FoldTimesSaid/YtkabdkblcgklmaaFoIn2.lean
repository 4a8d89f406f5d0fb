/-
  Layer 16 (fold): Inner of arrays that are no scalars.
-/
import Derived.Test.YtkabdkblcgklmaaFoTw
namespace Go.Proofs.Ytkabdkblcgklmaa.fo
open Go.RowKit Go.Proofs.Ytkabdkblcgklmaa.arr Go.Proofs.Ytkabdkblcgklmaa.sc

theorem focopies_any (a : AV) (p : AP) (L : Int) (w : World) (na : 0 < a.sh.length) :
    Calls Try.prog 86 #[.agg (arC a p), .int .i64 L] w fun e w' => e = .returned (.slice p.A1 a.el.length p.c1) ∧ Below w.heap.size w w' := by
  have hLC : arC a p = #[.int .i64 a.kind, .slice p.A0 a.sh.length p.c0, .slice p.A1 a.el.length p.c1] := rfl
  have hb := alloc_below w (.cells #[.int .i64 a.kind, .slice p.A0 a.sh.length p.c0, .slice p.A1 a.el.length p.c1] 25)
  rw [hLC]
  obtain ⟨n, hn⟩ : ∃ n, a.sh.length = n + 1 := ⟨a.sh.length - 1, by omega⟩
  rw [hn] at hb ⊢
  have h1 : ((n + 1 : Nat) : Int) = (n : Int) + 1 := by omega
  have h2 : ¬ (n : Int) + 1 = 0 := by omega
  clear hn na
  go_enter Try.func86, Try.ntmps86
  go_wp2
  go_ret
  exact ⟨rfl, hb⟩
theorem in_N {a b : AV} (ha : okA a = true) (hb : okA b = true) (na : 0 < a.sh.length) (nb : 0 < b.sh.length) (hL : b.sh.getD 0 0 = longI a.sh) : ∃ PA M L : Nat, prodI (othL a.sh) = (PA : Int) ∧ prodI (b.sh.drop 1) = (M : Int) ∧ longI a.sh = (L : Int) ∧ a.el.length = PA * L ∧ b.el.length = L * M ∧ mdN (othL a.sh ++ b.sh.drop 1) = PA * M ∧ L ≤ 4096 := by
  obtain ⟨s1, e1, _⟩ := okA_iff.1 ha
  obtain ⟨s2, e2, _⟩ := okA_iff.1 hb
  have q1 := (okShape_iff.1 s1).2.1
  have q2 := (okShape_iff.1 s2).2.1
  have b1 := prodI_bounds (othL a.sh) (List.all_eq_true.2 (fun x hx => List.all_eq_true.1 q1 x (List.mem_of_mem_take hx)))
  have b2 := prodI_bounds (b.sh.drop 1) (List.all_eq_true.2 (fun x hx => List.all_eq_true.1 q2 x (List.mem_of_mem_drop hx)))
  obtain ⟨l1, l2⟩ := long_ok s1
  have x1 : prodI a.sh = prodI (othL a.sh) * longI a.sh := by
    have h := prodI_snoc a.sh (j := a.sh.length - 1) (by omega)
    rw [show a.sh.length - 1 + 1 = a.sh.length by omega, List.take_length] at h
    rw [h]
    unfold othL longI
    rw [if_neg (by omega), List.getD_eq_getElem?_getD, List.getElem?_eq_getElem (by omega)]
    rfl
  have x2 : prodI b.sh = longI a.sh * prodI (b.sh.drop 1) := by
    rw [← hL]
    rcases hb2 : b.sh with _ | ⟨x, t⟩
    · rw [hb2] at nb; cases nb
    · rfl
  have x3 := prodI_append (othL a.sh) (b.sh.drop 1)
  obtain ⟨PA, hPA⟩ := Int.eq_ofNat_of_zero_le b1.1
  obtain ⟨M, hM⟩ := Int.eq_ofNat_of_zero_le b2.1
  obtain ⟨L, hLL⟩ := Int.eq_ofNat_of_zero_le l1
  rw [hPA, hLL] at x1
  rw [hM, hLL] at x2
  rw [hPA, hM] at x3
  refine ⟨PA, M, L, hPA, hM, hLL, ?_, ?_, ?_, by omega⟩
  · rw [x1, ← Int.natCast_mul] at e1
    exact Int.ofNat_inj.1 e1
  · rw [x2, ← Int.natCast_mul] at e2
    exact Int.ofNat_inj.1 e2
  · unfold mdN
    rw [x3, ← Int.natCast_mul, Int.toNat_natCast]
theorem in_idx {PA M L n : Nat} (h : n < PA * M) (hm : PA * M ≤ 4096) : 0 < M ∧ M ≤ 4096 ∧ n ≤ 4096 ∧ (∀ i, i < L → n / M * L + i < PA * L) ∧ (∀ i, i < L → i * M + n % M < L * M) := by
  have hM : 0 < M := by
    rcases Nat.eq_zero_or_pos M with e | e
    · rw [e, Nat.mul_zero] at h
      omega
    · exact e
  have hP : 0 < PA := by
    rcases Nat.eq_zero_or_pos PA with e | e
    · rw [e, Nat.zero_mul] at h
      omega
    · exact e
  have hM4 : M ≤ PA * M := Nat.le_mul_of_pos_left M hP
  have hd : n / M < PA := Nat.div_lt_of_lt_mul (by rw [Nat.mul_comm]; exact h)
  have hr : n % M < M := Nat.mod_lt _ hM
  refine ⟨hM, by omega, by omega, fun i hi => ?_, fun i hi => ?_⟩
  · have := Nat.mul_le_mul_right L hd
    rw [Nat.succ_mul] at this
    omega
  · have := Nat.mul_le_mul_right M hi
    rw [Nat.succ_mul] at this
    omega
theorem in_ok {f g : Int} {a b : AV} (h : inE0 f g a b = 0) : okA a = true ∧ okA b = true ∧ b.sh.getD 0 0 = longI a.sh ∧ kindsE g a.kind b.kind = 0 ∧ okShape (othL a.sh ++ b.sh.drop 1) = true := by
  obtain ⟨h1, h2⟩ := in_parts f g a b
  by_cases hc : chkE [f, g] [a, b] = 0
  · obtain ⟨ha, hb, k0, k1⟩ := h2 hc
    by_cases hl : b.sh.getD 0 0 = longI a.sh
    · obtain ⟨k2, k3⟩ := k1 hl
      by_cases hk : kindsE g a.kind b.kind = 0
      · refine ⟨ha, hb, hl, hk, ?_⟩
        have := k3 hk
        rw [h] at this
        cases hs : okShape (othL a.sh ++ b.sh.drop 1)
        · rw [hs] at this
          cases this
        · rfl
      · exact absurd ((k2 hk).symm.trans h) hk
    · exact absurd ((k0 hl).symm.trans h) (by decide)
  · exact absurd ((h1 hc).symm.trans h) hc
/-- What Inner answers. -/
def inME (f g : Int) (a b : AV) : Int := if inE0 f g a b ≠ 0 then inE0 f g a b else apE (inGE f g a.kind b.kind a.el b.el (longN a.sh) (prodI (b.sh.drop 1)).toNat) (mdN (othL a.sh ++ b.sh.drop 1))
def inMA (f g : Int) (a b : AV) : AV := if inME f g a b = 0 then ⟨1, othL a.sh ++ b.sh.drop 1, apL (inGV f g a.kind b.kind a.el b.el (longN a.sh) (prodI (b.sh.drop 1)).toNat) (mdN (othL a.sh ++ b.sh.drop 1))⟩ else ⟨0, [], []⟩
/-- The boxes of Inner's arguments, and of its answer. -/
structure InI (w : World) (f : Int) (a b : AV) (p q : AP) (W : World) : Prop where
  f0 : Blk W w.heap.size 3 #[.int .i64 f]
  x : Blk W (w.heap.size + 1) 25 (arC a p)
  y : Blk W (w.heap.size + 1 + 1) 25 (arC b q)
  r : Blk W (w.heap.size + 1 + 1 + 1) 25 #[.int .i64 0, .slice none 0 0, .slice none 0 0]
  fb : Below w.heap.size w W
  ea : AEl W a p
  eb : AEl W b q
theorem InI.below {w W W' : World} {f : Int} {a b : AV} {p q : AP} (h : InI w f a b p q W) (hb : Below W.heap.size W W') : InI w f a b p q W' :=
  ⟨blk_up h.f0 hb, blk_up h.x hb, blk_up h.y hb, blk_up h.r hb, below_on h.fb hb, h.ea.below hb, h.eb.below hb⟩
theorem InI.start {w : World} {f : Int} {a b : AV} {p q : AP} (ea : AEl w a p) (eb : AEl w b q) : InI w f a b p q ((((w.alloc (.cells #[.int .i64 f] 3)).alloc (.cells (arC a p) 25)).alloc (.cells (arC b q) 25)).alloc (.cells #[.int .i64 0, .slice none 0 0, .slice none 0 0] 25)) := by
  have hb : Below w.heap.size w ((((w.alloc (.cells #[.int .i64 f] 3)).alloc (.cells (arC a p) 25)).alloc (.cells (arC b q) 25)).alloc (.cells #[.int .i64 0, .slice none 0 0, .slice none 0 0] 25)) := (below_n3 w (.cells #[.int .i64 f] 3) (.cells (arC a p) 25) (.cells (arC b q) 25)).alloc (by simp; omega) _
  refine ⟨(((Blk.new w _ _).alloc _).alloc _).alloc _, ((blk_n2 w _ _ _).alloc _).alloc _, (blk_n3 w _ _ _ _).alloc _, ?_, hb, ea.below hb, eb.below hb⟩
  have h := Blk.new (((w.alloc (.cells #[.int .i64 f] 3)).alloc (.cells (arC a p) 25)).alloc (.cells (arC b q) 25)) 25 #[.int .i64 0, .slice none 0 0, .slice none 0 0]
  rw [World.size_alloc, World.size_alloc, World.size_alloc] at h
  exact h
theorem InI.fin {w W : World} {f : Int} {a b : AV} {p q : AP} (h : InI w f a b p q W) (x y z : Value) : Below w.heap.size w (((W.setCell ⟨w.heap.size + 1 + 1 + 1, 0, none⟩ x).setCell ⟨w.heap.size + 1 + 1 + 1, 1, none⟩ y).setCell ⟨w.heap.size + 1 + 1 + 1, 2, none⟩ z) :=
  h.fb.trans ((arkeep_three W _ x y z).below h.fb.size (fun i hi e => by omega))
set_option maxRecDepth 100000 in
set_option maxHeartbeats 8000000 in
theorem foinner_any (f g : Int) (a b : AV) (p q : AP) (w : World) (ea : AEl w a p) (eb : AEl w b q) (ca : Cap2 a p) (cb : Cap2 b q) (na : 0 < a.sh.length) (nb : 0 < b.sh.length) :
    Calls Try.prog 42 #[.int .i64 f, .int .i64 g, .agg (arC a p), .agg (arC b q)] w (GiveE (inMA f g a b) (inME f g a b) w) := by
  have hI := InI.start (f := f) ea eb
  obtain ⟨w1, hw1⟩ : ∃ w1, (((w.alloc (.cells #[.int .i64 f] 3)).alloc (.cells (arC a p) 25)).alloc (.cells (arC b q) 25)).alloc (.cells #[.int .i64 0, .slice none 0 0, .slice none 0 0] 25) = w1 := ⟨_, rfl⟩
  rw [hw1] at hI
  have HSH := Lib.hid (fun W (h : InI w f a b p q W) => foinsh_any f g a b p q W h.ea h.eb ca cb na nb)
  have hC0 : ∀ W, InI w f a b p q W → W.cell? ⟨w.heap.size, 0, none⟩ = some (.int .i64 f) ∧ ((W.cell? ⟨w.heap.size + 1, 0, none⟩ = some (.int .i64 a.kind) ∧ W.cell? ⟨w.heap.size + 1, 1, none⟩ = some (.slice p.A0 a.sh.length p.c0) ∧ W.cell? ⟨w.heap.size + 1, 2, none⟩ = some (.slice p.A1 a.el.length p.c1)) ∧
    (W.cell? ⟨w.heap.size + 1 + 1, 0, none⟩ = some (.int .i64 b.kind) ∧ W.cell? ⟨w.heap.size + 1 + 1, 1, none⟩ = some (.slice q.A0 b.sh.length q.c0) ∧ W.cell? ⟨w.heap.size + 1 + 1, 2, none⟩ = some (.slice q.A1 b.el.length q.c1))) ∧
    ((W.cell? ⟨w.heap.size + 1 + 1 + 1, 0, none⟩ = some (.int .i64 0) ∧ W.cell? ⟨w.heap.size + 1 + 1 + 1, 1, none⟩ = some (.slice none 0 0) ∧ W.cell? ⟨w.heap.size + 1 + 1 + 1, 2, none⟩ = some (.slice none 0 0)) ∧
    W.frozen? ⟨w.heap.size + 1 + 1 + 1, 0, none⟩ = false ∧ W.frozen? ⟨w.heap.size + 1 + 1 + 1, 1, none⟩ = false ∧ W.frozen? ⟨w.heap.size + 1 + 1 + 1, 2, none⟩ = false) := fun W h =>
      ⟨h.f0.cell 0, ⟨⟨h.x.cell 0, h.x.cell 1, h.x.cell 2⟩, h.y.cell 0, h.y.cell 1, h.y.cell 2⟩, ⟨h.r.cell 0, h.r.cell 1, h.r.cell 2⟩, h.r.frozen 0, h.r.frozen 1, h.r.frozen 2⟩
  have HC := Lib.hid hC0
  obtain ⟨z0, ⟨⟨x0, x1, x2⟩, y0, y1, y2⟩, ⟨r0, r1, r2⟩, f0, f1, f2⟩ := hC0 w1 hI
  have HI := Lib.hid hI
  have hLC : arC a p = #[.int .i64 a.kind, .slice p.A0 a.sh.length p.c0, .slice p.A1 a.el.length p.c1] := rfl
  have hAC : arC b q = #[.int .i64 b.kind, .slice q.A0 b.sh.length q.c0, .slice q.A1 b.el.length q.c1] := rfl
  obtain ⟨sh, hsh⟩ : ∃ sh, othL a.sh ++ b.sh.drop 1 = sh := ⟨_, rfl⟩
  have hoE : inME f g a b = if inE0 f g a b ≠ 0 then inE0 f g a b else apE (inGE f g a.kind b.kind a.el b.el (longN a.sh) (prodI (b.sh.drop 1)).toNat) (mdN sh) := by rw [← hsh]; rfl
  by_cases h0 : inE0 f g a b = 0
  case neg =>
    rw [if_pos h0] at hoE
    have hoA : inMA f g a b = ⟨0, [], []⟩ := by
      unfold inMA
      rw [hoE, if_neg h0]
    rw [hoE, hoA]
    obtain ⟨E, hE⟩ : ∃ E, inE0 f g a b = E := ⟨_, rfl⟩
    rw [hE] at h0 HSH
    rw [hE]
    have HSN : Hid (∀ W, InI w f a b p q W → Calls Try.prog 85 #[.int .i64 f, .int .i64 g, .agg #[.int .i64 a.kind, .slice p.A0 a.sh.length p.c0, .slice p.A1 a.el.length p.c1], .agg #[.int .i64 b.kind, .slice q.A0 b.sh.length q.c0, .slice q.A1 b.el.length q.c1]] W fun e w' => e = .returned (.tuple #[.slice none 0 0, .int .i64 0, .int .i64 E]) ∧ Below W.heap.size W w') := Lib.hid (fun W h => by
      refine (HSH.out W h).mono ?_
      rintro e w' ⟨A, c, rfl, _, hz, bb⟩
      obtain ⟨rfl, rfl⟩ := hz h0
      rw [if_neg h0, if_neg h0]
      exact ⟨rfl, bb⟩)
    have hne : (E != 0) = true := by simp [h0]
    rw [hLC, hAC] at hw1
    rw [hLC, hAC]
    clear ea eb ca cb hI hLC hAC hoE hoA hE h0 HSH hC0 hsh na nb
    go_enter Try.func42, Try.ntmps42
    go_wp2_with (go_at_call 85; (try rw [hw1]); refine (HSN.out _ HI.out).mono ?_; rintro e w2 ⟨rfl, b2⟩; have I2 := Lib.hid ((HI.out.below b2).below (alloc_below w2 (.cells #[.int .i64 0] 3))); clear b2 x0 x1 x2 y0 y1 y2 z0 r0 r1 r2 f0 f1 f2; obtain ⟨z0, ⟨⟨x0, x1, x2⟩, y0, y1, y2⟩, ⟨r0, r1, r2⟩, f0, f1, f2⟩ := HC.out _ I2.out)
    refine bodyPost_ret (results_arr2 rfl rfl rfl (arblk_three _ _ _ I2.out.r)) rfl ?_
    exact GiveE.no rfl (I2.out.fin _ _ _)
  obtain ⟨ha, hb, hL, hk, hs⟩ := in_ok h0
  obtain ⟨PA, M, L, hPA, hM, hLL, hal, hbl, hN, hL4⟩ := in_N ha hb na nb hL
  rw [if_neg (by rw [h0]; decide)] at hoE
  have hLn : longN a.sh = L := by unfold longN; rw [hLL, Int.toNat_natCast]
  have hMn : (prodI (b.sh.drop 1)).toNat = M := by rw [hM, Int.toNat_natCast]
  have hoA : inMA f g a b = if apE (inGE f g a.kind b.kind a.el b.el L M) (mdN sh) = 0 then ⟨1, sh, apL (inGV f g a.kind b.kind a.el b.el L M) (mdN sh)⟩ else ⟨0, [], []⟩ := by
    unfold inMA
    rw [hoE, hLn, hMn, hsh]
  rw [hLn, hMn] at hoE
  rw [hsh] at hN hs
  obtain ⟨X, hX⟩ : ∃ X, inMA f g a b = X := ⟨_, rfl⟩
  obtain ⟨E, hE⟩ : ∃ E, inME f g a b = E := ⟨_, rfl⟩
  rw [hX] at hoA
  rw [hE] at hoE
  rw [hX, hE]
  have la := okA_len ha
  have lb := okA_len hb
  obtain ⟨n, hn⟩ : ∃ n, sh.length = n := ⟨_, rfl⟩
  obtain ⟨n1, hn1⟩ : ∃ n1, a.sh.length = n1 + 1 := ⟨a.sh.length - 1, by omega⟩
  obtain ⟨m, hm⟩ : ∃ m, b.sh.length = m + 1 := ⟨b.sh.length - 1, by omega⟩
  obtain ⟨adB, hadB, _⟩ := eb.r0.2 (by omega)
  have HSN : Hid (∀ W, InI w f a b p q W → Calls Try.prog 85 #[.int .i64 f, .int .i64 g, .agg #[.int .i64 a.kind, .slice p.A0 (n1 + 1) p.c0, .slice p.A1 a.el.length p.c1], .agg #[.int .i64 b.kind, .slice (some adB) (m + 1) q.c0, .slice q.A1 b.el.length q.c1]] W fun e w' => ∃ A c, e = .returned (.tuple #[.slice A n c, .int .i64 (L : Int), .int .i64 0]) ∧ w'.ownsRow W.heap.size 3 1 (.slice A n c) n (sh.map iv) ∧ Below W.heap.size W w') := Lib.hid (fun W h => by
    have h1 := HSH.out W h
    rw [h0, hLL, hsh, hLC, hAC, hn1, hm, hadB] at h1
    refine h1.mono ?_
    rintro e w' ⟨A, c, rfl, ho, _, bb⟩
    have ho2 := ho rfl
    rw [hn] at ho2
    rw [if_pos rfl, if_pos rfl, hn]
    exact ⟨A, c, rfl, ho2, bb⟩)
  have HMX : Hid (∀ W, Calls Try.prog 50 #[.int .i64 g, .int .i64 a.kind, .int .i64 b.kind] W fun e w' => e = .returned (.tuple #[.func (.func (mixF a.kind b.kind)) #[] #[.pointer (some ⟨W.heap.size, 0, none⟩)], .int .i64 0]) ∧ Blk w' W.heap.size 3 #[.int .i64 g] ∧ Below W.heap.size W w') := Lib.hid (fun W => by
    refine (scmixed_any g a.kind b.kind W).mono ?_
    rintro e w' ⟨v, rfl, _, h2, bb⟩
    obtain ⟨rfl, h3⟩ := h2 hk
    rw [hk]
    exact ⟨rfl, h3, bb⟩)
  have HCP : Hid (∀ W, InI w f a b p q W → Calls Try.prog 86 #[.agg #[.int .i64 a.kind, .slice p.A0 (n1 + 1) p.c0, .slice p.A1 a.el.length p.c1], .int .i64 (L : Int)] W fun e w' => e = .returned (.slice p.A1 a.el.length p.c1) ∧ Below W.heap.size W w') := Lib.hid (fun W h => by
    have h1 := focopies_any a p (L : Int) W na
    rw [hLC, hn1] at h1
    exact h1)
  have HCQ : Hid (∀ W, InI w f a b p q W → Calls Try.prog 86 #[.agg #[.int .i64 b.kind, .slice (some adB) (m + 1) q.c0, .slice q.A1 b.el.length q.c1], .int .i64 (L : Int)] W fun e w' => e = .returned (.slice q.A1 b.el.length q.c1) ∧ Below W.heap.size W w') := Lib.hid (fun W h => by
    have h1 := focopies_any b q (L : Int) W nb
    rw [hAC, hm, hadB] at h1
    exact h1)
  obtain ⟨B1, hB1⟩ : ∃ B1, (if q.c0 = 1 then some adB else (some adB).map (·.add 1)) = B1 := ⟨_, rfl⟩
  have HBE : Hid (∀ W, Calls Try.prog 87 #[.slice (some adB) (m + 1) q.c0] W fun e w' => e = .returned (.slice B1 m (q.c0 - 1)) ∧ W = w') := Lib.hid (fun W => by
    rw [← hB1]
    exact fobehind_any adB m q.c0 W (by have := cb.l0; omega) (by omega))
  have HPR : Hid (∀ W, InI w f a b p q W → Calls Try.prog 74 #[.slice B1 m (q.c0 - 1)] W fun e w' => e = .returned (.int .i64 (M : Int)) ∧ W = w') := Lib.hid (fun W h => by
    have rb := h.eb.r0.cut (k := 1) (cap := q.c0) (by omega) cb.l0
    rw [Nat.mul_one, ← List.map_drop, hm, Nat.add_sub_cancel, hadB, hB1] at rb
    have hp := foprod_any B1 (q.c0 - 1) m (b.sh.drop 1) W (by rw [List.length_drop]; omega) rb (by omega) (List.all_eq_true.2 (fun x hx => List.all_eq_true.1 (okShape_iff.1 (okA_iff.1 hb).1).2.1 x (List.mem_of_mem_drop hx)))
    rw [hM] at hp
    exact hp)
  have HMD : Hid (∀ (W : World) (A : Option Addr) (c : Nat) (G : IG), InI w f a b p q W → W.ownsRow w1.heap.size 3 1 (.slice A n c) n (sh.map iv) → InE f g a.kind b.kind a.el b.el p.A1 q.A1 p.c1 q.c1 w.heap.size L M G W → (∀ k, (Value.slice A n c).ownBlock = some k → k < G.r) → w1.heap.size ≤ G.r →
      Calls Try.prog 79 #[.slice A n c, .func (.func 88) #[] #[.pointer (some ⟨G.m, 0, none⟩), .pointer (some ⟨G.s, 0, none⟩), .pointer (some ⟨G.o, 0, none⟩), .pointer (some ⟨G.l, 0, none⟩), .pointer (some ⟨G.j, 0, none⟩), .pointer (some ⟨G.c, 0, none⟩), .pointer (some ⟨G.f, 0, none⟩)]] W fun e w' => ∃ r : AP, e = .returned (.tuple #[.agg #[.int .i64 X.kind, .slice r.A0 X.sh.length r.c0, .slice r.A1 X.el.length r.c1], .int .i64 E]) ∧ AOwn w1.heap.size w' X r ∧ Blk w' (w.heap.size + 1 + 1 + 1) 25 #[.int .i64 0, .slice none 0 0, .slice none 0 0] ∧ Below w.heap.size w w') := Lib.hid (fun W A c G hT o hG hr hw => by
    have hs1 := hI.r.lt
    have hGr : G.r < W.heap.size := by obtain ⟨xs, _, h⟩ := hG.rr; exact h.lt
    have hwW : w.heap.size ≤ W.heap.size := hT.fb.size
    have hN4 : mdN sh ≤ 4096 := by
      have := (okShape_iff.1 hs).2.2
      unfold mdN
      omega
    rw [← hn] at o hr ⊢
    have h := fomadeR_any (fun W' => InE f g a.kind b.kind a.el b.el p.A1 q.A1 p.c1 q.c1 w.heap.size L M G W' ∧ W'.ownsRow w1.heap.size 3 1 (.slice A sh.length c) sh.length (sh.map iv) ∧ Blk W' (w.heap.size + 1 + 1 + 1) 25 #[.int .i64 0, .slice none 0 0, .slice none 0 0] ∧ Below w.heap.size w W')
      A sh.length c sh 88 #[] #[.pointer (some ⟨G.m, 0, none⟩), .pointer (some ⟨G.s, 0, none⟩), .pointer (some ⟨G.o, 0, none⟩), .pointer (some ⟨G.l, 0, none⟩), .pointer (some ⟨G.j, 0, none⟩), .pointer (some ⟨G.c, 0, none⟩), .pointer (some ⟨G.f, 0, none⟩)] (enters_of Try.func88 (by kernel_rfl) rfl) (inGV f g a.kind b.kind a.el b.el L M) (inGE f g a.kind b.kind a.el b.el L M) W hs rfl (Reads.of_own o)
      (fun W1 W2 hk2 ⟨k1, k2, k3, k4⟩ => by
        obtain ⟨xs, hx1, hx2⟩ := k1.rr
        refine ⟨k1.keep hk2 (fun i hi => Nat.le_trans hwW hi) ⟨?_, ?_, ?_, ?_, ?_, ?_, ?_, ?_⟩ ⟨xs, hx1, hk2.blk hx2 (by omega)⟩, hk2.own k2 (fun k hk => by have := hr k hk; omega), hk2.blk k3 (by omega), k4.trans (hk2.below k4.size (fun i hi e => by omega))⟩
        · have := hG.bm.lt; omega
        · have := hG.bs.lt; omega
        · have := hG.bo.lt; omega
        · have := hG.bg.lt; omega
        · have := hG.bl.lt; omega
        · have := hG.bj.lt; omega
        · have := hG.bc.lt; omega
        · have := hG.bf.lt; omega) ⟨hG, o, hT.r, hT.fb⟩
      (fun i W2 hi hsz ⟨k1, k2, k3, k4⟩ => by
        rw [hN] at hi hN4
        obtain ⟨i1, i2, i3, i4, i5⟩ := in_idx (L := L) hi hN4
        have e : ((#[] : Array Value).push (.int .i64 (i : Int)) ++ #[.pointer (some ⟨G.m, 0, none⟩), .pointer (some ⟨G.s, 0, none⟩), .pointer (some ⟨G.o, 0, none⟩), .pointer (some ⟨G.l, 0, none⟩), .pointer (some ⟨G.j, 0, none⟩), .pointer (some ⟨G.c, 0, none⟩), .pointer (some ⟨G.f, 0, none⟩)]) = #[.int .i64 (i : Int), .pointer (some ⟨G.m, 0, none⟩), .pointer (some ⟨G.s, 0, none⟩), .pointer (some ⟨G.o, 0, none⟩), .pointer (some ⟨G.l, 0, none⟩), .pointer (some ⟨G.j, 0, none⟩), .pointer (some ⟨G.c, 0, none⟩), .pointer (some ⟨G.f, 0, none⟩)] := by simp
        rw [e]
        refine (foin1_any f g a.kind b.kind a.el b.el p.A1 q.A1 p.c1 q.c1 w.heap.size L M i G W2 k1 i1 i2 hL4 i3 la.1 lb.1 ea.f1 eb.f1 (by rw [hal]; exact i4) (by rw [hbl]; exact i5)).mono ?_
        rintro e' w' ⟨rfl, hk1, hE1⟩
        exact ⟨rfl, hk1.more (fun j _ hj => by rw [hj]; exact hGr), hE1, hk1.own k2 (fun k hk e2 => by have := hr k hk; omega), hk1.blk k3 (by omega), k4.trans (hk1.below k4.size (fun j hj e2 => by omega))⟩)
    refine h.mono ?_
    rintro e w' ⟨v, rfl, hsz, ⟨_, k2, k3, k4⟩, hno, hyes⟩
    by_cases hz : apE (inGE f g a.kind b.kind a.el b.el L M) (mdN sh) = 0
    · obtain ⟨A', c', rfl, ow⟩ := hyes hz
      rw [if_pos hz] at hoA
      subst hoA
      refine ⟨⟨A, c, A', c'⟩, ?_, ⟨k2, ?_⟩, k3, k4⟩
      · rw [hoE]
        show _ = Ending.returned (.tuple #[.agg #[.int .i64 1, .slice A sh.length c, .slice A' (apL _ _).length c'], _])
        rw [apL_length]
      · show w'.ownsRow _ _ _ (.slice A' (apL _ _).length c') (apL _ _).length _
        rw [apL_length]
        exact arown_mono ow (by omega)
    · rw [if_neg hz] at hoA
      subst hoA
      obtain rfl := hno hz
      refine ⟨⟨none, 0, none, 0⟩, by rw [hoE]; rfl, ⟨World.ownsRow_nil _ _ _ _, World.ownsRow_nil _ _ _ _⟩, k3, k4⟩)
  have HRA : Hid (∀ W, Below w.heap.size w W → Reads W w.heap.size 1 p.A1 a.el.length (a.el.map iv) ∧ Reads W w.heap.size 1 q.A1 b.el.length (b.el.map iv)) := Lib.hid (fun W h => ⟨ea.r1.below h, eb.r1.below h⟩)
  have hL9 : (L : Int) ≤ 4096 := by omega
  obtain ⟨i0, hi, hz0, hz1, hz2⟩ := info_parts arInfoI64
  obtain ⟨Z, hZZ⟩ : ∃ Z, madeCells (Value.int .i64 0).cells (L * 1) = Z := ⟨_, rfl⟩
  have hmk : ∀ w : World, (Instr.makeSlice 23 (.int .i64 (L : Int)) (.int .i64 (L : Int))).run Try.prog w = .ok (.slice (some ⟨w.heap.size, 0, none⟩) L L) (w.alloc (.cells Z 2)) := fun w => by
    have := run_make (P := Try.prog) w 23 2 i0 _ Try.underlying23 hi hz0 .i64 .i64 (L : Int) (L : Int) (by omega) (by omega) (by rw [hz2]; omega) (by omega)
    rw [hz1, Int.toNat_natCast, hZZ] at this
    exact this
  have HZS : Hid (Z.size = L) := Lib.hid (by rw [← hZZ]; simp [madeCells])
  clear hi hz0 hz1 hz2 hZZ
  have hs1 : w1.heap.size = w.heap.size + 1 + 1 + 1 + 1 := by rw [← hw1]; simp
  have HS1 := Lib.hid hs1
  rw [hLC, hAC] at hw1
  rw [hLC, hAC]
  simp only [hn1, hm, hadB] at HC x1 y1 hw1
  rw [hn1, hm, hadB]
  generalize hgm : mixF a.kind b.kind = gm at *
  have HGM := Lib.hid hgm
  clear ea eb ca cb hI hLC hAC hoE hoA hE hX h0 HSH hC0 ha hb hk hs la lb hn hgm hsh hLL hal hbl hN hPA hM hLn hMn hL hn1 hm hadB hB1 na nb hs1
  go_enter Try.func42, Try.ntmps42
  go_upto_region 5 with (first
    | (go_at_call 50; refine (HMX.out _).mono ?_; rintro e w3 ⟨rfl, h3, b3⟩; have al3 := alloc_below w3 (.cells #[.func (.func gm) #[] #[.pointer (some ⟨w2.heap.size + 1, 0, none⟩)]] 72); have X4 := Lib.hid (Blk.new w3 72 #[.func (.func gm) #[] #[.pointer (some ⟨w2.heap.size + 1, 0, none⟩)]]); have b34 := below_on b3 al3; have I4 := Lib.hid (I2.out.below b34); have O4 := Lib.hid (arown_stay O2.out b34 (fun g hg => (arown_lt O2.out g hg).2)); have J4 := Lib.hid (blk_up J2.out b34); have S4 := Lib.hid (Nat.le_trans S2.out b34.size); have Y3 := Lib.hid h3; clear h3 b3 b34 al3 x0 x1 x2 y0 y1 y2 z0 r0 r1 r2 f0 f1 f2 j0; obtain ⟨z0, ⟨⟨x0, x1, x2⟩, y0, y1, y2⟩, ⟨r0, r1, r2⟩, f0, f1, f2⟩ := HC.out _ I4.out; have j0 := J4.out.cell 0)
    | (go_at_call 85; (try rw [hw1]); refine (HSN.out _ HI.out).mono ?_; rintro e w2 ⟨A2, c2, rfl, o2, b2⟩; have al2 := alloc_below w2 (.cells #[.int .i64 (L : Int)] 3); have I2 := Lib.hid ((HI.out.below b2).below al2); have O2 := Lib.hid (arown_stay o2 al2 (fun g hg => (arown_lt o2 g hg).2)); have J2 := Lib.hid (Blk.new w2 3 #[.int .i64 (L : Int)]); have S2 := Lib.hid (below_on b2 al2).size; clear b2 o2 al2 x0 x1 x2 y0 y1 y2 z0 r0 r1 r2 f0 f1 f2; obtain ⟨z0, ⟨⟨x0, x1, x2⟩, y0, y1, y2⟩, ⟨r0, r1, r2⟩, f0, f1, f2⟩ := HC.out _ I2.out; have j0 := J2.out.cell 0))
  have Y3b := Y3.out
  rw [World.size_alloc] at Y3b
  have Y4 := Lib.hid (blk_up Y3b (alloc_below w3 (.cells #[.func (.func gm) #[] #[.pointer (some ⟨w2.heap.size + 1, 0, none⟩)]] 72)))
  clear Y3b Y3
  have hj2 := J4.out.lt
  obtain ⟨w4, hw4⟩ : ∃ w4, w3.alloc (.cells #[.func (.func gm) #[] #[.pointer (some ⟨w2.heap.size + 1, 0, none⟩)]] 72) = w4 := ⟨_, rfl⟩
  rw [hw4] at I4 O4 J4 S4 X4 Y4 z0 x0 x1 x2 y0 y1 y2 r0 r1 r2 f0 f1 f2 j0 hj2 ⊢
  clear hw4
  refine wp_region_doneT_on (TwB w4 23 (.slice p.A1 a.el.length p.c1) (.slice q.A1 b.el.length q.c1)) (twR [.agg #[.int .i64 a.kind, .slice p.A0 (n1 + 1) p.c0, .slice p.A1 a.el.length p.c1], .int .i64 (L : Int), .slice p.A1 a.el.length p.c1, .agg #[.int .i64 b.kind, .slice (some adB) (m + 1) q.c0, .slice q.A1 b.el.length q.c1], .int .i64 (L : Int), .slice q.A1 b.el.length q.c1, undef, undef, undef, undef]) (by kernel_rfl) 58 rfl (by kernel_rfl) ⟨(Below.refl _ _).drew, fun e => (by cases e), fun e => (by cases e), fun e => (by cases e), fun e => (by cases e), fun e => (by cases e)⟩ ?_ ?_
  · intro i hi
    have hi2 : i < 10 := hi
    clear hi
    rcases i with _ | i
    · refine tw_value rfl (by decide) (by decide) (by decide) (by decide) 41 rfl (by decide) (by decide) (.agg #[.int .i64 a.kind, .slice p.A0 (n1 + 1) p.c0, .slice p.A1 a.el.length p.c1]) rfl ?_
      intro a8 w8 hb8 ho hn
      have o6 : a8.tmps[6]? = some _ := (ho 6 (by kernel_rfl)).trans rfl
      clear ho hn
      refine ⟨wanted_free rfl, ?_⟩
      obtain ⟨z0, ⟨⟨x0, x1, x2⟩, y0, y1, y2⟩, _⟩ := HC.out w8 (I4.out.below hb8)
      go_simp
    rcases i with _ | i
    · refine tw_value rfl (by decide) (by decide) (by decide) (by decide) 42 rfl (by decide) (by decide) (.int .i64 (L : Int)) rfl ?_
      intro a8 w8 hb8 ho hn
      have o11 : a8.tmps[11]? = some _ := (ho 11 (by kernel_rfl)).trans rfl
      clear ho hn
      refine ⟨wanted_free rfl, ?_⟩
      have j0 := (blk_up J4.out hb8).cell 0
      go_simp
    rcases i with _ | i
    · refine tw_call 86 rfl (by decide) (by decide) (by decide) (by decide) 43 rfl (by decide) (by decide) (.slice p.A1 a.el.length p.c1) rfl ?_
      intro a8 w8 hb8 ho hn
      obtain ⟨v41, n41, hq41⟩ := hn 0 41 (by kernel_rfl) rfl
      obtain rfl := hq41 (by decide) (by decide)
      obtain ⟨v42, n42, hq42⟩ := hn 1 42 (by kernel_rfl) rfl
      obtain rfl := hq42 (by decide) (by decide)
      clear ho hn
      refine ⟨wanted_free rfl, ?_⟩
      refine ⟨#[.agg #[.int .i64 a.kind, .slice p.A0 (n1 + 1) p.c0, .slice p.A1 a.el.length p.c1], .int .i64 (L : Int)], (by go_simp), (HCP.out w8 (I4.out.below hb8)).mono ?_⟩
      rintro e w9 ⟨rfl, b9⟩
      exact ⟨rfl, b9⟩
    rcases i with _ | i
    · refine tw_value rfl (by decide) (by decide) (by decide) (by decide) 44 rfl (by decide) (by decide) (.agg #[.int .i64 b.kind, .slice (some adB) (m + 1) q.c0, .slice q.A1 b.el.length q.c1]) rfl ?_
      intro a8 w8 hb8 ho hn
      have o7 : a8.tmps[7]? = some _ := (ho 7 (by kernel_rfl)).trans rfl
      clear ho hn
      refine ⟨wanted_free rfl, ?_⟩
      obtain ⟨z0, ⟨⟨x0, x1, x2⟩, y0, y1, y2⟩, _⟩ := HC.out w8 (I4.out.below hb8)
      go_simp
    rcases i with _ | i
    · refine tw_value rfl (by decide) (by decide) (by decide) (by decide) 45 rfl (by decide) (by decide) (.int .i64 (L : Int)) rfl ?_
      intro a8 w8 hb8 ho hn
      have o11 : a8.tmps[11]? = some _ := (ho 11 (by kernel_rfl)).trans rfl
      clear ho hn
      refine ⟨wanted_free rfl, ?_⟩
      have j0 := (blk_up J4.out hb8).cell 0
      go_simp
    rcases i with _ | i
    · refine tw_call 86 rfl (by decide) (by decide) (by decide) (by decide) 46 rfl (by decide) (by decide) (.slice q.A1 b.el.length q.c1) rfl ?_
      intro a8 w8 hb8 ho hn
      obtain ⟨v44, n44, hq44⟩ := hn 3 44 (by kernel_rfl) rfl
      obtain rfl := hq44 (by decide) (by decide)
      obtain ⟨v45, n45, hq45⟩ := hn 4 45 (by kernel_rfl) rfl
      obtain rfl := hq45 (by decide) (by decide)
      clear ho hn
      refine ⟨wanted_free rfl, ?_⟩
      refine ⟨#[.agg #[.int .i64 b.kind, .slice (some adB) (m + 1) q.c0, .slice q.A1 b.el.length q.c1], .int .i64 (L : Int)], (by go_simp), (HCQ.out w8 (I4.out.below hb8)).mono ?_⟩
      rintro e w9 ⟨rfl, b9⟩
      exact ⟨rfl, b9⟩
    rcases i with _ | i
    · refine tw_alloc6 rfl rfl (.slice none 0 0) ?_
      intro a8 w8 ho
      have o57 : a8.tmps[57]? = some _ := (ho 57 (by kernel_rfl)).trans rfl
      have hsz : 57 < a8.tmps.size := (Array.getElem?_eq_some_iff.1 o57).1
      refine ⟨by omega, wanted_free rfl, ?_⟩
      go_simp
    rcases i with _ | i
    · refine tw_alloc7 rfl rfl (.slice none 0 0) ?_
      intro a8 w8 ho
      have o57 : a8.tmps[57]? = some _ := (ho 57 (by kernel_rfl)).trans rfl
      have hsz : 57 < a8.tmps.size := (Array.getElem?_eq_some_iff.1 o57).1
      refine ⟨by omega, wanted_free rfl, ?_⟩
      go_simp
    rcases i with _ | i
    · refine tw_store8 rfl rfl rfl (by kernel_rfl) rfl ?_
      intro a8 w8 g8 u8 hg n15 hn
      obtain ⟨v43, n43, hq43⟩ := hn 2 43 (by kernel_rfl) rfl
      obtain rfl := hq43 (by decide) (by decide)
      clear hn
      have c8 := hg.cell 0
      have f8 := hg.frozen 0
      refine ⟨wanted_free rfl, ?_⟩
      go_simp
    rcases i with _ | i
    · refine tw_store9 rfl rfl rfl (by kernel_rfl) rfl ?_
      intro a8 w8 g8 u8 hg n16 hn
      obtain ⟨v46, n46, hq46⟩ := hn 5 46 (by kernel_rfl) rfl
      obtain rfl := hq46 (by decide) (by decide)
      clear hn
      have c8 := hg.cell 0
      have f8 := hg.frozen 0
      refine ⟨wanted_free rfl, ?_⟩
      go_simp
    omega
  · intro dn fv w5 hS5 hR5 hall
    obtain ⟨gl, ul, e15, hgl, bl, xl⟩ := hS5.x (hall 6 (by decide))
    obtain rfl := xl (hall 8 (by decide))
    obtain ⟨gc, uc, e16, hgc, bc, xc⟩ := hS5.y (hall 7 (by decide))
    obtain rfl := xc (hall 9 (by decide))
    have hbw := hS5.b
    clear hS5 hR5 hall xl xc
    simp only [putAll, List.foldl_cons, List.foldl_nil, Act.put, List.setIfInBounds_toArray, List.set_cons_succ, List.set_cons_zero, List.getElem?_toArray, List.getElem?_cons_succ, List.getElem?_cons_zero, Option.some.injEq] at e15 e16 ⊢
    rw [e15, e16]
    have I5 := Lib.hid (I4.out.below hbw)
    have O5 := Lib.hid (arown_stay O4.out hbw (fun g hg => (arown_lt O4.out g hg).2))
    have J5 := Lib.hid (blk_up J4.out hbw)
    have X5 := Lib.hid (blk_up X4.out hbw)
    have Y5 := Lib.hid (blk_up Y4.out hbw)
    have S5 := Lib.hid (Nat.le_trans S4.out hbw.size)
    have BL := Lib.hid bl
    have BC := Lib.hid bc
    clear e15 e16 hgl hgc bl bc hbw z0 x0 x1 x2 y0 y1 y2 r0 r1 r2 f0 f1 f2 j0 hj2
    obtain ⟨z0, ⟨⟨x0, x1, x2⟩, y0, y1, y2⟩, _⟩ := HC.out _ I5.out
    have j0 := J5.out.cell 0
    have al8 := below_n3 w5 (.cells #[.int .i64 (M : Int)] 3) (.cells Z 2) (.cells #[.slice (some ⟨w5.heap.size + 1, 0, none⟩) L L] 23)
    have I8 := Lib.hid (I5.out.below al8)
    have O8 := Lib.hid (arown_stay O5.out al8 (fun g hg => (arown_lt O5.out g hg).2))
    have hgo : Blk w5 w3.heap.size 72 #[.func (.func (mixF a.kind b.kind)) #[] #[.pointer (some ⟨w2.heap.size + 1, 0, none⟩)]] := by
      rw [HGM.out]
      exact X5.out
    have E8 : Hid (InE f g a.kind b.kind a.el b.el p.A1 q.A1 p.c1 q.c1 w.heap.size L M ⟨w5.heap.size, w5.heap.size + 1 + 1, w3.heap.size, w2.heap.size + 1, gl, w2.heap.size, gc, w.heap.size, w5.heap.size + 1⟩ (((w5.alloc (.cells #[.int .i64 (M : Int)] 3)).alloc (.cells Z 2)).alloc (.cells #[.slice (some ⟨w5.heap.size + 1, 0, none⟩) L L] 23))) := Lib.hid
      ⟨((Blk.new w5 _ _).alloc _).alloc _, blk_n3 w5 _ _ _ _, blk_up hgo al8, blk_up Y5.out al8, blk_up BL.out al8, blk_up J5.out al8, blk_up BC.out al8, I8.out.f0, (HRA.out _ I8.out.fb).1, (HRA.out _ I8.out.fb).2, ⟨Z, HZS.out, (blk_n2 w5 _ _ _).alloc _⟩, Nat.le_trans I5.out.fb.size (Nat.le_add_right _ _)⟩
    have R8 : Hid (∀ k, (Value.slice A2 n c2).ownBlock = some k → k < w5.heap.size + 1) := Lib.hid (fun k hk => Nat.lt_succ_of_lt (arown_lt O5.out k hk).2)
    have S8 : Hid (w1.heap.size ≤ w5.heap.size + 1) := Lib.hid (Nat.le_succ_of_le S5.out)
    clear al8 hgo
    go_wp2_with (first
      | (go_at_call 79; refine (HMD.out _ A2 c2 ⟨w5.heap.size, w5.heap.size + 1 + 1, w3.heap.size, w2.heap.size + 1, gl, w2.heap.size, gc, w.heap.size, w5.heap.size + 1⟩ I8.out O8.out E8.out R8.out S8.out).mono ?_; rintro e w9 ⟨r, rfl, ow9, k9, b9⟩; have r0 := k9.cell 0; have r1 := k9.cell 1; have r2 := k9.cell 2; have f0 := k9.frozen 0; have f1 := k9.frozen 1; have f2 := k9.frozen 2; have OW9 := Lib.hid ow9; have K9 := Lib.hid k9; have B9 := Lib.hid b9; clear ow9 k9 b9)
      | (go_at_call 74; refine (HPR.out _ I5.out).mono ?_; rintro e _ ⟨rfl, rfl⟩; have j1 := (blk_up J5.out (alloc_below w5 (.cells #[.int .i64 (M : Int)] 3))).cell 0)
      | (go_at_call 87; refine (HBE.out _).mono ?_; rintro e _ ⟨rfl, rfl⟩))
    refine bodyPost_ret (results_arr2 rfl rfl rfl (arblk_three _ _ _ K9.out)) rfl ?_
    have hk3 := arkeep_three w9 (w.heap.size + 1 + 1 + 1) (.int .i64 X.kind) (.slice r.A0 X.sh.length r.c0) (.slice r.A1 X.el.length r.c1)
    have hs1 := HS1.out
    refine ⟨r, rfl, ⟨?_, ?_⟩, B9.out.trans (hk3.below B9.out.size (fun i hi e => by omega))⟩
    · exact arown_mono (hk3.own OW9.out.o0 (fun g hg e => by have := (arown_lt OW9.out.o0 g hg).1; omega)) (by omega)
    · exact arown_mono (hk3.own OW9.out.o1 (fun g hg e => by have := (arown_lt OW9.out.o1 g hg).1; omega)) (by omega)
end Go.Proofs.Ytkabdkblcgklmaa.fo

/-
  Layer 16 (fold): the shape of an inner product of arrays that are no scalars.
-/
import Derived.Test.YtkabdkblcgklmaaFoInA
namespace Go.Proofs.Ytkabdkblcgklmaa.fo
open Go.RowKit Go.Proofs.Ytkabdkblcgklmaa.arr Go.Proofs.Ytkabdkblcgklmaa.sc

def inE0 (f g : Int) (a b : AV) : Int := if (binB f && binB g) = false then 2 else if (okA a && okA b) = false then 110 else if b.sh.getD 0 0 ≠ longI a.sh then 4 else if kindsE g a.kind b.kind ≠ 0 then kindsE g a.kind b.kind else if okShape (othL a.sh ++ b.sh.drop 1) = false then 9 else 0
/-- What InnerShape answers. -/
def InA (E : Int) (sh : List Int) (L : Int) (w : World) (e : Ending) (w' : World) : Prop := ∃ A c, e = .returned (.tuple #[.slice A (if E = 0 then sh.length else 0) c, .int .i64 (if E = 0 then L else 0), .int .i64 E]) ∧ (E = 0 → w'.ownsRow w.heap.size 3 1 (.slice A sh.length c) sh.length (sh.map iv)) ∧ (E ≠ 0 → A = none ∧ c = 0) ∧ Below w.heap.size w w'
theorem InA.no {E L : Int} {sh : List Int} {w w' : World} (h : E ≠ 0) (b : Below w.heap.size w w') : InA E sh L w (.returned (.tuple #[.slice none 0 0, .int .i64 0, .int .i64 E])) w' :=
  ⟨none, 0, by rw [if_neg h, if_neg h], fun h2 => absurd h2 h, fun _ => ⟨rfl, rfl⟩, b⟩
theorem in_parts (f g : Int) (a b : AV) : (chkE [f, g] [a, b] ≠ 0 → inE0 f g a b = chkE [f, g] [a, b]) ∧ (chkE [f, g] [a, b] = 0 → okA a = true ∧ okA b = true ∧ (b.sh.getD 0 0 ≠ longI a.sh → inE0 f g a b = 4) ∧ (b.sh.getD 0 0 = longI a.sh → (kindsE g a.kind b.kind ≠ 0 → inE0 f g a b = kindsE g a.kind b.kind) ∧ (kindsE g a.kind b.kind = 0 → inE0 f g a b = if okShape (othL a.sh ++ b.sh.drop 1) = true then 0 else 9))) := by
  unfold chkE inE0
  rw [List.all_cons, List.all_cons, List.all_cons, List.all_cons, List.all_nil, List.all_nil, Bool.and_true, Bool.and_true]
  cases hfg : binB f && binB g
  · exact ⟨fun _ => rfl, fun h => by cases h⟩
  · cases hab : okA a && okA b
    · exact ⟨fun _ => rfl, fun h => by cases h⟩
    · rw [Bool.and_eq_true] at hab
      refine ⟨fun h => absurd rfl h, fun _ => ⟨hab.1, hab.2, fun h => by rw [if_neg (by decide), if_neg (by decide), if_pos h], fun h => ⟨fun h2 => ?_, fun h2 => ?_⟩⟩⟩
      · rw [if_neg (by decide), if_neg (by decide), if_neg (by rw [h]; exact fun h => h rfl), if_pos h2]
      · rw [if_neg (by decide), if_neg (by decide), if_neg (by rw [h]; exact fun h => h rfl), if_neg (by rw [h2]; decide)]
        cases okShape (othL a.sh ++ b.sh.drop 1) <;> rfl
def LgU (x y : Value) (v : Value) (W : World) : Prop := ∃ g, v = .slice (some ⟨g, 0, none⟩) 2 2 ∧ Blk W g 22 #[x, y]
def LtU (B : Nat) (E : Int) (k : Nat) (sh : List Int) (v : Value) (W : World) : Prop := ∃ A c, v = .tuple #[.slice A k c, .int .i64 E] ∧ (E = 0 → W.ownsRow B 3 1 (.slice A sh.length c) sh.length (sh.map iv)) ∧ (E ≠ 0 → A = none ∧ c = 0)
def LxU (B : Nat) (E : Int) (k : Nat) (sh : List Int) (v : Value) (W : World) : Prop := ∃ A c, v = .slice A k c ∧ (E = 0 → W.ownsRow B 3 1 (.slice A sh.length c) sh.length (sh.map iv)) ∧ (E ≠ 0 → A = none ∧ c = 0)
theorem lgU_stk (x y : Value) : stk (LgU x y) := fun v W W' hb h => by
  obtain ⟨g, h1, h2⟩ := h
  exact ⟨g, h1, blk_up h2 hb⟩
theorem ltU_stk (B : Nat) (E : Int) (k : Nat) (sh : List Int) : stk (LtU B E k sh) := fun v W W' hb h => by
  obtain ⟨A, c, h1, h2, h3⟩ := h
  exact ⟨A, c, h1, fun e => arown_stay (h2 e) hb (fun g hg => (arown_lt (h2 e) g hg).2), h3⟩
theorem lxU_stk (B : Nat) (E : Int) (k : Nat) (sh : List Int) : stk (LxU B E k sh) := fun v W W' hb h => by
  obtain ⟨A, c, h1, h2, h3⟩ := h
  exact ⟨A, c, h1, fun e => arown_stay (h2 e) hb (fun g hg => (arown_lt (h2 e) g hg).2), h3⟩
set_option maxRecDepth 100000 in
set_option maxHeartbeats 8000000 in
theorem foinsh_any (f g : Int) (a b : AV) (p q : AP) (w : World) (ea : AEl w a p) (eb : AEl w b q) (ca : Cap2 a p) (cb : Cap2 b q) (na : 0 < a.sh.length) (nb : 0 < b.sh.length) :
    Calls Try.prog 85 #[.int .i64 f, .int .i64 g, .agg (arC a p), .agg (arC b q)] w (InA (inE0 f g a b) (othL a.sh ++ b.sh.drop 1) (longI a.sh) w) := by
  have hI := TwF.start ea eb
  obtain ⟨w1, hw1⟩ : ∃ w1, (w.alloc (.cells (arC a p) 25)).alloc (.cells (arC b q) 25) = w1 := ⟨_, rfl⟩
  rw [hw1] at hI
  have hs1 : w1.heap.size = w.heap.size + 1 + 1 := by rw [← hw1]; simp
  have HCK : Hid (Calls Try.prog 90 #[.slice (some ⟨w1.heap.size, 0, none⟩) 2 2, .slice (some ⟨w1.heap.size + 1, 0, none⟩) 2 2] ((w1.alloc (.cells #[.int .i64 f, .int .i64 g] 3)).alloc (.cells #[.int .i64 a.kind, .slice p.A0 a.sh.length p.c0, .slice p.A1 a.el.length p.c1, .int .i64 b.kind, .slice q.A0 b.sh.length q.c0, .slice q.A1 b.el.length q.c1] 25)) fun e w' => e = .returned (.int .i64 (chkE [f, g] [a, b])) ∧ Below w1.heap.size w1 w') := Lib.hid (chk_two [f, g] a b w1 p q hI.ea hI.eb 2 rfl (by omega))
  have HK := Lib.hid (fun W => sckinds_any g a.kind b.kind W)
  have HC := Lib.hid (fun W (h : TwF w a b p q W) => h.cells)
  obtain ⟨o1, o2⟩ := in_parts f g a b
  obtain ⟨⟨x0, x1, x2⟩, y0, y1, y2⟩ := HC.out w1 hI
  have HI := Lib.hid hI
  have HS := Lib.hid hs1
  have hLC : arC a p = #[.int .i64 a.kind, .slice p.A0 a.sh.length p.c0, .slice p.A1 a.el.length p.c1] := rfl
  have hAC : arC b q = #[.int .i64 b.kind, .slice q.A0 b.sh.length q.c0, .slice q.A1 b.el.length q.c1] := rfl
  rw [hLC, hAC] at hw1
  rw [hLC, hAC]
  obtain ⟨sh, hsh⟩ : ∃ sh, othL a.sh ++ b.sh.drop 1 = sh := ⟨_, rfl⟩
  obtain ⟨L, hL⟩ : ∃ L, longI a.sh = L := ⟨_, rfl⟩
  obtain ⟨E, hE⟩ : ∃ E, chkE [f, g] [a, b] = E := ⟨_, rfl⟩
  rw [hE] at o1 o2
  rw [hL] at o2
  rw [hE] at HCK
  rw [hsh] at o2
  rw [hsh, hL]
  by_cases h0 : E = 0
  case neg =>
    have HN := Lib.hid (fun w' bb => InA.no (E := E) (L := L) (sh := sh) (w := w) (w' := w') h0 bb)
    rw [o1 h0]
    have hne : (E != 0) = true := by simp [h0]
    obtain ⟨R, hR⟩ : ∃ R, InA E sh L w = R := ⟨_, rfl⟩
    rw [hR]
    clear ea eb hI o1 o2 hE hLC hAC h0 ca cb na nb hsh hL
    go_enter Try.func85, Try.ntmps85
    go_wp2_with (go_at_call 90; (try simp only [HS.out.symm]); refine HCK.out.mono ?_; rintro e w2 ⟨rfl, b2⟩)
    go_ret3
    rw [← hR]
    exact HN.out _ (below_on HI.out.fb b2)
  subst h0
  obtain ⟨ha, hb, k4, k5⟩ := o2 rfl
  have la := (okA_len ha).2
  have lb := (okA_len hb).2
  obtain ⟨n, hn⟩ : ∃ n, a.sh.length = n + 1 := ⟨a.sh.length - 1, by omega⟩
  obtain ⟨m, hm⟩ : ∃ m, b.sh.length = m + 1 := ⟨b.sh.length - 1, by omega⟩
  have hgl : longI a.sh = a.sh.getD n 0 := by unfold longI; rw [if_neg (by omega), hn]; rfl
  rw [hL] at hgl
  obtain ⟨adB, hadB, _⟩ := eb.r0.2 (by omega)
  have HP : Hid (∀ W, TwF w a b p q W → Calls Try.prog 137 #[.slice p.A0 (n + 1) p.c0, .slice (some adB) (m + 1) q.c0] W fun e w' => e = .returned (.tuple #[.int .i64 (if b.sh.getD 0 0 = L then L else 0), .int .i64 (if b.sh.getD 0 0 = L then 0 else 4)]) ∧ Below W.heap.size W w') := Lib.hid (fun W h => by
    have ra := h.ea.r0
    have rb := h.eb.r0
    rw [hn] at ra
    rw [hm, hadB] at rb
    have hp := fopairs_any p.A0 (some adB) n m p.c0 q.c0 a.sh b.sh W hn hm ra rb (by omega) (by omega)
    rw [← hgl] at hp
    exact hp)
  by_cases hX : b.sh.getD 0 0 = L
  case neg =>
    rw [k4 hX]
    rw [if_neg hX, if_neg hX] at HP
    have HN := Lib.hid (fun w' bb => InA.no (E := 4) (L := L) (sh := sh) (w := w) (w' := w') (by decide) bb)
    obtain ⟨R, hR⟩ : ∃ R, InA 4 sh L w = R := ⟨_, rfl⟩
    rw [hR]
    simp only [hn, hm, hadB] at HC HCK hw1 x1 y1
    rw [hn, hm, hadB]
    clear ea eb hI o1 o2 hE hLC hAC ca cb na nb hsh hL k4 k5 ha hb la lb hn hm hgl hX hadB
    go_enter Try.func85, Try.ntmps85
    go_wp2_with (first
      | (go_at_call 137; refine (HP.out _ I2.out).mono ?_; rintro e w3 ⟨rfl, b3⟩)
      | (go_at_call 90; (try simp only [HS.out.symm]); refine HCK.out.mono ?_; rintro e w2 ⟨rfl, b2⟩; have I2 := Lib.hid (HI.out.below b2); clear b2 x0 x1 x2 y0 y1 y2; obtain ⟨⟨x0, x1, x2⟩, y0, y1, y2⟩ := HC.out _ I2.out))
    go_ret3
    rw [← hR]
    exact HN.out _ (below_on I2.out.fb b3)
  obtain ⟨k1, k2⟩ := k5 hX
  rw [if_pos hX, if_pos hX] at HP
  obtain ⟨K, hK⟩ : ∃ K, kindsE g a.kind b.kind = K := ⟨_, rfl⟩
  rw [hK] at k1 k2 HK
  by_cases h1 : K = 0
  case neg =>
    have HN := Lib.hid (fun w' bb => InA.no (E := K) (L := L) (sh := sh) (w := w) (w' := w') h1 bb)
    rw [k1 h1]
    have hne : (K != 0) = true := by simp [h1]
    obtain ⟨R, hR⟩ : ∃ R, InA K sh L w = R := ⟨_, rfl⟩
    rw [hR]
    simp only [hn, hm, hadB] at HC HCK hw1 x1 y1
    rw [hn, hm, hadB]
    clear ea eb hI o1 o2 hE hLC hAC ca cb na nb hsh hL k4 k5 ha hb la lb hn hm hgl hX hadB h1 k1 k2 hK
    go_enter Try.func85, Try.ntmps85
    go_wp2_with (first
      | (go_at_call 91; refine (HK.out _).mono ?_; rintro e w4 ⟨rfl, b4⟩)
      | (go_at_call 137; refine (HP.out _ I2.out).mono ?_; rintro e w3 ⟨rfl, b3⟩; have I3 := Lib.hid (I2.out.below b3); clear b3 x0 x1 x2 y0 y1 y2; obtain ⟨⟨x0, x1, x2⟩, y0, y1, y2⟩ := HC.out _ I3.out)
      | (go_at_call 90; (try simp only [HS.out.symm]); refine HCK.out.mono ?_; rintro e w2 ⟨rfl, b2⟩; have I2 := Lib.hid (HI.out.below b2); clear b2 x0 x1 x2 y0 y1 y2; obtain ⟨⟨x0, x1, x2⟩, y0, y1, y2⟩ := HC.out _ I2.out))
    go_ret3
    rw [← hR]
    exact HN.out _ (below_on I3.out.fb b4)
  subst h1
  have hEE := k2 rfl
  obtain ⟨E, hEd⟩ : ∃ E, inE0 f g a b = E := ⟨_, rfl⟩
  rw [hEd] at hEE
  rw [hEd]
  obtain ⟨B1, hB1⟩ : ∃ B1, (if q.c0 = 1 then some adB else (some adB).map (·.add 1)) = B1 := ⟨_, rfl⟩
  have HOT : Hid (∀ W, Calls Try.prog 75 #[.slice p.A0 (n + 1) p.c0] W fun e w' => e = .returned (.slice p.A0 n p.c0) ∧ W = w') := Lib.hid (fun W => foother_any p.A0 (n + 1) p.c0 W (fun h => by
    have h1 := ca.n0 h
    have h2 := ca.l0
    omega) (by have := ca.l0; omega) (by omega))
  have HBE : Hid (∀ W, Calls Try.prog 87 #[.slice (some adB) (m + 1) q.c0] W fun e w' => e = .returned (.slice B1 m (q.c0 - 1)) ∧ W = w') := Lib.hid (fun W => by
    rw [← hB1]
    exact fobehind_any adB m q.c0 W (by have := cb.l0; omega) (by omega))
  obtain ⟨k, hk⟩ : ∃ k, (if E = 0 then sh.length else 0) = k := ⟨_, rfl⟩
  have hol : (othL a.sh).length = n := by unfold othL; rw [List.length_take]; omega
  have hdl : (b.sh.drop 1).length = m := by rw [List.length_drop]; omega
  have HLM : Hid (∀ W gg, TwF w a b p q W → Blk W gg 22 #[.slice p.A0 n p.c0, .slice B1 m (q.c0 - 1)] → Calls Try.prog 78 #[.slice (some ⟨gg, 0, none⟩) 2 2] W fun e w' => ∃ A c, e = .returned (.tuple #[.slice A k c, .int .i64 E]) ∧ (E = 0 → w'.ownsRow W.heap.size 3 1 (.slice A sh.length c) sh.length (sh.map iv)) ∧ (E ≠ 0 → A = none ∧ c = 0) ∧ Below W.heap.size W w') := Lib.hid (fun W gg h hg => by
    have ra := reads_pre h.ea.r0 (k := n) (by omega)
    have rb := h.eb.r0.cut (k := 1) (cap := q.c0) (by omega) cb.l0
    rw [Nat.mul_one, ← List.map_drop, hm, Nat.add_sub_cancel, hadB, hB1] at rb
    have e1 : a.sh.take n = othL a.sh := by unfold othL; rw [hn]; rfl
    rw [e1] at ra
    rw [← hol] at ra hg
    rw [← hdl] at rb hg
    have hc := foconc2_any gg 2 (othL a.sh) (b.sh.drop 1) p.A0 B1 p.c0 (q.c0 - 1) W (by omega) (by omega) hg ra rb
    rw [hsh] at hc
    refine (folim_any gg 2 2 sh W (by rw [← hsh, List.length_append]; omega) hc).mono ?_
    rintro e w' ⟨A, c, rfl, o, z, bb⟩
    rw [← hk]
    cases hok : okShape sh
    · rw [hok] at hEE
      have h9 : E = 9 := hEE
      subst h9
      obtain ⟨rfl, rfl⟩ := z hok
      exact ⟨none, 0, rfl, fun h => absurd h (by decide), fun _ => ⟨rfl, rfl⟩, bb⟩
    · rw [hok] at hEE
      have h9 : E = 0 := hEE
      subst h9
      exact ⟨A, c, rfl, fun _ => o hok, fun h => absurd rfl h, bb⟩)
  have HU : GU (lookU [(2, fun v _ => v = .slice p.A0 n p.c0), (5, fun v _ => v = .slice B1 m (q.c0 - 1)), (6, LgU (.slice p.A0 n p.c0) (.slice B1 m (q.c0 - 1))), (7, LtU w.heap.size E k sh), (8, LtU w.heap.size E k sh), (9, LxU w.heap.size E k sh), (11, LxU w.heap.size E k sh)]) := lookU_stay (by
    intro x hx
    simp only [List.mem_cons, List.not_mem_nil, or_false] at hx
    rcases hx with rfl | rfl | rfl | rfl | rfl | rfl | rfl <;> first | exact lgU_stk _ _ | exact ltU_stk _ _ _ _ | exact lxU_stk _ _ _ _ | exact fun _ _ _ _ h => h)
  have HFN : Hid (∀ A c w', (E = 0 → w'.ownsRow w.heap.size 3 1 (.slice A sh.length c) sh.length (sh.map iv)) → (E ≠ 0 → A = none ∧ c = 0) → Below w.heap.size w w' → InA E sh L w (.returned (.tuple #[.slice A k c, .int .i64 (if E = 0 then L else 0), .int .i64 E])) w') := Lib.hid (fun A c w' o z bb => by
    rw [← hk]
    exact ⟨A, c, rfl, o, z, bb⟩)
  obtain ⟨R, hR⟩ : ∃ R, InA E sh L w = R := ⟨_, rfl⟩
  rw [hR] at HFN
  rw [hR]
  have HKZ : Hid (E ≠ 0 → k = 0) := Lib.hid (fun h => by rw [← hk, if_neg h])
  simp only [hn, hm, hadB] at HC HCK hw1 x1 y1
  rw [hn, hm, hadB]
  clear ea eb hI o1 o2 hE hLC hAC ca cb na nb hsh hL k4 k5 ha hb la lb hn hm hgl hX hadB k1 k2 hK hEE hEd hB1 hol hdl hR hk
  go_enter Try.func85, Try.ntmps85
  go_upto_region 10 with (first
      | (go_at_call 91; refine (HK.out _).mono ?_; rintro e w4 ⟨rfl, b4⟩; have HI4 := Lib.hid (I3.out.below b4); clear b4 x0 x1 x2 y0 y1 y2; obtain ⟨⟨x0, x1, x2⟩, y0, y1, y2⟩ := HC.out _ HI4.out)
      | (go_at_call 137; refine (HP.out _ I2.out).mono ?_; rintro e w3 ⟨rfl, b3⟩; have I3 := Lib.hid (I2.out.below b3); clear b3 x0 x1 x2 y0 y1 y2; obtain ⟨⟨x0, x1, x2⟩, y0, y1, y2⟩ := HC.out _ I3.out)
      | (go_at_call 90; (try simp only [HS.out.symm]); refine HCK.out.mono ?_; rintro e w2 ⟨rfl, b2⟩; have I2 := Lib.hid (HI.out.below b2); clear b2 x0 x1 x2 y0 y1 y2; obtain ⟨⟨x0, x1, x2⟩, y0, y1, y2⟩ := HC.out _ I2.out))
  refine wp_region_done_on (GS w4) (GR [2, 5, 6, 7, 8, 9, 11] (lookU [(2, fun v _ => v = .slice p.A0 n p.c0), (5, fun v _ => v = .slice B1 m (q.c0 - 1)), (6, LgU (.slice p.A0 n p.c0) (.slice B1 m (q.c0 - 1))), (7, LtU w.heap.size E k sh), (8, LtU w.heap.size E k sh), (9, LxU w.heap.size E k sh), (11, LxU w.heap.size E k sh)]) [.pointer (some ⟨w.heap.size, 1, none⟩), .slice p.A0 (n + 1) p.c0, undef, .pointer (some ⟨w.heap.size + 1, 1, none⟩), .slice (some adB) (m + 1) q.c0, undef, undef, undef, undef, undef, .int .i64 E, undef, .int .i64 E]) (by kernel_rfl) 57 rfl (by kernel_rfl) ((Below.refl _ _).drew) ?_ ?_
  · intro i hi
    have hi2 : i < 13 := hi
    clear hi
    rcases i with _ | i
    · refine gr_value rfl (by decide) (.pointer (some ⟨w.heap.size, 1, none⟩)) rfl ?_
      intro a8 w8 hb8 ho hn
      have o6 : a8.tmps[6]? = some _ := (ho 6 (by kernel_rfl)).trans rfl
      clear ho hn
      refine ⟨wanted_free rfl, ?_⟩
      have zz := 0
      go_simp
    rcases i with _ | i
    · refine gr_value rfl (by decide) (.slice p.A0 (n + 1) p.c0) rfl ?_
      intro a8 w8 hb8 ho hn
      obtain ⟨v42, n42, hq42⟩ := hn 0 42 (by kernel_rfl) rfl
      obtain rfl := hq42.1 (by decide)
      clear ho hn
      refine ⟨wanted_free rfl, ?_⟩
      obtain ⟨⟨x0, x1, x2⟩, y0, y1, y2⟩ := HC.out w8 (HI4.out.below hb8)
      go_simp
    rcases i with _ | i
    · refine gr_call HU 75 rfl (by decide) ?_
      intro a8 w8 hb8 ho hn
      obtain ⟨v43, n43, hq43⟩ := hn 1 43 (by kernel_rfl) rfl
      obtain rfl := hq43.1 (by decide)
      clear ho hn
      refine ⟨wanted_free rfl, ?_⟩
      refine ⟨#[.slice p.A0 (n + 1) p.c0], (by go_simp), (HOT.out w8).mono ?_⟩
      rintro e w9 ⟨rfl, rfl⟩
      exact ⟨_, rfl, Below.refl _ _, rfl⟩
    rcases i with _ | i
    · refine gr_value rfl (by decide) (.pointer (some ⟨w.heap.size + 1, 1, none⟩)) rfl ?_
      intro a8 w8 hb8 ho hn
      have o7 : a8.tmps[7]? = some _ := (ho 7 (by kernel_rfl)).trans rfl
      clear ho hn
      refine ⟨wanted_free rfl, ?_⟩
      have zz := 0
      go_simp
    rcases i with _ | i
    · refine gr_value rfl (by decide) (.slice (some adB) (m + 1) q.c0) rfl ?_
      intro a8 w8 hb8 ho hn
      obtain ⟨v45, n45, hq45⟩ := hn 3 45 (by kernel_rfl) rfl
      obtain rfl := hq45.1 (by decide)
      clear ho hn
      refine ⟨wanted_free rfl, ?_⟩
      obtain ⟨⟨x0, x1, x2⟩, y0, y1, y2⟩ := HC.out w8 (HI4.out.below hb8)
      go_simp
    rcases i with _ | i
    · refine gr_call HU 87 rfl (by decide) ?_
      intro a8 w8 hb8 ho hn
      obtain ⟨v46, n46, hq46⟩ := hn 4 46 (by kernel_rfl) rfl
      obtain rfl := hq46.1 (by decide)
      clear ho hn
      refine ⟨wanted_free rfl, ?_⟩
      refine ⟨#[.slice (some adB) (m + 1) q.c0], (by go_simp), (HBE.out w8).mono ?_⟩
      rintro e w9 ⟨rfl, rfl⟩
      exact ⟨_, rfl, Below.refl _ _, rfl⟩
    rcases i with _ | i
    · refine gr_make HU rfl (by decide) ?_
      intro a8 w8 hb8 ho hn
      obtain ⟨v44, n44, hq44⟩ := hn 2 44 (by kernel_rfl) rfl
      have hv44 := hq44.2 (by decide)
      obtain ⟨v47, n47, hq47⟩ := hn 5 47 (by kernel_rfl) rfl
      have hv47 := hq47.2 (by decide)
      clear ho hn
      refine ⟨wanted_free rfl, ?_⟩
      have h44 : v44 = .slice p.A0 n p.c0 := hv44
      have h47 : v47 = .slice B1 m (q.c0 - 1) := hv47
      subst h44 h47
      exact ⟨.slice (some ⟨w8.heap.size, 0, none⟩) 2 2, w8.alloc (.cells #[.slice p.A0 n p.c0, .slice B1 m (q.c0 - 1)] 22), (by go_simp), alloc_below _ _, w8.heap.size, rfl, Blk.new _ _ _⟩
    rcases i with _ | i
    · refine gr_call HU 78 rfl (by decide) ?_
      intro a8 w8 hb8 ho hn
      obtain ⟨v48, n48, hq48⟩ := hn 6 48 (by kernel_rfl) rfl
      have hv48 := hq48.2 (by decide)
      clear ho hn
      refine ⟨wanted_free rfl, ?_⟩
      have h48 : LgU (.slice p.A0 n p.c0) (.slice B1 m (q.c0 - 1)) v48 w8 := hv48
      obtain ⟨g, rfl, hg⟩ := h48
      refine ⟨#[.slice (some ⟨g, 0, none⟩) 2 2], (by go_simp), (HLM.out w8 g (HI4.out.below hb8) hg).mono ?_⟩
      rintro e w9 ⟨A, c, rfl, o, z, b⟩
      exact ⟨_, rfl, b, A, c, rfl, fun h => arown_mono (o h) (HI4.out.below hb8).fb.size, z⟩
    rcases i with _ | i
    · refine gr_make HU rfl (by decide) ?_
      intro a8 w8 hb8 ho hn
      obtain ⟨v49, n49, hq49⟩ := hn 7 49 (by kernel_rfl) rfl
      have hv49 := hq49.2 (by decide)
      clear ho hn
      refine ⟨wanted_free rfl, ?_⟩
      have h49 : LtU w.heap.size E k sh v49 w8 := hv49
      obtain ⟨A, c, rfl, o, z⟩ := h49
      exact ⟨_, w8, (by go_simp), Below.refl _ _, A, c, rfl, o, z⟩
    rcases i with _ | i
    · refine gr_make HU rfl (by decide) ?_
      intro a8 w8 hb8 ho hn
      obtain ⟨v41, n41, hq41⟩ := hn 8 41 (by kernel_rfl) rfl
      have hv41 := hq41.2 (by decide)
      clear ho hn
      refine ⟨wanted_free rfl, ?_⟩
      have h41 : LtU w.heap.size E k sh v41 w8 := hv41
      obtain ⟨A, c, rfl, o, z⟩ := h41
      exact ⟨_, w8, (by go_simp), Below.refl _ _, A, c, rfl, o, z⟩
    rcases i with _ | i
    · refine gr_value rfl (by decide) (.int .i64 E) rfl ?_
      intro a8 w8 hb8 ho hn
      obtain ⟨v41, n41, hq41⟩ := hn 8 41 (by kernel_rfl) rfl
      have hv41 := hq41.2 (by decide)
      clear ho hn
      refine ⟨wanted_free rfl, ?_⟩
      have h41 : LtU w.heap.size E k sh v41 w8 := hv41
      obtain ⟨A, c, rfl, o, z⟩ := h41
      go_simp
    rcases i with _ | i
    · refine gr_make HU rfl (by decide) ?_
      intro a8 w8 hb8 ho hn
      obtain ⟨v50, n50, hq50⟩ := hn 9 50 (by kernel_rfl) rfl
      have hv50 := hq50.2 (by decide)
      clear ho hn
      refine ⟨wanted_free rfl, ?_⟩
      have h50 : LxU w.heap.size E k sh v50 w8 := hv50
      obtain ⟨A, c, rfl, o, z⟩ := h50
      exact ⟨_, w8, (by go_simp), Below.refl _ _, A, c, rfl, o, z⟩
    rcases i with _ | i
    · refine gr_value rfl (by decide) (.int .i64 E) rfl ?_
      intro a8 w8 hb8 ho hn
      obtain ⟨v51, n51, hq51⟩ := hn 10 51 (by kernel_rfl) rfl
      obtain rfl := hq51.1 (by decide)
      clear ho hn
      refine ⟨wanted_free rfl, ?_⟩
      have zz := 0
      go_simp
    omega
  · intro dn fv w5 hb5 hR5 hall
    have hx8 := (hR5 11 8 rfl).2 (by decide)
    have h10 : fv 10 = _ := (hR5 12 10 rfl).1 (by decide)
    simp only [putAll, List.foldl_cons, List.foldl_nil, Act.put, List.setIfInBounds_toArray, List.set_cons_succ, List.set_cons_zero, h10, List.getD_cons_zero, List.getD_cons_succ]
    clear hR5 hall
    have hx9 : LxU w.heap.size E k sh (fv 8) w5 := hx8
    obtain ⟨A, c, hv8, o8, z8⟩ := hx9
    rw [hv8]
    have HF := Lib.hid (HFN.out A c w5 o8 z8 (below_on HI4.out.fb hb5))
    clear hv8 hx8 o8 hb5
    by_cases hE0 : E = 0
    · subst hE0
      clear z8
      go_wp2
      go_ret3
      exact HF.out
    · have hne : (E != 0) = true := by simp [hE0]
      obtain ⟨rfl, rfl⟩ := z8 hE0
      obtain rfl := HKZ.out hE0
      rw [if_neg hE0] at HF
      clear hE0
      go_wp2
      go_ret3
      exact HF.out
end Go.Proofs.Ytkabdkblcgklmaa.fo

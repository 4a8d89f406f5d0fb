/-
  The given space of layer 4: Taken.
-/
import Derived.Test.YtjndbibbfcmgiaaRTake
import Derived.Test.YtjndbibbfcmgiaaETaken
namespace Go.Proofs.Ytjndbibbfcmgiaa
open Go.RowKit

def bump : List (Nat × Nat) → List (Nat × Nat)
  | [] => []
  | [r] => [(r.1, r.2 + 1)]
  | r :: s :: rs => r :: bump (s :: rs)
theorem bump_snoc (a n : Nat) : ∀ rs : List (Nat × Nat), bump (rs ++ [(a, n)]) = rs ++ [(a, n + 1)]
  | [] => rfl
  | [r] => rfl
  | r :: s :: rs => by
    show r :: bump (s :: rs ++ [(a, n)]) = _
    rw [bump_snoc a n (s :: rs)]
    rfl
/-- What the given Taken holds once k sectors are looked at. -/
def upTo (L : List Bool) : Nat → List (Nat × Nat)
  | 0 => []
  | k + 1 => if L.getD k false = true then (if 1 ≤ k ∧ L.getD (k - 1) false = true then bump (upTo L k) else upTo L k ++ [(k, 1)]) else upTo L k
theorem upTo_free {L : List Bool} {k : Nat} (h : L.getD k false = false) : upTo L (k + 1) = upTo L k := by
  show (if L.getD k false = true then _ else _) = _
  rw [h, if_neg (by decide)]
theorem upTo_new {L : List Bool} {k : Nat} (h : L.getD k false = true) (h2 : k = 0 ∨ L.getD (k - 1) false = false) : upTo L (k + 1) = upTo L k ++ [(k, 1)] := by
  show (if L.getD k false = true then (if 1 ≤ k ∧ L.getD (k - 1) false = true then _ else _) else _) = _
  rw [if_pos h, if_neg (fun e => by
    rcases h2 with h2 | h2
    · omega
    · rw [h2] at e
      exact absurd e.2 (by decide))]
theorem upTo_more {L : List Bool} {k : Nat} (h : L.getD k false = true) (h1 : 1 ≤ k) (h2 : L.getD (k - 1) false = true) : upTo L (k + 1) = bump (upTo L k) := by
  show (if L.getD k false = true then (if 1 ≤ k ∧ L.getD (k - 1) false = true then _ else _) else _) = _
  rw [if_pos h, if_pos ⟨h1, h2⟩]
theorem upTo_last {L : List Bool} : ∀ k, L.getD k false = true → ∃ rs a n, upTo L (k + 1) = rs ++ [(a, n)] ∧ n ≤ k + 1
  | 0, h => ⟨[], 0, 1, upTo_new h (.inl rfl), Nat.le_refl _⟩
  | k + 1, h => by
    cases h2 : L.getD k false
    · exact ⟨upTo L (k + 1), k + 1, 1, upTo_new h (.inr h2), by omega⟩
    · obtain ⟨rs, a, n, h3, h4⟩ := upTo_last k h2
      exact ⟨rs, a, n + 1, by rw [upTo_more h (by omega) h2, h3, bump_snoc], by omega⟩
theorem upTo_length (L : List Bool) : ∀ k, (upTo L k).length ≤ k
  | 0 => Nat.le_refl _
  | k + 1 => by
    have ih := upTo_length L k
    cases h : L.getD k false
    · rw [upTo_free h]; omega
    · by_cases h2 : 1 ≤ k ∧ L.getD (k - 1) false = true
      · obtain ⟨j, rfl⟩ : ∃ j, k = j + 1 := ⟨k - 1, by omega⟩
        obtain ⟨rs, a, n, h3, _⟩ := upTo_last j h2.2
        rw [upTo_more h h2.1 h2.2, h3, bump_snoc]
        rw [h3] at ih
        simp at ih ⊢
        omega
      · rw [upTo_new h (by
          rcases Nat.eq_zero_or_pos k with h0 | h0
          · exact .inl h0
          · refine .inr ?_
            cases h9 : L.getD (k - 1) false
            · rfl
            · exact absurd ⟨h0, h9⟩ h2), List.length_append]
        simp
        exact ih
theorem upTo_run {L : List Bool} {p : Nat} (hb : p = 0 ∨ L.getD (p - 1) false = false) : ∀ j, (∀ k, k < j + 1 → L.getD (p + k) false = true) → upTo L (p + (j + 1)) = upTo L p ++ [(p, j + 1)]
  | 0, h => upTo_new (h 0 (by omega)) hb
  | j + 1, h => by
    have ih := upTo_run hb j (fun k hk => h k (by omega))
    show upTo L (p + (j + 1) + 1) = _
    rw [upTo_more (h (j + 1) (by omega)) (by omega) (by have := h j (by omega); rwa [show p + (j + 1) - 1 = p + j by omega]), ih, bump_snoc]
theorem upTo_gap {L : List Bool} {p : Nat} : ∀ j, (∀ k, k < j → L.getD (p + k) false = false) → upTo L (p + j) = upTo L p
  | 0, _ => rfl
  | j + 1, h => by
    show upTo L (p + j + 1) = _
    rw [upTo_free (h j (by omega)), upTo_gap j (fun k hk => h k (by omega))]
theorem run_getD {L : List Bool} {p k : Nat} (h : k < runN L p) : L.getD (p + k) false = L.getD p false := by
  rw [List.getD_eq_getElem?_getD, run_at h]
  rfl
theorem upTo_runs (L : List Bool) : ∀ p, p ≤ L.length → (L.getD p false = true → p = 0 ∨ L.getD (p - 1) false = false) → upTo L L.length = upTo L p ++ runsAt L true p := by
  refine runs_ind (L := L) _ (fun p h hp _ => ?_) (fun p h ih hp hb => ?_)
  · obtain rfl : p = L.length := by omega
    rw [runs_stop (Nat.le_refl _), List.append_nil]
  · have h1 := runN_pos h
    have h2 := runN_le L (Nat.le_of_lt h)
    have hnext : L.getD (p + runN L p) false = true → p + runN L p = 0 ∨ L.getD (p + runN L p - 1) false = false := fun ht => by
      have he := run_end (L := L) (p := p)
      have hl : p + runN L p < L.length := by
        rcases Nat.lt_or_ge (p + runN L p) L.length with hlt | hge
        · exact hlt
        · rw [List.getD_eq_getElem?_getD, List.getElem?_eq_none hge] at ht
          cases ht
      rw [getD_some hl, ht] at he
      have hk := run_getD (L := L) (p := p) (k := runN L p - 1) (by omega)
      rw [show p + (runN L p - 1) = p + runN L p - 1 by omega] at hk
      right
      rw [hk]
      cases hx : L.getD p false
      · rfl
      · rw [hx] at he
        exact absurd rfl he
    have ih := ih h2 hnext
    cases hx : L.getD p false
    · rw [runs_miss h (by rw [hx]; decide), ih, upTo_gap _ (fun k hk => by rw [run_getD hk, hx])]
    · obtain ⟨j, hj⟩ : ∃ j, runN L p = j + 1 := ⟨runN L p - 1, by omega⟩
      have hr := upTo_run (L := L) (p := p) (hb hx) j (fun k hk => by rw [run_getD (by omega), hx])
      rw [runs_hit h hx, ih, hj, hr, List.append_assoc]
      rfl
theorem upTo_end (L : List Bool) : upTo L L.length = runsAt L true 0 := by
  rw [upTo_runs L 0 (Nat.zero_le _) (fun _ => .inl rfl)]
  rfl

theorem own_cell {w : World} {base e sz g n c j : Nat} {u : Value} {xs : List Value} (h : w.ownsRow base e sz (.slice (some ⟨g, 0, none⟩) n c) n xs) (hx : xs[j]? = some u) : w.cell? ⟨g, j, none⟩ = some u ∧ w.frozen? ⟨g, j, none⟩ = false := by
  rcases h.2 with ⟨e1, _⟩ | ⟨g1, cap, cur, e1, hb, hh, hc, hm, hs, ht⟩
  · cases e1
  · have e2 := e1
    injection e2 with e2 _ e3
    injection e2 with e2
    injection e2 with e2 _ _
    subst e2 e3
    have hB : Blk w g e cur := hh
    refine ⟨?_, hB.frozen j⟩
    rw [hB.cell j]
    rw [← ht, List.getElem?_take] at hx
    split at hx
    · rwa [Array.getElem?_toList] at hx
    · cases hx
theorem own_keep {w : World} {base e sz g n c j : Nat} {xs : List Value} (h : w.ownsRow base e sz (.slice (some ⟨g, 0, none⟩) n c) n xs) (u : Value) : (w.setCell ⟨g, j, none⟩ u).ownsRow base e sz (.slice (some ⟨g, 0, none⟩) n c) n (xs.set j u) := by
  refine ⟨by rw [List.length_set]; exact h.1, ?_⟩
  rcases h.2 with ⟨e1, _⟩ | ⟨g1, cap, cur, e1, hb, hh, hc, hm, hs, ht⟩
  · cases e1
  · have e2 := e1
    injection e2 with e2 _ e3
    injection e2 with e2
    injection e2 with e2 _ _
    subst e2 e3
    refine .inr ⟨g, c, cur.setIfInBounds j u, rfl, hb, (show Blk w g e cur from hh).set_ j u, hc, hm, by simpa using hs, ?_⟩
    rw [Array.toList_setIfInBounds, ← ht, List.take_set]
theorem ext_get (f a n : Nat) (rs : List (Nat × Nat)) : (extCells f (rs ++ [(a, n)]))[rs.length * 2 + 1]? = some (.int .i64 (n : Int)) := by
  rw [extCells_snoc, List.getElem?_append_right (by rw [extCells_length]; omega), extCells_length, show rs.length * 2 + 1 - rs.length * 2 = 1 by omega]
  rfl
theorem ext_set (f a n : Nat) (rs : List (Nat × Nat)) : (extCells f (rs ++ [(a, n)])).set (rs.length * 2 + 1) (.int .i64 ((n : Int) + 1)) = extCells f (rs ++ [(a, n + 1)]) := by
  rw [extCells_snoc, extCells_snoc, List.set_append_right _ _ (by rw [extCells_length]; omega), extCells_length, show rs.length * 2 + 1 - rs.length * 2 = 1 by omega]
  rfl

section
variable {w : World} {d : SpAt} {s : ESt}
set_option maxRecDepth 100000 in
set_option maxHeartbeats 4000000 in
theorem rtaken_any (m : Nat) (h : RK w d s) (hm : (runsAt s.L true 0).length = m) : Calls Try.prog 11 #[.pointer (some ⟨d.b, 0, none⟩)] w fun e w' =>
    ∃ A c, e = .returned (.slice A m c) ∧ w'.ownsRow w.heap.size 33 2 (.slice A m c) m (extCells s.f (runsAt s.L true 0)) ∧ Below w.heap.size w w' := by
  obtain ⟨i0, hi, hz0, hz1, hz2⟩ := info_parts infoX
  have hl4 : s.L.length ≤ 4096 ∧ s.f + s.L.length ≤ 4096 := by have := h.ok.few; omega
  have H := Lib.hid h
  have HM := Lib.hid hm
  clear h hm
  obtain ⟨N, hN⟩ : ∃ N, s.L.length = N := ⟨_, rfl⟩
  rw [hN] at hl4
  have HN := Lib.hid hN
  clear hN
  obtain ⟨f, hf⟩ : ∃ f, s.f = f := ⟨_, rfl⟩
  have HF := Lib.hid hf
  rw [hf] at hl4 ⊢
  clear hf
  have HC : Hid (∀ W, Below w.heap.size w W → W.cell? ⟨d.b, 0, none⟩ = some (.int .i64 (f : Int)) ∧ W.cell? ⟨d.b, 1, none⟩ = some (.slice d.A N d.c)) := Lib.hid (fun W hb => by
    have h1 := H.out.below hb
    rw [← HN.out, ← HF.out]
    exact ⟨h1.blk.cell 0, h1.blk.cell 1⟩)
  go_enter Try.func11, Try.ntmps11
  go_wp2
  go_loopw [3, 4] (fun o i wr => ∃ (k m2 : Nat) (A : Option Addr) (c : Nat), k ≤ N ∧ m2 ≤ k ∧ i = .int .i64 (k : Int) ∧ o = .slice A m2 c ∧ (upTo s.L k).length = m2 ∧ wr.ownsRow w.heap.size 33 2 (.slice A m2 c) m2 (extCells f (upTo s.L k)) ∧ Below w.heap.size w wr) (fun _ i _ => N - (intOf i).toNat)
  case atStart => exact ⟨0, 0, none, 0, Nat.zero_le _, Nat.le_refl _, rfl, rfl, rfl, World.ownsRow_nil _ _ _ _, Below.refl _ _⟩
  case round =>
    obtain ⟨k, m2, A, c, hk, hmk, rfl, rfl, hm2, hO, hW⟩ := hrel
    obtain ⟨c0, c1⟩ := HC.out wr hW
    by_cases hlt : k < N
    · have hkl : k < s.L.length := by rw [HN.out]; exact hlt
      obtain ⟨hAd, cx, fx⟩ := (H.out.below hW).row.at_ (getD_some hkl)
      rw [hAd] at c1
      have HPV : Hid (∀ k1, k1 < N → wr.cell? ⟨d.g, k1, none⟩ = some (.bool (s.L.getD k1 false))) := Lib.hid (fun k1 h1 => ((H.out.below hW).row.at_ (getD_some (by rw [HN.out]; exact h1))).2.1)
      obtain ⟨x, hx⟩ : ∃ x, s.L.getD k false = x := ⟨_, rfl⟩
      rw [hx] at cx
      have HX := Lib.hid hx
      have HO := Lib.hid hO
      have HW := Lib.hid hW
      have HM2 := Lib.hid hm2
      clear hx hO hW hm2 hAd
      cases x
      · go_wp2
        have hu := upTo_free HX.out
        exact ⟨⟨k + 1, m2, A, c, by omega, by omega, by go_num, rfl, by rw [hu]; exact HM2.out, by rw [hu]; exact HO.out, HW.out⟩, by simp [intOf]; omega⟩
      · by_cases hpv : 1 ≤ k ∧ s.L.getD (k - 1) false = true
        · obtain ⟨j, hkj⟩ : ∃ j, k = j + 1 := ⟨k - 1, by omega⟩
          have hj : s.L.getD j false = true := by have := hpv.2; rwa [show k - 1 = j by omega] at this
          have cj := HPV.out j (by omega)
          rw [hj] at cj
          obtain ⟨rs, a, n, hlast, hnj⟩ := upTo_last j hj
          rw [← hkj] at hlast hnj
          have hnew : upTo s.L (k + 1) = rs ++ [(a, n + 1)] := by rw [upTo_more HX.out (by omega) hpv.2, hlast, bump_snoc]
          have ho := HO.out
          have hl := HM2.out
          rw [hlast] at ho hl
          obtain ⟨p, hp⟩ : ∃ p, rs.length = p := ⟨_, rfl⟩
          have hmp : m2 = p + 1 := by rw [List.length_append] at hl; simp at hl; omega
          obtain ⟨g, rfl⟩ : ∃ g, A = some ⟨g, 0, none⟩ := by
            rcases ho.2 with ⟨_, h0⟩ | ⟨g, cap, cur, e, _⟩
            · omega
            · injection e with e
              exact ⟨g, e⟩
          have hgl := (own_in ho g rfl).1
          obtain ⟨cn, fn⟩ := own_cell ho (ext_get f a n rs)
          have ho2 := own_keep (j := rs.length * 2 + 1) ho (.int .i64 ((n : Int) + 1))
          rw [ext_set, ← hnew] at ho2
          rw [hp] at cn fn ho2
          have HO2 := Lib.hid ho2
          have hw2 : Below w.heap.size w (wr.setCell ⟨g, p * 2 + 1, none⟩ (.int .i64 ((n : Int) + 1))) := HW.out.setCell (p := ⟨g, p * 2 + 1, none⟩) hgl _
          have HW2 := Lib.hid hw2
          have HL : Hid ((upTo s.L (k + 1)).length = m2) := Lib.hid (by rw [hnew, List.length_append, hp, hmp]; rfl)
          have hki : (k : Int) - 1 = (j : Int) := by omega
          have hmi : (m2 : Int) - 1 = (p : Int) := by omega
          have hk0 : (0 : Int) < (k : Int) := by omega
          have hjN : (j : Int) < (N : Int) := by omega
          have hpm : (p : Int) < (m2 : Int) := by omega
          have hpm2 : p < m2 := by omega
          have hjN2 : j < N := by omega
          clear ho hl hnew hlast hp hj hpv ho2 hw2 HO HM2 HX hkj hmp
          go_wp2
          exact ⟨⟨k + 1, m2, _, c, by omega, by omega, by go_num, rfl, HL.out, HO2.out, HW2.out⟩, by simp [intOf]; omega⟩
        · have hor : k = 0 ∨ s.L.getD (k - 1) false = false := by
            rcases Nat.eq_zero_or_pos k with h0 | h0
            · exact .inl h0
            · refine .inr ?_
              cases h9 : s.L.getD (k - 1) false
              · rfl
              · exact absurd ⟨h0, h9⟩ hpv
          have hnew := upTo_new HX.out hor
          have hal : Below wr.heap.size wr (wr.alloc (.cells #[.int .i64 ((f : Int) + (k : Int)), .int .i64 1] 33)) := (Below.refl _ _).alloc (Nat.le_refl _) _
          have HO0 : Hid ((wr.alloc (.cells #[.int .i64 ((f : Int) + (k : Int)), .int .i64 1] 33)).ownsRow w.heap.size 33 2 (.slice A m2 c) m2 (extCells f (upTo s.L k))) := Lib.hid (((Keep.refl (fun _ => False) wr).alloc _).own HO.out (fun _ _ h => h))
          have HRD : Hid (Reads (wr.alloc (.cells #[.int .i64 ((f : Int) + (k : Int)), .int .i64 1] 33)) (wr.heap.size + 1) 2 (some ⟨wr.heap.size, 0, none⟩) 1 [.int .i64 ((f : Int) + (k : Int)), .int .i64 1]) := Lib.hid ⟨rfl, fun _ => ⟨_, rfl, Nat.lt_succ_self _, fun j u hu => by
            rw [Addr.add_mid, Nat.zero_add, (Blk.new wr 33 _).cell j, List.getElem?_toArray]
            exact hu⟩⟩
          have H1C : Hid (∀ u ∈ ([.int .i64 ((f : Int) + (k : Int)), .int .i64 1] : List Value), u.oneCell' = true) := Lib.hid (by
            intro u hu
            rcases List.mem_cons.1 hu with rfl | hu
            · rfl
            · rw [List.mem_singleton.1 hu]; rfl)
          have HSZ : Hid (w.heap.size ≤ (wr.alloc (.cells #[.int .i64 ((f : Int) + (k : Int)), .int .i64 1] 33)).heap.size) := Lib.hid (Nat.le_trans HW.out.size hal.size)
          have HFIN : Hid (∀ v' w9, w9.ownsRow w.heap.size 33 2 v' (m2 + 1) (extCells f (upTo s.L k) ++ [.int .i64 ((f : Int) + (k : Int)), .int .i64 1]) → (wr.alloc (.cells #[.int .i64 ((f : Int) + (k : Int)), .int .i64 1] 33)).grownBy w9 (Value.slice A m2 c).ownBlock → ∃ A' c', v' = .slice A' (m2 + 1) c' ∧ w9.ownsRow w.heap.size 33 2 (.slice A' (m2 + 1) c') (m2 + 1) (extCells f (upTo s.L (k + 1))) ∧ Below w.heap.size w w9) := Lib.hid (fun v' w9 ho hg => by
            obtain ⟨A', c', rfl⟩ : ∃ A' c', v' = .slice A' (m2 + 1) c' := by
              rcases ho.2 with ⟨_, h0⟩ | ⟨g, cap, cur, e, _⟩
              · omega
              · exact ⟨_, cap, e⟩
            refine ⟨A', c', rfl, ?_, (HW.out.trans (hal.mono HW.out.size)).grown hg (Nat.le_trans HW.out.size hal.size) (fun g e => (own_in HO0.out g e).1)⟩
            rw [hnew, extCells_snoc]
            exact ho)
          have HL : Hid ((upTo s.L (k + 1)).length = m2 + 1) := Lib.hid (by rw [hnew, List.length_append, HM2.out]; rfl)
          clear hnew hal HX
          rcases hor with h0 | h0
          · have hk0 : ¬ (0 : Int) < (k : Int) := by omega
            clear hpv h0
            go_wp2_with (at_builtin; refine wpList_append_any _ rfl _ _ 38 rfl w.heap.size 33 i0 (.agg #[.int .i64 0, .int .i64 0]) 2 16 Try.underlying38 hi hz0 hz1 hz2 rfl (by decide) _ m2 _ rfl HO0.out (wr.heap.size + 1) (some ⟨wr.heap.size, 0, none⟩) 1 1 [.int .i64 ((f : Int) + (k : Int)), .int .i64 1] rfl HRD.out H1C.out (by unfold maxLen; omega) (by omega) HSZ.out ?_; intro v' w9 hown hgrow _; obtain ⟨A9, c9, rfl, h9, b9⟩ := HFIN.out v' w9 hown hgrow; have HO9 := Lib.hid h9; have HW9 := Lib.hid b9; clear hown hgrow h9 b9)
            exact ⟨⟨k + 1, m2 + 1, A9, c9, by omega, by omega, by go_num, rfl, HL.out, HO9.out, HW9.out⟩, by simp [intOf]; omega⟩
          · by_cases hz : k = 0
            · have hk0 : ¬ (0 : Int) < (k : Int) := by omega
              clear hpv h0 hz
              go_wp2_with (at_builtin; refine wpList_append_any _ rfl _ _ 38 rfl w.heap.size 33 i0 (.agg #[.int .i64 0, .int .i64 0]) 2 16 Try.underlying38 hi hz0 hz1 hz2 rfl (by decide) _ m2 _ rfl HO0.out (wr.heap.size + 1) (some ⟨wr.heap.size, 0, none⟩) 1 1 [.int .i64 ((f : Int) + (k : Int)), .int .i64 1] rfl HRD.out H1C.out (by unfold maxLen; omega) (by omega) HSZ.out ?_; intro v' w9 hown hgrow _; obtain ⟨A9, c9, rfl, h9, b9⟩ := HFIN.out v' w9 hown hgrow; have HO9 := Lib.hid h9; have HW9 := Lib.hid b9; clear hown hgrow h9 b9)
              exact ⟨⟨k + 1, m2 + 1, A9, c9, by omega, by omega, by go_num, rfl, HL.out, HO9.out, HW9.out⟩, by simp [intOf]; omega⟩
            · obtain ⟨j, hkj⟩ : ∃ j, k = j + 1 := ⟨k - 1, by omega⟩
              have cj := HPV.out j (by omega)
              rw [show k - 1 = j by omega] at h0
              rw [h0] at cj
              have hki : (k : Int) - 1 = (j : Int) := by omega
              have hk0 : (0 : Int) < (k : Int) := by omega
              have hjN : (j : Int) < (N : Int) := by omega
              have hjN2 : j < N := by omega
              clear hpv h0 hkj hz
              go_wp2_with (at_builtin; refine wpList_append_any _ rfl _ _ 38 rfl w.heap.size 33 i0 (.agg #[.int .i64 0, .int .i64 0]) 2 16 Try.underlying38 hi hz0 hz1 hz2 rfl (by decide) _ m2 _ rfl HO0.out (wr.heap.size + 1) (some ⟨wr.heap.size, 0, none⟩) 1 1 [.int .i64 ((f : Int) + (k : Int)), .int .i64 1] rfl HRD.out H1C.out (by unfold maxLen; omega) (by omega) HSZ.out ?_; intro v' w9 hown hgrow _; obtain ⟨A9, c9, rfl, h9, b9⟩ := HFIN.out v' w9 hown hgrow; have HO9 := Lib.hid h9; have HW9 := Lib.hid b9; clear hown hgrow h9 b9)
              exact ⟨⟨k + 1, m2 + 1, A9, c9, by omega, by omega, by go_num, rfl, HL.out, HO9.out, HW9.out⟩, by simp [intOf]; omega⟩
    · obtain rfl : N = k := by omega
      have hend := upTo_end s.L
      rw [HN.out] at hend
      rw [hend] at hO hm2
      obtain rfl : m = m2 := by have := HM.out; omega
      have HO := Lib.hid hO
      have HW := Lib.hid hW
      clear hO hW hm2 hend
      go_wp2
      go_ret
      exact ⟨A, c, rfl, HO.out, HW.out⟩
end
end Go.Proofs.Ytjndbibbfcmgiaa

/-
  The given space of layer 4 (quadratref04): how it lies in memory, in the same state as the program's; its calls.
-/
import Derived.Test.YtjndbibbfcmgiaaEOps
import Derived.Deep.RegionWith
namespace Go.Proofs.Ytjndbibbfcmgiaa
open Go.RowKit

structure RK (w : World) (d : SpAt) (s : ESt) : Prop where
  ok : s.Ok
  blk : Blk w d.b 45 #[.int .i64 (s.f : Int), .slice d.A s.L.length d.c]
  cap : s.L.length ≤ d.c ∧ d.c ≤ 9223372036854775807
  row : RowB w d s.L
  gl : d.g < w.heap.size
theorem RK.keep {w w' : World} {S : Nat → Prop} {d : SpAt} {s : ESt} (h : RK w d s) (hk : Keep S w w') (hf : ∀ k, d.foot k → ¬ S k) : RK w' d s :=
  ⟨h.ok, hk.blk h.blk (hf _ (.inl rfl)), h.cap, h.row.keep hk (hf _ (.inr rfl)), Nat.lt_of_lt_of_le h.gl hk.size⟩
theorem RK.below {w w' : World} {d : SpAt} {s : ESt} (h : RK w d s) (hb : Below w.heap.size w w') : RK w' d s :=
  h.keep (Keep.of_below (S := fun _ => False) hb) (fun _ _ h => h)
theorem RK.lt {w : World} {d : SpAt} {s : ESt} (h : RK w d s) : ∀ k, d.foot k → k < w.heap.size := by
  rintro k (rfl | rfl)
  · exact h.blk.lt
  · exact h.gl
theorem RK.set_ {w : World} {d : SpAt} {s : ESt} (h : RK w d s) (k : Nat) (v : Bool) (hk : k < s.L.length) : RK (w.setCell ⟨d.g, k, none⟩ (.bool v)) d ⟨s.f, s.L.set k v⟩ := by
  obtain ⟨hA, hne, cur, hb, hc⟩ := h.row (by omega)
  have hkp : Keep (fun i => i = d.g) w (w.setCell ⟨d.g, k, none⟩ (.bool v)) := (Keep.refl _ _).setCell _ _ (fun _ => rfl)
  have hl : (s.L.set k v).length = s.L.length := List.length_set ..
  refine ⟨⟨by show s.f + (s.L.set k v).length ≤ 4096; rw [hl]; exact h.ok.few⟩, ?_, by rw [hl]; exact h.cap, fun _ => ⟨hA, hne, cur.setIfInBounds k (.bool v), hb.set_ k _, fun j x hx => ?_⟩, Nat.lt_of_lt_of_le h.gl hkp.size⟩
  · rw [hl]
    exact hkp.blk h.blk (fun e => hne e)
  · by_cases e : k = j
    · subst e
      rw [List.getElem?_set_self hk] at hx
      injection hx with hx
      subst hx
      have := hc k _ (List.getElem?_eq_getElem hk)
      have hlt : k < cur.size := (Array.getElem?_eq_some_iff.1 this).1
      simp [hlt]
    · rw [List.getElem?_set_ne e] at hx
      rw [Array.getElem?_setIfInBounds_ne e]
      exact hc j x hx

section
variable {w : World} {d : SpAt} {s : ESt}
set_option maxHeartbeats 2000000 in
theorem rleft_any (h : RK w d s) : Calls Try.prog 8 #[.pointer (some ⟨d.b, 0, none⟩)] w fun e w' => e = .returned (.int .i64 ((s.L.count false : Nat) : Int)) ∧ Below w.heap.size w w' := by
  have c1 := h.blk.cell 1
  have hl4 : s.L.length ≤ 4096 := by have := h.ok.few; omega
  have H := Lib.hid h
  clear h
  obtain ⟨N, hN⟩ : ∃ N, s.L.length = N := ⟨_, rfl⟩
  rw [hN] at c1 hl4
  have HN := Lib.hid hN
  clear hN
  go_enter Try.func8, Try.ntmps8
  go_wp2
  go_loopw [3, 4] (fun c i wr => ∃ k m : Nat, k ≤ N ∧ m ≤ k ∧ i = .int .i64 (k : Int) ∧ c = .int .i64 (m : Int) ∧ (s.L.take k).count false = m ∧ w = wr) (fun _ i _ => N - (intOf i).toNat)
  case atStart => exact ⟨0, 0, Nat.zero_le _, Nat.le_refl _, rfl, rfl, by simp, rfl⟩
  case round =>
    obtain ⟨k, m, hk, hmk, rfl, rfl, hm, rfl⟩ := hrel
    by_cases hlt : k < N
    · have hkl : k < s.L.length := by rw [HN.out]; exact hlt
      obtain ⟨hAd, cx, fx⟩ := H.out.row.at_ (getD_some hkl)
      have hstep : (s.L.take (k + 1)).count false = m + (if s.L.getD k false = false then 1 else 0) := by
        rw [List.take_succ_eq_append_getElem hkl, List.count_append, hm]
        have e : s.L.getD k false = s.L[k] := by rw [List.getD_eq_getElem?_getD, List.getElem?_eq_getElem hkl]; rfl
        rw [e]
        cases s.L[k] <;> rfl
      rw [hAd] at c1
      generalize s.L.getD k false = x at cx hstep
      have HS := Lib.hid hstep
      clear hstep hm hAd
      cases x
      · go_wp2
        exact ⟨⟨k + 1, m + 1, by omega, by omega, by go_num, by go_num, HS.out, trivial⟩, by simp [intOf]; omega⟩
      · go_wp2
        exact ⟨⟨k + 1, m, by omega, by omega, by go_num, rfl, HS.out, trivial⟩, by simp [intOf]; omega⟩
    · obtain rfl : N = k := by omega
      have hm2 : s.L.count false = m := by rw [← hm, ← HN.out, List.take_length]
      have HM := Lib.hid hm2
      clear hm hm2
      go_wp2
      go_ret
      exact ⟨by rw [HM.out]; rfl, Below.refl _ _⟩

set_option maxHeartbeats 2000000 in
theorem rset_any (a n : Nat) (v : Bool) (hc : s.f ≤ a ∧ a + n ≤ s.to) (h : RK w d s) : Calls Try.prog 28 #[.pointer (some ⟨d.b, 0, none⟩), .agg #[.int .i64 (a : Int), .int .i64 (n : Int)], .bool v] w fun e w' => e = .returned (.tuple #[]) ∧ RK w' d (s.put (a - s.f) n v) ∧ Keep (fun k => k = d.g) w w' := by
  obtain ⟨A, hA⟩ : ∃ A, a - s.f = A := ⟨_, rfl⟩
  have hto : s.to = s.f + s.L.length := rfl
  have hfew := h.ok.few
  rw [hA]
  have hsub : (a : Int) - (s.f : Int) = (A : Int) := by omega
  have hAl : A + n ≤ s.L.length := by omega
  have hbx : Below w.heap.size w (w.alloc (.cells #[.int .i64 (a : Int), .int .i64 (n : Int)] 33)) := (Below.refl _ _).alloc (Nat.le_refl _) _
  have hx := Blk.new w 33 #[.int .i64 (a : Int), .int .i64 (n : Int)]
  have hlt := h.lt
  have h1 := h.below hbx
  have H1 := Lib.hid h1
  have HBX := Lib.hid hbx
  have HX := Lib.hid hx
  have HLT := Lib.hid hlt
  clear h h1 hx hbx hA hc hlt
  go_enter Try.func28, Try.ntmps28
  go_wp2
  go_loopw [6] (fun i wr => ∃ k : Nat, k ≤ n ∧ i = .int .i64 (k : Int) ∧ RK wr d (s.put A k v) ∧ Blk wr w.heap.size 33 #[.int .i64 (a : Int), .int .i64 (n : Int)] ∧ Keep (fun k => k = d.g) w wr) (fun i _ => n - (intOf i).toNat)
  case atStart => exact ⟨0, Nat.zero_le _, rfl, by rw [ESt.put_zero]; exact H1.out, HX.out, Keep.of_below HBX.out⟩
  case round =>
    obtain ⟨k, hk, rfl, hE, hX, hK⟩ := hrel
    have x0 := hX.cell 0
    have x1 := hX.cell 1
    by_cases hlt : k < n
    · have hlen : (s.put A k v).L.length = s.L.length := setR_length ..
      have hlt2 : A + k < s.L.length := by omega
      obtain ⟨hAd, cx, fx⟩ := hE.row.at_ (k := A + k) (getD_some (by rw [hlen]; exact hlt2))
      have c0 : wr.cell? ⟨d.b, 0, none⟩ = some (.int .i64 (s.f : Int)) := hE.blk.cell 0
      have c1 : wr.cell? ⟨d.b, 1, none⟩ = some (.slice (some ⟨d.g, 0, none⟩) s.L.length d.c) := by rw [← hAd, ← hlen]; exact hE.blk.cell 1
      generalize (s.put A k v).L.getD (A + k) false = xv at cx
      have hE2 := hE.set_ (A + k) v (by rw [hlen]; exact hlt2)
      have hst : (⟨(s.put A k v).f, (s.put A k v).L.set (A + k) v⟩ : ESt) = s.put A (k + 1) v := by
        unfold ESt.put
        rw [setR_step]
      rw [hst] at hE2
      have hX2 := hX.far (p := ⟨d.g, A + k, none⟩) (fun e => by have := HLT.out d.g (.inr rfl); have e : w.heap.size = d.g := e; omega) (.bool v)
      have hK2 : Keep (fun k => k = d.g) w (wr.setCell ⟨d.g, A + k, none⟩ (.bool v)) := hK.setCell _ _ (fun _ => rfl)
      have HE2 := Lib.hid hE2
      have HK2 := Lib.hid hK2
      have HX2 := Lib.hid hX2
      generalize s.L.length = N at *
      clear hE hK hE2 hK2 hst hlen hX hX2
      go_wp2
      go_region
      all_goals go_wp2
      all_goals exact ⟨⟨k + 1, by omega, by go_num, HE2.out.below (Below.refl _ _).drew, HX2.out.drew, HK2.out.drew⟩, by simp [intOf]; omega⟩
    · obtain rfl : k = n := by omega
      have HE := Lib.hid hE
      have HK := Lib.hid hK
      clear hE hK hX
      go_wp2
      go_end0
      exact ⟨rfl, HE.out, HK.out⟩

theorem allAre_step' {L : List Bool} {p j : Nat} {a : Bool} (h : AllAre L p j a) (hj : L[p + j]? = some a) : AllAre L p (j + 1) a := fun k hk => by
  by_cases e : k < j
  · exact h k e
  · rw [show k = j by omega]
    exact hj
/-- May an extent's sectors be turned? As the given space asks. -/
def rallE (s : ESt) (a n : Int) (v : Bool) : Bool := coversE s a n && decide (AllAre s.L (a - s.f).toNat n.toNat v)
set_option maxHeartbeats 4000000 in
theorem rall_any (a n : Int) (v : Bool) (h : RK w d s) : Calls Try.prog 30 #[.pointer (some ⟨d.b, 0, none⟩), .agg #[.int .i64 a, .int .i64 n], .bool v] w fun e w' => e = .returned (.bool (rallE s a n v)) ∧ Below w.heap.size w w' := by
  have hto : s.to = s.f + s.L.length := rfl
  have hfew := h.ok.few
  have hbx : Below w.heap.size w (w.alloc (.cells #[.int .i64 a, .int .i64 n] 33)) := (Below.refl _ _).alloc (Nat.le_refl _) _
  have hx := Blk.new w 33 #[.int .i64 a, .int .i64 n]
  have x0 := hx.cell 0
  have x1 := hx.cell 1
  have h1 := h.below hbx
  have c0 : (w.alloc (.cells #[.int .i64 a, .int .i64 n] 33)).cell? ⟨d.b, 0, none⟩ = some (.int .i64 (s.f : Int)) := h1.blk.cell 0
  have c1 : (w.alloc (.cells #[.int .i64 a, .int .i64 n] 33)).cell? ⟨d.b, 1, none⟩ = some (.slice d.A s.L.length d.c) := h1.blk.cell 1
  have H1 := Lib.hid h1
  have HBX := Lib.hid hbx
  obtain ⟨N, hN⟩ : ∃ N, s.L.length = N := ⟨_, rfl⟩
  rw [hN] at c1 hfew hto
  have HN := Lib.hid hN
  clear h h1 hx hbx hN
  have HR : ∀ b, b = coversE s a n → (b = false → rallE s a n v = false) := fun b hb hf => by
    unfold rallE
    rw [← hb, hf]
    rfl
  have hcv : coversE s a n = decide (1 ≤ n ∧ ((s.f : Int) ≤ a ∧ a < (s.f : Int) + (N : Int)) ∧ n ≤ (s.f : Int) + (N : Int) - a) := by
    unfold coversE
    rw [hto]
    congr 1
  by_cases g1 : n < 1
  · have hv : rallE s a n v = false := HR _ rfl (by rw [hcv]; exact decide_eq_false (by omega))
    have HV := Lib.hid hv
    clear hv HR hcv hto
    have d1 : decide (n < 1) = true := decide_eq_true g1
    go_enter Try.func30, Try.ntmps30
    go_wp2
    go_quiet (fail)
    go_wp2
    go_ret
    exact ⟨by rw [HV.out]; rfl, below_drewN HBX.out _⟩
  by_cases g2 : a < (s.f : Int)
  · have hv : rallE s a n v = false := HR _ rfl (by rw [hcv]; exact decide_eq_false (by omega))
    have HV := Lib.hid hv
    clear hv HR hcv hto
    have d1 : decide (n < 1) = false := decide_eq_false g1
    have d2 : decide (a < (s.f : Int)) = true := decide_eq_true g2
    go_enter Try.func30, Try.ntmps30
    go_wp2
    go_quiet (fail)
    go_wp2
    go_ret
    exact ⟨by rw [HV.out]; rfl, below_drewN HBX.out _⟩
  by_cases g3 : (s.f : Int) + (N : Int) ≤ a
  · have hv : rallE s a n v = false := HR _ rfl (by rw [hcv]; exact decide_eq_false (by omega))
    have HV := Lib.hid hv
    clear hv HR hcv hto
    have d1 : decide (n < 1) = false := decide_eq_false g1
    have d2 : decide (a < (s.f : Int)) = false := decide_eq_false g2
    have d3 : decide ((s.f : Int) + (N : Int) ≤ a) = true := decide_eq_true g3
    go_enter Try.func30, Try.ntmps30
    go_wp2
    go_quiet (fail)
    go_wp2
    go_ret
    exact ⟨by rw [HV.out]; rfl, below_drewN HBX.out _⟩
  by_cases g4 : (s.f : Int) + (N : Int) - a < n
  · have hv : rallE s a n v = false := HR _ rfl (by rw [hcv]; exact decide_eq_false (by omega))
    have HV := Lib.hid hv
    clear hv HR hcv hto
    have d1 : decide (n < 1) = false := decide_eq_false g1
    have d2 : decide (a < (s.f : Int)) = false := decide_eq_false g2
    have d3 : decide ((s.f : Int) + (N : Int) ≤ a) = false := decide_eq_false g3
    have d4 : decide ((s.f : Int) + (N : Int) - a < n) = true := decide_eq_true g4
    go_enter Try.func30, Try.ntmps30
    go_wp2
    go_quiet (fail)
    go_wp2
    go_ret
    exact ⟨by rw [HV.out]; rfl, below_drewN HBX.out _⟩
  obtain ⟨q, hq⟩ := Int.eq_ofNat_of_zero_le (a := a - (s.f : Int)) (by omega)
  obtain ⟨m, rfl⟩ := Int.eq_ofNat_of_zero_le (a := n) (by omega)
  have hqN : q + m ≤ N := by omega
  have hm1 : 1 ≤ m := by omega
  have hv : rallE s a (m : Int) v = decide (AllAre s.L q m v) := by
    unfold rallE
    rw [hcv, decide_eq_true (by omega), Bool.true_and, Int.toNat_natCast, show (a - (s.f : Int)).toNat = q by omega]
  have HV := Lib.hid hv
  have d1 : decide ((m : Int) < 1) = false := decide_eq_false g1
  have d2 : decide (a < (s.f : Int)) = false := decide_eq_false g2
  have d3 : decide ((s.f : Int) + (N : Int) ≤ a) = false := decide_eq_false g3
  have d4 : decide ((s.f : Int) + (N : Int) - a < (m : Int)) = false := decide_eq_false g4
  clear hv HR hcv hto
  go_enter Try.func30, Try.ntmps30
  go_wp2
  go_quiet (fail)
  go_wp2
  go_loopw [7] (fun i wr => ∃ k : Nat, k ≤ m ∧ i = .int .i64 (k : Int) ∧ AllAre s.L q k v ∧ ∃ nq, wr = (w.alloc (.cells #[.int .i64 a, .int .i64 (m : Int)] 33)).drewN nq) (fun i _ => m - (intOf i).toNat)
  case atStart => exact ⟨0, Nat.zero_le _, rfl, (fun k hk => absurd hk (by omega)), _, rfl⟩
  case round =>
    obtain ⟨k, hk, rfl, hall, nq9, rfl⟩ := hrel
    by_cases hlt : k < m
    · have hkl : q + k < s.L.length := by rw [HN.out]; omega
      obtain ⟨hAd, cx, fx⟩ := H1.out.row.at_ (getD_some hkl)
      have hsome := getD_some hkl
      rw [hAd] at c1
      generalize s.L.getD (q + k) false = x at cx hsome
      have HA := Lib.hid hall
      have HSM := Lib.hid hsome
      clear hall hsome hAd
      by_cases hxv : x = v
      · subst hxv
        have HA2 : Hid (AllAre s.L q (k + 1) x) := Lib.hid (allAre_step' HA.out HSM.out)
        go_wp2
        go_quiet (fail)
        go_wp2
        exact ⟨⟨k + 1, by omega, by go_num, HA2.out, _, rfl⟩, by simp [intOf]; omega⟩
      · have hno : ¬ AllAre s.L q m v := fun h => hxv (by have := h k hlt; rw [HSM.out] at this; injection this)
        have HNO := Lib.hid hno
        have HXV := Lib.hid hxv
        clear hno hxv
        cases v <;> cases x
        · exact absurd rfl HXV.out
        · go_wp2
          go_quiet (fail)
          go_wp2
          go_ret
          exact ⟨by rw [HV.out, decide_eq_false HNO.out]; rfl, below_drewN (below_drewN HBX.out _) _⟩
        · go_wp2
          go_quiet (fail)
          go_wp2
          go_ret
          exact ⟨by rw [HV.out, decide_eq_false HNO.out]; rfl, below_drewN (below_drewN HBX.out _) _⟩
        · exact absurd rfl HXV.out
    · obtain rfl : m = k := by omega
      have HA := Lib.hid hall
      clear hall
      go_wp2
      go_ret
      exact ⟨by rw [HV.out, decide_eq_true HA.out]; rfl, below_drewN HBX.out _⟩
end
end Go.Proofs.Ytjndbibbfcmgiaa

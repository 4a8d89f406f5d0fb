/-
  The given space of layer 4: New, Has.
-/
import Derived.Test.YtjndbibbfcmgiaaRTurn
namespace Go.Proofs.Ytjndbibbfcmgiaa
open Go.RowKit

section
variable {w : World} {d : SpAt} {s : ESt}
set_option maxHeartbeats 4000000 in
theorem rhas_any (a : Int) (h : RK w d s) : Calls Try.prog 22 #[.pointer (some ⟨d.b, 0, none⟩), .int .i64 a] w fun e w' => e = .returned (.bool (hasE s a)) ∧ Below w.heap.size w w' := by
  have hfew := h.ok.few
  have c0 : w.cell? ⟨d.b, 0, none⟩ = some (.int .i64 (s.f : Int)) := h.blk.cell 0
  have c1 : w.cell? ⟨d.b, 1, none⟩ = some (.slice d.A s.L.length d.c) := h.blk.cell 1
  have hrow : ∀ k x, s.L[k]? = some x → d.A = some ⟨d.g, 0, none⟩ ∧ w.cell? ⟨d.g, k, none⟩ = some (.bool x) := fun k x hk => ⟨(h.row.at_ hk).1, (h.row.at_ hk).2.1⟩
  obtain ⟨N, hN⟩ : ∃ N, s.L.length = N := ⟨_, rfl⟩
  rw [hN] at c1 hfew
  clear h
  by_cases g1 : (s.f : Int) ≤ a
  · by_cases g2 : a < (s.f : Int) + (N : Int)
    · obtain ⟨q, hq⟩ := Int.eq_ofNat_of_zero_le (a := a - (s.f : Int)) (by omega)
      have hqN : q < N := by omega
      obtain ⟨hAd, cx⟩ := hrow q _ (getD_some (by omega))
      have hv : hasE s a = s.L.getD q false := by
        unfold hasE
        rw [if_pos g1, show (a - (s.f : Int)).toNat = q by omega]
      rw [hAd] at c1
      rw [← hv] at cx
      generalize hasE s a = x at *
      have d1 : decide ((s.f : Int) ≤ a) = true := decide_eq_true g1
      have d2 : decide (a < (s.f : Int) + (N : Int)) = true := decide_eq_true g2
      clear hv hrow hN hAd
      go_enter Try.func22, Try.ntmps22
      go_wp2
      go_quiet (fail)
      go_wp2
      go_ret
      exact ⟨rfl, below_drewN (Below.refl _ _) _⟩
    · have hv : hasE s a = false := by
        unfold hasE
        rw [if_pos g1, List.getD_eq_getElem?_getD, List.getElem?_eq_none (by omega)]
        rfl
      have HV := Lib.hid hv
      have d1 : decide ((s.f : Int) ≤ a) = true := decide_eq_true g1
      have d2 : decide (a < (s.f : Int) + (N : Int)) = false := decide_eq_false g2
      clear hv hrow hN
      go_enter Try.func22, Try.ntmps22
      go_wp2
      go_quiet (fail)
      go_wp2
      go_ret
      exact ⟨by rw [HV.out]; rfl, below_drewN (Below.refl _ _) _⟩
  · have hv : hasE s a = false := by
      unfold hasE
      rw [if_neg g1]
    have HV := Lib.hid hv
    have d1 : decide ((s.f : Int) ≤ a) = false := decide_eq_false g1
    clear hv hrow hN
    go_enter Try.func22, Try.ntmps22
    go_wp2
    go_quiet (fail)
    go_wp2
    go_ret
    exact ⟨by rw [HV.out]; rfl, below_drewN (Below.refl _ _) _⟩

set_option maxHeartbeats 2000000 in
theorem rnew_any (f t : Nat) (w : World) (h1 : f ≤ t) (h2 : t ≤ 4096) : Calls Try.prog 5 #[.int .i64 (f : Int), .int .i64 (t : Int)] w fun e w' => ∃ d, e = .returned (.tuple #[.pointer (some ⟨d.b, 0, none⟩), .int .i64 0]) ∧ RK w' d (newE f t) ∧ (∀ k, d.foot k → w.heap.size ≤ k) ∧ Below w.heap.size w w' := by
  obtain ⟨i0, hi, hz0, hz1, hz2⟩ := info_parts infoB
  obtain ⟨n, hn⟩ : ∃ n, t - f = n := ⟨_, rfl⟩
  obtain ⟨C, hC⟩ : ∃ C, madeCells (Value.bool false).cells (n * 1) = C := ⟨_, rfl⟩
  have hmk2 : ∀ w : World, (Instr.makeSlice 41 (.int .i64 ((t : Int) - (f : Int))) (.int .i64 ((t : Int) - (f : Int)))).run Try.prog w = .ok (.slice (some ⟨w.heap.size, 0, none⟩) n n) (w.alloc (.cells C 4)) := fun w => by
    have := run_make (P := Try.prog) w 41 4 i0 _ Try.underlying41 hi hz0 .i64 .i64 (n : Int) (n : Int) (by omega) (by omega) (by rw [hz2]; omega) (by omega)
    rw [hz1, Int.toNat_natCast, hC] at this
    rwa [show (n : Int) = (t : Int) - (f : Int) by omega] at this
  have HC := Lib.hid hC
  have HN := Lib.hid hn
  clear hC hi hz0 hz1 hz2 hn
  go_enter Try.func5, Try.ntmps5
  go_wp2
  go_ret2
  refine ⟨⟨w.heap.size + 1, w.heap.size, some ⟨w.heap.size, 0, none⟩, n⟩, rfl, ?_, ?_, ?_⟩
  · have hl : (newE f t).L.length = n := by show (List.replicate (t - f) false).length = n; rw [List.length_replicate, HN.out]
    have hN := HN.out
    have hC0 : C.toList = List.replicate n (.bool false) := by
      rw [← HC.out, Nat.mul_one]
      exact toList_madeCells_one _ _
    refine ⟨⟨by show f + (newE f t).L.length ≤ 4096; omega⟩, ?_, by rw [hl]; exact ⟨Nat.le_refl _, by show n ≤ _; omega⟩, fun _ => ⟨rfl, by show w.heap.size + 1 ≠ w.heap.size; omega, C, (Blk.new w 4 C).alloc _, fun k x hx => ?_⟩, by simp; omega⟩
    · rw [hl]
      exact blk_new2 w _ 45 _
    · have hk := (List.getElem?_eq_some_iff.1 hx).1
      rw [hl] at hk
      have hx2 : x = false := (List.mem_replicate.1 (List.mem_of_getElem? hx)).2
      subst hx2
      rw [← Array.getElem?_toList, hC0, List.getElem?_replicate, if_pos hk]
  · rintro k (rfl | rfl)
    · show w.heap.size ≤ w.heap.size + 1; omega
    · exact Nat.le_refl _
  · exact ((Below.refl _ w).alloc (Nat.le_refl _) _).alloc (by simp) _
theorem rnew_bad (f t : Int) (w : World) (h : f < 0 ∨ t < f ∨ 4096 < t) : Calls Try.prog 5 #[.int .i64 f, .int .i64 t] w fun e w' => e = .returned (.tuple #[.pointer none, .int .i64 40]) ∧ w = w' := by
  by_cases h1 : f < 0
  · have hd : decide (f < 0) = true := decide_eq_true h1
    go_enter Try.func5, Try.ntmps5
    go_wp2
    go_ret2
    exact ⟨rfl, rfl⟩
  · have hd : decide (f < 0) = false := decide_eq_false h1
    by_cases h2 : t < f
    · have hd2 : decide (t < f) = true := decide_eq_true h2
      go_enter Try.func5, Try.ntmps5
      go_wp2
      go_ret2
      exact ⟨rfl, rfl⟩
    · have hd2 : decide (t < f) = false := decide_eq_false h2
      have hd3 : decide (4096 < t) = true := decide_eq_true (by omega)
      go_enter Try.func5, Try.ntmps5
      go_wp2
      go_ret2
      exact ⟨rfl, rfl⟩
end
end Go.Proofs.Ytjndbibbfcmgiaa

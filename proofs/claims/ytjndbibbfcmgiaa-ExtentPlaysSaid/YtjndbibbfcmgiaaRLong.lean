/-
  The given space of layer 4: Longest; the free sectors that end at a place.
-/
import Derived.Test.YtjndbibbfcmgiaaRNew
namespace Go.Proofs.Ytjndbibbfcmgiaa
open Go.RowKit

/-- t free sectors end at k, and no more. -/
structure TailN (L : List Bool) (k t : Nat) : Prop where
  le : t ≤ k
  all : AllAre L (k - t) t false
  stop : t < k → L[k - t - 1]? = some true
theorem TailN.zero (L : List Bool) : TailN L 0 0 := ⟨Nat.le_refl _, fun _ h => absurd h (by omega), fun h => absurd h (by omega)⟩
theorem TailN.free {L : List Bool} {k t : Nat} (h : TailN L k t) (hk : L[k]? = some false) : TailN L (k + 1) (t + 1) := by
  have hle := h.le
  refine ⟨by omega, fun j hj => ?_, fun hlt => ?_⟩
  · rw [show k + 1 - (t + 1) + j = k - t + j by omega]
    by_cases e : j < t
    · exact h.all j e
    · rw [show k - t + j = k by omega]
      exact hk
  · rw [show k + 1 - (t + 1) - 1 = k - t - 1 by omega]
    exact h.stop (by omega)
theorem TailN.full {L : List Bool} {k : Nat} (hk : L[k]? = some true) : TailN L (k + 1) 0 :=
  ⟨Nat.zero_le _, fun _ h => absurd h (by omega), fun _ => hk⟩
theorem TailN.most {L : List Bool} {k t u : Nat} (h : TailN L k t) (hu : u ≤ k) (hA : AllAre L (k - u) u false) : u ≤ t := by
  apply Classical.byContradiction
  intro hn
  have h1 := h.stop (by omega)
  have h2 := hA.at_ (k := k - t - 1) (by omega) (by omega)
  rw [h1] at h2
  cases h2

/-- m is the longest of the free runs within the first k. -/
structure MostN (L : List Bool) (k m : Nat) : Prop where
  hit : ∃ q, q + m ≤ k ∧ AllAre L q m false
  top : ∀ q u, q + u ≤ k → AllAre L q u false → u ≤ m
theorem MostN.zero (L : List Bool) : MostN L 0 0 := ⟨⟨0, by omega, fun _ h => absurd h (by omega)⟩, fun q u h _ => by omega⟩
theorem MostN.step {L : List Bool} {k m t : Nat} (h : MostN L k m) (ht : TailN L (k + 1) t) : MostN L (k + 1) (max m t) := by
  obtain ⟨q, hq, hA⟩ := h.hit
  refine ⟨?_, fun p u hp hu => ?_⟩
  · rcases Nat.le_total t m with hle | hle
    · rw [Nat.max_eq_left hle]
      exact ⟨q, by omega, hA⟩
    · rw [Nat.max_eq_right hle]
      exact ⟨k + 1 - t, by have := ht.le; omega, ht.all⟩
  · by_cases e : p + u ≤ k
    · have := h.top p u e hu
      omega
    · have : u ≤ t := ht.most (by omega) (by rw [show k + 1 - u = p by omega]; exact hu)
      omega
theorem MostN.end_ {L : List Bool} {m : Nat} (h : MostN L L.length m) : mostOf (runsAt L false 0) = m := by
  have hall : ∀ n, 1 ≤ n → (n ≤ mostOf (runsAt L false 0) ↔ n ≤ m) := fun n hn => by
    have hl := longest_iff (L := L) hn
    constructor
    · intro hle
      rw [decide_eq_true hle] at hl
      cases hp : takeP L n with
      | none => rw [hp] at hl; cases hl
      | some q =>
        obtain ⟨hA, _⟩ := takeP_some hn hp
        exact h.top q n (hA.le hn) hA
    · intro hle
      apply Classical.byContradiction
      intro hno
      rw [decide_eq_false hno] at hl
      cases hp : takeP L n with
      | some q => rw [hp] at hl; cases hl
      | none =>
        obtain ⟨q, _, hA⟩ := h.hit
        exact takeP_none hn hp q (fun k hk => hA k (by omega))
  rcases Nat.lt_trichotomy (mostOf (runsAt L false 0)) m with hlt | he | hgt
  · have := (hall m (by omega)).2 (Nat.le_refl _)
    omega
  · exact he
  · have := (hall _ (by omega)).1 (Nat.le_refl (mostOf (runsAt L false 0)))
    omega

section
variable {w : World} {d : SpAt} {s : ESt}
set_option maxHeartbeats 2000000 in
theorem rlongest_any (h : RK w d s) : Calls Try.prog 20 #[.pointer (some ⟨d.b, 0, none⟩)] w fun e w' => e = .returned (.int .i64 ((mostOf (runsAt s.L false 0) : Nat) : Int)) ∧ Below w.heap.size w w' := by
  have c1 := h.blk.cell 1
  have hl4 : s.L.length ≤ 4096 := by have := h.ok.few; omega
  have H := Lib.hid h
  clear h
  obtain ⟨N, hN⟩ : ∃ N, s.L.length = N := ⟨_, rfl⟩
  rw [hN] at c1 hl4
  have HN := Lib.hid hN
  clear hN
  go_enter Try.func20, Try.ntmps20
  go_wp2
  go_loopw [3, 4, 5] (fun mo c i wr => ∃ k t m : Nat, k ≤ N ∧ t ≤ k ∧ m ≤ k ∧ i = .int .i64 (k : Int) ∧ c = .int .i64 (t : Int) ∧ mo = .int .i64 (m : Int) ∧ TailN s.L k t ∧ MostN s.L k m ∧ w = wr) (fun _ _ i _ => N - (intOf i).toNat)
  case atStart => exact ⟨0, 0, 0, Nat.zero_le _, Nat.le_refl _, Nat.le_refl _, rfl, rfl, rfl, TailN.zero _, MostN.zero _, rfl⟩
  case round =>
    obtain ⟨k, t, m, hk, htk, hmk, rfl, rfl, rfl, hT, hM, rfl⟩ := hrel
    by_cases hlt : k < N
    · have hkl : k < s.L.length := by rw [HN.out]; exact hlt
      obtain ⟨hAd, cx, fx⟩ := H.out.row.at_ (getD_some hkl)
      have hsome := getD_some hkl
      rw [hAd] at c1
      generalize s.L.getD k false = x at cx hsome
      cases x
      · have HT := Lib.hid (hT.free hsome)
        have hM2 := hM.step (hT.free hsome)
        clear hT hM hsome hAd
        by_cases hmt : m < t + 1
        · rw [Nat.max_eq_right (by omega)] at hM2
          have HM := Lib.hid hM2
          have d1 : (m : Int) < (t : Int) + 1 := by omega
          clear hM2
          go_wp2
          exact ⟨⟨k + 1, t + 1, t + 1, by omega, by omega, by omega, by go_num, by go_num, by go_num, HT.out, HM.out, trivial⟩, by simp [intOf]; omega⟩
        · rw [Nat.max_eq_left (by omega)] at hM2
          have HM := Lib.hid hM2
          have d1 : ¬ (m : Int) < (t : Int) + 1 := by omega
          clear hM2
          go_wp2
          exact ⟨⟨k + 1, t + 1, m, by omega, by omega, by omega, by go_num, by go_num, rfl, HT.out, HM.out, trivial⟩, by simp [intOf]; omega⟩
      · have HT := Lib.hid (TailN.full hsome)
        have hM2 := hM.step (TailN.full hsome)
        rw [Nat.max_eq_left (Nat.zero_le _)] at hM2
        have HM := Lib.hid hM2
        have d1 : ¬ (m : Int) < 0 := by omega
        clear hT hM hsome hAd hM2
        go_wp2
        exact ⟨⟨k + 1, 0, m, by omega, by omega, by omega, by go_num, rfl, rfl, HT.out, HM.out, trivial⟩, by simp [intOf]; omega⟩
    · obtain rfl : N = k := by omega
      have hm2 : mostOf (runsAt s.L false 0) = m := MostN.end_ (by rw [HN.out]; exact hM)
      have HM := Lib.hid hm2
      clear hT hM hm2
      go_wp2
      go_ret
      exact ⟨by rw [HM.out]; rfl, Below.refl _ _⟩
end
end Go.Proofs.Ytjndbibbfcmgiaa

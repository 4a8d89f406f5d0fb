/-
  The given space of layer 4: Take.
-/
import Derived.Test.YtjndbibbfcmgiaaRLong
namespace Go.Proofs.Ytjndbibbfcmgiaa
open Go.RowKit

theorem take_hit {L : List Bool} {m q : Nat} (hm : 1 ≤ m) (hA : AllAre L q m false) (hno : ∀ p, p < q → ¬ AllAre L p m false) : takeP L m = some q := by
  cases hp : takeP L m with
  | none => exact absurd hA (takeP_none hm hp q)
  | some p =>
    obtain ⟨h1, h2⟩ := takeP_some hm hp
    rcases Nat.lt_trichotomy p q with h | h | h
    · exact absurd h1 (hno p h)
    · rw [h]
    · exact absurd hA (h2 q h)
theorem take_no {L : List Bool} {m : Nat} (hm : 1 ≤ m) (hno : ∀ q, q + m ≤ L.length → ¬ AllAre L q m false) : takeP L m = none := by
  cases hp : takeP L m with
  | none => rfl
  | some p =>
    obtain ⟨h1, _⟩ := takeP_some hm hp
    exact absurd h1 (hno p (h1.le hm))

theorem take_low {s : ESt} {n : Int} (h : n < 1) : takeX s n = (0, 0) ∧ takeE s n = 40 ∧ takeS s n = s := by
  unfold takeX takeE takeS
  rw [if_pos h, if_pos h, if_pos h]
  exact ⟨rfl, rfl, rfl⟩
theorem take_none {s : ESt} {m : Nat} (hm : 1 ≤ m) (h : takeP s.L m = none) : takeX s (m : Int) = (0, 0) ∧ takeE s (m : Int) = 41 ∧ takeS s (m : Int) = s := by
  have hn : ¬ (m : Int) < 1 := by omega
  unfold takeX takeE takeS firstE
  rw [if_neg hn, if_neg hn, if_neg hn, Int.toNat_natCast, h]
  exact ⟨rfl, rfl, rfl⟩
theorem take_some {s : ESt} {m q : Nat} (hm : 1 ≤ m) (h : takeP s.L m = some q) : takeX s (m : Int) = (((s.f + q : Nat) : Int), (m : Int)) ∧ takeE s (m : Int) = 0 ∧ takeS s (m : Int) = s.put q m true := by
  have hn : ¬ (m : Int) < 1 := by omega
  unfold takeX takeE takeS firstE
  rw [if_neg hn, if_neg hn, if_neg hn, Int.toNat_natCast, h]
  exact ⟨rfl, rfl, rfl⟩
section
variable {w : World} {d : SpAt} {s : ESt}
set_option maxHeartbeats 4000000 in
theorem rtake_any (n : Int) (h : RK w d s) : Calls Try.prog 13 #[.pointer (some ⟨d.b, 0, none⟩), .int .i64 n] w fun e w' => e = .returned (.tuple #[.agg #[.int .i64 (takeX s n).1, .int .i64 (takeX s n).2], .int .i64 (takeE s n)]) ∧ RK w' d (takeS s n) ∧ Keep (fun k => k = d.g) w w' := by
  have hbx : Below w.heap.size w (w.alloc (.cells #[.int .i64 0, .int .i64 0] 33)) := (Below.refl _ _).alloc (Nat.le_refl _) _
  have hx := Blk.new w 33 #[.int .i64 0, .int .i64 0]
  have hlt := h.lt
  have h1 := h.below hbx
  have HX := Lib.hid hx
  have HBX := Lib.hid hbx
  have H := Lib.hid h
  have H1 := Lib.hid h1
  have y0 := hx.cell 0
  have y1 := hx.cell 1
  have g0 := hx.frozen 0
  have g1 := hx.frozen 1
  have hfew := h.ok.few
  have c0 : (w.alloc (.cells #[.int .i64 0, .int .i64 0] 33)).cell? ⟨d.b, 0, none⟩ = some (.int .i64 (s.f : Int)) := h1.blk.cell 0
  have c1 : (w.alloc (.cells #[.int .i64 0, .int .i64 0] 33)).cell? ⟨d.b, 1, none⟩ = some (.slice d.A s.L.length d.c) := h1.blk.cell 1
  obtain ⟨N, hN⟩ : ∃ N, s.L.length = N := ⟨_, rfl⟩
  rw [hN] at c1 hfew
  have HN := Lib.hid hN
  clear h h1 hx hbx hN
  have HK0 : Hid (∀ a b : Value, Keep (fun k => k = d.g) w (((w.alloc (.cells #[.int .i64 0, .int .i64 0] 33)).setCell ⟨w.heap.size, 0, none⟩ a).setCell ⟨w.heap.size, 1, none⟩ b) ∧ RK (((w.alloc (.cells #[.int .i64 0, .int .i64 0] 33)).setCell ⟨w.heap.size, 0, none⟩ a).setCell ⟨w.heap.size, 1, none⟩ b) d s) := Lib.hid (fun a b => by
    have hk := (Keep.of_below (S := fun k => k = w.heap.size) HBX.out).trans (keep_two _ w.heap.size a b) (fun _ _ h => h)
    exact ⟨hk.more (fun i hi e => by omega), H.out.keep hk (fun k hf e => by have := hlt k hf; omega)⟩)
  by_cases hn : n < 1
  · obtain ⟨tl1, tl2, tl3⟩ := take_low (s := s) hn
    rw [tl1, tl2, tl3]
    clear tl1 tl2 tl3
    have hd : decide (n < 1) = true := decide_eq_true hn
    clear hn
    go_enter Try.func13, Try.ntmps13
    go_wp2
    refine bodyPost_ret (results_ext2 rfl rfl rfl HX.out) rfl ?_
    exact ⟨rfl, H1.out, Keep.of_below HBX.out⟩
  · obtain ⟨m, rfl⟩ := Int.eq_ofNat_of_zero_le (a := n) (by omega)
    have hm1 : 1 ≤ m := by omega
    have hd : decide ((m : Int) < 1) = false := decide_eq_false hn
    clear hn
    obtain ⟨⟨x1, x2⟩, hX9⟩ : ∃ x, takeX s (m : Int) = x := ⟨_, rfl⟩
    obtain ⟨er, hE9⟩ : ∃ er, takeE s (m : Int) = er := ⟨_, rfl⟩
    obtain ⟨s9, hS9⟩ : ∃ s9, takeS s (m : Int) = s9 := ⟨_, rfl⟩
    rw [hX9, hE9, hS9]
    have HQ := Lib.hid (And.intro hX9 (And.intro hE9 hS9))
    clear hX9 hE9 hS9
    have HLT := Lib.hid hlt
    clear hlt
    go_enter Try.func13, Try.ntmps13
    go_wp2
    go_loopw [6, 7] (fun c i wr => ∃ k t : Nat, k ≤ N ∧ t ≤ k ∧ i = .int .i64 (k : Int) ∧ c = .int .i64 (t : Int) ∧ TailN s.L k t ∧ (∀ q, q + m ≤ k → ¬ AllAre s.L q m false) ∧ w.alloc (.cells #[.int .i64 0, .int .i64 0] 33) = wr) (fun _ i _ => N - (intOf i).toNat)
    case atStart => exact ⟨0, 0, Nat.zero_le _, Nat.le_refl _, rfl, rfl, TailN.zero _, (fun q hq => absurd hq (by omega)), rfl⟩
    case round =>
      obtain ⟨k, t, hk, htk, rfl, rfl, hT, hno, rfl⟩ := hrel
      by_cases hlt : k < N
      · have hkl : k < s.L.length := by rw [HN.out]; exact hlt
        obtain ⟨hAd, cx, fx⟩ := H1.out.row.at_ (getD_some hkl)
        have hsome := getD_some hkl
        rw [hAd] at c1
        generalize s.L.getD k false = x at cx hsome
        have HSM := Lib.hid hsome
        have HT := Lib.hid hT
        have HNO := Lib.hid hno
        clear hT hno hsome hAd
        cases x
        · by_cases htm : t + 1 = m
          · have hmi : (t : Int) + 1 = (m : Int) := by omega
            obtain ⟨q, hq⟩ : ∃ q, k + 1 - m = q := ⟨_, rfl⟩
            have hA : AllAre s.L q m false := by
              have h9 := (HT.out.free HSM.out).all
              rwa [htm, hq] at h9
            have htp : takeP s.L m = some q := take_hit hm1 hA (fun p hp => HNO.out p (by omega))
            have hto : s.to = s.f + s.L.length := rfl
            obtain ⟨ts1, ts2, ts3⟩ := take_some hm1 htp
            have q1 := HQ.out.1.symm.trans ts1
            have q2 := HQ.out.2.1.symm.trans ts2
            have q3 := HQ.out.2.2.symm.trans ts3
            injection q1 with q1 q1'
            subst q1' q2 q3
            clear HQ ts1 ts2 ts3
            have HMK : Hid (∀ w', RK w' d s → Calls Try.prog 28 #[.pointer (some ⟨d.b, 0, none⟩), .agg #[.int .i64 ((s.f + q : Nat) : Int), .int .i64 (m : Int)], .bool true] w' fun e w'' => e = .returned (.tuple #[]) ∧ RK w'' d (s.put q m true) ∧ Keep (fun k => k = d.g) w' w'') := Lib.hid (fun w' hw => by
              have := rset_any (s.f + q) m true (by omega) hw
              rwa [show s.f + q - s.f = q by omega] at this)
            have hai : (s.f : Int) + (k : Int) + 1 - (m : Int) = ((s.f + q : Nat) : Int) := by omega
            rw [← q1] at HMK hai
            clear q1
            have hW1 : (w.alloc (.cells #[.int .i64 0, .int .i64 0] 33)).heap.size = w.heap.size + 1 := by simp
            have hb2 : Below (w.heap.size + 1) (w.alloc (.cells #[.int .i64 0, .int .i64 0] 33)) ((w.alloc (.cells #[.int .i64 0, .int .i64 0] 33)).alloc (.cells #[.int .i64 x1, .int .i64 (m : Int)] 33)) := (Below.refl _ _).alloc (by omega) _
            have H2 : Hid (RK ((w.alloc (.cells #[.int .i64 0, .int .i64 0] 33)).alloc (.cells #[.int .i64 x1, .int .i64 (m : Int)] 33)) d s) := Lib.hid (H1.out.below (by rw [hW1]; exact hb2))
            have XB : Hid (Blk ((w.alloc (.cells #[.int .i64 0, .int .i64 0] 33)).alloc (.cells #[.int .i64 x1, .int .i64 (m : Int)] 33)) (w.heap.size + 1) 33 #[.int .i64 x1, .int .i64 (m : Int)]) := Lib.hid (blk_new2 w _ 33 _)
            have HKB : Hid (Keep (fun k => k = d.g) w ((w.alloc (.cells #[.int .i64 0, .int .i64 0] 33)).alloc (.cells #[.int .i64 x1, .int .i64 (m : Int)] 33))) := Lib.hid (((Keep.refl _ _).alloc _).alloc _)
            have p0 := XB.out.cell 0
            have p1 := XB.out.cell 1
            clear htp hA hto hW1 hb2 hq htm
            go_wp2_with (go_at_call 28; refine (HMK.out _ H2.out).mono ?_; rintro e w2 ⟨rfl, hE, hK⟩; have hdg := HLT.out d.g (.inr rfl); have hxx := hK.blk XB.out (fun e => by have e : w.heap.size + 1 = d.g := e; omega); have hrr := hK.blk (HX.out.alloc _) (fun e => by have e : w.heap.size = d.g := e; omega); have v0 := hxx.cell 0; have v1 := hxx.cell 1; have z0 := hrr.cell 0; have z1 := hrr.cell 1; have u0 := hrr.frozen 0; have u1 := hrr.frozen 1; have HRR := Lib.hid hrr; have HE := Lib.hid hE; have HK := Lib.hid (HKB.out.trans hK (fun _ _ h => h)); clear hE hK hrr hxx hdg)
            refine bodyPost_ret (results_ext2 rfl rfl rfl ((HRR.out.set_ 0 (.int .i64 x1)).set_ 1 (.int .i64 (m : Int)))) rfl ?_
            have hk9 := keep_two w2 w.heap.size (.int .i64 x1) (.int .i64 (m : Int))
            exact ⟨rfl, HE.out.keep hk9 (fun k hf e => by have := HLT.out k hf; omega), HK.out.trans (hk9.more (S' := fun k => w.heap.size ≤ k) (fun i _ e => by omega)) (fun i hi e => by omega)⟩
          · have hmi : ¬ (t : Int) + 1 = (m : Int) := by omega
            have HT2 := Lib.hid (HT.out.free HSM.out)
            have HNO2 : Hid (∀ q, q + m ≤ k + 1 → ¬ AllAre s.L q m false) := Lib.hid (fun q hq hA => by
              by_cases e : q + m ≤ k
              · exact HNO.out q e hA
              · have h1 := HT2.out.most (u := m) (by omega) (by rw [show k + 1 - m = q by omega]; exact hA)
                exact HNO.out (k - m) (by omega) (fun j hj => HT.out.all.at_ (by omega) (by have := HT.out.le; omega)))
            go_wp2
            exact ⟨⟨k + 1, t + 1, by omega, by omega, by go_num, by go_num, HT2.out, HNO2.out, trivial⟩, by simp [intOf]; omega⟩
        · have hmi : ¬ (0 : Int) = (m : Int) := by omega
          have HT2 := Lib.hid (TailN.full HSM.out)
          have HNO2 : Hid (∀ q, q + m ≤ k + 1 → ¬ AllAre s.L q m false) := Lib.hid (fun q hq hA => by
            by_cases e : q + m ≤ k
            · exact HNO.out q e hA
            · have h1 := HT2.out.most (u := m) (by omega) (by rw [show k + 1 - m = q by omega]; exact hA)
              omega)
          go_wp2
          exact ⟨⟨k + 1, 0, by omega, by omega, by go_num, rfl, HT2.out, HNO2.out, trivial⟩, by simp [intOf]; omega⟩
      · obtain rfl : N = k := by omega
        have htp : takeP s.L m = none := take_no hm1 (by rw [HN.out]; exact hno)
        obtain ⟨ts1, ts2, ts3⟩ := take_none hm1 htp
        have q1 := HQ.out.1.symm.trans ts1
        have q2 := HQ.out.2.1.symm.trans ts2
        have q3 := HQ.out.2.2.symm.trans ts3
        injection q1 with q1 q1'
        subst q1 q1' q2 q3
        clear HQ ts1 ts2 ts3 htp hT hno
        go_wp2
        refine bodyPost_ret (results_ext2 rfl rfl rfl HX.out) rfl ?_
        exact ⟨rfl, H1.out, Keep.of_below HBX.out⟩
end
end Go.Proofs.Ytjndbibbfcmgiaa

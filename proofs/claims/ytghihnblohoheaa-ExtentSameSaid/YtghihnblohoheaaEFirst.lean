/-
  The statement ExtentFirst: the walk.
-/
import Derived.Test.YtghihnblohoheaaEOps
namespace Go.Proofs.Ytghihnblohoheaa
open Go.RowKit

/-- Two spaces apart. -/
structure E2 (N : Nat) (w0 w : World) (d d2 : SpAt) (s s2 : ESt) : Prop where
  a : ELives N w0 w d s
  b : ELives N w0 w d2 s2
def EDis (d d2 : SpAt) : Prop := ∀ k, d.foot k → ¬ d2.foot k
section
variable {N : Nat} {w0 w w' : World} {d d2 : SpAt} {s s2 s' : ESt}
theorem EDis.symm (h : EDis d d2) : EDis d2 d := fun k h1 h2 => h k h2 h1
theorem E2.next (h : E2 N w0 w d d2 s s2) (hb : Below w.heap.size w w') : E2 N w0 w' d d2 s s2 := ⟨h.a.next hb, h.b.next hb⟩
theorem E2.callA (h : E2 N w0 w d d2 s s2) (hd : EDis d d2) (hl : ELives N w0 w' d s') (hk : Keep (fun k => k = d.g) w w') : E2 N w0 w' d d2 s' s2 := ⟨hl, h.b.other h.a hd.symm hk⟩
theorem E2.callB (h : E2 N w0 w d d2 s s2) (hd : EDis d d2) (hl : ELives N w0 w' d2 s') (hk : Keep (fun k => k = d2.g) w w') : E2 N w0 w' d d2 s s' := ⟨h.a.other h.b hd hk, hl⟩
end

theorem hasE_in {s : ESt} (h : Is300 s) {p : Nat} : hasE s (((5 + p : Nat)) : Int) = s.L.getD p false := by
  unfold hasE
  rw [h.f, if_pos (by omega)]
  congr 1
  omega
theorem takenX_few {s : ESt} (h : s.Ok) : (takenX s).length ≤ 4096 := by
  unfold takenX
  rw [List.length_map]
  have := runs_few (L := s.L) (a := true) 0
  have := h.few
  omega
theorem allAre_step {L : List Bool} {p j : Nat} {a : Bool} (h : AllAre L p j a) (hj : L[p + j]? = some a) : AllAre L p (j + 1) a := fun k hk => by
  by_cases e : k < j
  · exact h k e
  · rw [show k = j by omega]
    exact hj

set_option maxRecDepth 100000 in
set_option maxHeartbeats 4000000 in
theorem first_walk (A : Option Addr) (n c z : Nat) (l : List EOp) (W : World) (H : EOps W W.heap.size A n l) (hz : z ≤ 255) (hn9 : n ≤ 9223372036854775807) :
    Calls Try.prog 6 #[.slice A n c, .int .u8 (z : Int)] W fun e w' => e = .returned (.bool true) ∧ Below W.heap.size W w' := by
  by_cases hbig : 150 < n
  · have hd : decide (150 < n) = true := decide_eq_true hbig
    clear H
    go_enter Try.func6, Try.ntmps6
    go_wp2_with (go_at_call 23; refine (alive4_any _).mono ?_; rintro e w1 ⟨rfl, hb⟩; have HB := Lib.hid hb; clear hb)
    go_ret
    exact ⟨rfl, HB.out⟩
  · have HH := Lib.hid H
    have HMD : Hid (∀ w', Below W.heap.size W w' → Calls Try.prog 24 #[.slice A n c] w' fun e w'' => ∃ (d : SpAt) (s : ESt), e = .returned (.pointer (some ⟨d.b, 0, none⟩)) ∧ ELives w'.heap.size w' w'' d s ∧ Is300 s ∧ Below w'.heap.size w' w'' ∧ (n = 0 → s = newE 5 305)) := Lib.hid (fun w' hb => made4_any A n c l W.heap.size w' (HH.out.below hb) hb.size (by omega))
    clear H
    go_enter Try.func6, Try.ntmps6
    go_wp2_with (first
      | (go_at_call 23; refine (alive4_any _).mono ?_; rintro e w1 ⟨rfl, hb⟩; have HB := Lib.hid hb; clear hb)
      | (go_at_call 24; refine (HMD.out _ HB.out).mono ?_; rintro e w2 ⟨d, s, rfl, l2, hI, hb, -⟩; have L2 := Lib.hid l2; have HI := Lib.hid hI; have HB2 := Lib.hid (HB.out.trans (hb.mono HB.out.size)); clear l2 hb hI)
      | (go_at_call 22; refine (lcopy L2.out).mono ?_; rintro e w3 ⟨d2, rfl, l3, l3', hb, hf⟩; have HD : Hid (EDis d d2) := Lib.hid (fun k h1 h2 => by have := L2.out.all_lt k h1; have := hf k h2; omega); have T3 : Hid (E2 w1.heap.size w1 w3 d d2 s s) := Lib.hid ⟨l3', l3⟩; clear l3 l3' hb hf))
    obtain ⟨nn, hnn⟩ : ∃ nn : Nat, z + 1 = nn := ⟨_, rfl⟩
    have hnz : (1 : Int) + (z : Int) = (nn : Int) := by omega
    have htn : ((1 : Int) + (z : Int)).toNat = nn := by omega
    have hnlt : ¬ (1 : Int) + (z : Int) < 1 := by omega
    have hnn1 : 1 ≤ nn ∧ nn ≤ 256 := by omega
    cases hp : takeP s.L nn with
    | none =>
      have hx : takeX s (1 + (z : Int)) = (0, 0) := by unfold takeX firstE; rw [if_neg hnlt, htn, hp]
      have he : takeE s (1 + (z : Int)) = 41 := by unfold takeE; rw [if_neg hnlt, htn, hp]; rfl
      have hs : takeS s (1 + (z : Int)) = s := by unfold takeS; rw [if_neg hnlt, htn, hp]
      have HTK := Lib.hid (ltake (1 + (z : Int)) T3.out.a (by omega) hx he hs)
      obtain ⟨E, hE⟩ : ∃ E : Nat, 301 - nn = E := ⟨_, rfl⟩
      have hend : (305 : Int) - (nn : Int) + 1 = 5 + (E : Int) := by omega
      have HE : Hid (∀ p, p < E → p + nn ≤ 300 ∧ ¬ AllAre s.L p nn false) := Lib.hid (fun p h => ⟨by omega, takeP_none hnn1.1 hp p⟩)
      obtain ⟨s', hs'⟩ : ∃ s', s = s' := ⟨_, rfl⟩
      have HS' := Lib.hid hs'
      clear hx he hs hp htn hs' hnlt hE
      go_wp2_with (go_at_call 16; refine HTK.out.mono ?_; rintro e w4 ⟨rfl, l4, k4⟩; have T4 : Hid (E2 w1.heap.size w1 (w4.alloc (.cells #[.int .i64 0, .int .i64 0] 33)) d d2 s' s) := Lib.hid (by have h := (T3.out.callA HD.out l4 k4).next ((Below.refl _ _).alloc (Nat.le_refl _) (.cells #[.int .i64 0, .int .i64 0] 33)); have e := HS'.out; subst e; exact h); have X4 := Lib.hid (Blk.new w4 33 #[.int .i64 0, .int .i64 0]); clear l4 k4 T3)
      go_loopw [12] (fun i wr => ∃ p : Nat, p ≤ E ∧ i = .int .i64 (5 + (p : Int)) ∧ E2 w1.heap.size w1 wr d d2 s' s ∧ Blk wr w4.heap.size 33 #[.int .i64 (0), .int .i64 (0)]) (fun i _ => 5 + E - (intOf i).toNat)
      case atStart => exact ⟨0, Nat.zero_le _, by go_num, T4.out, X4.out⟩
      case round =>
        obtain ⟨p, hp9, rfl, hT, hX⟩ := hrel
        clear T4 X4
        by_cases hlt : p < E
        · obtain ⟨hpn, hno⟩ := HE.out p hlt
          have HNO := Lib.hid hno
          have T5 := Lib.hid hT
          have X5 := Lib.hid hX
          clear hT hX hno
          go_wp2
          go_loopw [13, 14] (fun f i wr => ∃ (j : Nat) (fr : Bool), j ≤ nn ∧ f = .bool fr ∧ i = .int .i64 (5 + (p : Int) + (j : Int)) ∧ (fr = true → AllAre s.L p j false) ∧ (fr = false → ¬ AllAre s.L p nn false) ∧ E2 w1.heap.size w1 wr d d2 s' s ∧ Blk wr w4.heap.size 33 #[.int .i64 (0), .int .i64 (0)]) (fun _ i _ => 5 + p + nn + 1 - (intOf i).toNat)
          case atStart => exact ⟨0, true, Nat.zero_le _, rfl, by go_num, (fun _ k hk => by omega), (fun h => Bool.noConfusion h), T5.out, X5.out⟩
          case round =>
            obtain ⟨j, fr, hj, rfl, rfl, hf1, hf2, hT, hX⟩ := hrel
            clear T5 X5
            have T6 := Lib.hid hT
            have X6 := Lib.hid hX
            have HF1 := Lib.hid hf1
            have HF2 := Lib.hid hf2
            clear hT hX hf1 hf2
            cases fr
            · by_cases hlj : j < nn
              · go_wp2
                exact ⟨⟨p + 1, by omega, by go_num, T6.out, X6.out⟩, by simp [intOf]; omega⟩
              · go_wp2
                exact ⟨⟨p + 1, by omega, by go_num, T6.out, X6.out⟩, by simp [intOf]; omega⟩
            · by_cases hlj : j < nn
              · obtain ⟨b, hb⟩ : ∃ b, s.L.getD (p + j) false = b := ⟨_, rfl⟩
                have hsm : s.L[p + j]? = some b := by rw [← hb]; exact getD_some (by rw [HI.out.l]; omega)
                have hh9 := lhas (((5 + (p + j) : Nat)) : Int) T6.out.b ((hasE_in HI.out).trans hb)
                rw [show (((5 + (p + j) : Nat)) : Int) = 5 + (p : Int) + (j : Int) by omega] at hh9
                have HH9 := Lib.hid hh9
                have HSM := Lib.hid hsm
                clear hsm hb hh9
                go_wp2_with (go_at_call 21; refine HH9.out.mono ?_; rintro e w6 ⟨rfl, -, hb6⟩; have T7 := Lib.hid (T6.out.next hb6); have X7 := Lib.hid (X6.out.below hb6 X6.out.lt); clear hb6 T6 X6)
                refine ⟨⟨j + 1, !b, by omega, rfl, by go_num, fun h => ?_, fun h => ?_, T7.out, X7.out⟩, by simp [intOf]; omega⟩
                · refine allAre_step (HF1.out trivial) ?_
                  rw [HSM.out]
                  cases b
                  · rfl
                  · cases h
                · intro hA
                  have := hA j hlj
                  rw [HSM.out] at this
                  injection this with this
                  rw [this] at h
                  cases h
              · exfalso
                exact HNO.out (fun k hk => HF1.out rfl k (by omega))
        · obtain rfl : E = p := by omega
          have T8 := Lib.hid hT
          have X8 := Lib.hid hX
          clear hT hX
          go_wp2
          go_ret
          exact ⟨rfl, HB.out.trans (T8.out.a.below.mono HB.out.size)⟩
    | some q =>
      obtain ⟨hA, hfirst⟩ := takeP_some hnn1.1 hp
      have hle := hA.le hnn1.1
      have hl3 := HI.out.l
      have hf5 := HI.out.f
      have hx : takeX s (1 + (z : Int)) = (5 + (q : Int), (nn : Int)) := by unfold takeX firstE; rw [if_neg hnlt, htn, hp, hf5]; rfl
      have he : takeE s (1 + (z : Int)) = 0 := by unfold takeE; rw [if_neg hnlt, htn, hp]; rfl
      have hs : takeS s (1 + (z : Int)) = s.put q nn true := by unfold takeS; rw [if_neg hnlt, htn, hp]
      have hok : turnOk s (5 + (q : Int)) (nn : Int) true = true := by
        have e1 : ((5 : Int) + (q : Int) - (s.f : Int)).toNat = q := by rw [hf5]; omega
        have hto : s.to = 305 := by show s.f + s.L.length = 305; omega
        unfold turnOk coversE
        rw [e1, Int.toNat_natCast, hf5, hto, decide_eq_true (by omega)]
        exact (Bool.true_and _).trans (decide_eq_true hA)
      have hturn : turnS s (5 + (q : Int)) (nn : Int) true = s.put q nn true := by
        have e1 : ((5 : Int) + (q : Int) - (s.f : Int)).toNat = q := by rw [hf5]; omega
        unfold turnS
        rw [if_pos hok, e1, Int.toNat_natCast]
      have HTK := Lib.hid (ltake (1 + (z : Int)) T3.out.a (by omega) hx he hs)
      obtain ⟨s', hs'⟩ : ∃ s', s.put q nn true = s' := ⟨_, rfl⟩
      rw [hs'] at HTK hturn
      have HOK : Hid (turnE s (5 + (q : Int)) (nn : Int) true = 0) := Lib.hid (by unfold turnE; rw [if_pos hok])
      have HST := Lib.hid hturn
      obtain ⟨E, hE⟩ : ∃ E : Nat, q = E := ⟨_, rfl⟩
      have HE : Hid (∀ p, p < E → p + nn ≤ 300 ∧ ¬ AllAre s.L p nn false) := Lib.hid (fun p h => ⟨by omega, hfirst p (by omega)⟩)
      subst hE
      clear hx he hs hp htn hs' hnlt hok hturn hA hfirst hl3 hf5
      go_wp2_with (go_at_call 16; refine HTK.out.mono ?_; rintro e w4 ⟨rfl, l4, k4⟩; have T4 := Lib.hid ((T3.out.callA HD.out l4 k4).next ((Below.refl _ _).alloc (Nat.le_refl _) (.cells #[.int .i64 (5 + (q : Int)), .int .i64 (nn : Int)] 33))); have X4 := Lib.hid (Blk.new w4 33 #[.int .i64 (5 + (q : Int)), .int .i64 (nn : Int)]); clear l4 k4 T3)
      go_loopw [12] (fun i wr => ∃ p : Nat, p ≤ q ∧ i = .int .i64 (5 + (p : Int)) ∧ E2 w1.heap.size w1 wr d d2 s' s ∧ Blk wr w4.heap.size 33 #[.int .i64 (5 + (q : Int)), .int .i64 (nn : Int)]) (fun i _ => 5 + q - (intOf i).toNat)
      case atStart => exact ⟨0, Nat.zero_le _, by go_num, T4.out, X4.out⟩
      case round =>
        obtain ⟨p, hp9, rfl, hT, hX⟩ := hrel
        clear T4 X4
        by_cases hlt : p < q
        · obtain ⟨hpn, hno⟩ := HE.out p hlt
          have HNO := Lib.hid hno
          have T5 := Lib.hid hT
          have X5 := Lib.hid hX
          clear hT hX hno
          go_wp2
          go_loopw [13, 14] (fun f i wr => ∃ (j : Nat) (fr : Bool), j ≤ nn ∧ f = .bool fr ∧ i = .int .i64 (5 + (p : Int) + (j : Int)) ∧ (fr = true → AllAre s.L p j false) ∧ (fr = false → ¬ AllAre s.L p nn false) ∧ E2 w1.heap.size w1 wr d d2 s' s ∧ Blk wr w4.heap.size 33 #[.int .i64 (5 + (q : Int)), .int .i64 (nn : Int)]) (fun _ i _ => 5 + p + nn + 1 - (intOf i).toNat)
          case atStart => exact ⟨0, true, Nat.zero_le _, rfl, by go_num, (fun _ k hk => by omega), (fun h => Bool.noConfusion h), T5.out, X5.out⟩
          case round =>
            obtain ⟨j, fr, hj, rfl, rfl, hf1, hf2, hT, hX⟩ := hrel
            clear T5 X5
            have T6 := Lib.hid hT
            have X6 := Lib.hid hX
            have HF1 := Lib.hid hf1
            have HF2 := Lib.hid hf2
            clear hT hX hf1 hf2
            cases fr
            · by_cases hlj : j < nn
              · go_wp2
                exact ⟨⟨p + 1, by omega, by go_num, T6.out, X6.out⟩, by simp [intOf]; omega⟩
              · go_wp2
                exact ⟨⟨p + 1, by omega, by go_num, T6.out, X6.out⟩, by simp [intOf]; omega⟩
            · by_cases hlj : j < nn
              · obtain ⟨b, hb⟩ : ∃ b, s.L.getD (p + j) false = b := ⟨_, rfl⟩
                have hsm : s.L[p + j]? = some b := by rw [← hb]; exact getD_some (by rw [HI.out.l]; omega)
                have hh9 := lhas (((5 + (p + j) : Nat)) : Int) T6.out.b ((hasE_in HI.out).trans hb)
                rw [show (((5 + (p + j) : Nat)) : Int) = 5 + (p : Int) + (j : Int) by omega] at hh9
                have HH9 := Lib.hid hh9
                have HSM := Lib.hid hsm
                clear hsm hb hh9
                go_wp2_with (go_at_call 21; refine HH9.out.mono ?_; rintro e w6 ⟨rfl, -, hb6⟩; have T7 := Lib.hid (T6.out.next hb6); have X7 := Lib.hid (X6.out.below hb6 X6.out.lt); clear hb6 T6 X6)
                refine ⟨⟨j + 1, !b, by omega, rfl, by go_num, fun h => ?_, fun h => ?_, T7.out, X7.out⟩, by simp [intOf]; omega⟩
                · refine allAre_step (HF1.out trivial) ?_
                  rw [HSM.out]
                  cases b
                  · rfl
                  · cases h
                · intro hA
                  have := hA j hlj
                  rw [HSM.out] at this
                  injection this with this
                  rw [this] at h
                  cases h
              · exfalso
                exact HNO.out (fun k hk => HF1.out rfl k (by omega))
        · obtain rfl : q = p := by omega
          have T8 := Lib.hid hT
          have X8 := Lib.hid hX
          clear hT hX
          have x0 := X8.out.cell 0
          have x1 := X8.out.cell 1
          have HCL := Lib.hid (lclaim (5 + (q : Int)) (nn : Int) T8.out.b HOK.out HST.out)
          obtain ⟨m, hm⟩ : ∃ m, (takenX s').length = m := ⟨_, rfl⟩
          have hm4 : m ≤ 4096 := by rw [← hm]; exact takenX_few T8.out.a.ek.ok
          have HM := Lib.hid hm
          clear hm
          go_wp2_with (first
            | (go_at_call 19; have l0 := HCL.out; clear l0; refine HCL.out.mono ?_; rintro e w9 ⟨rfl, l9, k9⟩; have T9 := Lib.hid (T8.out.callB HD.out l9 k9); clear l9 k9 HCL T8)
            | (go_at_call 14; have l0 := T9.out; clear l0; refine (ltaken T9.out.b rfl HM.out).mono ?_; rintro e w10 ⟨A10, c10, rfl, ho, -, hb⟩; have T10 := Lib.hid (T9.out.next hb); have R10 := Lib.hid (Reads.of_own ho); clear ho hb T9)
            | (go_at_call 14; have l0 := T10.out; clear l0; refine (ltaken T10.out.a rfl HM.out).mono ?_; rintro e w11 ⟨A11, c11, rfl, ho, -, hb⟩; have T11 := Lib.hid (T10.out.next hb); have R10b := Lib.hid ((R10.out.below hb).more hb.size); have R11 := Lib.hid (Reads.of_own ho); clear ho hb T10 R10)
            | (go_at_call 13; have hs9 := same4_any A10 A11 c10 c11 m m (takenX s') (takenX s') w11 HM.out HM.out R10b.out R11.out (by omega) (by omega); rw [decide_eq_true rfl] at hs9; refine hs9.mono ?_; clear hs9; rintro e w12 ⟨rfl, hb⟩; have T12 := Lib.hid (T11.out.next hb); clear hb T11 R10b R11))
          go_ret
          exact ⟨rfl, HB.out.trans (T12.out.a.below.mono HB.out.size)⟩
end Go.Proofs.Ytghihnblohoheaa

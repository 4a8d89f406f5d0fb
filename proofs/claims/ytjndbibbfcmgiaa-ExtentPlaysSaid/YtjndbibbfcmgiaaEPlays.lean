/-
  The walk of the statement ExtentPlays: whatever is taken, claimed and given back, what is answered is the document's.
-/
import Derived.Test.YtjndbibbfcmgiaaEDo
namespace Go.Proofs.Ytjndbibbfcmgiaa
open Go.RowKit

set_option maxRecDepth 100000 in
set_option maxHeartbeats 4000000 in
theorem plays_big (f t : Int) (A : Option Addr) (n c : Nat) (W : World) (h : 150 < n) :
    Calls Try.prog 3 #[.int .i64 f, .int .i64 t, .slice A n c] W fun e w' => e = .returned (.bool true) ∧ Below W.heap.size W w' := by
  have hd : decide ((150 : Int) < (n : Int)) = true := decide_eq_true (by omega)
  go_enter Try.func3, Try.ntmps3
  go_wp2
  go_ret
  exact ⟨rfl, Below.refl _ _⟩

set_option maxRecDepth 100000 in
set_option maxHeartbeats 4000000 in
theorem plays_bad (f t : Int) (A : Option Addr) (n c : Nat) (W : World) (hn : ¬ 150 < n) (h : f < 0 ∨ t < f ∨ 4096 < t) :
    Calls Try.prog 3 #[.int .i64 f, .int .i64 t, .slice A n c] W fun e w' => e = .returned (.bool true) ∧ Below W.heap.size W w' := by
  have hd : decide ((150 : Int) < (n : Int)) = false := decide_eq_false (by omega)
  have HP := Lib.hid (enew_bad f t W h)
  have HG := Lib.hid (rnew_bad f t W h)
  clear h
  go_enter Try.func3, Try.ntmps3
  go_wp2_with (first
    | (go_at_call 4; (with_reducible refine HP.out.mono ?_); rintro e w1 ⟨rfl, rfl⟩)
    | (go_at_call 5; (with_reducible refine HG.out.mono ?_); rintro e w1 ⟨rfl, rfl⟩))
  go_ret
  exact ⟨rfl, Below.refl _ _⟩

set_option maxRecDepth 100000 in
set_option maxHeartbeats 4000000 in
theorem plays_fine (f t : Nat) (A : Option Addr) (n c : Nat) (l : List EOp) (W : World) (H : EOps W W.heap.size A n l) (hn : ¬ 150 < n) (h1 : f ≤ t) (h2 : t ≤ 4096) :
    Calls Try.prog 3 #[.int .i64 (f : Int), .int .i64 (t : Int), .slice A n c] W fun e w' => e = .returned (.bool true) ∧ Below W.heap.size W w' := by
  have hd : decide ((150 : Int) < (n : Int)) = false := decide_eq_false (by omega)
  have HH := Lib.hid H
  clear H
  obtain ⟨N, hN⟩ : ∃ N, W.heap.size = N := ⟨_, rfl⟩
  have HP := Lib.hid (lnew (N := N) (w0 := W) (w := W) f t (by omega) (Below.refl _ _) h1 h2 (s' := newE f t) rfl)
  have HG := Lib.hid (fun W => rnew_any f t W h1 h2)
  have HN := Lib.hid hN
  clear hN
  go_enter Try.func3, Try.ntmps3
  go_wp2_with (first
    | (go_at_call 4; (with_reducible refine HP.out.mono ?_); rintro e w1 ⟨d, rfl, l1, -, hf⟩; have L1 := Lib.hid l1; have HF := Lib.hid hf; clear l1 hf)
    | (go_at_call 5; (with_reducible refine (HG.out w1).mono ?_); rintro e w2 ⟨r, rfl, hr, hf, hb⟩; have T2 : Hid (DR N W w2 d r (newE f t) (newE f t)) := Lib.hid ⟨L1.out.next hb, hr, fun k hk => Nat.le_trans L1.out.lt (hf k hk), fun k h1 h2 => by have := L1.out.all_lt k h1; have := hf k h2; omega⟩; clear hr hf hb))
  obtain ⟨s0, hs0⟩ : ∃ s0, newE f t = s0 := ⟨_, rfl⟩
  rw [hs0] at T2
  clear hs0
  go_loopw [7, 43] (fun p i wr => ∃ (j : Nat) (d' : SpAt) (s : ESt), j ≤ n ∧ i = .int .i64 ((j : Nat) : Int) ∧ p = .pointer (some ⟨d'.b, 0, none⟩) ∧ DR N W wr d' r s s) (fun _ i _ => n - (intOf i).toNat)
  case atStart => exact ⟨0, d, s0, Nat.zero_le _, rfl, rfl, T2.out⟩
  case round =>
    obtain ⟨j, d', s, hj, rfl, rfl, hT⟩ := hrel
    clear T2
    by_cases hlt : j < n
    · obtain ⟨ad, rfl, hadb, dc, hfine⟩ := (HH.out.below (by rw [HN.out]; exact hT.ek.below)).at_ hlt
      generalize l[j]'(by have := HH.out.1; omega) = o at dc hfine
      obtain ⟨kd, at_, on⟩ := o
      have x0 := dc.kind
      have x1 := dc.at_
      have x2 := dc.n
      have hf2 := hfine.2
      simp only at x0 x1 x2 hf2
      have T3 := Lib.hid hT
      clear hT dc hfine
      go_wp2_with (go_at_call 6; (with_reducible refine (do_any kd at_ on hf2 T3.out).mono ?_); rintro e w4 ⟨d4, rfl, h4⟩; have T4 := Lib.hid h4; clear h4)
      exact ⟨⟨j + 1, d4, _, by omega, by go_num, rfl, T4.out⟩, by simp [intOf]; omega⟩
    · obtain rfl : n = j := by omega
      obtain ⟨l, hl⟩ : ∃ l, takenX s = l := ⟨_, rfl⟩
      obtain ⟨m, hm⟩ : ∃ m, l.length = m := ⟨_, rfl⟩
      have hm4 : m ≤ 4096 := by rw [← hm, ← hl]; exact takenX_few hT.ek.ek.ok
      obtain ⟨F, hF⟩ : ∃ F, s.L.count false = F := ⟨_, rfl⟩
      have HLE := Lib.hid (fun W0 (L : ELives N W W0 d' s) => lleft L hF)
      have HRF : Hid (∀ W, RK W r s → Calls Try.prog 8 #[.pointer (some ⟨r.b, 0, none⟩)] W fun e w' => e = .returned (.int .i64 (F : Int)) ∧ Below W.heap.size W w') := Lib.hid (fun W h => by
        have := rleft_any h
        rwa [hF] at this)
      have HRT : Hid (∀ W, RK W r s → Calls Try.prog 11 #[.pointer (some ⟨r.b, 0, none⟩)] W fun e w' => ∃ A c, e = .returned (.slice A m c) ∧ w'.ownsRow W.heap.size 33 2 (.slice A m c) m (extsC l) ∧ Below W.heap.size W w') := Lib.hid (fun W h => by
        have := rtaken_any m h (by rw [← hm, ← hl]; unfold takenX; rw [List.length_map])
        rw [ext_exts] at this
        have e : (runsAt s.L true 0).map (fun x => ((s.f : Int) + (x.1 : Int), (x.2 : Int))) = l := hl
        rwa [e] at this)
      have HTK := Lib.hid (fun W0 (L : ELives N W W0 d' s) => ltaken L hl hm)
      have HL := Lib.hid hm
      have T5 := Lib.hid hT
      clear hF hl hm hT HH
      go_wp2_with (first
        | (go_at_call 9; (have l0 := R9.out; clear l0); (have hs9 := same4_any A8 A9 c8 c9 m m l l w9 HL.out HL.out R8.out R9.out (by omega) (by omega)); rw [decide_eq_true rfl] at hs9; (with_reducible refine hs9.mono ?_); clear hs9; rintro e w10 ⟨rfl, hb⟩; have T10 := Lib.hid (T9.out.next hb); clear hb)
        | (go_at_call 11; (have l0 := T8.out; clear l0); (with_reducible refine (HRT.out w8 T8.out.rk).mono ?_); rintro e w9 ⟨A9, c9, rfl, ho, hb⟩; have T9 := Lib.hid (T8.out.next hb); have R8 := Lib.hid (((Reads.of_own HO8.out).below hb).more hb.size); have R9 := Lib.hid (Reads.of_own ho); clear ho hb)
        | (go_at_call 10; (have l0 := T7.out; clear l0); (with_reducible refine (HTK.out w7 T7.out.ek).mono ?_); rintro e w8 ⟨A8, c8, rfl, ho, -, hb⟩; have T8 := Lib.hid (T7.out.next hb); have HO8 := Lib.hid ho; clear ho hb)
        | (go_at_call 8; (have l0 := T6.out; clear l0); (with_reducible refine (HRF.out w6 T6.out.rk).mono ?_); rintro e w7 ⟨rfl, hb⟩; have T7 := Lib.hid (T6.out.next hb); clear hb)
        | (go_at_call 7; (with_reducible refine (HLE.out _ T5.out.ek).mono ?_); rintro e w6 ⟨rfl, -, hb⟩; have T6 := Lib.hid (T5.out.next hb); clear hb))
      go_ret
      exact ⟨rfl, by rw [HN.out]; exact T10.out.ek.below⟩

theorem plays_walk (f t : Int) (A : Option Addr) (n c : Nat) (l : List EOp) (W : World) (H : EOps W W.heap.size A n l) :
    Calls Try.prog 3 #[.int .i64 f, .int .i64 t, .slice A n c] W fun e w' => e = .returned (.bool true) ∧ Below W.heap.size W w' := by
  by_cases hn : 150 < n
  · exact plays_big f t A n c W hn
  · by_cases h : f < 0 ∨ t < f ∨ 4096 < t
    · exact plays_bad f t A n c W hn h
    · obtain ⟨f0, rfl⟩ := Int.eq_ofNat_of_zero_le (a := f) (by omega)
      obtain ⟨t0, rfl⟩ := Int.eq_ofNat_of_zero_le (a := t) (by omega)
      exact plays_fine f0 t0 A n c l W H hn (by omega) (by omega)
end Go.Proofs.Ytjndbibbfcmgiaa

/-
  The statement ExtentBack: the walk.
-/
import Derived.Test.YtghihnblohoheaaEHold
namespace Go.Proofs.Ytghihnblohoheaa
open Go.RowKit

set_option maxRecDepth 100000 in
set_option maxHeartbeats 1000000 in
theorem back_big (A A2 : Option Addr) (n c n2 c2 : Nat) (bk : Bool) (W : World) (h : 150 < n ∨ 30 < n2) :
    Calls Try.prog 5 #[.slice A n c, .slice A2 n2 c2, .bool bk] W fun e w' => e = .returned (.bool true) ∧ Below W.heap.size W w' := by
  by_cases hbig : 150 < n
  · clear h
    go_enter Try.func5, Try.ntmps5
    go_wp2_with (go_at_call 23; refine (alive4_any _).mono ?_; rintro e w1 ⟨rfl, hb⟩; have HB := Lib.hid hb; clear hb)
    go_ret
    exact ⟨rfl, HB.out⟩
  · have hbig2 : 30 < n2 := by omega
    clear h
    go_enter Try.func5, Try.ntmps5
    go_wp2_with (go_at_call 23; refine (alive4_any _).mono ?_; rintro e w1 ⟨rfl, hb⟩; have HB := Lib.hid hb; clear hb)
    go_ret
    exact ⟨rfl, HB.out⟩

set_option maxRecDepth 100000 in
set_option maxHeartbeats 8000000 in
theorem back_walk (A A2 : Option Addr) (n c c2 : Nat) (l : List EOp) (Z : List UInt8) (bk : Bool) (W : World) (H : EOps W W.heap.size A n l) (hz : Arg W A2 c2 Z) (hbig : ¬ 150 < n) (hbig2 : ¬ 30 < Z.length) :
    Calls Try.prog 5 #[.slice A n c, .slice A2 Z.length c2, .bool bk] W fun e w' => e = .returned (.bool true) ∧ Below W.heap.size W w' := by
  obtain ⟨i0, hi, hz0, hz1, hz2⟩ := info_parts infoX
  obtain ⟨n2, hn2⟩ : ∃ n2, Z.length = n2 := ⟨_, rfl⟩
  have HZ : Hid (∀ w', Below W.heap.size W w' → ∀ j, j < n2 → ∃ (ad : Addr) (z : Nat), A2 = some ad ∧ z ≤ 255 ∧ w'.cell? (ad.add j) = some (.int .u8 (z : Int))) := Lib.hid (fun w' hb j hj => by
    obtain ⟨ad, u, e, _, hu, hc⟩ := (hz.reads.below hb).at_ (by omega : j < Z.length)
    rw [List.getElem?_map, List.getElem?_eq_getElem (by omega)] at hu
    injection hu with hu
    exact ⟨ad, Z[j].toNat, e, by have := Z[j].toNat_lt; omega, by rw [hc]; exact congrArg some hu.symm⟩)
  rw [hn2] at hbig2 ⊢
  clear hz hn2
  have HMD : Hid (∀ w', Below W.heap.size W w' → Calls Try.prog 24 #[.slice A n c] w' fun e w'' => ∃ (d : SpAt) (s : ESt), e = .returned (.pointer (some ⟨d.b, 0, none⟩)) ∧ ELives w'.heap.size w' w'' d s ∧ Is300 s ∧ Below w'.heap.size w' w'' ∧ (n = 0 → s = newE 5 305)) := Lib.hid (fun w' hb => made4_any A n c l W.heap.size w' (H.below hb) hb.size (by omega))
  clear H
  go_enter Try.func5, Try.ntmps5
  go_wp2_with (first
    | (go_at_call 23; refine (alive4_any _).mono ?_; rintro e w1 ⟨rfl, hb⟩; have HB := Lib.hid hb; clear hb)
    | (go_at_call 24; refine (HMD.out _ HB.out).mono ?_; rintro e w2 ⟨d, s, rfl, l2, hI, hb, -⟩; have L2 := Lib.hid l2; have HI := Lib.hid hI; clear l2 hb hI; obtain ⟨m, hm⟩ : ∃ m, (takenX s).length = m := ⟨_, rfl⟩; have hm4 : m ≤ 4096 := by { rw [← hm]; exact takenX_few L2.out.ek.ok }; have HM := Lib.hid hm; clear hm; obtain ⟨F, hF⟩ : ∃ F, s.L.count false = F := ⟨_, rfl⟩; have hF3 : F ≤ 300 := by { have h1 := HI.out.l; have h2 := List.count_le_length (a := false) (l := s.L); omega }; have HF := Lib.hid hF; clear hF)
    | (go_at_call 14; refine (ltaken L2.out rfl HM.out).mono ?_; rintro e w3 ⟨A3, c3, rfl, ho, l3, hb⟩; have HW := Lib.hid ho; have L3 := Lib.hid l3; have HFT : Hid (∀ k, d.foot k → k < w2.heap.size) := Lib.hid L2.out.all_lt; clear ho l3 hb)
    | (go_at_call 11; refine (lleft L3.out HF.out).mono ?_; rintro e w4 ⟨rfl, l4, hb⟩; have HB4 := Lib.hid hb; have L4 := Lib.hid l4; clear l4 hb))
  have HM1 := Lib.hid HB.out.size
  have T0 : Hid (BS w1.heap.size w1 w4 w4 d s none 0 0 []) := Lib.hid ⟨L4.out, Keep.refl _ _, World.ownsRow_nil _ _ _ _, L4.out.all_lt, L4.out.lt⟩
  have HW4 : Hid (w4.ownsRow w2.heap.size 33 2 (.slice A3 m c3) m (extsC (takenX s))) := Lib.hid ((Keep.of_below (S := fun _ => False) HB4.out).own HW.out (fun _ _ e => e))
  clear HMD HM1 HB4 L4 L3 L2 HW
  go_loopw [10, 11, 45] (fun lf own i wr => ∃ (j : Nat) (xs : List (Nat × Nat)) (s' : ESt) (f x : Nat) (A' : Option Addr) (c' : Nat), j ≤ n2 ∧ i = .int .i64 ((j : Nat) : Int) ∧ lf = .int .i64 ((f : Nat) : Int) ∧ own = .slice A' x c' ∧ xs.length = x ∧ x ≤ j ∧ s'.L.count false = f ∧ f ≤ 300 ∧ hold s xs = s' ∧ Frees s.L xs ∧ BS w1.heap.size w1 w4 wr d s' A' x c' (extsC (extsP xs))) (fun _ _ i _ => n2 - (intOf i).toNat)
  case atStart => exact ⟨0, [], s, F, 0, none, 0, Nat.zero_le _, rfl, rfl, rfl, rfl, Nat.le_refl _, HF.out, hF3, hold_nil s, Frees.nil _, T0.out⟩
  case round =>
    obtain ⟨j, xs, s', f, x, A', c', hj, rfl, rfl, rfl, hx, hxj, hf, hf3, hs', hfr, hT⟩ := hrel
    clear T0
    by_cases hlt : j < n2
    · obtain ⟨ad, z, rfl, hz255, hcz⟩ := HZ.out wr (HB.out.trans (hT.l.below.mono HB.out.size)) j hlt
      obtain ⟨nn, hnn⟩ : ∃ nn : Nat, z + 1 = nn := ⟨_, rfl⟩
      have hnz : (nn : Int) = 1 + (z : Int) := by omega
      obtain ⟨M, hM⟩ : ∃ M, mostOf (runsAt s'.L false 0) = M := ⟨_, rfl⟩
      have T1 := Lib.hid hT
      have HMM := Lib.hid hM
      have HFR := Lib.hid hfr
      have HS' := Lib.hid hs'
      have HX := Lib.hid hx
      have HFF := Lib.hid hf
      have h9 := take_hold HI.out hfr (nn := nn) (by omega)
      rw [hs', hM] at h9
      clear hT hM hfr hs' hx hf
      rcases h9 with ⟨_, hx9, he9, hs9, hm9⟩ | ⟨q, hA9, hq9, hx9, he9, hs9, hm9, hf9, hc9, ha9⟩
      · have HTK : Hid (∀ w', BS w1.heap.size w1 w4 w' d s' A' x c' (extsC (extsP xs)) → Calls Try.prog 16 #[.pointer (some ⟨d.b, 0, none⟩), .int .i64 (1 + (z : Int))] w' fun e w'' => e = .returned (.tuple #[.agg #[.int .i64 0, .int .i64 0], .int .i64 41]) ∧ BS w1.heap.size w1 w4 w'' d s' A' x c' (extsC (extsP xs))) := Lib.hid (fun w' h => by
          rw [← hnz]
          refine (ltake (nn : Int) h.l (by omega) hx9 he9 hs9).mono ?_
          rintro e w'' ⟨rfl, hl, hk⟩
          exact ⟨rfl, h.call hl hk⟩)
        have hM9 : M < 1 + z := by omega
        clear hx9 he9 hs9 hm9
        go_wp2_with (first
          | (go_at_call 22; refine (lcopy T1.out.l).mono ?_; rintro e w5 ⟨d2, rfl, l5, l5', hb, hf⟩; have T2 := Lib.hid (T1.out.next hb); clear l5 l5' hb hf T1)
          | (go_at_call 20; refine (llongest T2.out.l HMM.out).mono ?_; rintro e w6 ⟨rfl, -, hb⟩; have T3 := Lib.hid (T2.out.next hb); clear hb T2)
          | (go_at_call 16; refine (HTK.out _ T3.out).mono ?_; rintro e w7 ⟨rfl, h7⟩; have T4 := Lib.hid (h7.next ((Below.refl _ _).alloc (Nat.le_refl _) (.cells #[.int .i64 0, .int .i64 0] 33))); clear h7 T3))
        refine ⟨⟨j + 1, xs, s', f, x, A', c', by omega, by go_num, rfl, rfl, HX.out, by omega, HFF.out, hf3, HS'.out, HFR.out, T4.out⟩, by simp [intOf]; omega⟩
      · have hM9 : ¬ M < 1 + z := by omega
        obtain ⟨s2, hs2⟩ : ∃ s2, hold s (xs ++ [(q, nn)]) = s2 := ⟨_, rfl⟩
        rw [hs2] at hs9 hc9 ha9
        obtain ⟨f2, hf2⟩ : ∃ f2, s2.L.count false = f2 := ⟨_, rfl⟩
        have hfi : (f : Int) - (1 + (z : Int)) = (f2 : Int) := by have := HFF.out; omega
        have hf23 : f2 ≤ 300 := by have := HFF.out; omega
        have h3' : Is300 s' := by have h := HI.out.hold xs; rw [HS'.out] at h; exact h
        have h32 : Is300 s2 := by have h := HI.out.hold (xs ++ [(q, nn)]); rw [hs2] at h; exact h
        have HTK : Hid (∀ w', BS w1.heap.size w1 w4 w' d s' A' x c' (extsC (extsP xs)) → Calls Try.prog 16 #[.pointer (some ⟨d.b, 0, none⟩), .int .i64 (1 + (z : Int))] w' fun e w'' => e = .returned (.tuple #[.agg #[.int .i64 (5 + (q : Int)), .int .i64 (1 + (z : Int))], .int .i64 0]) ∧ BS w1.heap.size w1 w4 w'' d s2 A' x c' (extsC (extsP xs)) ∧ Keep (fun k => k = d.g) w' w'') := Lib.hid (fun w' h => by
          rw [hnz] at hx9 he9 hs9
          refine (ltake (1 + (z : Int)) h.l (by omega) hx9 he9 hs9).mono ?_
          rintro e w'' ⟨rfl, hl, hk⟩
          exact ⟨rfl, h.call hl hk, hk⟩)
        have HH1 : Hid (∀ p, p < nn → hasE s' (5 + (q : Int) + (p : Int)) = false) := Lib.hid (fun p hp => by
          have h := hasE_in h3' (p := q + p)
          rw [show (((5 + (q + p) : Nat)) : Int) = 5 + (q : Int) + (p : Int) by omega] at h
          rw [h]
          have := hA9 p hp
          rw [List.getD_eq_getElem?_getD, this]
          rfl)
        have HH2 : Hid (∀ p, p < nn → hasE s2 (5 + (q : Int) + (p : Int)) = true) := Lib.hid (fun p hp => by
          have h := hasE_in h32 (p := q + p)
          rw [show (((5 + (q + p) : Nat)) : Int) = 5 + (q : Int) + (p : Int) by omega] at h
          rw [h]
          have := ha9 p hp
          rw [List.getD_eq_getElem?_getD, this]
          rfl)
        have HSN : Hid (extsC (extsP (xs ++ [(q, nn)])) = extsC (extsP xs) ++ [.int .i64 (5 + (q : Int)), .int .i64 (1 + (z : Int))]) := Lib.hid (by rw [extsP_snoc, hnz])
        have HF2 := Lib.hid hf2
        have HS2 := Lib.hid hs2
        have HFR2 := Lib.hid hf9
        clear hx9 he9 hs9 hm9 hA9 ha9 hc9 hf2 hs2 hf9 h3' h32
        go_wp2_with (first
          | (go_at_call 22; refine (lcopy T1.out.l).mono ?_; rintro e w5 ⟨d2, rfl, l5, l5', hb, hf⟩; have HD : Hid (EDis d2 d) := Lib.hid (fun k h1 h2 => by have := T1.out.l.all_lt k h2; have := hf k h1; omega); have P2 := Lib.hid l5; have T2 := Lib.hid (T1.out.next hb); clear l5 l5' hb hf T1)
          | (go_at_call 20; refine (llongest T2.out.l HMM.out).mono ?_; rintro e w6 ⟨rfl, -, hb⟩; have P3 := Lib.hid (P2.out.next hb); have T3 := Lib.hid (T2.out.next hb); clear hb T2 P2)
          | (go_at_call 16; refine (HTK.out _ T3.out).mono ?_; rintro e w7 ⟨rfl, h7, k7⟩; have HNE : Hid (∀ g, (Value.slice A' x c').ownBlock = some g → g ≠ w7.heap.size) := Lib.hid (fun g hg => by have := (own_in T3.out.o g hg).2.1; have := k7.size; omega); have P4 := Lib.hid ((P3.out.other T3.out.l HD.out k7).next ((Below.refl _ _).alloc (Nat.le_refl _) (.cells #[.int .i64 (5 + (q : Int)), .int .i64 (1 + (z : Int))] 33))); have T4 := Lib.hid (h7.next ((Below.refl _ _).alloc (Nat.le_refl _) (.cells #[.int .i64 (5 + (q : Int)), .int .i64 (1 + (z : Int))] 33))); have X4 := Lib.hid (Blk.new w7 33 #[.int .i64 (5 + (q : Int)), .int .i64 (1 + (z : Int))]); clear h7 k7 T3 P3))
        go_loopw [18] (fun i wr => ∃ p : Nat, p ≤ nn ∧ i = .int .i64 (5 + (q : Int) + (p : Int)) ∧ BS w1.heap.size w1 w4 wr d s2 A' x c' (extsC (extsP xs)) ∧ ELives w1.heap.size w1 wr d2 s' ∧ Blk wr w7.heap.size 33 #[.int .i64 (5 + (q : Int)), .int .i64 (1 + (z : Int))]) (fun i _ => 5 + q + nn - (intOf i).toNat)
        case atStart => exact ⟨0, Nat.zero_le _, by go_num, T4.out, P4.out, X4.out⟩
        case round =>
          obtain ⟨p, hp9, rfl, hT, hP, hXb⟩ := hrel
          clear T4 P4 X4
          have x0 := hXb.cell 0
          have x1 := hXb.cell 1
          have T5 := Lib.hid hT
          have P5 := Lib.hid hP
          have X5 := Lib.hid hXb
          clear hT hP hXb
          by_cases hpn : p < nn
          · have hp1 : p < 1 + z := by omega
            go_wp2_with (first
              | (go_at_call 21; have l0 := P5.out; clear l0; refine (lhas (5 + (q : Int) + (p : Int)) P5.out (HH1.out p hpn)).mono ?_; rintro e w8 ⟨rfl, h8, hb⟩; have T6 := Lib.hid (T5.out.next hb); have P6 := Lib.hid h8; have X6 := Lib.hid (X5.out.below hb X5.out.lt); clear hb h8 T5 P5 X5)
              | (go_at_call 21; have l0 := P6.out; clear l0; refine (lhas (5 + (q : Int) + (p : Int)) T6.out.l (HH2.out p hpn)).mono ?_; rintro e w9 ⟨rfl, -, hb⟩; have T7 := Lib.hid (T6.out.next hb); have P7 := Lib.hid (P6.out.next hb); have X7 := Lib.hid (X6.out.below hb X6.out.lt); clear hb T6 P6 X6))
            exact ⟨⟨p + 1, by omega, by go_num, T7.out, P7.out, X7.out⟩, by simp [intOf]; omega⟩
          · obtain rfl : nn = p := by omega
            have hp1 : ¬ nn < 1 + z := by omega
            have hal : Below wr.heap.size wr (wr.alloc (.cells #[.int .i64 (5 + (q : Int)), .int .i64 (1 + (z : Int))] 33)) := (Below.refl _ _).alloc (Nat.le_refl _) _
            have T6 := Lib.hid (T5.out.next hal)
            have X6 := Lib.hid (X5.out.below hal X5.out.lt)
            have HRD : Hid (Reads (wr.alloc (.cells #[.int .i64 (5 + (q : Int)), .int .i64 (1 + (z : Int))] 33)) (wr.heap.size + 1) 2 (some ⟨wr.heap.size, 0, none⟩) 1 [.int .i64 (5 + (q : Int)), .int .i64 (1 + (z : Int))]) := Lib.hid ⟨rfl, fun _ => ⟨_, rfl, Nat.lt_succ_self _, fun j u hu => by
              rw [Addr.add_mid, Nat.zero_add, (Blk.new wr 33 _).cell j, List.getElem?_toArray]
              exact hu⟩⟩
            have H1C : Hid (∀ u ∈ ([.int .i64 (5 + (q : Int)), .int .i64 (1 + (z : Int))] : List Value), u.oneCell' = true) := Lib.hid (by
              intro u hu
              rcases List.mem_cons.1 hu with rfl | hu
              · rfl
              · rw [List.mem_singleton.1 hu]; rfl)
            have HSZ : Hid (w4.heap.size ≤ (wr.alloc (.cells #[.int .i64 (5 + (q : Int)), .int .i64 (1 + (z : Int))] 33)).heap.size) := Lib.hid (Nat.le_trans T5.out.k.size hal.size)
            clear T5 P5 X5 hal
            go_wp2_with (first
              | (at_builtin; refine wpList_append_any _ rfl _ _ 38 rfl w4.heap.size 33 i0 (.agg #[.int .i64 0, .int .i64 0]) 2 16 Try.underlying38 hi hz0 hz1 hz2 rfl (by decide) _ x _ rfl T6.out.o (wr.heap.size + 1) (some ⟨wr.heap.size, 0, none⟩) 1 1 [.int .i64 (5 + (q : Int)), .int .i64 (1 + (z : Int))] rfl HRD.out H1C.out (by unfold maxLen; omega) (by omega) HSZ.out ?_; intro v' w9 hown hgrow _; obtain ⟨A9, c9, rfl, h9⟩ := T6.out.grow (by rw [← HSN.out] at hown; exact hown) hgrow; have X9 := X6.out.grown hgrow (fun e => HNE.out _ e.symm rfl); have y0 := X9.cell 0; have y1 := X9.cell 1; have T9 := Lib.hid h9; clear h9 hown hgrow X9 T6 X6 HRD)
              | (go_at_call 11; have l0 := T9.out; clear l0; refine (lleft T9.out.l HF2.out).mono ?_; rintro e w10 ⟨rfl, -, hb⟩; have T10 := Lib.hid (T9.out.next hb); clear hb T9))
            refine ⟨⟨j + 1, xs ++ [(q, nn)], s2, f2, x + 1, A9, c9, by omega, by go_num, rfl, rfl, by rw [List.length_append, HX.out]; rfl, by omega, HF2.out, hf23, HS2.out, HFR2.out, T10.out⟩, by simp [intOf]; omega⟩
    · obtain rfl : n2 = j := by omega
      clear HZ HF
      have hx30 : x ≤ 30 := by omega
      have HX := Lib.hid hx
      have T1 := Lib.hid hT
      have HFR := Lib.hid hfr
      have HS' := Lib.hid hs'
      clear hT hfr hs' hf hx
      go_wp2
      go_loopw [119] (fun i wr => ∃ (k : Nat) (s2 : ESt), k ≤ x ∧ i = .int .i64 ((k : Nat) : Int) ∧ hold s (remR bk xs k) = s2 ∧ Frees s.L (remR bk xs k) ∧ BS w1.heap.size w1 w4 wr d s2 A' x c' (extsC (extsP xs))) (fun i _ => x - (intOf i).toNat)
      case atStart => exact ⟨0, s', Nat.zero_le _, rfl, by rw [rem_zero]; exact HS'.out, by rw [rem_zero]; exact HFR.out, T1.out⟩
      case round =>
        obtain ⟨k, s2, hk, rfl, hs2, hfr, hT⟩ := hrel
        clear T1
        by_cases hlt : k < x
        · have hkx : k < xs.length := by rw [HX.out]; exact hlt
          obtain ⟨a, b, h1, h2⟩ := rem_step bk xs hkx
          have hid := idx_lt (bk := bk) hkx
          have hel : (extsP xs).length = x := by unfold extsP; rw [List.length_map, HX.out]
          obtain ⟨ad, rfl, _, cA, cA1⟩ := reads_ext (Reads.of_own hT.o) hel (j := idxR bk xs.length k) (by rw [← HX.out]; exact hid)
          have hget : (extsP xs)[idxR bk xs.length k]'(by rw [hel, ← HX.out]; exact hid) = (5 + ((xs[idxR bk xs.length k]'hid).1 : Int), ((xs[idxR bk xs.length k]'hid).2 : Int)) := List.getElem_map ..
          rw [hget] at cA cA1
          rw [h1] at hfr hs2
          have htg := turn_give HI.out hfr
          have hf2 := (hold_give hfr).2.2
          generalize xs[idxR bk xs.length k]'hid = r at *
          obtain ⟨r1, r2⟩ := r
          simp only at cA cA1 htg
          rw [hs2] at htg
          obtain ⟨s3, hs3⟩ : ∃ s3, hold s (a ++ b) = s3 := ⟨_, rfl⟩
          rw [hs3] at htg
          rw [← h2] at hs3 hf2
          have HGV : Hid (∀ w', BS w1.heap.size w1 w4 w' d s2 (some ad) x c' (extsC (extsP xs)) → Calls Try.prog 17 #[.pointer (some ⟨d.b, 0, none⟩), .agg #[.int .i64 (5 + (r1 : Int)), .int .i64 (r2 : Int)]] w' fun e w'' => e = .returned (.int .i64 0) ∧ BS w1.heap.size w1 w4 w'' d s3 (some ad) x c' (extsC (extsP xs))) := Lib.hid (fun w' h => by
            refine (lgive (5 + (r1 : Int)) (r2 : Int) h.l htg.1 htg.2).mono ?_
            rintro e w'' ⟨rfl, hl, hk⟩
            exact ⟨rfl, h.call hl hk⟩)
          have HS3 := Lib.hid hs3
          have HFR3 := Lib.hid hf2
          have T2 := Lib.hid hT
          rw [HX.out] at cA cA1 hid
          clear hT hfr hs2 hs3 hf2 htg hget h1 h2 hel hkx
          cases bk
          · have hid2 : idxR false x k = k := rfl
            rw [hid2] at cA cA1
            clear hid hid2
            go_wp2_with (go_at_call 17; refine (HGV.out _ T2.out).mono ?_; rintro e w7 ⟨rfl, h7⟩; have T4 := Lib.hid h7; clear h7 T2)
            refine ⟨⟨k + 1, s3, by omega, by go_num, HS3.out, HFR3.out, T4.out⟩, by simp [intOf]; omega⟩
          · have hid2 : idxR true x k = x - 1 - k := rfl
            rw [hid2] at cA cA1 hid
            obtain ⟨u, hu⟩ : ∃ u, x - 1 - k = u := ⟨_, rfl⟩
            rw [hu] at cA cA1 hid
            have hui : (x : Int) - 1 - (k : Int) = (u : Int) := by omega
            clear hid2 hu
            go_wp2_with (go_at_call 17; refine (HGV.out _ T2.out).mono ?_; rintro e w7 ⟨rfl, h7⟩; have T4 := Lib.hid h7; clear h7 T2)
            refine ⟨⟨k + 1, s3, by omega, by go_num, HS3.out, HFR3.out, T4.out⟩, by simp [intOf]; omega⟩
        · obtain rfl : x = k := by omega
          have hs9 : s = s2 := by
            rw [← hs2, ← HX.out, rem_all, hold_nil]
          subst hs9
          have T2 := Lib.hid hT
          clear hs2 hfr hT
          go_wp2_with (first
            | (go_at_call 14; refine (ltaken T2.out.l rfl HM.out).mono ?_; rintro e w11 ⟨A11, c11, rfl, ho, -, hb⟩; have T3 := Lib.hid (T2.out.next hb); have R11 := Lib.hid (Reads.of_own ho); clear ho hb T2)
            | (go_at_call 13; have hs9 := same4_any A11 A3 c11 c3 m m (takenX s) (takenX s) w11 HM.out HM.out R11.out ((T3.out.was HW4.out HFT.out).more T3.out.k.size) (by omega) (by omega); rw [decide_eq_true rfl] at hs9; refine hs9.mono ?_; clear hs9; rintro e w12 ⟨rfl, hb⟩; have T4 := Lib.hid (T3.out.next hb); clear hb T3 R11))
          go_ret
          exact ⟨rfl, HB.out.trans (T4.out.l.below.mono HB.out.size)⟩
end Go.Proofs.Ytghihnblohoheaa

/-
  The walk of the statement TileTurned: with bits turned within 32 that follow one another, ahead of the sum, a tile's bytes are sound no more.
-/
import Derived.Test.YtpededkfgjmhcaaTLaw
import Derived.Test.YtpededkfgjmhcaaCrcBursts
namespace Go.Proofs.Ytpededkfgjmhcaa.tileTurned
open Go.RowKit Go.Proofs.Ytpededkfgjmhcaa.crc Go.Proofs.Ytpededkfgjmhcaa.crcSeals Go.Proofs.Ytpededkfgjmhcaa.crcJoins Go.Proofs.Ytpededkfgjmhcaa.crcBursts Go.Proofs.Ytpededkfgjmhcaa.tile

theorem cells1 {w : World} {q : Nat} {x y z u : Value} (hb : Blk w q 24 #[x, y, z, u]) : ∀ W, Below w.heap.size w W → W.cell? ⟨q, 0, none⟩ = some x ∧ W.cell? ⟨q, 1, none⟩ = some y ∧ W.cell? ⟨q, 2, none⟩ = some z ∧ W.cell? ⟨q, 3, none⟩ = some u := fun W h => by
  have hb := hb.below h hb.lt
  exact ⟨hb.cell 0, hb.cell 1, hb.cell 2, hb.cell 3⟩

section
variable (t : TV) (s : Int) (A : Option Addr) (n c : Nat) (a b : Nat) (w : World)

set_option maxRecDepth 100000 in
set_option maxHeartbeats 4000000 in
theorem walk_big (h : 1500 < n ∨ b = 0) (hn : n ≤ 9223372036854775807) :
    Calls Try.prog 8 #[tv t A n c, .int .i64 s, .int .u16 a, .int .u32 b] w fun e w' => e = .returned (.bool true) ∧ Below w.heap.size w w' := by
  have hb0 : Below w.heap.size w (w.alloc (.cells #[.int .i64 t.file, .int .i64 t.no, .int .i64 t.kind, .slice A n c] 24)) := (Below.refl _ _).alloc (Nat.le_refl _) _
  have HX := Lib.hid (cells1 (Blk.new w 24 #[.int .i64 t.file, .int .i64 t.no, .int .i64 t.kind, .slice A n c]))
  have HB := Lib.hid hb0
  clear hb0
  unfold tv
  by_cases h1 : 1500 < n
  · have hd : decide ((1500 : Int) < (n : Int)) = true := decide_eq_true (by omega)
    go_enter Try.func8, Try.ntmps8
    go_wp2_with (go_at_call 19; refine (talive_any _).mono ?_; rintro e w1 ⟨rfl, b1⟩; obtain ⟨x0, x1, x2, x3⟩ := HX.out w1 b1; have B1 := Lib.hid (HB.out.trans (b1.mono HB.out.size)); clear b1)
    go_ret
    exact ⟨rfl, B1.out⟩
  · have hd : decide ((1500 : Int) < (n : Int)) = false := decide_eq_false (by omega)
    obtain rfl : b = 0 := by omega
    go_enter Try.func8, Try.ntmps8
    go_wp2_with (go_at_call 19; refine (talive_any _).mono ?_; rintro e w1 ⟨rfl, b1⟩; obtain ⟨x0, x1, x2, x3⟩ := HX.out w1 b1; have B1 := Lib.hid (HB.out.trans (b1.mono HB.out.size)); clear b1)
    go_ret
    exact ⟨rfl, B1.out⟩

set_option maxRecDepth 100000 in
set_option maxHeartbeats 4000000 in
theorem walk_bad (ht : TEl w t A n) (hn : n ≤ 1500) (hb : b ≠ 0) (hok : okT t s = false) :
    Calls Try.prog 8 #[tv t A n c, .int .i64 s, .int .u16 a, .int .u32 b] w fun e w' => e = .returned (.bool true) ∧ Below w.heap.size w w' := by
  have hb0 : Below w.heap.size w (w.alloc (.cells #[.int .i64 t.file, .int .i64 t.no, .int .i64 t.kind, .slice A n c] 24)) := (Below.refl _ _).alloc (Nat.le_refl _) _
  have HX := Lib.hid (cells1 (Blk.new w 24 #[.int .i64 t.file, .int .i64 t.no, .int .i64 t.kind, .slice A n c]))
  have HB := Lib.hid hb0
  have HT := Lib.hid (ht.below hb0)
  have HE := Lib.hid (enc_no (m := n) hok)
  have hd : decide ((1500 : Int) < (n : Int)) = false := decide_eq_false (by omega)
  have hbb : ((b : Int) == 0) = false := by rw [beq_eq_false_iff_ne]; omega
  clear hb0 ht hok
  unfold tv at *
  go_enter Try.func8, Try.ntmps8
  go_wp2_with (first
    | (go_at_call 9; (with_reducible refine (HE.out A c w1 (HT.out.below N1.out)).mono ?_); rintro e w2 ⟨A2, c2, rfl, o2, b2⟩; have B2 := Lib.hid (B1.out.trans (b2.mono B1.out.size)); clear o2 b2)
    | (go_at_call 19; refine (talive_any _).mono ?_; rintro e w1 ⟨rfl, b1⟩; obtain ⟨x0, x1, x2, x3⟩ := HX.out w1 b1; have N1 := Lib.hid b1; have B1 := Lib.hid (HB.out.trans (b1.mono HB.out.size)); clear b1))
  go_ret
  exact ⟨rfl, B2.out⟩

set_option maxRecDepth 100000 in
set_option maxHeartbeats 4000000 in
theorem walk_ok (ht : TEl w t A n) (hn : n ≤ 1500) (hb : b ≠ 0) (ha : a < 65536) (hb32 : b < 4294967296) (hok : okT t s = true) :
    Calls Try.prog 8 #[tv t A n c, .int .i64 s, .int .u16 a, .int .u32 b] w fun e w' => e = .returned (.bool true) ∧ Below w.heap.size w w' := by
  have hb0 : Below w.heap.size w (w.alloc (.cells #[.int .i64 t.file, .int .i64 t.no, .int .i64 t.kind, .slice A n c] 24)) := (Below.refl _ _).alloc (Nat.le_refl _) _
  have HX := Lib.hid (cells1 (Blk.new w 24 #[.int .i64 t.file, .int .i64 t.no, .int .i64 t.kind, .slice A n c]))
  have HB := Lib.hid hb0
  have HT := Lib.hid (ht.below hb0)
  obtain ⟨hs, _, _, _, h4, _, _⟩ := okT_of hok
  obtain ⟨m, hm⟩ : ∃ m, 128 * s.toNat = m := ⟨_, rfl⟩
  obtain ⟨X, hX1⟩ : ∃ X, bytesT t s.toNat = X := ⟨_, rfl⟩
  have hXl : X.length = m := by rw [← hX1, bytesT_length h4, hm]
  have hm2 : 128 ≤ m ∧ m ≤ 8192 := by omega
  have hturn : ∀ fr, fr + 32 ≤ 8 * (m - 4) → isSealed (turned X fr b 32) = false := fun fr h => by
    rw [← hX1]
    exact body_turned (bodyT t s.toNat) fr b (by rw [bodyT_length h4]; omega) hb32 hb
  have HE := Lib.hid (enc_ok (m := n) hok hX1 hXl)
  have HTU := Lib.hid hturn
  have HXL := Lib.hid hXl
  have HM2 := Lib.hid hm2
  have hd : decide ((1500 : Int) < (n : Int)) = false := decide_eq_false (by omega)
  have hd8 : decide ((m : Int) < 8) = false := decide_eq_false (by omega)
  have hbb : ((b : Int) == 0) = false := by rw [beq_eq_false_iff_ne]; omega
  obtain ⟨Q, hQ1⟩ : ∃ Q, 8 * (m - 4) - 31 = Q := ⟨_, rfl⟩
  have hQ : (8 : Int) * ((m : Int) - 4) - 31 = (Q : Int) := by omega
  have hfr : (a : Int) % (Q : Int) = ((a % Q : Nat) : Int) := rfl
  have hfq : a % Q < Q := Nat.mod_lt _ (by omega)
  have hQ0 : 0 < Q := by omega
  have HQ1 := Lib.hid hQ1
  have HQ := Lib.hid hQ
  have HFR := Lib.hid hfr
  clear hb0 ht hok hX1 hXl hturn h4 hs hQ1 hQ hfr hm
  unfold tv at HE ⊢
  go_enter Try.func8, Try.ntmps8
  go_wp2_with (first
    | (go_at_call 9; (with_reducible refine (HE.out A c w1 (HT.out.below N1.out)).mono ?_); rintro e w2 ⟨A2, c2, rfl, o2, b2⟩; have B2 := Lib.hid (B1.out.trans (b2.mono B1.out.size)); have O2 := Lib.hid o2; have N2 := Lib.hid b2; have hq9 := HQ.out; clear o2 b2)
    | (go_at_call 19; refine (talive_any _).mono ?_; rintro e w1 ⟨rfl, b1⟩; obtain ⟨x0, x1, x2, x3⟩ := HX.out w1 b1; have N1 := Lib.hid b1; have B1 := Lib.hid (HB.out.trans (b1.mono HB.out.size)); clear b1))
  generalize a % Q = fr at *
  obtain ⟨gX, rfl⟩ : ∃ g, A2 = some ⟨g, 0, none⟩ := by
    rcases O2.out.2 with ⟨_, h0⟩ | ⟨g, cap, cur, e, _⟩
    · omega
    · injection e with e
      exact ⟨_, e⟩
  have hfr := HFR.out
  rw [hfr]
  have HFQ := Lib.hid hfq
  clear hfr hfq hq9 HFR HE HX
  go_loopw [13] (fun i wr => ∃ k, k ≤ 32 ∧ i = .int .i64 ((k : Nat) : Int) ∧ wr.ownsRow w1.heap.size 5 1 (.slice (some ⟨gX, 0, none⟩) m c2) m ((turned X fr b k).map bv) ∧ Below w1.heap.size w1 wr) (fun i _ => 32 - (intOf i).toNat)
  case atStart => exact ⟨0, by omega, rfl, O2.out, N2.out⟩
  case round =>
    obtain ⟨k, hk, rfl, hown, hB⟩ := hrel
    by_cases hlt : k < 32
    · have hm : bits .and .u32 ((b : Int) / 2 ^ k) 1 = (((b.testBit k).toNat : Nat) : Int) := by
        rw [Nat.testBit_eq_decide_div_mod_eq]
        have h0 : ((b : Int) / 2 ^ k) = ((b / 2 ^ k : Nat) : Int) := by simp
        have hq : b / 2 ^ k < 4294967296 := Nat.lt_of_le_of_lt (Nat.div_le_self _ _) hb32
        rw [h0]
        generalize b / 2 ^ k = q at hq
        have h := u32_and_nat q 1 (by omega) (by omega)
        rw [Nat.and_one_is_mod] at h
        refine h.trans ?_
        rcases Nat.mod_two_eq_zero_or_one q with h | h <;> simp [h]
      cases htb : b.testBit k
      · rw [htb] at hm
        have hnext : turned X fr b (k + 1) = turned X fr b k := by
          show (if b.testBit k = true then _ else _) = _
          rw [htb]
          rfl
        have HN := Lib.hid hnext
        have HO := Lib.hid hown
        have HB := Lib.hid hB
        clear hnext hown hB htb
        go_wp2
        exact ⟨⟨k + 1, by omega, by go_num, by rw [HN.out]; exact HO.out, HB.out⟩, by simp [intOf]; omega⟩
      · rw [htb] at hm
        have hnext : turned X fr b (k + 1) = crc.flip (turned X fr b k) (fr + k) := by
          show (if b.testBit k = true then _ else _) = _
          rw [htb]
          rfl
        have hlen := turned_length X fr b k
        rw [HXL.out] at hlen
        generalize turned X fr b k = Y at *
        obtain ⟨Y', hY'⟩ : ∃ Y', turned X fr b (k + 1) = Y' := ⟨_, rfl⟩
        have HYN := Lib.hid hY'
        rw [hY'] at hnext
        clear hY'
        have hq8 : (fr + k) / 8 < m := by have := HFQ.out; have := HQ1.out; have := HM2.out; omega
        obtain ⟨x, hx⟩ : ∃ x, Y[(fr + k) / 8]? = some x := ⟨_, List.getElem?_eq_getElem (by omega)⟩
        have hi1 : ((fr : Int) + (k : Int)) / 8 = (((fr + k) / 8 : Nat) : Int) := rfl
        have hi2 : ((fr : Int) + (k : Int)) % 8 = (((fr + k) % 8 : Nat) : Int) := rfl
        have hcell : wr.cell? ⟨gX, (fr + k) / 8, none⟩ = some (.int .u8 (x.toNat : Int)) := by
          have h := hown.cells (g := gX) rfl ((fr + k) / 8) (bv x) (by rw [List.getElem?_map, hx]; rfl)
          have hp : (⟨gX, 0, none⟩ : Addr).add ((fr + k) / 8) = ⟨gX, (fr + k) / 8, none⟩ := by unfold Addr.add; split <;> simp_all
          rw [hp] at h
          exact h
        have hfz : wr.frozen? ⟨gX, (fr + k) / 8, none⟩ = false := by
          obtain ⟨_, _, hf⟩ := own_bys hown ((fr + k) / 8) hq8
          exact hf
        have hfl : Y' = Y.set ((fr + k) / 8) (x ^^^ UInt8.ofNat (2 ^ ((fr + k) % 8))) := by
          rw [hnext]
          unfold crc.flip
          rw [hx]
          rfl
        have hr8 : (fr + k) % 8 < 8 := Nat.mod_lt _ (by omega)
        generalize (fr + k) / 8 = q at *
        generalize (fr + k) % 8 = r at *
        have HO := Lib.hid hown
        have HB := Lib.hid hB
        have HFL := Lib.hid hfl
        have hp256 : (2 : Int) ^ r % 256 = ((2 ^ r % 256 : Nat) : Int) := by simp
        have hxv : bits .xor .u8 (x.toNat : Int) ((2 : Int) ^ r % 256) = (((x ^^^ UInt8.ofNat (2 ^ r)).toNat : Nat) : Int) := by
          rw [hp256, u8_xor_nat _ _ x.toNat_lt (Nat.mod_lt _ (by omega)), UInt8.toNat_xor, UInt8.toNat_ofNat']
        have HXV := Lib.hid hxv
        clear hown hB htb hnext hx hfl hp256 hxv
        go_wp2
        rw [HXV.out]
        refine ⟨⟨k + 1, by omega, by go_num, ?_, HB.out.setCell (p := ⟨gX, q, none⟩) (HO.out.lt gX rfl).1 _⟩, by simp [intOf]; omega⟩
        have h := own_store HO.out (j := q) (.int .u8 (((x ^^^ UInt8.ofNat (2 ^ r)).toNat : Nat) : Int))
        have hmap : Y'.map bv = (Y.map bv).set q (.int .u8 (((x ^^^ UInt8.ofNat (2 ^ r)).toNat : Nat) : Int)) := by
          rw [HFL.out, List.map_set]
          rfl
        rw [HYN.out, hmap]
        exact h
    · obtain rfl : k = 32 := by omega
      have hTl := turned_length X fr b 32
      have hun := HTU.out fr (by have := HFQ.out; have := HQ1.out; have := HM2.out; omega)
      obtain ⟨T, hT⟩ : ∃ T, turned X fr b 32 = T := ⟨_, rfl⟩
      rw [hT] at hown hTl hun
      rw [HXL.out] at hTl
      obtain ⟨q1, q2⟩ := bad_of_unsealed hun
      have HD := Lib.hid (dec_no q2 hTl (by omega))
      have HN := Lib.hid (snd_is q1 hTl (by omega))
      have HO := Lib.hid hown
      have HB9 := Lib.hid (B1.out.trans (hB.mono B1.out.size))
      unfold tv noT at HD
      simp only at HD
      clear hTl hun hT hown hB q1 q2
      go_wp2_with (first
        | (go_at_call 15; (with_reducible refine (HD.out _ _ wr (Reads.of_own HO.out)).mono ?_); rintro e w3 ⟨A3, c3, rfl, o3, t3, b3⟩; have N3 := Lib.hid b3; clear o3 t3 b3)
        | (go_at_call 17; (with_reducible refine (HN.out _ _ (w3.alloc (.cells #[.int .i64 0, .int .i64 0, .int .i64 0, .slice A3 0 c3] 24)) (((Reads.of_own HO.out).below (N3.out.alloc N3.out.size _)).more (Nat.le_trans N3.out.size (by simp)))).mono ?_); rintro e w4 ⟨rfl, b4⟩; have N4 := Lib.hid ((N3.out.alloc N3.out.size (.cells #[.int .i64 0, .int .i64 0, .int .i64 0, .slice A3 0 c3] 24)).trans (b4.mono (Nat.le_trans N3.out.size (by simp)))); clear b4))
      go_ret
      exact ⟨rfl, HB9.out.trans (N4.out.mono HB9.out.size)⟩

theorem walk (ht : TEl w t A n) (ha : a < 65536) (hb32 : b < 4294967296) :
    Calls Try.prog 8 #[tv t A n c, .int .i64 s, .int .u16 a, .int .u32 b] w fun e w' => e = .returned (.bool true) ∧ Below w.heap.size w w' := by
  by_cases h : 1500 < n ∨ b = 0
  · exact walk_big t s A n c a b w h ht.big
  · cases hok : okT t s
    · exact walk_bad t s A n c a b w ht (by omega) (by omega) hok
    · exact walk_ok t s A n c a b w ht (by omega) (by omega) ha hb32 hok
end
/-- As the end calls it. -/
theorem call {W : World} (t : TV) (A : Option Addr) (c : Nat) (ht : TEl W t A t.el.length) (s : Int) (_ : -9223372036854775808 ≤ s) (_ : s ≤ 9223372036854775807) (a : Nat) (ha : a < 65536) (b : Nat) (hb : b < 4294967296) (w : World) (hw : W = w := by rfl) :
    Calls Try.prog 8 #[tv t A t.el.length c, .int .i64 s, .int .u16 a, .int .u32 b] w fun e w' => e = .returned (.bool true) ∧ Below w.heap.size w w' := by
  subst hw
  exact walk t s A _ c a b W ht ha hb
end Go.Proofs.Ytpededkfgjmhcaa.tileTurned

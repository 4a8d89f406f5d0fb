/-
  Layer 5's own 'alive': the chapter's first examples.
-/
import Derived.Test.YtpededkfgjmhcaaTAlive0
namespace Go.Proofs.Ytpededkfgjmhcaa.tile
open Go.RowKit Go.Proofs.Ytpededkfgjmhcaa.crc Go.Proofs.Ytpededkfgjmhcaa.crcSeals Go.Proofs.Ytpededkfgjmhcaa.crcJoins

set_option maxRecDepth 100000 in
set_option maxHeartbeats 4000000 in
theorem talive_any (w : World) : Calls Try.prog 19 #[] w fun e w' => e = .returned (.bool true) ∧ Below w.heap.size w w' := by
  have hb0 : Below w.heap.size w (w.alloc (.cells #[.int .i64 97] 2)) := (Below.refl _ _).alloc (Nat.le_refl _) _
  have hr0 := reads_row w [.int .i64 97] 2 #[.int .i64 97] 1 rfl rfl
  have he := tencode_any t97 1 (some ⟨w.heap.size, 0, none⟩) 1 1 _ ⟨rfl, hr0, by omega, t97_fine⟩
  have e2 : outT t97 1 = bytesT t97 1 := by unfold outT; rw [t97_ok]; rfl
  have e3 : tv t97 (some ⟨w.heap.size, 0, none⟩) 1 1 = .agg #[.int .i64 1, .int .i64 2, .int .i64 2, .slice (some ⟨w.heap.size, 0, none⟩) 1 1] := rfl
  have hs := sound_bytes t97_ok
  have hfr := t97_front
  have hlen := t97_len
  rw [t97_err, e2, e3] at he
  rw [show (1 : Int).toNat = 1 from rfl] at hs
  have hsd := fun A c W h => tsound_any A c (bytesT t97 1) W h (by rw [t97_len]; omega)
  rw [hs] at hsd
  obtain ⟨BT, hBT⟩ : ∃ BT, bytesT t97 1 = BT := ⟨_, rfl⟩
  rw [hBT] at he hsd hfr hlen
  simp only [hlen] at hsd
  clear hBT hs
  have f1 : fitT 1 = 13 := t_fit1
  have f2 : fitT 64 = 1021 := t_fit64
  have hf1 := fun W => tfit_any 1 W
  have hf2 := fun W => tfit_any 64 W
  rw [f1] at hf1
  rw [f2] at hf2
  have HE := Lib.hid he
  have HS := Lib.hid hsd
  have HL := Lib.hid hlen
  have HFR := Lib.hid hfr
  have HF1 := Lib.hid hf1
  have HF2 := Lib.hid hf2
  have HB := Lib.hid hb0
  clear he hsd hlen hfr hf1 hf2 f1 f2 e2 e3 hr0 hb0
  go_enter Try.func19, Try.ntmps19
  go_wp2_with (first
    | (go_at_call 9; with_reducible refine HE.out.mono ?_; rintro e w2 ⟨v, rfl, g⟩; obtain ⟨A2, c2, rfl, o2, b2, _⟩ := gives_conv g
       have hr2 := Reads.of_own o2
       have hcap := (own_cap o2).1
       have hbl := HL.out
       rw [hbl] at hr2 hcap
       have hcv := conv_reads c2 (hr2.front (k := 28) (by omega))
       rw [HFR.out] at hcv
       rw [hbl]
       have HR2 := Lib.hid hr2; have HB2 := Lib.hid (HB.out.trans (b2.mono HB.out.size)); clear g o2 b2 hr2 hbl)
    | (go_at_call 12; with_reducible refine (HF1.out _).mono ?_; rintro e _ ⟨rfl, rfl⟩)
    | (go_at_call 12; with_reducible refine (HF2.out _).mono ?_; rintro e _ ⟨rfl, rfl⟩)
    | (go_at_call 17; with_reducible refine (HS.out A2 c2 w2 HR2.out).mono ?_; rintro e w3 ⟨rfl, hb3⟩; have HB3 := Lib.hid (HB2.out.trans (hb3.mono HB2.out.size)); clear hb3))
  go_ret
  exact ⟨rfl, HB3.out⟩

end Go.Proofs.Ytpededkfgjmhcaa.tile

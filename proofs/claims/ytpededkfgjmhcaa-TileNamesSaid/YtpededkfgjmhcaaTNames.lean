/-
  The statement TileNames is proved: the error and limits have their numbers; the examples of the chapter; what may not be; without a condition.
-/
import Derived.Test.YtpededkfgjmhcaaTAlive
import Derived.Deep.CutBlock
import Derived.Deep.DeepCutAuto
import Derived.ProofKit
import Derived.OpenShut
namespace Go.Proofs.Ytpededkfgjmhcaa.tileNames
open Go.ChangeShapes Go.WideShapes Go.ChangeAt Go.RowKit Go.Proofs.Ytpededkfgjmhcaa.crc Go.Proofs.Ytpededkfgjmhcaa.crcSeals Go.Proofs.Ytpededkfgjmhcaa.crcJoins Go.Proofs.Ytpededkfgjmhcaa.tile

def fineB (t : TV) : Bool := [t.file, t.no, t.kind].all (fun x => decide (-9223372036854775808 ≤ x) && decide (x ≤ 9223372036854775807)) && t.el.all (fun x => decide (-9223372036854775808 ≤ x) && decide (x ≤ 9223372036854775807))
theorem fine_of {t : TV} (h : fineB t = true) : t.Fine := by
  unfold fineB at h
  simp only [List.all_cons, List.all_nil, Bool.and_true, Bool.and_eq_true, decide_eq_true_eq, List.all_eq_true] at h
  obtain ⟨⟨h1, h2, h3⟩, h4⟩ := h
  exact ⟨h1, h2, h3, h4⟩

theorem izeros_made {m : Nat} (hm : m ≤ 9000) (z : Int) (hz : z = (m : Int)) : ∃ C : Array Value, C = ((List.replicate m (0 : Int)).map iv).toArray ∧ ∀ w : World,
    (Instr.makeSlice 22 (.int .i64 z) (.int .i64 z)).run Try.prog w = .ok (.slice (some ⟨w.heap.size, 0, none⟩) m m) (w.alloc (.cells C 2)) := by
  obtain ⟨i0, hi, hz0, hz1, hz2⟩ := info_parts infoI64
  subst hz
  refine ⟨madeCells (Value.int .i64 0).cells (m * 1), ?_, fun w => ?_⟩
  · have hl : (madeCells (Value.int .i64 0).cells (m * 1)).toList = List.replicate m (.int .i64 0) := by rw [Nat.mul_one]; exact toList_madeCells_one _ _
    rw [List.map_replicate, show iv 0 = .int .i64 0 from rfl, ← hl]
  · have := run_make (P := Try.prog) w 22 2 i0 _ Try.underlying22 hi hz0 .i64 .i64 (m : Int) (m : Int) (by omega) (by omega) (by rw [hz2]; omega) (by omega)
    rw [hz1, Int.toNat_natCast] at this
    exact this

/-- Ahead of the call: a tile that may not be. -/
def Mid (w : World) (qt : Nat) (v : Value) (W : World) : Prop := ∃ (t : TV) (A : Option Addr) (n c : Nat) (s : Int), v = .int .i64 s ∧ okT t s = false ∧ TEl W t A n ∧ Blk W qt 24 #[.int .i64 t.file, .int .i64 t.no, .int .i64 t.kind, .slice A n c] ∧ Below w.heap.size w W
theorem mid_same {w wr : World} (hb : Below w.heap.size w wr) (t : TV) (s : Int) (hok : okT t s = false) (hf : t.Fine) (hel : t.el = [-5]) :
    Mid w (wr.heap.size + 1) (.int .i64 s) ((wr.alloc (.cells #[.int .i64 (-5)] 2)).alloc (.cells #[.int .i64 t.file, .int .i64 t.no, .int .i64 t.kind, .slice (some ⟨wr.heap.size, 0, none⟩) 1 1] 24)) := by
  refine ⟨t, some ⟨wr.heap.size, 0, none⟩, 1, 1, s, rfl, hok, ⟨by rw [hel]; rfl, ?_, by omega, hf⟩, ?_, (hb.alloc hb.size _).alloc (by have := hb.size; simp; omega) _⟩
  · rw [hel]
    exact ((reads_row wr [.int .i64 (-5)] 2 #[.int .i64 (-5)] 1 rfl rfl).alloc (Nat.le_refl _) _).more (by simp)
  · have := Blk.new (wr.alloc (.cells #[.int .i64 (-5)] 2)) 24 #[.int .i64 t.file, .int .i64 t.no, .int .i64 t.kind, .slice (some ⟨wr.heap.size, 0, none⟩) 1 1]
    simpa only [World.size_alloc] using this
theorem mid_new {w wr : World} (hb : Below w.heap.size w wr) (t : TV) (s : Int) (hok : okT t s = false) (hf : t.Fine) (o : Obj) (C : Array Value) (n : Nat) (hn : t.el.length = n) (hC : C = (t.el.map iv).toArray) (hbig : n ≤ 9223372036854775807 := by omega) :
    Mid w (wr.heap.size + 1) (.int .i64 s) (((wr.alloc o).alloc (.cells #[.int .i64 t.file, .int .i64 t.no, .int .i64 t.kind, .slice (some ⟨wr.heap.size + 1 + 1, 0, none⟩) n n] 24)).alloc (.cells C 2)) := by
  have h1 := reads_row ((wr.alloc o).alloc (.cells #[.int .i64 t.file, .int .i64 t.no, .int .i64 t.kind, .slice (some ⟨wr.heap.size + 1 + 1, 0, none⟩) n n] 24)) (t.el.map iv) 2 C n hC (by rw [List.length_map, hn])
  have h2 := (Blk.new (wr.alloc o) 24 #[.int .i64 t.file, .int .i64 t.no, .int .i64 t.kind, .slice (some ⟨wr.heap.size + 1 + 1, 0, none⟩) n n]).alloc (.cells C 2)
  have hs := hb.size
  have h3 : Below w.heap.size w (((wr.alloc o).alloc (.cells #[.int .i64 t.file, .int .i64 t.no, .int .i64 t.kind, .slice (some ⟨wr.heap.size + 1 + 1, 0, none⟩) n n] 24)).alloc (.cells C 2)) := ((hb.alloc hs _).alloc (by simp; omega) _).alloc (by simp; omega) _
  simp only [World.size_alloc] at h1 h2
  refine ⟨t, some ⟨wr.heap.size + 1 + 1, 0, none⟩, n, n, s, rfl, hok, ⟨hn, ?_, hbig, hf⟩, h2, h3⟩
  simpa only [World.size_alloc] using h1

def t13 : TV := ⟨9223372036854775807, 4095, 1, List.replicate 13 0⟩
def t0 : TV := ⟨1, 0, 2, []⟩
theorem t13_ok : okT t13 1 = true := by decide
theorem t0_ok : okT t0 2 = true := by decide
theorem t13_len : (bytesT t13 1).length = 128 := bytesT_length (by decide)
theorem t0_len : (bytesT t0 2).length = 256 := bytesT_length (by decide)
theorem t13_fine : t13.Fine := fine_of (by decide)
theorem t0_fine : t0.Fine := fine_of (by decide)
theorem t13_err : errT t13 1 = 0 := by unfold errT; rw [t13_ok]; rfl
theorem t0_err : errT t0 2 = 0 := by unfold errT; rw [t0_ok]; rfl
theorem t13_out : outT t13 1 = bytesT t13 1 := by unfold outT; rw [t13_ok]; rfl
theorem t0_out : outT t0 2 = bytesT t0 2 := by unfold outT; rw [t0_ok]; rfl
theorem t13_good : decErr (bytesT t13 1) = 0 := by
  have h := (good_bytes t13_ok t13_fine).1
  rw [show (1 : Int).toNat = 1 from rfl] at h
  unfold decErr
  rw [h]
  rfl
theorem bad_secs {l : List UInt8} (h : secs l = 0) : decErr l = 50 ∧ soundB l = false := by
  have hg : goodB l = false := by unfold goodB; rw [decide_eq_false (by omega), Bool.false_and]
  have hs : soundB l = false := by unfold soundB; rw [decide_eq_false (by omega), Bool.false_and]
  exact ⟨by unfold decErr; rw [hg]; rfl, hs⟩
theorem z128_bad : decErr (List.replicate 128 0) = 50 := by decide +kernel
theorem nil_secs : secs [] = 0 := by decide
theorem z127_secs : secs (List.replicate 127 0) = 0 := by unfold secs; rw [List.length_replicate]; decide
theorem long_secs : secs (bytesT t13 1 ++ [0]) = 0 := by unfold secs; rw [List.length_append, t13_len]; decide

theorem dec_lit (l : List UInt8) (n : Nat) (er : Int) (he : decErr l = er) (hn : l.length = n) (hb : n ≤ 1000) (A : Option Addr) (c : Nat) (W : World) (h : Reads W W.heap.size 1 A n (l.map bv)) :
    Calls Try.prog 15 #[.slice A n c] W fun e w' => ∃ (x y z : Int) (U : Option Addr) (un uc : Nat), e = .returned (.tuple #[.agg #[.int .i64 x, .int .i64 y, .int .i64 z, .slice U un uc], .int .i64 er]) ∧ Below W.heap.size W w' := by
  subst hn he
  refine (tdecode_any A c l W h (by omega)).mono ?_
  rintro e w' ⟨A', c', rfl, _, hb⟩
  exact ⟨_, _, _, _, _, _, rfl, hb⟩
theorem snd_lit (l : List UInt8) (n : Nat) (b : Bool) (he : soundB l = b) (hn : l.length = n) (hb : n ≤ 1000) (A : Option Addr) (c : Nat) (W : World) (h : Reads W W.heap.size 1 A n (l.map bv)) :
    Calls Try.prog 17 #[.slice A n c] W fun e w' => e = .returned (.bool b) ∧ Below W.heap.size W w' := by
  subst hn he
  exact tsound_any A c l W h (by omega)
theorem enc_lit (t : TV) (s : Int) (B : List UInt8) (n : Nat) (he : errT t s = 0) (ho : outT t s = B) (hn : B.length = n) (A : Option Addr) (m c : Nat) (W : World) (h : TEl W t A m) :
    Calls Try.prog 9 #[tv t A m c, .int .i64 s] W fun e w' => ∃ A' c', e = .returned (.tuple #[.slice A' n c', .int .i64 0]) ∧ w'.ownsRow W.heap.size 5 1 (.slice A' n c') n (B.map bv) ∧ Below W.heap.size W w' := by
  subst hn ho
  refine (tencode_any t s A m c W h).mono ?_
  rintro e w' ⟨v, rfl, g⟩
  rw [he]
  obtain ⟨A', c', rfl, ho, hb, _⟩ := gives_conv g
  exact ⟨A', c', rfl, ho, hb⟩

set_option maxRecDepth 100000 in
set_option maxHeartbeats 4000000 in
theorem walk (w : World) : Calls Try.prog 5 #[] w fun e w' => e = .returned (.bool true) ∧ Below w.heap.size w w' := by
  obtain ⟨C14, hC14, hmk14⟩ := izeros_made (m := 14) (by omega) 14 rfl
  have HC14 := Lib.hid hC14
  clear hC14
  go_enter Try.func5, Try.ntmps5
  go_wp2
  go_loopw [1, 2] (fun b i wr => ∃ j : Nat, j ≤ 11 ∧ i = .int .i64 (j : Int) ∧ b = .bool true ∧ Below w.heap.size w wr) (fun _ i _ => 11 - (intOf i).toNat)
  case atStart => exact ⟨0, Nat.zero_le _, rfl, rfl, Below.refl _ _⟩
  case round =>
    obtain ⟨j, hj, rfl, rfl, hB⟩ := hrel
    have HB := Lib.hid hB
    clear hB
    by_cases hlt : j < 11
    · obtain ⟨j0, hj0⟩ : ∃ j0, j = j0 := ⟨_, rfl⟩
      go_upto_block 2 with (fail)
      go_cut [4] (fun v wx => Mid w (wr.heap.size + 1) v wx)
      case first =>
        clear hj0
        rcases j with _ | j
        · go_wp2_with (fail)
          go_meet
          exact mid_new HB.out ⟨1, 0, 1, List.replicate 14 0⟩ (1) (by decide) (fine_of (by decide)) _ C14 14 rfl HC14.out
        rcases j with _ | j
        · go_wp2_with (fail)
          go_meet
          exact mid_same HB.out ⟨1, 0, 3, [-5]⟩ (1) (by decide) (fine_of (by decide)) rfl
        rcases j with _ | j
        · go_wp2_with (fail)
          go_meet
          exact mid_same HB.out ⟨0, 0, 1, [-5]⟩ (1) (by decide) (fine_of (by decide)) rfl
        rcases j with _ | j
        · go_wp2_with (fail)
          go_meet
          exact mid_same HB.out ⟨1, -1, 1, [-5]⟩ (1) (by decide) (fine_of (by decide)) rfl
        rcases j with _ | j
        · go_wp2_with (fail)
          go_meet
          exact mid_same HB.out ⟨1, 4096, 1, [-5]⟩ (1) (by decide) (fine_of (by decide)) rfl
        rcases j with _ | j
        · go_wp2_with (fail)
          go_meet
          exact mid_same HB.out ⟨1, 0, 2, [-5]⟩ (1) (by decide) (fine_of (by decide)) rfl
        rcases j with _ | j
        · go_wp2_with (fail)
          go_meet
          exact mid_new HB.out ⟨1, 0, 2, [1114112]⟩ (1) (by decide) (fine_of (by decide)) _ #[.int .i64 1114112] 1 rfl rfl
        rcases j with _ | j
        · go_wp2_with (fail)
          go_meet
          exact mid_same HB.out ⟨1, 0, 1, [-5]⟩ (0) (by decide) (fine_of (by decide)) rfl
        rcases j with _ | j
        · go_wp2_with (fail)
          go_meet
          exact mid_same HB.out ⟨1, 0, 1, [-5]⟩ (65) (by decide) (fine_of (by decide)) rfl
        rcases j with _ | j
        · go_wp2_with (fail)
          go_meet
          exact mid_same HB.out ⟨1, 0, 0, [-5]⟩ (1) (by decide) (fine_of (by decide)) rfl
        rcases j with _ | j
        · go_wp2_with (fail)
          go_meet
          exact mid_same HB.out ⟨-1, 0, 1, [-5]⟩ (1) (by decide) (fine_of (by decide)) rfl

        omega
      case rest =>
        obtain ⟨t, A, n, c, s, rfl, hok, hel, hbk, hbw⟩ := hcut
        have y0 := hbk.cell 0
        have y1 := hbk.cell 1
        have y2 := hbk.cell 2
        have y3 := hbk.cell 3
        have he : errT t s = 50 := by unfold errT; rw [hok]; rfl
        have ho : outT t s = [] := by unfold outT; rw [hok]; rfl
        have HE := Lib.hid (tencode_any t s A n c wc hel)
        have HCK := Lib.hid (fun W (h : Below wc.heap.size wc W) => tcheck_any t s A n c W (hel.below h))
        rw [he, ho] at HE
        rw [he] at HCK
        unfold tv at HE HCK
        have HBK := Lib.hid hbk
        have HBW := Lib.hid hbw
        clear hok hel hbk hbw he ho
        go_wp2_with (first
          | (go_at_call 9; (with_reducible refine HE.out.mono ?_); rintro e w3 ⟨v, rfl, g⟩; obtain ⟨A3, c3, hv, o3, b3, _⟩ := gives_conv g; have hv2 : v = .slice A3 0 c3 := hv; subst hv2; have hb3 := HBK.out.below b3 HBK.out.lt; have z0 := hb3.cell 0; have z1 := hb3.cell 1; have z2 := hb3.cell 2; have z3 := hb3.cell 3; have B3 := Lib.hid b3; clear g hv o3 b3 hb3)
          | (go_at_call 11; (with_reducible refine (HCK.out w3 B3.out).mono ?_); rintro e w4 ⟨rfl, b4⟩; have B4 := Lib.hid (HBW.out.trans ((B3.out.trans (b4.mono B3.out.size)).mono HBW.out.size)); clear b4))
        exact ⟨⟨j + 1, by omega, by go_num, rfl, B4.out⟩, by simp [intOf]; omega⟩
    · obtain rfl : j = 11 := by omega
      obtain ⟨C13, hC13, hmk13⟩ := izeros_made (m := 13) (by omega) 13 rfl
      obtain ⟨C, hC⟩ := zeros_made (m := 128) (by omega) 128 rfl
      have hmk := fun W => (hC W).1
      have HZ := Lib.hid (fun W => (hC W).2)
      have HC13 := Lib.hid hC13
      clear hC hC13
      have HD1 := Lib.hid (dec_lit (List.replicate 128 0) 128 50 z128_bad (by simp) (by omega))
      have HD2 := Lib.hid (dec_lit [] 0 50 (bad_secs nil_secs).1 rfl (by omega) none 0)
      have HD3 := Lib.hid (dec_lit (bytesT t13 1) 128 0 t13_good t13_len (by omega))
      have HD4 := Lib.hid (dec_lit (bytesT t13 1 ++ [0]) 129 50 (bad_secs long_secs).1 (by rw [List.length_append, t13_len]; rfl) (by omega))
      have HS1 := Lib.hid (snd_lit (List.replicate 127 0) 127 false (bad_secs z127_secs).2 (by simp) (by omega))
      have HS2 := Lib.hid (snd_lit [] 0 false (bad_secs nil_secs).2 rfl (by omega) none 0)
      have HE1 := Lib.hid (fun A W (h : TEl W t13 A 13) => enc_lit t13 1 (bytesT t13 1) 128 t13_err t13_out t13_len A 13 13 W h)
      have HE2 := Lib.hid (fun W => enc_lit t0 2 (bytesT t0 2) 256 t0_err t0_out t0_len none 0 0 W ⟨rfl, Reads.none_, by omega, t0_fine⟩)
      have HTE : Hid (∀ W : World, TEl (W.alloc (.cells C13 2)) t13 (some ⟨W.heap.size, 0, none⟩) 13) := Lib.hid (fun W => ⟨rfl, reads_row W _ 2 C13 13 HC13.out rfl, by omega, t13_fine⟩)
      have HAL := Lib.hid (fun W => talive_any W)
      have HF1 := Lib.hid (fun W => tfit_any 2 W)
      have HF2 := Lib.hid (fun W => tfit_any 65 W)
      have HF3 := Lib.hid (fun W => tfit_any 0 W)
      rw [t_fit2] at HF1
      rw [show fitT 65 = 0 from by decide] at HF2
      rw [show fitT 0 = 0 from by decide] at HF3
      generalize bytesT t13 1 = BT at *
      generalize bytesT t0 2 = B0 at *
      unfold tv t13 at HE1
      unfold tv t0 at HE2
      simp only at HE1 HE2
      unfold t13 at HTE
      obtain ⟨i0, hi, hz0, hz1, hz2⟩ := info_parts infoU8
      go_wp2_with (first
        | (go_at_call 15; (have l0 := P5.out; clear l0); (with_reducible refine (HD4.out _ _ _ (Reads.of_own P5.out)).mono ?_); rintro e w6 ⟨x6, y6, z6, U6, un6, uc6, rfl, b6⟩; have B6 := Lib.hid (B5.out.trans (b6.mono B5.out.size)); clear b6 P5)
        | (go_at_call 15; (have l0 := P3.out; clear l0); (with_reducible refine (HD3.out _ _ _ (Reads.of_own P3.out)).mono ?_); rintro e w4 ⟨x4, y4, z4, U4, un4, uc4, rfl, b4⟩; have B4 := Lib.hid (B3.out.trans (b4.mono B3.out.size)); have P4 := Lib.hid ((Keep.of_below (S := fun _ => False) b4).own P3.out (fun _ _ h => h)); clear b4 P3)
        | (go_at_call 15; (have l0 := B1.out; clear l0); (with_reducible refine (HD2.out _ Reads.none_).mono ?_); rintro e w2 ⟨x2, y2, z2, U2, un2, uc2, rfl, b2⟩; have B2 := Lib.hid (B1.out.trans ((((Below.refl _ w1).alloc (Nat.le_refl _) (.cells #[.int .i64 x1, .int .i64 y1, .int .i64 z1, .slice U1 un1 uc1] 24)).trans (b2.mono (by simp))).mono B1.out.size)); clear b2)
        | (go_at_call 15; (with_reducible refine (HD1.out _ _ _ (HZ.out wr)).mono ?_); rintro e w1 ⟨x1, y1, z1, U1, un1, uc1, rfl, b1⟩; have B1 := Lib.hid (HB.out.trans ((((Below.refl _ _).alloc (Nat.le_refl _) _).trans (b1.mono (by simp))).mono HB.out.size)); clear b1)
        | (go_at_call 9; (have l0 := B6.out; clear l0); (with_reducible refine (HE2.out _).mono ?_); rintro e w7 ⟨A7, c7, rfl, o7, b7⟩; have B7 := Lib.hid (B6.out.trans ((((Below.refl _ w6).alloc (Nat.le_refl _) (.cells #[.int .i64 x6, .int .i64 y6, .int .i64 z6, .slice U6 un6 uc6] 24)).trans (b7.mono (by simp))).mono B6.out.size)); clear o7 b7)
        | (go_at_call 9; have hte := HTE.out (w2.alloc (.cells #[.int .i64 x2, .int .i64 y2, .int .i64 z2, .slice U2 un2 uc2] 24)); simp only [World.size_alloc] at hte; (with_reducible refine (HE1.out _ _ hte).mono ?_); rintro e w3 ⟨A3, c3, rfl, o3, b3⟩; have B3 := Lib.hid (B2.out.trans (((((Below.refl _ w2).alloc (Nat.le_refl _) (.cells #[.int .i64 x2, .int .i64 y2, .int .i64 z2, .slice U2 un2 uc2] 24)).alloc (by simp) (.cells C13 2)).trans (b3.mono (by simp; omega))).mono B2.out.size)); have P3 := Lib.hid o3; clear o3 b3 hte)
        | (at_builtin; refine wpList_append_any _ rfl _ _ 25 rfl w.heap.size 5 i0 (.int .u8 0) 1 1 Try.underlying25 hi hz0 hz1 hz2 rfl (by decide) _ 128 (BT.map bv) rfl (own_mono ((P4.out.alloc (.cells #[.int .i64 x4, .int .i64 y4, .int .i64 z4, .slice U4 un4 uc4] 24)).alloc (.cells #[.int .u8 0] 5)) (by have := B2.out.size; simp; omega)) _ _ 1 1 [bv 0] rfl (by have h := reads_row (w4.alloc (.cells #[.int .i64 x4, .int .i64 y4, .int .i64 z4, .slice U4 un4 uc4] 24)) [bv 0] 5 #[.int .u8 0] 1 rfl rfl; simpa only [World.size_alloc] using h) (bv_one [0]) (by unfold maxLen; omega) (by omega) (by have := B4.out.size; simp; omega) ?_
           intro v5 w5 o5 g5 _; obtain ⟨A5, c5, rfl⟩ := own_slice o5; have B5 := Lib.hid (((B4.out.alloc B4.out.size (.cells #[.int .i64 x4, .int .i64 y4, .int .i64 z4, .slice U4 un4 uc4] 24)).alloc (by have := B4.out.size; simp; omega) (.cells #[.int .u8 0] 5)).grown g5 (by have := B4.out.size; simp; omega) (fun k e => by have := B2.out.size; have := (P4.out.lt k e).1; simp at this; omega)); have hm : (BT.map bv ++ [bv 0]) = (BT ++ [0]).map bv := by simp
           rw [hm] at o5; have P5 := Lib.hid o5; clear g5 o5 hm P4)
        | (go_at_call 19; (with_reducible refine (HAL.out _).mono ?_); rintro e w8 ⟨rfl, b8⟩; have B8 := Lib.hid (B7.out.trans (b8.mono B7.out.size)); clear b8)
        | (go_at_call 12; (with_reducible refine (HF1.out _).mono ?_); rintro e _ ⟨rfl, rfl⟩)
        | (go_at_call 12; (with_reducible refine (HF2.out _).mono ?_); rintro e _ ⟨rfl, rfl⟩)
        | (go_at_call 12; (with_reducible refine (HF3.out _).mono ?_); rintro e _ ⟨rfl, rfl⟩)
        | (go_at_call 17; (have l0 := B9.out; clear l0); (with_reducible refine (HS2.out _ Reads.none_).mono ?_); rintro e w10 ⟨rfl, b10⟩; have B10 := Lib.hid (B9.out.trans (b10.mono B9.out.size)); clear b10)
        | (go_at_call 17; (with_reducible refine (HS1.out _ _ _ ((HZ.out w8).front (k := 127) (by omega))).mono ?_); rintro e w9 ⟨rfl, b9⟩; have B9 := Lib.hid (B8.out.trans ((((Below.refl _ _).alloc (Nat.le_refl _) _).trans (b9.mono (by simp))).mono B8.out.size)); clear b9))
      go_ret
      exact ⟨rfl, B10.out⟩

theorem own : ownKnob Try.prog.godebug = none := by kernel_rfl

set_option maxRecDepth 100000 in
theorem lifted (os : Os) (started : os.Started) (H : Type) (enc : TypeId × Value → H) :
    ReturnsInHanded {} Try.checked os 5 .any (Rows.tileNamesSpec.pre6 enc Try.prog Try.f5 Rows.tileNamesRow.domain false) (Rows.tileNamesSpec.post enc Try.prog Try.f5 false true false false) := by
  refine returnsInHanded_of_change (C := Try.checked) own started (by kernel_rfl) Try.func5
    (ChangeSpec.witness6 (enc := enc) (C := Try.checked) false ⟨#[], #[], []⟩ 8 (by kernel_rfl) (by kernel_rfl) (by kernel_rfl) (by kernel_rfl)) ?_
  intro W base args ds gs before _ hW _ _
  have hW' := hW
  obtain ⟨p, q, hA0, hV, rfl, _, _⟩ := hW
  have hA : DataW.TrodAll enc Try.prog W 0 (fun _ => true) true Try.f5.params.toList args.toList ds p := hA0
  rw [Try.params5] at hA
  obtain ⟨rfl, rfl, rfl⟩ := trodAll_none hA
  obtain ⟨rfl, rfl⟩ := trodVars_none hV
  clear hA0
  simp only [List.append_nil] at hW'
  refine (walk W).mono fun e W' ⟨he, hb⟩ => ?_
  subst he
  exact ⟨_, rfl, _, _, _, [], [], [], hW', trodAll_cons_mk (shut_bool Try.underlying4 _) trodAll_mk0, rfl, rfl, hb.frame _, fun h => by cases h⟩

/-- The statement. -/
theorem proved : Rows.TileNamesSaid :=
  OpenClaim.holds_of_wide 5 Try.f5 rfl rfl rfl rfl rfl rfl rfl ⟨rfl, rfl, rfl, rfl, rfl⟩ rfl rfl rfl rfl rfl (by kernel_rfl) Try.func5 (by kernel_rfl)
    (of_decide_eq_true (by kernel_rfl)) (by unfold Func.isWrapper; first | (rw [if_pos (by decide +kernel)]; kernel_rfl) | (rw [if_neg (by decide +kernel)]; exact ⟨rfl, rfl⟩))
    (fun os started H enc _ => lifted os started H enc)

#print axioms proved
end Go.Proofs.Ytpededkfgjmhcaa.tileNames

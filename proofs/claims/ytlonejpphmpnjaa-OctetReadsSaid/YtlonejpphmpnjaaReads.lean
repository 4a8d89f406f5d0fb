/-
  OctetReads' walk: whatever is read, in whatever order, of any bytes, the answers, the errors and what is left are the document's; bytes stay, and are not kept.
-/
import Derived.Test.YtlonejpphmpnjaaLift
import Derived.Test.YtlonejpphmpnjaaMem
import Derived.Deep.DeepCutAuto
import Derived.Deep.CutBlock
import Derived.Deep.RegionWith
namespace Go.Proofs.Ytlonejpphmpnjaa.octetReads
open Go.ChangeShapes Go.WideShapes Go.ChangeAt Go.RowKit

/-- The Reader at b has lx left; it stands on what is newer than N; what lay in N lies. -/
def Sr (N W : World) (b : Nat) (lx : List UInt8) : Prop :=
  ∃ A c, Rd W b A c lx ∧ N.heap.size ≤ b ∧ (∀ ad, A = some ad → N.heap.size ≤ ad.block) ∧ Below N.heap.size N W

theorem Sr.took {N w w1 w2 : World} {b : Nat} {A : Option Addr} {lx : List UInt8} (hb : N.heap.size ≤ b) (hA : ∀ ad, A = some ad → N.heap.size ≤ ad.block) (hB : Below N.heap.size N w) (h1 : Below w.heap.size w w1) (h2 : Took w1 w2 b A lx) : Sr N w2 b lx := by
  obtain ⟨A', c', g1, g2, g3⟩ := h2
  refine ⟨A', c', g1, hb, fun ad e => ?_, (hB.trans (h1.mono hB.size)).trans (g3.below (Nat.le_trans hB.size h1.size) (fun i hi h => by omega))⟩
  obtain ⟨ad0, e0, f0⟩ := g2 ad e
  rw [f0]
  exact hA ad0 e0

theorem Sr.below {N w w1 : World} {b : Nat} {lx : List UInt8} (h : Sr N w b lx) (hb : Below w.heap.size w w1) : Sr N w1 b lx := by
  obtain ⟨A, c, h1, h2, h3, h4⟩ := h
  exact ⟨A, c, h1.keep (Keep.of_below (S := fun _ => False) hb) (fun h => h) (fun _ _ h => h), h2, h3, h4.trans (hb.mono h4.size)⟩

/-- What lies above w turns, and of what w had nothing. -/
theorem Sr.above {N w w1 : World} {b : Nat} {lx : List UInt8} (h : Sr N w b lx) (hb : Below w.heap.size w w1) : Sr N w1 b lx := h.below hb

/-- The Reader moves on, and then what is newer than that may turn. -/
theorem Sr.tookS {N w1 w2 w3 w4 : World} {b c : Nat} {A : Option Addr} {l0 lx : List UInt8} (h0 : Rd w1 b A c l0) (hb : N.heap.size ≤ b) (hA : ∀ ad, A = some ad → N.heap.size ≤ ad.block) (hB : Below N.heap.size N w1) (h2 : Took w1 w2 b A lx)
    (h3 : Below w2.heap.size w2 w3) (h4 : Below w1.heap.size w3 w4) : Sr N w4 b lx := by
  obtain ⟨A', c', g1, g2, g3⟩ := h2
  have e3 : Sr N w3 b lx := (Sr.took hb hA hB (Below.refl _ _) ⟨A', c', g1, g2, g3⟩).below h3
  have g4 : Rd w3 b A' c' lx := g1.keep (Keep.of_below (S := fun _ => False) h3) (fun h => h) (fun _ _ h => h)
  have k4 : Keep (fun k => w1.heap.size ≤ k) w3 w4 := ⟨h4.os, h4.tape, h4.output, h4.size, fun k _ hn => h4.block k (by omega)⟩
  have hbl := h0.blk.lt
  have b3 : Below N.heap.size N w3 := by
    obtain ⟨_, _, _, _, _, e⟩ := e3
    exact e
  refine ⟨A', c', g4.keep k4 (fun h => by omega) (fun ad e h => ?_), hb, fun ad e => ?_, b3.trans (h4.mono hB.size)⟩
  · obtain ⟨ad0, e0, f0⟩ := g2 ad e
    have := h0.lt ad0 e0
    omega
  · obtain ⟨ad0, e0, f0⟩ := g2 ad e
    rw [f0]
    exact hA ad0 e0

/-- What a call leaves: right so far, the next place, the error twice. -/
def Left (N : World) (b : Nat) (L : List UInt8) (fine next e f : Value) (W : World) : Prop :=
  ∃ (at_ : Nat) (er : Int), fine = .bool true ∧ next = .int .i64 at_ ∧ e = .int .i64 er ∧ f = .int .i64 er ∧ at_ ≤ L.length ∧ Sr N W b (L.drop at_)

theorem taken_le (e : Int) (k m : Nat) (h : e = 0 → k ≤ m) : taken e k ≤ m := by
  unfold taken
  by_cases h0 : e = 0
  · rw [if_pos h0]; exact h h0
  · rw [if_neg h0]; exact Nat.zero_le _
theorem rnum_le (size : Int) (l : List UInt8) : taken (rnumErr size l) size.toNat ≤ l.length := by
  apply taken_le
  intro h
  unfold rnumErr at h
  by_cases hs : sized size = true
  · rw [if_pos hs] at h
    by_cases hl : l.length < size.toNat
    · rw [if_pos hl] at h; omega
    · omega
  · rw [if_neg hs] at h; omega
theorem rraw_le (n : Int) (l : List UInt8) : taken (rrawErr n l) n.toNat ≤ l.length := by
  apply taken_le
  intro h
  unfold rrawErr at h
  by_cases hs : n < 0
  · rw [if_pos hs] at h; omega
  · rw [if_neg hs] at h
    by_cases hl : (l.length : Int) < n
    · rw [if_pos hl] at h; omega
    · omega
theorem rtext_le (l : List UInt8) : taken (rtextErr l) (2 + num (l.take 2)) ≤ l.length := by
  apply taken_le
  intro h
  unfold rtextErr at h
  by_cases hs : l.length < 2
  · rw [if_pos hs] at h; omega
  · rw [if_neg hs] at h
    by_cases hl : l.length - 2 < num (l.take 2)
    · rw [if_pos hl] at h; omega
    · omega

set_option maxRecDepth 100000 in
set_option maxHeartbeats 8000000 in
theorem walk (Ab : Option Addr) (cb : Nat) (L : List UInt8) (A : Option Addr) (n c : Nat) (l : List Cal) (w : World) (hb : Arg w Ab cb L) (h : Cals w w.heap.size A n l) (hm : n ≤ 9223372036854775807) :
    Calls Try.prog 4 #[.slice Ab L.length cb, .slice A n c] w fun e w' => e = .returned (.bool true) ∧ Below w.heap.size w w' := by
  have HG := Lib.hid (great_any w.heap.size A n c l w h hm)
  have H := Lib.hid h
  have HB := Lib.hid hb
  have hl := h.1
  clear h hb
  cases hgr : great l
  · rw [hgr] at HG
    by_cases hlong : 10000 < L.length
    · go_enter Try.func4, Try.ntmps4
      go_wp2_with (go_at_call 9; refine HG.out.mono ?_; rintro e w' ⟨rfl, rfl⟩)
      go_ret
      exact ⟨rfl, Below.refl _ _⟩
    · obtain ⟨i0, hi, hz0, hz1, hz2⟩ := info_parts infoU8
      have hLb : L.length ≤ 10000 := by omega
      clear hgr hlong
      have z5 : ∀ w, Sem.run Try.prog (Go.sizeOf 5) w = .ok 1 w := fun w => by simp [Go.sizeOf, typeInfo, hi, hz1]
      have hr0 := HB.out.reads
      have HR0 := Lib.hid hr0
      clear hr0
      go_enter Try.func4, Try.ntmps4
      go_wp2_with (first
        | (go_at_call 9; refine HG.out.mono ?_; rintro e w' ⟨rfl, rfl⟩)
        | (at_builtin; refine wpList_append_any _ rfl _ _ 24 rfl w.heap.size 5 i0 (.int .u8 0) 1 1 Try.underlying24 hi hz0 hz1 hz2 rfl (by decide) _ _ _ rfl (World.ownsRow_made w #[] 0 (Nat.le_refl _) (Nat.zero_le _) rfl) w.heap.size Ab L.length cb (L.map bv) rfl (HR0.out.alloc (Nat.le_refl _) _) (bv_one L) (by unfold maxLen; omega) (by omega) (by simp) ?_))
      intro v' w1 hown hgrow hat
      have hB1 : Below w.heap.size w w1 := ((Below.refl _ w).alloc (Nat.le_refl _) _).grown hgrow (by simp) (by intro k hk; simp [Value.ownBlock] at hk; omega)
      obtain ⟨g, c', hv, hgb⟩ : ∃ g c', v' = .slice (some ⟨g, 0, none⟩) L.length c' ∧ w.heap.size ≤ g := by
        rcases hown.2 with ⟨rfl, _⟩ | ⟨g, cap, cur, e, hb, _⟩
        · simp [Value.ownBlock] at hat
        · exact ⟨g, cap, e, hb⟩
      clear hat
      subst hv
      have HB1 := Lib.hid hB1
      have HO := Lib.hid hown
      have HGB := Lib.hid hgb
      have hg1 : g < w1.heap.size := (hown.lt g rfl).2
      have HG1 := Lib.hid hg1
      have HRD := Lib.hid (rd_of (some ⟨g, 0, none⟩) L.length c' L w1 (Reads.of_own hown) (by omega))
      clear hB1 hown hgrow hgb hg1
      go_wp2_with (go_at_call 19; refine HRD.out.mono ?_; rintro e w2 ⟨b, A2, c2, rfl, r1, r2, r3, r4⟩; have R1 := Lib.hid r1; have R2 := Lib.hid r2; have R3 := Lib.hid r3; have R4 := Lib.hid r4; clear r1 r2 r3 r4)
      have hby : Bys w2 g L.length := (own_bys HO.out).keep (Keep.of_below (S := fun _ => False) R4.out) (fun h => h) HG1.out
      go_loopw [50] (fun i wi => ∃ j, j ≤ L.length ∧ i = .int .i64 j ∧ Keep (fun k => k = g) w2 wi ∧ Bys wi g L.length) (fun i _ => L.length - (intOf i).toNat)
      case atStart => exact ⟨0, Nat.zero_le _, rfl, Keep.refl _ _, hby⟩
      case round =>
        obtain ⟨j, hj, rfl, hkp, hbi⟩ := hrel
        clear hby
        have HBI := Lib.hid hbi
        have HKP := Lib.hid hkp
        clear hbi hkp
        by_cases hjl : j < L.length
        · obtain ⟨x, cx, fx⟩ := HBI.out j hjl
          go_wp2
          refine ⟨⟨j + 1, by omega, by go_num, HKP.out.setCell ⟨g, j, none⟩ _ (fun _ => rfl), HBI.out.set_ hjl⟩, by simp [intOf]; omega⟩
        · have hsr : Sr w wr b L := by
            have e1 := HG1.out
            have e2 := R2.out
            have e3 := HGB.out
            refine ⟨A2, c2, R1.out.keep HKP.out (fun h => by omega) (fun ad e h => ?_), Nat.le_trans HB1.out.size e2, fun ad e => Nat.le_trans HB1.out.size (R3.out ad e), ?_⟩
            · have := R3.out ad e; omega
            · exact (HB1.out.trans (R4.out.mono HB1.out.size)).trans (HKP.out.below (Nat.le_trans HB1.out.size R4.out.size) (fun i hi h => by omega))
          have HSR := Lib.hid hsr
          obtain ⟨wo, hwo⟩ : ∃ wo : World, wo = wr := ⟨_, rfl⟩
          rw [← hwo] at HSR ⊢
          clear hsr HKP HBI hwo
          go_wp2
          go_loopw [8, 62] (fun a i wr => ∃ k at_, k ≤ n ∧ i = .int .i64 k ∧ a = .int .i64 (at_ : Nat) ∧ at_ ≤ L.length ∧ Sr w wr b (L.drop at_)) (fun _ i _ => n - (intOf i).toNat)
          case atStart => exact ⟨0, 0, Nat.zero_le _, rfl, rfl, Nat.zero_le _, HSR.out⟩
          case round =>
            obtain ⟨k, at_, hk, rfl, rfl, hat, A5, c5, s1, s2, s3, s4⟩ := hrel
            by_cases hlt : k < n
            · have hkl : k < l.length := by omega
              obtain ⟨ad, rfl, hadb, x0, x1, x2, x3⟩ := (H.out.below s4).at_ hlt hkl
              have hF := H.out.2.1 l[k] (List.getElem_mem hkl)
              obtain ⟨kk, hkk⟩ : ∃ o, l[k] = o := ⟨_, rfl⟩
              rw [hkk] at x0 x1 x2 x3 hF
              clear hkk
              obtain ⟨kd, sz, nn, tx⟩ := kk
              obtain ⟨q1, q2, q3, q4, q5, q6⟩ := hF
              simp only at q1 q2 q3 q4 q5 q6 x0 x1 x2 x3
              have S1 := Lib.hid s1
              have S2 := Lib.hid s2
              have S3 := Lib.hid s3
              have S4 := Lib.hid s4
              have hdl : (L.drop at_).length ≤ 140737488355328 := by rw [List.length_drop]; omega
              have HDL := Lib.hid hdl
              clear s1 s2 s3 s4 hdl
              go_upto_block 4 with (fail)
              go_cut [11, 12, 13, 14] (fun fine next f e wx => Left w b L fine next e f wx)
              case first =>
                have hbx : Below wr.heap.size wr (wr.alloc (.cells #[.int .i64 kd, .int .i64 sz, .int .u64 nn, .string tx] 30)) := (Below.refl _ _).alloc (Nat.le_refl _) _
                have hx := Blk.new wr 30 #[.int .i64 kd, .int .i64 sz, .int .u64 nn, .string tx]
                have hw2 : Rd (wr.alloc (.cells #[.int .i64 kd, .int .i64 sz, .int .u64 nn, .string tx] 30)) b A5 c5 (L.drop at_) := S1.out.keep (Keep.of_below (S := fun _ => False) hbx) (fun h => h) (fun _ _ h => h)
                have hX : ∀ w3, Keep (fun k => k = b) (wr.alloc (.cells #[.int .i64 kd, .int .i64 sz, .int .u64 nn, .string tx] 30)) w3 → Blk w3 wr.heap.size 30 #[.int .i64 kd, .int .i64 sz, .int .u64 nn, .string tx] :=
                  fun w3 hk => hk.blk hx (fun h => by have := S1.out.blk.lt; omega)
                have hAR : ∀ w3, Sr w w3 b ((L.drop at_).drop 0) ∨ Below w.heap.size w w3 → Below w.heap.size w w3 → Arg w3 Ab cb L := fun w3 _ h => HB.out.below h
                have HBX := Lib.hid hbx
                have HW2 := Lib.hid hw2
                have HX := Lib.hid hX
                clear hbx hx hw2 hX hAR
                clear x0 x1 x2 x3
                by_cases k0 : kd = 0
                · subst k0
                  have h1 := rnum_total _ _ _ _ _ HW2.out sz q3 q4
                  have hle := rnum_le sz (L.drop at_)
                  have hg := fun w3 (h : Below w.heap.size w w3) => get_any w3 Ab cb L (HB.out.below h) at_ hat sz q3 q4
                  rw [List.drop_drop] at h1
                  generalize rnumErr sz (L.drop at_) = er at h1 hle hg
                  generalize taken er sz.toNat = T at h1 hle hg
                  generalize num ((L.drop at_).take T) = V at h1 hg
                  rw [List.length_drop] at hle
                  have H1 := Lib.hid h1
                  have HGE := Lib.hid hg
                  have HLE := Lib.hid hle
                  clear h1 hg hle
                  go_wp2_with (first
                    | (go_at_call 20; refine H1.out.mono ?_; rintro e w3 ⟨rfl, hT⟩; have hb3 := HX.out w3 (by obtain ⟨_, _, _, _, g3⟩ := hT; exact g3); have y1 : w3.cell? ⟨wr.heap.size, 1, none⟩ = some (.int .i64 sz) := hb3.cell 1; have HS := Lib.hid (Sr.took S2.out S3.out S4.out HBX.out hT); clear hb3 hT)
                    | (go_at_call 21; refine (HGE.out w3 (by obtain ⟨_, _, _, _, _, g⟩ := HS.out; exact g)).mono ?_; rintro e w4 ⟨rfl, hB4⟩))
                  go_meet
                  exact ⟨at_ + T, er, by simp, by go_num, rfl, rfl, by have := HLE.out; omega, HS.out.below hB4⟩
                by_cases k1 : kd = 1
                · subst k1
                  have h1 := rint_any _ _ _ _ _ HW2.out
                  have hle := rnum_le 8 (L.drop at_)
                  have hg := fun w3 (h : Below w.heap.size w w3) => get_any w3 Ab cb L (HB.out.below h) at_ hat 8 (by omega) (by omega)
                  rw [show ((8 : Int)).toNat = 8 from rfl] at hle hg
                  rw [List.drop_drop] at h1
                  generalize rnumErr 8 (L.drop at_) = er at h1 hle hg
                  generalize taken er 8 = T at h1 hle hg
                  generalize num ((L.drop at_).take T) = V at h1 hg
                  rw [List.length_drop] at hle
                  have H1 := Lib.hid h1
                  have HGE := Lib.hid hg
                  have HLE := Lib.hid hle
                  clear h1 hg hle
                  go_wp2_with (first
                    | (go_at_call 22; refine H1.out.mono ?_; rintro e w3 ⟨rfl, hT⟩; have HS := Lib.hid (Sr.took S2.out S3.out S4.out HBX.out hT); clear hT)
                    | (go_at_call 21; refine (HGE.out w3 (by obtain ⟨_, _, _, _, _, g⟩ := HS.out; exact g)).mono ?_; rintro e w4 ⟨rfl, hB4⟩))
                  go_meet
                  exact ⟨at_ + T, er, by simp, by go_num, rfl, rfl, by have := HLE.out; omega, HS.out.below hB4⟩
                by_cases k2 : kd = 2
                · subst k2
                  have h1 := rtext_total _ _ _ _ _ HW2.out HDL.out
                  have hle := rtext_le (L.drop at_)
                  have hg := fun w3 (h : Below w.heap.size w w3) => gettext_any w3 Ab cb L (HB.out.below h) at_ hat
                  generalize rtextErr (L.drop at_) = er at h1 hle hg
                  generalize taken er (2 + num ((L.drop at_).take 2)) = T at h1 hle hg
                  generalize (((L.drop at_).drop 2).take (taken er (num ((L.drop at_).take 2)))).toArray = V at h1 hg
                  rw [List.length_drop] at hle
                  have H1 := Lib.hid h1
                  have HGE := Lib.hid hg
                  have HLE := Lib.hid hle
                  clear h1 hg hle
                  go_wp2_with (first
                    | (go_at_call 23; refine H1.out.mono ?_; rintro e w3 ⟨rfl, hT⟩; have HS := Lib.hid (Sr.took S2.out S3.out S4.out HBX.out hT); clear hT)
                    | (go_at_call 24; refine (HGE.out w3 (by obtain ⟨_, _, _, _, _, g⟩ := HS.out; exact g)).mono ?_; rintro e w4 ⟨rfl, hB4⟩))
                  go_meet
                  exact ⟨at_ + T, er, by simp, by go_num, rfl, rfl, by have := HLE.out; omega, by rw [← List.drop_drop]; exact HS.out.below hB4⟩
                by_cases k3 : kd = 3
                · subst k3
                  have h1 := rraw_total _ _ _ _ _ HW2.out HDL.out sz q3 q4
                  have hle := rraw_le sz (L.drop at_)
                  have hg := fun w3 (h : Below w.heap.size w w3) => getraw_any w3 Ab cb L (HB.out.below h) at_ hat sz q3 q4
                  unfold RawTold at h1
                  rw [List.drop_drop] at h1
                  generalize rrawErr sz (L.drop at_) = er at h1 hle hg
                  generalize taken er sz.toNat = T at h1 hle hg
                  have hlx : ((L.drop at_).take T).length = T := by rw [List.length_take]; omega
                  generalize (L.drop at_).take T = lx at h1 hg hlx
                  rw [List.length_drop] at hle
                  have H1 := Lib.hid h1
                  have HGE := Lib.hid hg
                  have HLE := Lib.hid hle
                  have HLX := Lib.hid hlx
                  have hT9 : T ≤ 10000 := by omega
                  clear h1 hg hle hlx
                  obtain ⟨w2', hw2'⟩ : ∃ w2', wr.alloc (.cells #[.int .i64 3, .int .i64 sz, .int .u64 nn, .string tx] 30) = w2' := ⟨_, rfl⟩
                  have hxw : Blk w2' wr.heap.size 30 #[.int .i64 3, .int .i64 sz, .int .u64 nn, .string tx] := hw2' ▸ Blk.new wr _ _
                  have y0 : w2'.cell? ⟨wr.heap.size, 0, none⟩ = some (.int .i64 3) := hxw.cell 0
                  have y1 : w2'.cell? ⟨wr.heap.size, 1, none⟩ = some (.int .i64 sz) := hxw.cell 1
                  rw [hw2'] at HBX HW2 HX H1 ⊢
                  clear hw2' hxw
                  go_wp2_with (first
                    | (go_at_call 25; refine H1.out.mono ?_; rintro e w3 ⟨A7, c7, rfl, hT, ho⟩; have hb3 := HX.out w3 (by obtain ⟨_, _, _, _, g3⟩ := hT; exact g3); have y1' : w3.cell? ⟨wr.heap.size, 1, none⟩ = some (.int .i64 sz) := hb3.cell 1; have HS := Lib.hid (Sr.took S2.out S3.out S4.out HBX.out hT); have HT := Lib.hid hT; have HO7 := Lib.hid ho; clear hb3 hT ho)
                    | (go_at_call 26; refine (HGE.out w3 (by obtain ⟨_, _, _, _, _, g⟩ := HS.out; exact g)).mono ?_; rintro e w4 ⟨v, rfl, A8, c8, rfl, ho8, hB4⟩; have cv8 : (convert 24 9 (.slice A8 lx.length c8)).run Try.prog w4 = .ok (.string ⟨lx.toArray⟩) w4 := conv_reads c8 (Reads.of_own ho8); have cv7 : (convert 24 9 (.slice A7 T c7)).run Try.prog w4 = .ok (.string ⟨lx.toArray⟩) w4 := conv_reads c7 ((Reads.of_own HO7.out).below hB4); have HB4 := Lib.hid hB4; clear hB4 ho8))
                  go_loopw [165] (fun i wi => ∃ j, j ≤ T ∧ i = .int .i64 j ∧ Below w2'.heap.size w4 wi ∧ ∀ g, A7 = some ⟨g, 0, none⟩ → Bys wi g T) (fun i _ => T - (intOf i).toNat)
                  case atStart => exact ⟨0, Nat.zero_le _, rfl, Below.refl _ _, fun g e => by subst e; exact (own_bys HO7.out).keep (Keep.of_below (S := fun _ => False) HB4.out) (fun h => h) (HO7.out.lt g rfl).2⟩
                  case round =>
                    obtain ⟨j, hj, rfl, hbw, hby⟩ := hrel
                    have HBW := Lib.hid hbw
                    have HBY := Lib.hid hby
                    clear hbw hby
                    by_cases hjl : j < T
                    · obtain ⟨g7, rfl, hgb⟩ : ∃ g, A7 = some ⟨g, 0, none⟩ ∧ w2'.heap.size ≤ g := by
                        rcases HO7.out.2 with ⟨_, h0⟩ | ⟨g, cap, cur, e, hb, _⟩
                        · omega
                        · injection e with e
                          exact ⟨g, e, hb⟩
                      obtain ⟨x, cx, fx⟩ := HBY.out g7 rfl j hjl
                      clear cv7 cv8 y0 y1 y1'
                      go_wp2
                      refine ⟨⟨j + 1, by omega, by go_num, HBW.out.setCell (p := ⟨g7, j, none⟩) hgb _, fun g' e => ?_⟩, by simp [intOf]; omega⟩
                      injection e with e
                      injection e with e
                      subst e
                      exact (HBY.out g7 rfl).set_ hjl
                    · clear cv7 cv8 y0 y1 y1'
                      go_wp2
                      go_meet
                      exact ⟨at_ + T, er, by simp, by go_num, rfl, rfl, by have := HLE.out; omega, Sr.tookS HW2.out S2.out S3.out (S4.out.trans (HBX.out.mono S4.out.size)) HT.out HB4.out HBW.out⟩
                · have b0 : (kd == 0) = false := by simpa using k0
                  have b1 : (kd == 1) = false := by simpa using k1
                  have b2 : (kd == 2) = false := by simpa using k2
                  have b3 : (kd == 3) = false := by simpa using k3
                  go_wp2_with fail
                  go_meet
                  exact ⟨at_, 0, rfl, rfl, rfl, rfl, hat, Sr.below ⟨A5, c5, S1.out, S2.out, S3.out, S4.out⟩ HBX.out⟩
              case rest =>
                obtain ⟨a2, er, rfl, rfl, rfl, rfl, ha2, A6, c6, t1, t2, t3, t4⟩ := hcut
                clear x0 x1 x2 x3
                have T1 := Lib.hid t1
                have HL1 := Lib.hid (left_any wc _ _ _ _ t1)
                have HE1 := Lib.hid (end_any wc _ _ _ _ t1)
                have HST : Hid (Sr w wc b (L.drop a2)) := Lib.hid ⟨A6, c6, t1, t2, t3, t4⟩
                clear t1 t2 t3 t4
                by_cases hfull : a2 = L.length
                · have hd0 : L.drop a2 = [] := by rw [hfull]; exact List.drop_length
                  rw [hd0] at HL1 HE1
                  rw [show endErr [] = 0 from rfl] at HE1
                  rw [List.length_nil] at HL1
                  subst hfull
                  clear hd0
                  go_wp2_with (first
                    | (go_at_call 27; refine HL1.out.mono ?_; rintro e _ ⟨rfl, rfl⟩)
                    | (go_at_call 28; refine HE1.out.mono ?_; rintro e _ ⟨rfl, rfl⟩))
                  all_goals refine ⟨⟨k + 1, L.length, by omega, by go_num, rfl, Nat.le_refl _, HST.out⟩, by simp [intOf]; omega⟩
                · have hlen : (((L.drop a2).length : Nat) : Int) = (L.length : Int) - (a2 : Int) := by rw [List.length_drop]; omega
                  have hee : endErr (L.drop a2) = 10 := by
                    unfold endErr
                    rw [if_neg (fun h => by rw [h] at hlen; simp at hlen; omega)]
                  rw [hlen] at HL1
                  rw [hee] at HE1
                  have hlt2 : (a2 : Int) < (L.length : Int) := by omega
                  have hne : ((a2 : Int) == (L.length : Int)) = false := by rw [beq_eq_false_iff_ne]; omega
                  clear hlen hee hfull
                  go_wp2_with (first
                    | (go_at_call 27; refine HL1.out.mono ?_; rintro e _ ⟨rfl, rfl⟩)
                    | (go_at_call 28; refine HE1.out.mono ?_; rintro e _ ⟨rfl, rfl⟩))
                  all_goals refine ⟨⟨k + 1, a2, by omega, by go_num, rfl, by omega, HST.out⟩, by simp [intOf]; omega⟩
            · have HS := Lib.hid s4
              clear s1 s2 s3 s4
              go_wp2
              go_ret
              exact ⟨rfl, HS.out⟩
  · rw [hgr] at HG
    go_enter Try.func4, Try.ntmps4
    go_wp2_with (go_at_call 9; refine HG.out.mono ?_; rintro e w' ⟨rfl, rfl⟩)
    go_ret
    exact ⟨rfl, Below.refl _ _⟩

end Go.Proofs.Ytlonejpphmpnjaa.octetReads

/-
  OctetAgain's walk: what is read of any bytes, written again, is the bytes that were read.
-/
import Derived.Test.YtlonejpphmpnjaaAgainL
import Derived.Test.YtlonejpphmpnjaaAny
import Derived.Test.YtlonejpphmpnjaaRefR
import Derived.Test.YtlonejpphmpnjaaLift
import Derived.Test.YtlonejpphmpnjaaMem
import Derived.Deep.DeepCutAuto
import Derived.Deep.CutBlock
import Derived.Deep.RegionWith
import Derived.ProofKit
import Derived.OpenShut
import Derived.Carry
import Derived.Deep.Slices
import Derived.Deep.Fields
import Derived.ChangeSame
namespace Go.Proofs.Ytlonejpphmpnjaa.octetAgain
open Go.ChangeShapes Go.WideShapes Go.ChangeAt Go.RowKit

/-- What the switch leaves. -/
def Mid (N W : World) (b bw X : Nat) (kd sz : Int) (lx lw : List UInt8) (e : Value) : Prop :=
  ∃ er T n s, e = .int .i64 er ∧ Sa N W b bw (lx.drop T) lw ∧ Blk W X 30 #[.int .i64 kd, .int .i64 sz, .int .u64 (n : Nat), .string s] ∧ (⟨kd, sz, n, s⟩ : Cal).Fine ∧ s.size ≤ 100000 ∧ Got ⟨kd, sz, n, s⟩ lx er T

set_option maxRecDepth 100000 in
set_option maxHeartbeats 8000000 in
theorem walk (Ab : Option Addr) (cb : Nat) (L : List UInt8) (A : Option Addr) (n c : Nat) (l : List Cal) (w : World) (hb : Arg w Ab cb L) (h : Cals w w.heap.size A n l) (hm : n ≤ 9223372036854775807) :
    Calls Try.prog 7 #[.slice Ab L.length cb, .slice A n c] w fun e w' => e = .returned (.bool true) ∧ Below w.heap.size w w' := by
  have HA := Lib.hid (alive_any w)
  have HG := Lib.hid (fun w1 (k1 : Below w.heap.size w w1) => great_any w.heap.size A n c l w1 (h.below k1) hm)
  have H := Lib.hid h
  have HB := Lib.hid hb
  have hl := h.1
  clear h hb
  by_cases hlong : 10000 < L.length
  · generalize great l = gl at HG
    go_enter Try.func7, Try.ntmps7
    cases gl
    all_goals
      go_wp2_with (first
        | (go_at_call 29; refine HA.out.mono ?_; rintro e w1 ⟨rfl, k1⟩; have K1 := Lib.hid k1; clear k1)
        | (go_at_call 9; refine (HG.out w1 K1.out).mono ?_; rintro e _ ⟨rfl, rfl⟩))
      go_ret
      exact ⟨rfl, K1.out⟩
  · cases hgr : great l
    · rw [hgr] at HG
      have hgl : ¬ 100 < l.length ∧ ¬ 100000 < size l := by
        unfold great at hgr
        simpa using hgr
      obtain ⟨hg1, hg2⟩ := hgl
      have hLb : L.length ≤ 10000 := by omega
      clear hgr hlong
      go_enter Try.func7, Try.ntmps7
      go_wp2_with (first
        | (go_at_call 29; refine HA.out.mono ?_; rintro e w1 ⟨rfl, k1⟩; have K1 := Lib.hid k1; have HRD := Lib.hid (rd_of Ab L.length cb L w1 (HB.out.below k1).reads (by omega)); clear k1)
        | (go_at_call 9; refine (HG.out w1 K1.out).mono ?_; rintro e _ ⟨rfl, rfl⟩)
        | (go_at_call 19; refine HRD.out.mono ?_; rintro e w2 ⟨b, A2, c2, rfl, r1, r2, r3, r4⟩; have R1 := Lib.hid r1; have R2 := Lib.hid r2; have R3 := Lib.hid r3; have R4 := Lib.hid r4; clear r1 r2 r3 r4))
      have hsa : Sa w (w2.alloc (.cells #[.slice none 0 0, .pointer none] 27)) b w2.heap.size L [] := by
        have hbx : Below w2.heap.size w2 (w2.alloc (.cells #[.slice none 0 0, .pointer none] 27)) := (Below.refl _ _).alloc (Nat.le_refl _) _
        have e1 := K1.out.size
        have e2 := R4.out.size
        have e3 := R1.out.blk.lt
        have e4 := R2.out
        refine ⟨A2, c2, none, 0, none, R1.out.keep (Keep.of_below (S := fun _ => False) hbx) (fun h => h) (fun _ _ h => h), Wr.made w2, by omega, fun ad e => Nat.le_trans e1 (R3.out ad e), fun k h => ?_, fun h => ?_, fun ad e h => ?_, (K1.out.trans (R4.out.mono e1)).trans (hbx.mono (by omega))⟩
        · have := foot_new h; omega
        · have := foot_new h; omega
        · have := foot_new h; have := R1.out.lt ad e; omega
      have HSA := Lib.hid hsa
      obtain ⟨bw, hbw⟩ : ∃ bw, w2.heap.size = bw := ⟨_, rfl⟩
      rw [hbw] at HSA ⊢
      clear hsa HRD hbw
      go_loopw [33] (fun i wr => ∃ k at_, k ≤ n ∧ i = .int .i64 k ∧ at_ ≤ L.length ∧ Sa w wr b bw (L.drop at_) (L.take at_)) (fun i _ => n - (intOf i).toNat)
      case atStart => exact ⟨0, 0, Nat.zero_le _, rfl, Nat.zero_le _, HSA.out⟩
      case round =>
        obtain ⟨k, at_, hk, rfl, hat, A5, c5, Aw, cw, u, s1, s2, s3, s4, s5, s6, s7, s8⟩ := hrel
        by_cases hlt : k < n
        · have hkl : k < l.length := by omega
          obtain ⟨ad, rfl, hadb, x0, x1, x2, x3⟩ := (H.out.below s8).at_ hlt hkl
          have hF := H.out.2.1 l[k] (List.getElem_mem hkl)
          have hsn : (l[k]).s.size ≤ size l := by
            have h1 := size_take_le l (k + 1)
            rw [List.take_succ_eq_append_getElem hkl, size_snoc] at h1
            omega
          obtain ⟨kk, hkk⟩ : ∃ o, l[k] = o := ⟨_, rfl⟩
          rw [hkk] at x0 x1 x2 x3 hF hsn
          clear hkk
          obtain ⟨kd, sz, nn, tx⟩ := kk
          obtain ⟨q1, q2, q3, q4, q5, q6⟩ := hF
          simp only at q1 q2 q3 q4 q5 q6 x0 x1 x2 x3 hsn
          have htx : tx.size ≤ 100000 := by omega
          have S1 := Lib.hid s1
          have S2 := Lib.hid s2
          have S3 := Lib.hid s3
          have S4 := Lib.hid s4
          have S5 := Lib.hid s5
          have S6 := Lib.hid s6
          have S7 := Lib.hid s7
          have S8 := Lib.hid s8
          have hdl : (L.drop at_).length ≤ 10000 := by rw [List.length_drop]; omega
          have HDL := Lib.hid hdl
          obtain ⟨lx, hlx⟩ : ∃ lx, L.drop at_ = lx := ⟨_, rfl⟩
          rw [hlx] at S1 HDL
          have HLX := Lib.hid hlx
          clear s1 s2 s3 s4 s5 s6 s7 s8 hdl hsn hlx
          go_upto_block 2 with (fail)
          go_cut [10] (fun e wx => Mid w wx b bw wr.heap.size kd sz lx (L.take at_) e)
          case first =>
            have hbx : Below wr.heap.size wr (wr.alloc (.cells #[.int .i64 kd, .int .i64 sz, .int .u64 nn, .string tx] 30)) := (Below.refl _ _).alloc (Nat.le_refl _) _
            have hx := Blk.new wr 30 #[.int .i64 kd, .int .i64 sz, .int .u64 nn, .string tx]
            have hw2 : Rd (wr.alloc (.cells #[.int .i64 kd, .int .i64 sz, .int .u64 nn, .string tx] 30)) b A5 c5 lx := S1.out.keep (Keep.of_below (S := fun _ => False) hbx) (fun h => h) (fun _ _ h => h)
            have hX : ∀ w3, Keep (fun k => k = b) (wr.alloc (.cells #[.int .i64 kd, .int .i64 sz, .int .u64 nn, .string tx] 30)) w3 → Blk w3 wr.heap.size 30 #[.int .i64 kd, .int .i64 sz, .int .u64 nn, .string tx] :=
              fun w3 hk => hk.blk hx (fun h => by have := S1.out.blk.lt; omega)
            have hcw : Sa w (wr.alloc (.cells #[.int .i64 kd, .int .i64 sz, .int .u64 nn, .string tx] 30)) b bw lx (L.take at_) := Sa.below ⟨A5, c5, Aw, cw, u, S1.out, S2.out, S3.out, S4.out, S5.out, S6.out, S7.out, S8.out⟩ hbx
            have HBX := Lib.hid hbx
            have HW2 := Lib.hid hw2
            have HX := Lib.hid hX
            have HXX := Lib.hid hx
            have HCW := Lib.hid hcw
            clear hbx hx hw2 hX hcw
            clear x0 x1 x2 x3
            have htook := fun w3 T (hT : Took (wr.alloc (.cells #[.int .i64 kd, .int .i64 sz, .int .u64 nn, .string tx] 30)) w3 b A5 (lx.drop T)) => Sa.tookS S1.out S2.out S3.out S4.out S5.out S6.out S7.out S8.out HBX.out hT
            have HTOOK := Lib.hid htook
            clear htook
            by_cases k0 : kd = 0
            · subst k0
              have h1 := rnum_total _ _ _ _ _ HW2.out sz q3 q4
              have hgot := got_num sz tx lx
              have hV := vnum_lt sz lx
              generalize rnumErr sz lx = er at h1 hgot hV
              generalize taken er sz.toNat = T at h1 hgot hV
              generalize num (lx.take T) = V at h1 hgot hV
              have H1 := Lib.hid h1
              have HGOT := Lib.hid hgot
              clear h1 hgot
              go_wp2_with (go_at_call 20; refine H1.out.mono ?_; rintro e w3 ⟨rfl, hT⟩; have hb3 := HX.out w3 (by obtain ⟨_, _, _, _, g3⟩ := hT; exact g3); have y1 : w3.cell? ⟨wr.heap.size, 1, none⟩ = some (.int .i64 sz) := hb3.cell 1; have y2 : w3.cell? ⟨wr.heap.size, 2, none⟩ = some (.int .u64 nn) := hb3.cell 2; have z2 : w3.frozen? ⟨wr.heap.size, 2, none⟩ = false := hb3.frozen 2; have HS := Lib.hid (HTOOK.out w3 T hT); have HB3 := Lib.hid hb3; clear hb3 hT)
              go_meet
              exact ⟨er, T, V, tx, rfl, HS.out _ ((Keep.refl _ _).setCell ⟨_, 2, none⟩ _ (fun _ => rfl)), HB3.out.set_ 2 _, ⟨q1, q2, q3, q4, hV, q6⟩, htx, HGOT.out⟩
            by_cases k1 : kd = 1
            · subst k1
              have h1 := rint_any _ _ _ _ _ HW2.out
              have hgot := got_int sz tx lx
              generalize rnumErr 8 lx = er at h1 hgot
              generalize taken er 8 = T at h1 hgot
              have hwb := wrap64_bounds (num (lx.take T))
              generalize wrap64 (num (lx.take T)) = V at h1 hgot hwb
              obtain ⟨V2, hV2⟩ : ∃ V2, (V % 18446744073709551616).toNat = V2 := ⟨_, rfl⟩
              have hV3 : V % 18446744073709551616 = (V2 : Int) := by omega
              have hV4 : V2 < 18446744073709551616 := by omega
              rw [hV2] at hgot
              have hWR : IntKind.u64.wrap V = (V2 : Int) := by rw [wrap_u64, hV2]
              have H1 := Lib.hid h1
              have HGOT := Lib.hid hgot
              obtain ⟨hwb1, hwb2⟩ := hwb
              clear h1 hgot hV2
              go_wp2_with (go_at_call 22; refine H1.out.mono ?_; rintro e w3 ⟨rfl, hT⟩; have hb3 := HX.out w3 (by obtain ⟨_, _, _, _, g3⟩ := hT; exact g3); have y2 : w3.cell? ⟨wr.heap.size, 2, none⟩ = some (.int .u64 nn) := hb3.cell 2; have z2 : w3.frozen? ⟨wr.heap.size, 2, none⟩ = false := hb3.frozen 2; have HS := Lib.hid (HTOOK.out w3 T hT); have HB3 := Lib.hid hb3; clear hb3 hT)
              go_meet
              exact ⟨er, T, V2, tx, rfl, HS.out _ ((Keep.refl _ _).setCell ⟨_, 2, none⟩ _ (fun _ => rfl)), HB3.out.set_ 2 _, ⟨q1, q2, q3, q4, hV4, q6⟩, htx, HGOT.out⟩
            by_cases k2 : kd = 2
            · subst k2
              have h1 := rtext_total _ _ _ _ _ HW2.out (by have := HDL.out; omega)
              have hgot := got_text sz nn lx
              have hle : ((lx.drop 2).take (taken (rtextErr lx) (num (lx.take 2)))).length ≤ 10000 := by rw [List.length_take, List.length_drop]; have := HDL.out; omega
              generalize rtextErr lx = er at h1 hgot hle
              generalize taken er (2 + num (lx.take 2)) = T at h1 hgot
              generalize (lx.drop 2).take (taken er (num (lx.take 2))) = V at h1 hgot hle
              have H1 := Lib.hid h1
              have HGOT := Lib.hid hgot
              have HLE := Lib.hid hle
              clear h1 hgot hle
              go_wp2_with (go_at_call 23; refine H1.out.mono ?_; rintro e w3 ⟨rfl, hT⟩; have hb3 := HX.out w3 (by obtain ⟨_, _, _, _, g3⟩ := hT; exact g3); have y3 : w3.cell? ⟨wr.heap.size, 3, none⟩ = some (.string tx) := hb3.cell 3; have z3 : w3.frozen? ⟨wr.heap.size, 3, none⟩ = false := hb3.frozen 3; have HS := Lib.hid (HTOOK.out w3 T hT); have HB3 := Lib.hid hb3; clear hb3 hT)
              go_meet
              have hvs : (⟨V.toArray⟩ : ByteArray).size = V.length := by show V.toArray.size = _; simp
              exact ⟨er, T, nn, ⟨V.toArray⟩, rfl, HS.out _ ((Keep.refl _ _).setCell ⟨_, 3, none⟩ _ (fun _ => rfl)), HB3.out.set_ 3 _, ⟨q1, q2, q3, q4, q5, by show (⟨V.toArray⟩ : ByteArray).size ≤ _; have := HLE.out; omega⟩, by have := HLE.out; omega, HGOT.out⟩
            by_cases k3 : kd = 3
            · subst k3
              have h1 := rraw_total _ _ _ _ _ HW2.out (by have := HDL.out; omega) sz q3 q4
              have hgot := got_raw sz nn lx
              unfold RawTold at h1
              have hle : (lx.take (taken (rrawErr sz lx) sz.toNat)).length ≤ 10000 := by rw [List.length_take]; have := HDL.out; omega
              generalize rrawErr sz lx = er at h1 hgot hle
              generalize taken er sz.toNat = T at h1 hgot hle
              generalize lx.take T = V at h1 hgot hle
              have H1 := Lib.hid h1
              have HGOT := Lib.hid hgot
              have HLE := Lib.hid hle
              clear h1 hgot hle
              go_wp2_with (go_at_call 25; refine H1.out.mono ?_; rintro e w3 ⟨A7, c7, rfl, hT, ho⟩; have hb3 := HX.out w3 (by obtain ⟨_, _, _, _, g3⟩ := hT; exact g3); have y3 : w3.cell? ⟨wr.heap.size, 3, none⟩ = some (.string tx) := hb3.cell 3; have z3 : w3.frozen? ⟨wr.heap.size, 3, none⟩ = false := hb3.frozen 3; have cv7 : (convert 24 9 (.slice A7 T c7)).run Try.prog w3 = .ok (.string ⟨V.toArray⟩) w3 := conv_reads c7 (Reads.of_own ho); have HS := Lib.hid (HTOOK.out w3 T hT); have HB3 := Lib.hid hb3; clear hb3 hT ho)
              go_meet
              have hvs : (⟨V.toArray⟩ : ByteArray).size = V.length := by show V.toArray.size = _; simp
              exact ⟨er, T, nn, ⟨V.toArray⟩, rfl, HS.out _ ((Keep.refl _ _).setCell ⟨_, 3, none⟩ _ (fun _ => rfl)), HB3.out.set_ 3 _, ⟨q1, q2, q3, q4, q5, by show (⟨V.toArray⟩ : ByteArray).size ≤ _; have := HLE.out; omega⟩, by have := HLE.out; omega, HGOT.out⟩
            · have b0 : (kd == 0) = false := by simpa using k0
              have b1 : (kd == 1) = false := by simpa using k1
              have b2 : (kd == 2) = false := by simpa using k2
              have b3 : (kd == 3) = false := by simpa using k3
              go_wp2_with fail
              go_meet
              exact ⟨2, 0, nn, tx, rfl, HCW.out, HXX.out, ⟨q1, q2, q3, q4, q5, q6⟩, htx, got_none _ _⟩
          case rest =>
            obtain ⟨er, T, n2, s2, rfl, ⟨A6, c6, Aw6, cw6, u6, t1, t2, t3, t4, t5, t6, t7, t8⟩, hbk, hfi, hs2, hgot⟩ := hcut
            clear x0 x1 x2 x3
            have T1 := Lib.hid t1
            have T2 := Lib.hid t2
            have T3 := Lib.hid t3
            have T4 := Lib.hid t4
            have T5 := Lib.hid t5
            have T6 := Lib.hid t6
            have T7 := Lib.hid t7
            have T8 := Lib.hid t8
            have HFI := Lib.hid hfi
            have HGOT := Lib.hid hgot
            have HBK := Lib.hid hbk
            have hSa : Sa w wc b bw (lx.drop T) (L.take at_) := ⟨A6, c6, Aw6, cw6, u6, t1, t2, t3, t4, t5, t6, t7, t8⟩
            have HSa := Lib.hid hSa
            clear t1 t2 t3 t4 t5 t6 t7 t8 hfi hgot hbk hSa
            by_cases her : er = 0
            · obtain ⟨hok, hout, hTl⟩ := HGOT.out.1 her
              have HW := Lib.hid (write_any wc bw Aw6 cw6 u6 _ T2.out ⟨kd, sz, n2, s2⟩ HFI.out (by rw [List.length_take]; show _ + s2.size + _ ≤ _; omega))
              rw [hok, hout] at HW
              have y0 : wc.cell? ⟨wr.heap.size, 0, none⟩ = some (.int .i64 kd) := HBK.out.cell 0
              have y1 : wc.cell? ⟨wr.heap.size, 1, none⟩ = some (.int .i64 sz) := HBK.out.cell 1
              have y2 : wc.cell? ⟨wr.heap.size, 2, none⟩ = some (.int .u64 n2) := HBK.out.cell 2
              have y3 : wc.cell? ⟨wr.heap.size, 3, none⟩ = some (.string s2) := HBK.out.cell 3
              subst her
              clear hok hout
              go_wp2_with (go_at_call 30; refine HW.out.mono ?_; rintro e w7 ⟨rfl, hq⟩; have HQ := Lib.hid hq; clear hq)
              have hlxl := congrArg List.length HLX.out
              rw [List.length_drop] at hlxl
              refine ⟨⟨k + 1, at_ + T, by omega, by go_num, by omega, ?_⟩, by simp [intOf]; omega⟩
              rw [List.take_add, ← List.drop_drop, HLX.out]
              exact Sa.wrote T1.out T3.out T4.out T5.out T6.out T7.out T8.out HQ.out
            · have hT0 := HGOT.out.2 her
              have hne : (er == 0) = false := by simpa using her
              go_wp2_with fail
              refine ⟨⟨k + 1, at_, by omega, by go_num, hat, ?_⟩, by simp [intOf]; omega⟩
              have := HSa.out
              rw [hT0, List.drop_zero] at this
              rw [HLX.out]
              exact this
        · have hwl : (L.take at_).length = at_ := by rw [List.length_take]; omega
          have HRL := Lib.hid (left_any wr _ _ _ _ s1)
          have HLL : Hid (((L.drop at_).length : Int) = (L.length : Int) - at_) := Lib.hid (by rw [List.length_drop]; omega)
          rw [HLL.out] at HRL
          have hwb : ∀ w', Below wr.heap.size wr w' → Calls Try.prog 18 #[.pointer (some ⟨bw, 0, none⟩)] w' fun e w'' => ∃ A' c', e = .returned (.slice A' at_ c') ∧ w''.ownsRow w'.heap.size 5 1 (.slice A' at_ c') at_ ((L.take at_).map bv) ∧ Below w'.heap.size w' w'' := by
            intro w' hb
            have h := wbytes_any w' _ _ _ _ _ (s2.keep (Keep.of_below (S := fun _ => False) hb) (fun _ _ h => h)) (by omega)
            rw [hwl] at h
            exact h
          have HWB := Lib.hid hwb
          have hrb := (HB.out.below s8).reads
          have HFR := Lib.hid (hrb.front hat)
          have S8 := Lib.hid s8
          have hnn : (L.length : Int) - ((L.length : Int) - at_) = at_ := by omega
          have hcap : (at_ : Int) ≤ cb := by have := HB.out.cap; omega
          have hge : decide ((0 : Int) ≤ at_) = true := by simp
          have hle : decide ((at_ : Int) ≤ L.length) = true := by simpa using hat
          clear s1 s2 s3 s4 s5 s6 s7 s8 hwb hrb
          go_wp2_with (go_at_call 27; refine HRL.out.mono ?_; rintro e _ ⟨rfl, rfl⟩)
          refine wp_region_steps (fun w' => Below wr.heap.size wr w') (fun i v w' => match i with | 12 => ∃ A9 c9, v = .slice A9 at_ c9 ∧ (convert 24 9 (.slice A9 at_ c9)).run Try.prog w' = .ok (.string ⟨(L.take at_).toArray⟩) w' | i => v = ([.bool true, .bool true, .int .i64 at_, .bool true, .bool true, .bool true, .int .i64 at_, .slice Ab L.length cb, .int .i64 L.length, .bool true, .bool true, .bool true, undef, .string ⟨(L.take at_).toArray⟩, .slice Ab L.length cb, .int .i64 at_, .slice Ab at_ cb, .string ⟨(L.take at_).toArray⟩, .bool true, .bool true, .bool true] : List Value).getD i undef) (by kernel_rfl) 117 rfl (by kernel_rfl) (Below.refl _ _).drew ?_ ?_
          · intro i hi
            have hi2 : i < 21 := hi
            clear hi
            rcases i with _ | i
            · refine step_value (.bool true) rfl ?_
              intro a8 w8 hS ho hn
              have o5 : a8.tmps[5]? = some _ := (ho 5 (by kernel_rfl)).trans rfl
              clear ho hn
              refine ⟨wanted_free rfl, ?_, rfl⟩
              go_simp
            rcases i with _ | i
            · refine step_value (.bool true) rfl ?_
              intro a8 w8 hS ho hn
              obtain ⟨_, n97, rfl⟩ := hn 0 97 (by kernel_rfl) rfl
              clear ho hn
              refine ⟨wanted_free rfl, ?_, rfl⟩
              go_simp
            rcases i with _ | i
            · refine step_value (.int .i64 at_) rfl ?_
              intro a8 w8 hS ho hn
              have o15 : a8.tmps[15]? = some _ := (ho 15 (by kernel_rfl)).trans rfl
              obtain ⟨_, g98, rfl⟩ := hn 1 98 (by kernel_rfl) rfl
              clear ho hn
              refine ⟨wanted_of 1 98 rfl rfl g98, ?_, rfl⟩
              go_simp
            rcases i with _ | i
            · refine step_value (.bool true) rfl ?_
              intro a8 w8 hS ho hn
              obtain ⟨_, n99, rfl⟩ := hn 2 99 (by kernel_rfl) rfl
              obtain ⟨_, g98, rfl⟩ := hn 1 98 (by kernel_rfl) rfl
              clear ho hn
              refine ⟨wanted_of 1 98 rfl rfl g98, ?_, rfl⟩
              go_simp
            rcases i with _ | i
            · refine step_value (.bool true) rfl ?_
              intro a8 w8 hS ho hn
              obtain ⟨_, n98, rfl⟩ := hn 1 98 (by kernel_rfl) rfl
              obtain ⟨_, n100, rfl⟩ := hn 3 100 (by kernel_rfl) rfl
              clear ho hn
              refine ⟨wanted_free rfl, ?_, rfl⟩
              go_simp
            rcases i with _ | i
            · refine step_value (.bool true) rfl ?_
              intro a8 w8 hS ho hn
              obtain ⟨_, n101, rfl⟩ := hn 4 101 (by kernel_rfl) rfl
              clear ho hn
              refine ⟨wanted_free rfl, ?_, rfl⟩
              go_simp
            rcases i with _ | i
            · refine step_value (.int .i64 at_) rfl ?_
              intro a8 w8 hS ho hn
              have o15 : a8.tmps[15]? = some _ := (ho 15 (by kernel_rfl)).trans rfl
              obtain ⟨_, g102, rfl⟩ := hn 5 102 (by kernel_rfl) rfl
              clear ho hn
              refine ⟨wanted_of 5 102 rfl rfl g102, ?_, rfl⟩
              go_simp
            rcases i with _ | i
            · refine step_value (.slice Ab L.length cb) rfl ?_
              intro a8 w8 hS ho hn
              have o0 : a8.tmps[0]? = some _ := (ho 0 (by kernel_rfl)).trans rfl
              obtain ⟨_, g102, rfl⟩ := hn 5 102 (by kernel_rfl) rfl
              clear ho hn
              refine ⟨wanted_of 5 102 rfl rfl g102, ?_, rfl⟩
              go_simp
            rcases i with _ | i
            · refine step_value (.int .i64 L.length) rfl ?_
              intro a8 w8 hS ho hn
              obtain ⟨_, n104, rfl⟩ := hn 7 104 (by kernel_rfl) rfl
              obtain ⟨_, g102, rfl⟩ := hn 5 102 (by kernel_rfl) rfl
              clear ho hn
              refine ⟨wanted_of 5 102 rfl rfl g102, ?_, rfl⟩
              go_simp
            rcases i with _ | i
            · refine step_value (.bool true) rfl ?_
              intro a8 w8 hS ho hn
              obtain ⟨_, n103, rfl⟩ := hn 6 103 (by kernel_rfl) rfl
              obtain ⟨_, n105, rfl⟩ := hn 8 105 (by kernel_rfl) rfl
              obtain ⟨_, g102, rfl⟩ := hn 5 102 (by kernel_rfl) rfl
              clear ho hn
              refine ⟨wanted_of 5 102 rfl rfl g102, ?_, rfl⟩
              go_simp
            rcases i with _ | i
            · refine step_value (.bool true) rfl ?_
              intro a8 w8 hS ho hn
              obtain ⟨_, n102, rfl⟩ := hn 5 102 (by kernel_rfl) rfl
              obtain ⟨_, n106, rfl⟩ := hn 9 106 (by kernel_rfl) rfl
              clear ho hn
              refine ⟨wanted_free rfl, ?_, rfl⟩
              go_simp
            rcases i with _ | i
            · refine step_value (.bool true) rfl ?_
              intro a8 w8 hS ho hn
              obtain ⟨_, n107, rfl⟩ := hn 10 107 (by kernel_rfl) rfl
              clear ho hn
              refine ⟨wanted_free rfl, ?_, rfl⟩
              go_simp
            rcases i with _ | i
            · refine step_call 18 #[.pointer (some ⟨bw, 0, none⟩)] rfl ?_
              intro a8 w8 hS ho hn
              have o7 : a8.tmps[7]? = some _ := (ho 7 (by kernel_rfl)).trans rfl
              obtain ⟨_, g108, rfl⟩ := hn 11 108 (by kernel_rfl) rfl
              clear ho hn
              refine ⟨wanted_of 11 108 rfl rfl g108, by go_simp, ?_⟩
              refine (HWB.out w8 hS).mono ?_
              rintro e w' ⟨A9, c9, rfl, g9, k9⟩
              refine ⟨_, rfl, hS.trans (k9.mono hS.size), ⟨A9, c9, rfl, conv_reads c9 (Reads.of_own g9)⟩, fun j u hj hR => ?_⟩
              match j, hj, hR with
              | 12, hj, _ => exact absurd rfl hj
              | 0, _, h | 1, _, h | 2, _, h | 3, _, h | 4, _, h | 5, _, h | 6, _, h | 7, _, h | 8, _, h | 9, _, h | 10, _, h | 11, _, h => exact h
              | n + 13, _, h => exact h
            rcases i with _ | i
            · refine step_value (.string ⟨(L.take at_).toArray⟩) rfl ?_
              intro a8 w8 hS ho hn
              obtain ⟨_, n109, A9, c9, rfl, cv⟩ := hn 12 109 (by kernel_rfl) rfl
              obtain ⟨_, g108, rfl⟩ := hn 11 108 (by kernel_rfl) rfl
              clear ho hn
              refine ⟨wanted_of 11 108 rfl rfl g108, ?_, rfl⟩
              go_simp
            rcases i with _ | i
            · refine step_value (.slice Ab L.length cb) rfl ?_
              intro a8 w8 hS ho hn
              have o0 : a8.tmps[0]? = some _ := (ho 0 (by kernel_rfl)).trans rfl
              obtain ⟨_, g108, rfl⟩ := hn 11 108 (by kernel_rfl) rfl
              clear ho hn
              refine ⟨wanted_of 11 108 rfl rfl g108, ?_, rfl⟩
              go_simp
            rcases i with _ | i
            · refine step_value (.int .i64 at_) rfl ?_
              intro a8 w8 hS ho hn
              have o15 : a8.tmps[15]? = some _ := (ho 15 (by kernel_rfl)).trans rfl
              obtain ⟨_, g108, rfl⟩ := hn 11 108 (by kernel_rfl) rfl
              clear ho hn
              refine ⟨wanted_of 11 108 rfl rfl g108, ?_, rfl⟩
              go_simp
            rcases i with _ | i
            · refine step_value (.slice Ab at_ cb) rfl ?_
              intro a8 w8 hS ho hn
              obtain ⟨_, n111, rfl⟩ := hn 14 111 (by kernel_rfl) rfl
              obtain ⟨_, n112, rfl⟩ := hn 15 112 (by kernel_rfl) rfl
              obtain ⟨_, g108, rfl⟩ := hn 11 108 (by kernel_rfl) rfl
              clear ho hn
              refine ⟨wanted_of 11 108 rfl rfl g108, ?_, rfl⟩
              go_simp
            rcases i with _ | i
            · refine step_value (.string ⟨(L.take at_).toArray⟩) rfl ?_
              intro a8 w8 hS ho hn
              have cb9 : (convert 24 9 (.slice Ab at_ cb)).run Try.prog w8 = .ok (.string ⟨(L.take at_).toArray⟩) w8 := conv_reads cb (HFR.out.below hS)
              obtain ⟨_, n113, rfl⟩ := hn 16 113 (by kernel_rfl) rfl
              obtain ⟨_, g108, rfl⟩ := hn 11 108 (by kernel_rfl) rfl
              clear ho hn
              refine ⟨wanted_of 11 108 rfl rfl g108, ?_, rfl⟩
              go_simp
            rcases i with _ | i
            · refine step_value (.bool true) rfl ?_
              intro a8 w8 hS ho hn
              obtain ⟨_, n110, rfl⟩ := hn 13 110 (by kernel_rfl) rfl
              obtain ⟨_, n114, rfl⟩ := hn 17 114 (by kernel_rfl) rfl
              obtain ⟨_, g108, rfl⟩ := hn 11 108 (by kernel_rfl) rfl
              clear ho hn
              refine ⟨wanted_of 11 108 rfl rfl g108, ?_, rfl⟩
              go_simp
            rcases i with _ | i
            · refine step_value (.bool true) rfl ?_
              intro a8 w8 hS ho hn
              obtain ⟨_, n108, rfl⟩ := hn 11 108 (by kernel_rfl) rfl
              obtain ⟨_, n115, rfl⟩ := hn 18 115 (by kernel_rfl) rfl
              clear ho hn
              refine ⟨wanted_free rfl, ?_, rfl⟩
              go_simp
            rcases i with _ | i
            · refine step_value (.bool true) rfl ?_
              intro a8 w8 hS ho hn
              obtain ⟨_, n116, rfl⟩ := hn 19 116 (by kernel_rfl) rfl
              clear ho hn
              refine ⟨wanted_free rfl, ?_, rfl⟩
              go_simp
            omega
          · intro a8 w8 hS hz hd ho hn
            obtain ⟨_, n4, rfl⟩ := hn 20 4 rfl
            have e4 : a8.eval (.tmp 4) = .bool true := eval_of n4
            clear ho hn n4
            go_wp2
            refine bodyPost_ret (results_tmp rfl _ _ _) hd ?_
            exact ⟨by rw [← e4]; rfl, S8.out.trans (hS.mono S8.out.size)⟩
    · rw [hgr] at HG
      go_enter Try.func7, Try.ntmps7
      go_wp2_with (first
        | (go_at_call 29; refine HA.out.mono ?_; rintro e w1 ⟨rfl, k1⟩; have K1 := Lib.hid k1; clear k1)
        | (go_at_call 9; refine (HG.out w1 K1.out).mono ?_; rintro e _ ⟨rfl, rfl⟩))
      go_ret
      exact ⟨rfl, K1.out⟩

end Go.Proofs.Ytlonejpphmpnjaa.octetAgain

/-
  The statement CrcJoins is proved: the sum of bytes is that of their parts joined, and that of what is behind a part, of three parts in whatever order they are joined; for any three byte slices, without a condition.
-/
import Derived.Test.YtlhonndnoegmbaaCrcAlive
import Derived.Test.YtlhonndnoegmbaaOpen
namespace Go.Proofs.Ytlhonndnoegmbaa.crcJoins
open Go.ChangeShapes Go.WideShapes Go.ChangeAt Go.RowKit Go.Proofs.Ytlhonndnoegmbaa.crc

theorem own_slice {w : World} {base e size n : Nat} {v : Value} {xs : List Value} (h : w.ownsRow base e size v n xs) : ∃ A c, v = .slice A n c := by
  rcases h.2 with ⟨rfl, h0⟩ | ⟨g, cap, cur, e, _⟩
  · exact ⟨none, 0, by rw [h0]⟩
  · exact ⟨_, cap, e⟩

theorem own_fresh (w : World) (base : Nat) (h : base ≤ w.heap.size) : (w.alloc (.cells #[] 5)).ownsRow base 5 1 (.slice (some ⟨w.heap.size, 0, none⟩) 0 0) 0 [] :=
  World.ownsRow_made w #[] 0 h (Nat.zero_le _) rfl

section
variable (A1 A2 A3 : Option Addr) (c1 c2 c3 : Nat) (l1 l2 l3 : List UInt8) (w : World)

set_option maxRecDepth 100000 in
set_option maxHeartbeats 1000000 in
theorem walk_big (h : 3000 < l1.length ∨ 3000 < l2.length ∨ 3000 < l3.length) (h1 : l1.length ≤ 140737488355328) (h2 : l2.length ≤ 140737488355328) (h3 : l3.length ≤ 140737488355328) :
    Calls Try.prog 5 #[.slice A1 l1.length c1, .slice A2 l2.length c2, .slice A3 l3.length c3] w fun e w' => e = .returned (.bool true) ∧ Below w.heap.size w w' := by
  have HH := Lib.hid h
  clear h
  generalize l1.length = n1 at *
  generalize l2.length = n2 at *
  generalize l3.length = n3 at *
  by_cases g1 : 3000 < n1
  · go_enter Try.func5, Try.ntmps5
    go_wp2_with (go_at_call 15; with_reducible refine (calive_any _).mono ?_; rintro e w1 ⟨rfl, hb⟩)
    go_ret
    exact ⟨rfl, hb⟩
  by_cases g2 : 3000 < n2
  · go_enter Try.func5, Try.ntmps5
    go_wp2_with (go_at_call 15; with_reducible refine (calive_any _).mono ?_; rintro e w1 ⟨rfl, hb⟩)
    go_ret
    exact ⟨rfl, hb⟩
  have g3 : 3000 < n3 := by have := HH.out; omega
  go_enter Try.func5, Try.ntmps5
  go_wp2_with (go_at_call 15; with_reducible refine (calive_any _).mono ?_; rintro e w1 ⟨rfl, hb⟩)
  go_ret
  exact ⟨rfl, hb⟩

set_option maxRecDepth 100000 in
set_option maxHeartbeats 2000000 in
theorem walk_small (a1 : Arg w A1 c1 l1) (a2 : Arg w A2 c2 l2) (a3 : Arg w A3 c3 l3) (h1 : l1.length ≤ 3000) (h2 : l2.length ≤ 3000) (h3 : l3.length ≤ 3000) :
    Calls Try.prog 5 #[.slice A1 l1.length c1, .slice A2 l2.length c2, .slice A3 l3.length c3] w fun e w' => e = .returned (.bool true) ∧ Below w.heap.size w w' := by
  obtain ⟨i0, hi, hz0, hz1, hz2⟩ := info_parts infoU8
  have e1 : join (sum (bitsB l1)) (sum (bitsB l2)) (8 * l2.length) = sum (bitsB (l1 ++ l2)) := by
    rw [← bitsB_length, join_more, bitsB_append]; unfold sum; rw [more_append]
  have e2 : join (sum (bitsB (l1 ++ l2))) (sum (bitsB l3)) (8 * l3.length) = sum (bitsB (l1 ++ l2 ++ l3)) := by
    rw [← bitsB_length, join_more, bitsB_append (l1 ++ l2)]; unfold sum; rw [more_append]
  have e3 : join (sum (bitsB l2)) (sum (bitsB l3)) (8 * l3.length) = sum (bitsB (l2 ++ l3)) := by
    rw [← bitsB_length, join_more, bitsB_append]; unfold sum; rw [more_append]
  have e4 : join (sum (bitsB l1)) (sum (bitsB (l2 ++ l3))) (8 * (l2.length + l3.length)) = sum (bitsB (l1 ++ l2 ++ l3)) := by
    rw [← List.length_append, ← bitsB_length, join_more, List.append_assoc, bitsB_append l1]; unfold sum; rw [more_append]
  have e5 : more (sum (bitsB (l1 ++ l2))) (bitsB l3) = sum (bitsB (l1 ++ l2 ++ l3)) := by
    rw [bitsB_append (l1 ++ l2)]; unfold sum; rw [more_append]
  have j1 := fun W => cjoin_any (sum (bitsB l1)) (sum (bitsB l2)) l2.length W (by omega)
  have j2 := fun W => cjoin_any (sum (bitsB (l1 ++ l2))) (sum (bitsB l3)) l3.length W (by omega)
  have j3 := fun W => cjoin_any (sum (bitsB l2)) (sum (bitsB l3)) l3.length W (by omega)
  have j4 := fun W => cjoin_any (sum (bitsB l1)) (sum (bitsB (l2 ++ l3))) (l2.length + l3.length) W (by omega)
  rw [e1] at j1
  rw [e2] at j2
  rw [e3] at j3
  rw [e4] at j4
  have of1 := fun W (hb : Below w.heap.size w W) => cof_any A1 c1 l1 W ((a1.reads.below hb).more hb.size) (by omega)
  have of2 := fun W (hb : Below w.heap.size w W) => cof_any A2 c2 l2 W ((a2.reads.below hb).more hb.size) (by omega)
  have of3 := fun W (hb : Below w.heap.size w W) => cof_any A3 c3 l3 W ((a3.reads.below hb).more hb.size) (by omega)
  have ofall := fun W A c h => cof_cut A c (l1 ++ l2 ++ l3) (l1.length + l2.length + l3.length) W h (by simp only [List.length_append]) (by omega)
  have m1 := fun W (hb : Below w.heap.size w W) => cmore_any (sum (bitsB (l1 ++ l2))) A3 c3 l3 W ((a3.reads.below hb).more hb.size) (by omega)
  rw [e5] at m1
  clear e1 e2 e3 e4 e5
  generalize sum (bitsB l1) = s1 at *
  generalize sum (bitsB l2) = s2 at *
  generalize sum (bitsB l3) = s3 at *
  generalize sum (bitsB (l1 ++ l2)) = s12 at *
  generalize sum (bitsB (l2 ++ l3)) = s23 at *
  generalize sum (bitsB (l1 ++ l2 ++ l3)) = s123 at *
  unfold rv at *
  rw [Int.natCast_add] at j4
  have R1 := Lib.hid a1.reads
  have R2 := Lib.hid a2.reads
  have R3 := Lib.hid a3.reads
  have J1 := Lib.hid j1
  have J2 := Lib.hid j2
  have J3 := Lib.hid j3
  have J4 := Lib.hid j4
  have O1 := Lib.hid of1
  have O2 := Lib.hid of2
  have O3 := Lib.hid of3
  have OA := Lib.hid ofall
  have M1 := Lib.hid m1
  clear j1 j2 j3 j4 of1 of2 of3 ofall m1 a1 a2 a3
  have HB := Lib.hid (Below.refl w.heap.size w)
  go_enter Try.func5, Try.ntmps5
  go_wp2_with (first
    | (go_at_call 15; with_reducible refine (calive_any _).mono ?_; rintro e w1 ⟨rfl, hb⟩; replace HB := Lib.hid hb; clear hb)
    | (at_builtin; refine wpList_append_any _ rfl _ _ 22 rfl w.heap.size 5 i0 (.int .u8 0) 1 1 Try.underlying22 hi hz0 hz1 hz2 rfl (by decide) _ 0 [] rfl (own_fresh _ _ HB.out.size) _ A1 l1.length c1 (l1.map bv) rfl (R1.out.below (HB.out.alloc HB.out.size _)) (bv_one _) (by unfold maxLen; omega) (by omega) (by have := HB.out.size; simp; omega) ?_
       intro v2 w2 o2 g2 _; rw [Nat.zero_add, List.nil_append] at o2; obtain ⟨A4, c4, rfl⟩ := own_slice o2; replace HB := Lib.hid ((HB.out.alloc HB.out.size _).grown g2 (by have := HB.out.size; simp; omega) (fun k e => ((own_fresh _ _ HB.out.size).lt k e).1)); clear g2; have P2 := Lib.hid o2; clear o2)
    | (at_builtin; refine wpList_append_any _ rfl _ _ 22 rfl w.heap.size 5 i0 (.int .u8 0) 1 1 Try.underlying22 hi hz0 hz1 hz2 rfl (by decide) _ l1.length _ rfl P2.out _ A2 l2.length c2 (l2.map bv) rfl (R2.out.below HB.out) (bv_one _) (by unfold maxLen; omega) (by omega) HB.out.size ?_
       intro v3 w3 o3 g3 _; obtain ⟨A5, c5, rfl⟩ := own_slice o3; replace HB := Lib.hid (HB.out.grown g3 HB.out.size (fun k e => (P2.out.lt k e).1)); clear g3 P2; have P3 := Lib.hid o3; clear o3)
    | (at_builtin; refine wpList_append_any _ rfl _ _ 22 rfl w.heap.size 5 i0 (.int .u8 0) 1 1 Try.underlying22 hi hz0 hz1 hz2 rfl (by decide) _ (l1.length + l2.length) _ rfl P3.out _ A3 l3.length c3 (l3.map bv) rfl (R3.out.below HB.out) (bv_one _) (by unfold maxLen; omega) (by omega) HB.out.size ?_
       intro v4 w4 o4 g4 _; obtain ⟨A6, c6, rfl⟩ := own_slice o4; replace HB := Lib.hid (HB.out.grown g4 HB.out.size (fun k e => (P3.out.lt k e).1)); clear g4 P3; have P4 := Lib.hid o4; clear o4))
  have KA := Lib.hid (Below.refl w4.heap.size w4)
  rw [← List.map_append, ← List.map_append] at P4
  have PR := Lib.hid (Reads.of_own P4.out)
  go_wp2_with (first
    | (go_at_call 13; with_reducible refine (O1.out _ HB.out).mono ?_; rintro e wn ⟨rfl, hb⟩; replace HB := Lib.hid (HB.out.trans (hb.mono HB.out.size)); replace KA := Lib.hid (KA.out.trans (hb.mono KA.out.size)); clear hb)
    | (go_at_call 13; with_reducible refine (O2.out _ HB.out).mono ?_; rintro e wn ⟨rfl, hb⟩; replace HB := Lib.hid (HB.out.trans (hb.mono HB.out.size)); replace KA := Lib.hid (KA.out.trans (hb.mono KA.out.size)); clear hb)
    | (go_at_call 13; with_reducible refine (O3.out _ HB.out).mono ?_; rintro e wn ⟨rfl, hb⟩; replace HB := Lib.hid (HB.out.trans (hb.mono HB.out.size)); replace KA := Lib.hid (KA.out.trans (hb.mono KA.out.size)); clear hb)
    | (go_at_call 14; (first | with_reducible refine (J1.out _).mono ?_ | with_reducible refine (J2.out _).mono ?_ | with_reducible refine (J3.out _).mono ?_ | with_reducible refine (J4.out _).mono ?_); rintro e _ ⟨rfl, rfl⟩)
    | (go_at_call 13; with_reducible refine (OA.out _ A6 c6 ((PR.out.below KA.out).more KA.out.size)).mono ?_; rintro e wn ⟨rfl, hb⟩; replace HB := Lib.hid (HB.out.trans (hb.mono HB.out.size)); clear hb)
    | (go_at_call 12; with_reducible refine (M1.out _ HB.out).mono ?_; rintro e wn ⟨rfl, hb⟩; replace HB := Lib.hid (HB.out.trans (hb.mono HB.out.size)); clear hb))
  go_ret
  exact ⟨rfl, HB.out⟩

theorem walk (a1 : Arg w A1 c1 l1) (a2 : Arg w A2 c2 l2) (a3 : Arg w A3 c3 l3) :
    Calls Try.prog 5 #[.slice A1 l1.length c1, .slice A2 l2.length c2, .slice A3 l3.length c3] w fun e w' => e = .returned (.bool true) ∧ Below w.heap.size w w' := by
  by_cases h : 3000 < l1.length ∨ 3000 < l2.length ∨ 3000 < l3.length
  · exact walk_big A1 A2 A3 c1 c2 c3 l1 l2 l3 w h (Nat.le_trans a1.cap a1.big) (Nat.le_trans a2.cap a2.big) (Nat.le_trans a3.cap a3.big)
  · exact walk_small A1 A2 A3 c1 c2 c3 l1 l2 l3 w a1 a2 a3 (by omega) (by omega) (by omega)
end

theorem own : ownKnob Try.prog.godebug = none := by kernel_rfl
theorem laidOut : laidOutB Try.prog = true := by kernel_rfl

set_option maxRecDepth 100000 in
theorem lifted (os : Os) (started : os.Started) (H : Type) (enc : TypeId × Value → H) :
    ReturnsInHanded {} Try.checked os 5 .any (Rows.crcJoinsSpec.pre6 enc Try.prog Try.f5 Rows.crcJoinsRow.domain false) (Rows.crcJoinsSpec.post enc Try.prog Try.f5 false true false false) := by
  refine returnsInHanded_of_change_sized (C := Try.checked) own started (by kernel_rfl) Try.func5
    (ChangeSpec.witness6 (enc := enc) (C := Try.checked) false ⟨#[], #[.slice none 0 0, .slice none 0 0, .slice none 0 0], []⟩ 8 (by kernel_rfl) (by kernel_rfl) (by kernel_rfl) (by kernel_rfl)) ?_
  intro W base args ds gs before hval0 hW _ hsz0 _
  have hval : ∀ (j : Nat) t v, Try.f5.params[j]? = some t → args[j]? = some v → Value.okWide Try.prog W .any base t v := hval0
  have hsz : (DataW.weightsEach Try.prog (Try.f5.params.toList ++ Rows.crcJoinsSpec.plain.varTypes Try.prog) (ds ++ gs)).all (· ≤ reachBytes) = true := hsz0
  have hW' := hW
  obtain ⟨p, q, hA0, hV, rfl, _, _⟩ := hW
  have hA : DataW.TrodAll enc Try.prog W 0 (fun _ => true) true Try.f5.params.toList args.toList ds p := hA0
  have hA2 := hA
  rw [Try.params5] at hA hval hsz
  obtain ⟨v0, vs0, d0, ds0, p0, q0, hargs, rfl, rfl, h0, r0⟩ := trodAll_cons hA
  obtain ⟨v1, vs1, d1, ds1, p1, q1, rfl, rfl, rfl, h1, r1⟩ := trodAll_cons r0
  obtain ⟨v2, vs2, d2, ds2, p2, q2, rfl, rfl, rfl, h2, r2⟩ := trodAll_cons r1
  obtain ⟨rfl, rfl, rfl⟩ := trodAll_nil r2
  obtain rfl : args = #[v0, v1, v2] := by cases args; simp_all
  obtain ⟨rfl, rfl⟩ := trodVars_none hV
  clear hA0 hval0 hsz0
  simp only [List.append_nil] at hW' hA2
  have hlt : ∀ x ∈ p0 ++ (p1 ++ p2), x.block < W.heap.size := fun x hx => by simpa using hW'.lt x (by simpa using hx)
  obtain ⟨A0, c0, L0, rfl, hb0⟩ := open_bytes (hval 0 22 v0 rfl rfl) h0 (fun n hn => by
    have := List.all_eq_true.1 hsz n (DataW.weights_mem_each (j := 0) rfl rfl n hn)
    simpa using this)
  obtain ⟨A1, c1, L1, rfl, hb1⟩ := open_bytes (hval 1 22 v1 rfl rfl) h1 (fun n hn => by
    have := List.all_eq_true.1 hsz n (DataW.weights_mem_each (j := 1) rfl rfl n hn)
    simpa using this)
  obtain ⟨A2, c2, L2, rfl, hb2⟩ := open_bytes (hval 2 22 v2 rfl rfl) h2 (fun n hn => by
    have := List.all_eq_true.1 hsz n (DataW.weights_mem_each (j := 2) rfl rfl n hn)
    simpa using this)
  refine (walk A0 A1 A2 c0 c1 c2 L0 L1 L2 W hb0 hb1 hb2).mono fun e W' ⟨he, hbw⟩ => ?_
  subst he
  exact ⟨_, rfl, _, _, _, [], _, [], hW', trodAll_cons_mk (shut_bool Try.underlying4 _) trodAll_mk0, below_trodAll laidOut hbw (by
    rw [Try.params5]
    intro t ht
    simp at ht
    subst ht
    exact ⟨by kernel_rfl, of_decide_eq_true (by kernel_rfl)⟩) hA2 hlt, rfl, hbw.frame _, fun h => by cases h⟩

/-- The statement. -/
theorem proved : Rows.CrcJoinsSaid :=
  OpenClaim.holds_of_wide 5 Try.f5 rfl rfl rfl rfl rfl rfl rfl ⟨rfl, rfl, rfl, rfl, rfl⟩ rfl rfl rfl rfl rfl (by kernel_rfl) Try.func5 (by kernel_rfl)
    (of_decide_eq_true (by kernel_rfl)) (by unfold Func.isWrapper; first | (rw [if_pos (by decide +kernel)]; kernel_rfl) | (rw [if_neg (by decide +kernel)]; exact ⟨rfl, rfl⟩))
    (fun os started H enc _ => lifted os started H enc)

#print axioms proved
end Go.Proofs.Ytlhonndnoegmbaa.crcJoins

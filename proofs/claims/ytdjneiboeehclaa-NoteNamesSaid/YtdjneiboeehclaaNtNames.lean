/-
  The walk of the statement NoteNames.
-/
import Derived.Test.YtdjneiboeehclaaNtNamesM
import Derived.BigQuiet
import Derived.Deep.CutBlock
import Derived.Deep.DeepCutAuto
namespace Go.Proofs.Ytdjneiboeehclaa.noteNames
open Go.RowKit Go.Proofs.Ytdjneiboeehclaa.crc Go.Proofs.Ytdjneiboeehclaa.root Go.Proofs.Ytdjneiboeehclaa.note

theorem add_lit (B k : Nat) : ((⟨B, 0, none⟩ : Addr).add k) = ⟨B, k, none⟩ := by unfold Addr.add; split <;> simp_all

set_option maxRecDepth 100000 in
set_option maxHeartbeats 8000000 in
theorem walk (w : World) : Calls Try.prog 5 #[] w fun e w' => e = .returned (.bool true) ∧ Below w.heap.size w w' := by
  obtain ⟨i0, hi, hz0, hz1, hz2⟩ := info_parts info_rows9
  have i1 : i64ok 0 := by unfold i64ok; omega
  have i2 : i64ok 1 := by unfold i64ok; omega
  have i3 : i64ok 2 := by unfold i64ok; omega
  have i4 : i64ok 5 := by unfold i64ok; omega
  have I0 := Lib.hid i1
  have I1 := Lib.hid i2
  have I2 := Lib.hid i3
  have I5 := Lib.hid i4
  clear i1 i2 i3 i4
  have HB1 := Lib.hid (lit_notes w bads 9 rfl (C := #[.int .i64 0, .int .i64 0, .int .i64 0, .int .i64 0, .int .i64 6, .int .i64 0, .int .i64 0, .int .i64 0, .int .i64 1, .int .i64 0, .int .i64 1, .int .i64 0, .int .i64 1, .int .i64 0, .int .i64 0, .int .i64 1, .int .i64 2, .int .i64 (-1), .int .i64 0, .int .i64 0, .int .i64 2, .int .i64 0, .int .i64 1048577, .int .i64 0, .int .i64 3, .int .i64 0, .int .i64 0, .int .i64 (-1), .int .i64 4, .int .i64 0, .int .i64 1, .int .i64 0, .int .i64 5, .int .i64 0, .int .i64 0, .int .i64 1]) rfl)
  obtain ⟨C1, hC1⟩ : ∃ C : Array Value, #[.int .i64 0, .int .i64 0, .int .i64 0, .int .i64 0, .int .i64 6, .int .i64 0, .int .i64 0, .int .i64 0, .int .i64 1, .int .i64 0, .int .i64 1, .int .i64 0, .int .i64 1, .int .i64 0, .int .i64 0, .int .i64 1, .int .i64 2, .int .i64 (-1), .int .i64 0, .int .i64 0, .int .i64 2, .int .i64 0, .int .i64 1048577, .int .i64 0, .int .i64 3, .int .i64 0, .int .i64 0, .int .i64 (-1), .int .i64 4, .int .i64 0, .int .i64 1, .int .i64 0, .int .i64 5, .int .i64 0, .int .i64 0, .int .i64 1] = C := ⟨_, rfl⟩
  rw [hC1] at HB1
  obtain ⟨wa, hwa⟩ : ∃ wa, w.alloc (.cells C1 23) = wa := ⟨_, rfl⟩
  rw [hwa] at HB1
  have KA : Hid (Below w.heap.size w wa) := Lib.hid (by rw [← hwa]; exact (Below.refl _ _).alloc (Nat.le_refl _) _)
  go_enter Try.func5, Try.ntmps5
  go_wp2
  clear hwa hC1
  have HC1 := Lib.hid (Eq.refl C1)
  go_loopw [45, 1] (fun i q wr => ∃ k : Nat, k ≤ 9 ∧ i = .int .i64 (k : Int) ∧ q = .bool true ∧ Below wa.heap.size wa wr) (fun i _ _ => 9 - (intOf i).toNat)
  case atStart => exact ⟨0, by omega, rfl, rfl, Below.refl _ _⟩
  case round =>
    obtain ⟨k, hk, rfl, rfl, hwr⟩ := hrel
    by_cases hlt : k < 9
    · have hkl : k < bads.length := hlt
      obtain ⟨x, hx⟩ : ∃ x, bads[k]? = some x := ⟨_, List.getElem?_eq_getElem hkl⟩
      obtain ⟨ad, e', _, c0, c1, c2, c3⟩ := note_at ((HB1.out.below hwr).more hwr.size) hx rfl
      injection e' with e'
      subst e'
      rw [add_lit] at c0 c1 c2 c3
      have hE := nencode_any x (wr.alloc (.cells #[.int .i64 x.k, .int .i64 x.a, .int .i64 x.b, .int .i64 x.n] 23)) (bads_fine x (List.mem_of_getElem? hx))
      rw [(out_bad (bads_bad x (List.mem_of_getElem? hx))).1, (out_bad (bads_bad x (List.mem_of_getElem? hx))).2] at hE
      have HE := Lib.hid hE
      have HWR : Hid (Below wa.heap.size wa (wr.alloc (.cells #[.int .i64 x.k, .int .i64 x.a, .int .i64 x.b, .int .i64 x.n] 23))) := Lib.hid (hwr.alloc hwr.size _)
      have hk9 : (k : Int) < 9 := by omega
      obtain ⟨xk, xa, xb, xn⟩ := x
      unfold nv at HE
      simp only at HE HWR c0 c1 c2 c3
      clear hE hx hwr hkl
      go_wp2_with (go_at_call 9; refine HE.out.mono ?_; rintro e w5 ⟨v, rfl, g⟩; obtain ⟨A5, c5, rfl, o5, b5⟩ := gives_len g (show ([] : List UInt8).length = 0 from rfl); have HW5 := Lib.hid (HWR.out.trans (b5.mono HWR.out.size)); clear g o5 b5)
      go_roundw
      case rel => exact ⟨k + 1, by omega, by go_num, rfl, HW5.out⟩
      case measure => simp [intOf]; omega
    · obtain rfl : k = 9 := by omega
      have HWR := Lib.hid hwr
      clear hwr hlt hk
      have HB2 := Lib.hid (lit_notes wr goods 5 rfl (C := #[.int .i64 1, .int .i64 1048576, .int .i64 0, .int .i64 0, .int .i64 2, .int .i64 1, .int .i64 1048576, .int .i64 9223372036854775807, .int .i64 3, .int .i64 0, .int .i64 0, .int .i64 0, .int .i64 4, .int .i64 9, .int .i64 0, .int .i64 0, .int .i64 5, .int .i64 2, .int .i64 8, .int .i64 0]) rfl)
      obtain ⟨wb, hwb⟩ : ∃ wb, wr.alloc (.cells #[.int .i64 1, .int .i64 1048576, .int .i64 0, .int .i64 0, .int .i64 2, .int .i64 1, .int .i64 1048576, .int .i64 9223372036854775807, .int .i64 3, .int .i64 0, .int .i64 0, .int .i64 0, .int .i64 4, .int .i64 9, .int .i64 0, .int .i64 0, .int .i64 5, .int .i64 2, .int .i64 8, .int .i64 0] 23) = wb := ⟨_, rfl⟩
      rw [hwb] at HB2
      obtain ⟨h2, hh2⟩ : ∃ h, wr.heap.size = h := ⟨_, rfl⟩
      rw [hh2] at HB2
      have HH2 := Lib.hid hh2
      have KB : Hid (Below w.heap.size w wb) := Lib.hid (by rw [← hwb]; exact (KA.out.trans (HWR.out.mono KA.out.size)).alloc (KA.out.trans (HWR.out.mono KA.out.size)).size _)
      have HWB := Lib.hid hwb
      clear hh2 hwb
      go_wp2
      rw [HWB.out]
      rw [HH2.out]
      go_loopw [72, 1] (fun i q wr => ∃ k : Nat, k ≤ 5 ∧ i = .int .i64 (k : Int) ∧ q = .bool true ∧ Below wb.heap.size wb wr) (fun i _ _ => 5 - (intOf i).toNat)
      case atStart => exact ⟨0, by omega, rfl, rfl, Below.refl _ _⟩
      case round =>
        obtain ⟨k, hk, rfl, rfl, hwr⟩ := hrel
        by_cases hlt : k < 5
        · have hkl : k < goods.length := hlt
          obtain ⟨x, hx⟩ : ∃ x, goods[k]? = some x := ⟨_, List.getElem?_eq_getElem hkl⟩
          obtain ⟨ad, e', _, c0, c1, c2, c3⟩ := note_at ((HB2.out.below hwr).more hwr.size) hx rfl
          injection e' with e'
          subst e'
          rw [add_lit] at c0 c1 c2 c3
          obtain ⟨w5, hw5⟩ : ∃ w5, wr.alloc (.cells #[.int .i64 x.k, .int .i64 x.a, .int .i64 x.b, .int .i64 x.n] 23) = w5 := ⟨_, rfl⟩
          have hx5 : Blk w5 wr.heap.size 23 #[.int .i64 x.k, .int .i64 x.a, .int .i64 x.b, .int .i64 x.n] := by rw [← hw5]; exact Blk.new wr _ _
          have hb5 : Below wb.heap.size wb w5 := by rw [← hw5]; exact hwr.alloc hwr.size _
          have hxf := goods_fine x (List.mem_of_getElem? hx)
          have hxo := goods_ok x (List.mem_of_getElem? hx)
          obtain ⟨f1, f2, f3, f4⟩ := out_ok hxo hxf
          have hE := nencode_any x w5 hxf
          rw [f2] at hE
          have HE := Lib.hid hE
          have F1 := Lib.hid f1
          obtain ⟨O, hO⟩ : ∃ O, outN x = O := ⟨_, rfl⟩
          rw [hO] at HE F1 f3 f4
          have HD := Lib.hid (fun A c W h => ndecode_any A c 17 O W F1.out h)
          rw [f3, f4] at HD
          have hk9 : (k : Int) < 5 := by omega
          have HX5 := Lib.hid hx5
          have HB5 := Lib.hid hb5
          obtain ⟨xk, xa, xb, xn⟩ := x
          unfold nv at HE HD
          simp only at HE HD HX5 c0 c1 c2 c3 hw5
          have x0 := HX5.out.cell 0
          have x1 := HX5.out.cell 1
          have x2 := HX5.out.cell 2
          have x3 := HX5.out.cell 3
          clear hE hx hwr hkl f1 f2 f3 f4 hO hx5 hb5 hxf hxo
          go_wp2_with (first
            | (go_at_call 9; refine HE.out.mono ?_; rintro e w6 ⟨v, rfl, g⟩; clear hw5; obtain ⟨A6, c6, rfl, o6, b6⟩ := gives_len g F1.out; have HW6 := Lib.hid (HB5.out.trans (b6.mono HB5.out.size)); have O6 := Lib.hid o6; have HX6 := Lib.hid (HX5.out.below b6 HX5.out.lt); clear g o6 b6)
            | (go_at_call 11; refine (HD.out A6 c6 w6 (Reads.of_own O6.out)).mono ?_; rintro e w7 ⟨rfl, b7⟩
               have hx7 := HX6.out.below b7 HX6.out.lt
               have hy := Blk.new w7 23 #[.int .i64 xk, .int .i64 xa, .int .i64 xb, .int .i64 xn]
               have hx8 := hx7.alloc (.cells #[.int .i64 xk, .int .i64 xa, .int .i64 xb, .int .i64 xn] 23)
               clear x0 x1 x2 x3
               have x0 := hx8.cell 0; have x1 := hx8.cell 1; have x2 := hx8.cell 2; have x3 := hx8.cell 3
               have y0 := hy.cell 0; have y1 := hy.cell 1; have y2 := hy.cell 2; have y3 := hy.cell 3
               have h67 := HW6.out.trans (b7.mono HW6.out.size)
               have HW8 := Lib.hid (h67.alloc h67.size (.cells #[.int .i64 xk, .int .i64 xa, .int .i64 xb, .int .i64 xn] 23))
               clear hx7 hx8 hy b7 h67))
          go_roundw
          case rel => exact ⟨k + 1, by omega, by go_num, rfl, HW8.out⟩
          case measure => simp [intOf]; omega
        · obtain rfl : k = 5 := by omega
          have HWC := Lib.hid (KB.out.trans (hwr.mono KB.out.size))
          clear hwr hlt hk
          have hD0 := ndecode_any none 0 0 [] wr rfl Reads.none_
          rw [dec0.1, dec0.2] at hD0
          unfold nv noN at hD0
          simp only at hD0
          have HD0 := Lib.hid hD0
          obtain ⟨C17, hC17⟩ : ∃ C : Array Value, C = ((List.replicate 17 (0 : UInt8)).map bv).toArray := ⟨_, rfl⟩
          have hmk : ∀ w : World, (Instr.makeSlice 24 (.int .i64 17) (.int .i64 17)).run Try.prog w = .ok (.slice (some ⟨w.heap.size, 0, none⟩) 17 17) (w.alloc (.cells C17 5)) := fun _ => by subst hC17; kernel_rfl
          have HD1 : Hid (∀ (W : World) (h : Nat), W.heap.size = h → Calls Try.prog 11 #[.slice (some ⟨h, 0, none⟩) 17 17] (W.alloc (.cells C17 5)) fun e w' => e = .returned (.tuple #[.agg #[.int .i64 0, .int .i64 0, .int .i64 0, .int .i64 0], .int .i64 90]) ∧ Below (W.alloc (.cells C17 5)).heap.size (W.alloc (.cells C17 5)) w')   := Lib.hid (fun W h hh => by
            subst hh
            have h := ndecode_any (some ⟨W.heap.size, 0, none⟩) 17 17 (List.replicate 17 0) (W.alloc (.cells C17 5)) (by simp) (by
              have hr := reads_mark W C17 (0, 0) (List.replicate 17 0) 17 hC17 (by simp)
              exact hr)
            rw [dec17.1, dec17.2] at h
            unfold nv noN at h
            exact h)
          clear hD0 hC17
          go_upto_region 21 with (first
            | (go_at_call 11; (have l0 := K6.out; clear l0); refine (HD1.out _ (w6.heap.size + 1) (by simp)).mono ?_; rintro e w7 ⟨rfl, b7⟩
               have K7 := Lib.hid ((K6.out.alloc K6.out.size (.cells C17 5)).trans (b7.mono (by have := K6.out.size; simp; simp at this; omega)))
               clear b7)
            | (go_at_call 11; refine HD0.out.mono ?_; rintro e w6 ⟨rfl, b6⟩
               have h6 := HWC.out.trans (b6.mono HWC.out.size)
               have K6 := Lib.hid (h6.alloc h6.size (.cells #[.int .i64 0, .int .i64 0, .int .i64 0, .int .i64 0] 23))
               clear b6 h6))
          obtain ⟨wX, hwX⟩ : ∃ wX, ((((((w7.alloc (.cells #[.int .i64 0, .int .i64 0, .int .i64 0, .int .i64 0] 23)).alloc (.cells #[.int .i64 1, .int .i64 4, .int .i64 0, .int .i64 0] 23)).alloc (.cells #[.int .i64 2, .int .i64 1, .int .i64 2, .int .i64 7] 23)).alloc (.cells #[.int .i64 3, .int .i64 5, .int .i64 0, .int .i64 8] 23)).alloc (.cells #[.int .i64 4, .int .i64 4, .int .i64 0, .int .i64 0] 23)).alloc (.cells #[.int .i64 2, .int .i64 1, .int .i64 2, .int .i64 9] 23)) = wX := ⟨_, rfl⟩
          have hs : ∀ (W : World) (o : Obj), (W.alloc o).heap.size = W.heap.size + 1 := fun W o => by simp
          have hbx : Below w7.heap.size w7 wX := by rw [← hwX]; exact ((((((Below.refl _ w7).alloc (Nat.le_refl _) _).alloc (by simp) _).alloc (by simp; omega) _).alloc (by simp; omega) _).alloc (by simp; omega) _).alloc (by simp; omega) _
          have KX := Lib.hid (K7.out.trans (hbx.mono K7.out.size))
          have h16 : Blk wX (w7.heap.size + 1) 23 #[.int .i64 1, .int .i64 4, .int .i64 0, .int .i64 0] := by
            have h := (((((Blk.new (w7.alloc (.cells #[.int .i64 0, .int .i64 0, .int .i64 0, .int .i64 0] 23)) 23 #[.int .i64 1, .int .i64 4, .int .i64 0, .int .i64 0]).alloc (.cells #[.int .i64 2, .int .i64 1, .int .i64 2, .int .i64 7] 23)).alloc (.cells #[.int .i64 3, .int .i64 5, .int .i64 0, .int .i64 8] 23)).alloc (.cells #[.int .i64 4, .int .i64 4, .int .i64 0, .int .i64 0] 23)).alloc (.cells #[.int .i64 2, .int .i64 1, .int .i64 2, .int .i64 9] 23))
            rw [hwX] at h
            have e : (w7.alloc (.cells #[.int .i64 0, .int .i64 0, .int .i64 0, .int .i64 0] 23)).heap.size = w7.heap.size + 1 := by simp
            rw [e] at h
            exact h
          have X16 : Hid (∀ W, Below wX.heap.size wX W → W.cell? ⟨w7.heap.size + 1, 0, none⟩ = some (.int .i64 1) ∧ W.cell? ⟨w7.heap.size + 1, 1, none⟩ = some (.int .i64 4) ∧ W.cell? ⟨w7.heap.size + 1, 2, none⟩ = some (.int .i64 0) ∧ W.cell? ⟨w7.heap.size + 1, 3, none⟩ = some (.int .i64 0)) := Lib.hid (fun W hb => ⟨(h16.below hb h16.lt).cell 0, (h16.below hb h16.lt).cell 1, (h16.below hb h16.lt).cell 2, (h16.below hb h16.lt).cell 3⟩)
          have h17 : Blk wX (w7.heap.size + 2) 23 #[.int .i64 2, .int .i64 1, .int .i64 2, .int .i64 7] := by
            have h := ((((Blk.new ((w7.alloc (.cells #[.int .i64 0, .int .i64 0, .int .i64 0, .int .i64 0] 23)).alloc (.cells #[.int .i64 1, .int .i64 4, .int .i64 0, .int .i64 0] 23)) 23 #[.int .i64 2, .int .i64 1, .int .i64 2, .int .i64 7]).alloc (.cells #[.int .i64 3, .int .i64 5, .int .i64 0, .int .i64 8] 23)).alloc (.cells #[.int .i64 4, .int .i64 4, .int .i64 0, .int .i64 0] 23)).alloc (.cells #[.int .i64 2, .int .i64 1, .int .i64 2, .int .i64 9] 23))
            rw [hwX] at h
            have e : ((w7.alloc (.cells #[.int .i64 0, .int .i64 0, .int .i64 0, .int .i64 0] 23)).alloc (.cells #[.int .i64 1, .int .i64 4, .int .i64 0, .int .i64 0] 23)).heap.size = w7.heap.size + 2 := by simp
            rw [e] at h
            exact h
          have X17 : Hid (∀ W, Below wX.heap.size wX W → W.cell? ⟨w7.heap.size + 2, 0, none⟩ = some (.int .i64 2) ∧ W.cell? ⟨w7.heap.size + 2, 1, none⟩ = some (.int .i64 1) ∧ W.cell? ⟨w7.heap.size + 2, 2, none⟩ = some (.int .i64 2) ∧ W.cell? ⟨w7.heap.size + 2, 3, none⟩ = some (.int .i64 7)) := Lib.hid (fun W hb => ⟨(h17.below hb h17.lt).cell 0, (h17.below hb h17.lt).cell 1, (h17.below hb h17.lt).cell 2, (h17.below hb h17.lt).cell 3⟩)
          have h18 : Blk wX (w7.heap.size + 3) 23 #[.int .i64 3, .int .i64 5, .int .i64 0, .int .i64 8] := by
            have h := (((Blk.new (((w7.alloc (.cells #[.int .i64 0, .int .i64 0, .int .i64 0, .int .i64 0] 23)).alloc (.cells #[.int .i64 1, .int .i64 4, .int .i64 0, .int .i64 0] 23)).alloc (.cells #[.int .i64 2, .int .i64 1, .int .i64 2, .int .i64 7] 23)) 23 #[.int .i64 3, .int .i64 5, .int .i64 0, .int .i64 8]).alloc (.cells #[.int .i64 4, .int .i64 4, .int .i64 0, .int .i64 0] 23)).alloc (.cells #[.int .i64 2, .int .i64 1, .int .i64 2, .int .i64 9] 23))
            rw [hwX] at h
            have e : (((w7.alloc (.cells #[.int .i64 0, .int .i64 0, .int .i64 0, .int .i64 0] 23)).alloc (.cells #[.int .i64 1, .int .i64 4, .int .i64 0, .int .i64 0] 23)).alloc (.cells #[.int .i64 2, .int .i64 1, .int .i64 2, .int .i64 7] 23)).heap.size = w7.heap.size + 3 := by simp
            rw [e] at h
            exact h
          have X18 : Hid (∀ W, Below wX.heap.size wX W → W.cell? ⟨w7.heap.size + 3, 0, none⟩ = some (.int .i64 3) ∧ W.cell? ⟨w7.heap.size + 3, 1, none⟩ = some (.int .i64 5) ∧ W.cell? ⟨w7.heap.size + 3, 2, none⟩ = some (.int .i64 0) ∧ W.cell? ⟨w7.heap.size + 3, 3, none⟩ = some (.int .i64 8)) := Lib.hid (fun W hb => ⟨(h18.below hb h18.lt).cell 0, (h18.below hb h18.lt).cell 1, (h18.below hb h18.lt).cell 2, (h18.below hb h18.lt).cell 3⟩)
          have h19 : Blk wX (w7.heap.size + 4) 23 #[.int .i64 4, .int .i64 4, .int .i64 0, .int .i64 0] := by
            have h := ((Blk.new ((((w7.alloc (.cells #[.int .i64 0, .int .i64 0, .int .i64 0, .int .i64 0] 23)).alloc (.cells #[.int .i64 1, .int .i64 4, .int .i64 0, .int .i64 0] 23)).alloc (.cells #[.int .i64 2, .int .i64 1, .int .i64 2, .int .i64 7] 23)).alloc (.cells #[.int .i64 3, .int .i64 5, .int .i64 0, .int .i64 8] 23)) 23 #[.int .i64 4, .int .i64 4, .int .i64 0, .int .i64 0]).alloc (.cells #[.int .i64 2, .int .i64 1, .int .i64 2, .int .i64 9] 23))
            rw [hwX] at h
            have e : ((((w7.alloc (.cells #[.int .i64 0, .int .i64 0, .int .i64 0, .int .i64 0] 23)).alloc (.cells #[.int .i64 1, .int .i64 4, .int .i64 0, .int .i64 0] 23)).alloc (.cells #[.int .i64 2, .int .i64 1, .int .i64 2, .int .i64 7] 23)).alloc (.cells #[.int .i64 3, .int .i64 5, .int .i64 0, .int .i64 8] 23)).heap.size = w7.heap.size + 4 := by simp
            rw [e] at h
            exact h
          have X19 : Hid (∀ W, Below wX.heap.size wX W → W.cell? ⟨w7.heap.size + 4, 0, none⟩ = some (.int .i64 4) ∧ W.cell? ⟨w7.heap.size + 4, 1, none⟩ = some (.int .i64 4) ∧ W.cell? ⟨w7.heap.size + 4, 2, none⟩ = some (.int .i64 0) ∧ W.cell? ⟨w7.heap.size + 4, 3, none⟩ = some (.int .i64 0)) := Lib.hid (fun W hb => ⟨(h19.below hb h19.lt).cell 0, (h19.below hb h19.lt).cell 1, (h19.below hb h19.lt).cell 2, (h19.below hb h19.lt).cell 3⟩)
          have h20 : Blk wX (w7.heap.size + 5) 23 #[.int .i64 2, .int .i64 1, .int .i64 2, .int .i64 9] := by
            have h := (Blk.new (((((w7.alloc (.cells #[.int .i64 0, .int .i64 0, .int .i64 0, .int .i64 0] 23)).alloc (.cells #[.int .i64 1, .int .i64 4, .int .i64 0, .int .i64 0] 23)).alloc (.cells #[.int .i64 2, .int .i64 1, .int .i64 2, .int .i64 7] 23)).alloc (.cells #[.int .i64 3, .int .i64 5, .int .i64 0, .int .i64 8] 23)).alloc (.cells #[.int .i64 4, .int .i64 4, .int .i64 0, .int .i64 0] 23)) 23 #[.int .i64 2, .int .i64 1, .int .i64 2, .int .i64 9])
            rw [hwX] at h
            have e : (((((w7.alloc (.cells #[.int .i64 0, .int .i64 0, .int .i64 0, .int .i64 0] 23)).alloc (.cells #[.int .i64 1, .int .i64 4, .int .i64 0, .int .i64 0] 23)).alloc (.cells #[.int .i64 2, .int .i64 1, .int .i64 2, .int .i64 7] 23)).alloc (.cells #[.int .i64 3, .int .i64 5, .int .i64 0, .int .i64 8] 23)).alloc (.cells #[.int .i64 4, .int .i64 4, .int .i64 0, .int .i64 0] 23)).heap.size = w7.heap.size + 5 := by simp
            rw [e] at h
            exact h
          have X20 : Hid (∀ W, Below wX.heap.size wX W → W.cell? ⟨w7.heap.size + 5, 0, none⟩ = some (.int .i64 2) ∧ W.cell? ⟨w7.heap.size + 5, 1, none⟩ = some (.int .i64 1) ∧ W.cell? ⟨w7.heap.size + 5, 2, none⟩ = some (.int .i64 2) ∧ W.cell? ⟨w7.heap.size + 5, 3, none⟩ = some (.int .i64 9)) := Lib.hid (fun W hb => ⟨(h20.below hb h20.lt).cell 0, (h20.below hb h20.lt).cell 1, (h20.below hb h20.lt).cell 2, (h20.below hb h20.lt).cell 3⟩)
          have HWX := Lib.hid hwX
          have NX := Lib.hid (NB.start wX)
          have Z0 : Hid (0 = 0) := Lib.hid rfl
          rw [hwX]
          clear hwX hs hbx h16 h17 h18 h19 h20
          obtain ⟨b0, b1, b2, b3⟩ := X16.out _ NX.out.1
          obtain ⟨t0, t1, t2, t3⟩ := X17.out _ NX.out.1
          obtain ⟨r0, r1, r2, r3⟩ := X18.out _ NX.out.1
          obtain ⟨e0, e1, e2, e3⟩ := X19.out _ NX.out.1
          obtain ⟨o0, o1, o2, o3⟩ := X20.out _ NX.out.1
          go_wp2_with (first
            | (go_at_call 16; (have l0 := Z33.out; clear l0); refine Calls.mono (lnotes_none w27) ?_; rintro e _ ⟨rfl, rfl⟩
               have Z34 : Hid (34 = 34) := Lib.hid rfl)
            | (go_at_call 24; (have l0 := Z32.out; clear l0); refine Calls.mono (lsteps_none w27) ?_; rintro e _ ⟨rfl, rfl⟩
               have Z33 : Hid (33 = 33) := Lib.hid rfl)
            | (go_at_call 22; (have l0 := Z31.out; clear l0); refine Calls.mono (ldone_none 0 w27) ?_; rintro e _ ⟨rfl, rfl⟩
               have Z32 : Hid (32 = 32) := Lib.hid rfl)
            | (go_at_call 21; (have l0 := Z30.out; clear l0); refine Calls.mono (lbegun_none w27) ?_; rintro e _ ⟨rfl, rfl⟩
               have Z31 : Hid (31 = 31) := Lib.hid rfl)
            | (go_at_call 27; (have l0 := Z29.out; clear l0); refine Calls.mono (nalive_any w26) ?_; rintro e w27 ⟨rfl, hb⟩
               have N27 := Lib.hid (N26.out.next hb)
               clear hb
               have Z30 : Hid (30 = 30) := Lib.hid rfl)
            | (go_at_call 18; (have l0 := Z28.out; clear l0); refine Calls.mono (ltile_none 0 0 w25) ?_; rintro e w26 ⟨rfl, hb⟩
               have N26 := Lib.hid (N25.out.next hb)
               clear hb
               have Z29 : Hid (29 = 29) := Lib.hid rfl)
            | (go_at_call 21; (have l0 := Z27.out; clear l0); refine Calls.mono (Lg.begun (N25.out.2 (b25, [], false) (by simp))) ?_; rintro e _ ⟨rfl, rfl⟩
               have Z28 : Hid (28 = 28) := Lib.hid rfl)
            | (go_at_call 14; (have l0 := Z26.out; clear l0); refine Calls.mono (new_pl 4 P24.out (by decide) til_begun til_notes) ?_; rintro e w25 ⟨b25, rfl, hl, hb⟩
               have N25 := Lib.hid ((N24.out.next hb).add hl)
               clear hl hb
               have Z27 : Hid (27 = 27) := Lib.hid rfl)
            | (go_at_call 26; (have l0 := Z25.out; clear l0); refine Calls.mono (bytes_lit w23 tilN 1 rfl til_fine (by decide) (C := #[.int .i64 2, .int .i64 1, .int .i64 2, .int .i64 7]) rfl (ls := tilN.map outN) rfl) ?_; rintro e w24 ⟨B24, d24, rfl, hp, hb⟩
               have N24 := Lib.hid (N23.out.next hb)
               have P24 := Lib.hid hp
               clear hp hb t0 t1 t2 t3
               have Z26 : Hid (26 = 26) := Lib.hid rfl)
            | (go_at_call 21; (have l0 := Z24.out; clear l0); refine Calls.mono (Lg.begun (N23.out.2 (b23, [], false) (by simp))) ?_; rintro e _ ⟨rfl, rfl⟩
               have Z25 : Hid (25 = 25) := Lib.hid rfl)
            | (go_at_call 14; (have l0 := Z23.out; clear l0); refine Calls.mono (new_nil 0 w22) ?_; rintro e w23 ⟨b23, rfl, hl, hb⟩
               have N23 := Lib.hid ((N22.out.next hb).add hl)
               clear hl hb
               obtain ⟨t0, t1, t2, t3⟩ := X17.out _ N23.out.1
               have Z24 : Hid (24 = 24) := Lib.hid rfl)
            | (go_at_call 16; (have l0 := Z22.out; clear l0); refine Calls.mono (Lg.notes (N21.out.2 (b19, [], true) (by simp)) (k := 0) rfl) ?_; rintro e w22 ⟨A22, c22, rfl, hb⟩
               have N22 := Lib.hid (N21.out.next hb)
               clear hb
               have Z23 : Hid (23 = 23) := Lib.hid rfl)
            | (go_at_call 21; (have l0 := Z21.out; clear l0); refine Calls.mono (Lg.begun (N21.out.2 (b19, [], true) (by simp))) ?_; rintro e _ ⟨rfl, rfl⟩
               have Z22 : Hid (22 = 22) := Lib.hid rfl)
            | (go_at_call 16; (have l0 := Z20.out; clear l0); refine Calls.mono (Lg.notes (N20.out.2 (b16, [⟨2, 1, 2, 7⟩], true) (by simp)) (k := 1) rfl) ?_; rintro e w21 ⟨A21, c21, rfl, hb⟩
               have N21 := Lib.hid (N20.out.next hb)
               clear hb
               have Z21 : Hid (21 = 21) := Lib.hid rfl)
            | (go_at_call 21; (have l0 := Z19.out; clear l0); refine Calls.mono (Lg.begun (N20.out.2 (b16, [⟨2, 1, 2, 7⟩], true) (by simp))) ?_; rintro e _ ⟨rfl, rfl⟩
               have Z20 : Hid (20 = 20) := Lib.hid rfl)
            | (go_at_call 24; (have l0 := Z18.out; clear l0); refine Calls.mono (Lg.steps (N20.out.2 (b14, [], false) (by simp)) (s := 0) rfl) ?_; rintro e _ ⟨rfl, rfl⟩
               have Z19 : Hid (19 = 19) := Lib.hid rfl)
            | (go_at_call 16; (have l0 := Z17.out; clear l0); refine Calls.mono (Lg.notes (N19.out.2 (b14, [], false) (by simp)) (k := 0) rfl) ?_; rintro e w20 ⟨A20, c20, rfl, hb⟩
               have N20 := Lib.hid (N19.out.next hb)
               clear hb
               have Z18 : Hid (18 = 18) := Lib.hid rfl)
            | (go_at_call 21; (have l0 := Z16.out; clear l0); refine Calls.mono (Lg.begun (N19.out.2 (b14, [], false) (by simp))) ?_; rintro e _ ⟨rfl, rfl⟩
               have Z17 : Hid (17 = 17) := Lib.hid rfl)
            | (go_at_call 14; (have l0 := Z15.out; clear l0); refine Calls.mono (HN18.out) ?_; rintro e w19 ⟨b19, rfl, hl, hb⟩
               have N19 := Lib.hid ((N18.out.next hb).add hl)
               clear hl hb
               have Z16 : Hid (16 = 16) := Lib.hid rfl)
            | (at_builtin; (have l0 := Z14.out; clear l0); refine wpList_append_any _ rfl _ _ 35 rfl (w16.alloc (.cells #[.int .i64 1, .int .i64 4, .int .i64 0, .int .i64 0] 23)).heap.size 24 i0 (.slice none 0 0) 1 24 Try.underlying35 hi hz0 hz1 hz2 rfl (by decide) (.slice B17 1 d17) 1 us17 rfl (G17.out.next (bro_below wG)).own _ (some ⟨wG.heap.size + 1, 0, none⟩) 2 2 [.slice (some ⟨wG.heap.size, 0, none⟩) 1 1, .slice none 0 0] rfl (bro_reads wG) (fun u hu => by rcases List.mem_cons.1 hu with rfl | hu; rfl; rw [List.mem_singleton.1 hu]; rfl) (by unfold maxLen; omega) (by omega) (Nat.le_trans G17.out.below.size (bro_below wG).size) ?_
               intro v18 w18 o18 g18 _
               obtain ⟨A18, c18, rfl, hb, hc⟩ := new_bro G17.out o18 g18
               have hb2 := ((Below.refl _ w16).alloc (Nat.le_refl _) (.cells #[.int .i64 1, .int .i64 4, .int .i64 0, .int .i64 0] 23)).trans (hb.mono (by simp))
               have N18 := Lib.hid (N16.out.next hb2)
               have HN18 := Lib.hid hc
               clear hb hc hb2 o18 g18
               have Z15 : Hid (15 = 15) := Lib.hid rfl)
            | (go_at_call 26; (have l0 := Z13.out; clear l0); refine Calls.mono (nbytes_any (w := w16.alloc (.cells #[.int .i64 1, .int .i64 4, .int .i64 0, .int .i64 0] 23)) (l := begN) (n := 1) (c := 1) rfl beg_fine (by decide) (lit_notes w16 begN 1 rfl (C := #[.int .i64 1, .int .i64 4, .int .i64 0, .int .i64 0]) rfl)) ?_; rintro e wG ⟨B17, d17, us17, rfl, hg⟩
               have G17 := Lib.hid hg
               have hsr := hg.rws.reads
               clear hg hsr b0 b1 b2 b3
               have Z14 : Hid (14 = 14) := Lib.hid rfl)
            | (go_at_call 14; (have l0 := Z12.out; clear l0); refine Calls.mono (new_pl 4 P15.out (by decide) aga_begun aga_notes) ?_; rintro e w16 ⟨b16, rfl, hl, hb⟩
               have N16 := Lib.hid ((N15.out.next hb).add hl)
               clear hl hb
               obtain ⟨b0, b1, b2, b3⟩ := X16.out _ N16.out.1
               have Z13 : Hid (13 = 13) := Lib.hid rfl)
            | (go_at_call 26; (have l0 := Z11.out; clear l0); refine Calls.mono (bytes_lit w14 agaN 4 rfl aga_fine (by decide) (C := #[.int .i64 1, .int .i64 4, .int .i64 0, .int .i64 0, .int .i64 2, .int .i64 1, .int .i64 2, .int .i64 7, .int .i64 1, .int .i64 4, .int .i64 0, .int .i64 0, .int .i64 3, .int .i64 5, .int .i64 0, .int .i64 8]) rfl (ls := agaN.map outN) rfl) ?_; rintro e w15 ⟨B15, d15, rfl, hp, hb⟩
               have N15 := Lib.hid (N14.out.next hb)
               have P15 := Lib.hid hp
               clear hp hb b0 b1 b2 b3 t0 t1 t2 t3 r0 r1 r2 r3
               have Z12 : Hid (12 = 12) := Lib.hid rfl)
            | (go_at_call 14; (have l0 := Z10.out; clear l0); refine Calls.mono (new_pl 5 P13.out (by decide) not_begun not_notes) ?_; rintro e w14 ⟨b14, rfl, hl, hb⟩
               have N14 := Lib.hid ((N13.out.next hb).add hl)
               clear hl hb
               obtain ⟨b0, b1, b2, b3⟩ := X16.out _ N14.out.1
               obtain ⟨t0, t1, t2, t3⟩ := X17.out _ N14.out.1
               obtain ⟨r0, r1, r2, r3⟩ := X18.out _ N14.out.1
               have Z11 : Hid (11 = 11) := Lib.hid rfl)
            | (go_at_call 26; (have l0 := Z9.out; clear l0); refine Calls.mono (bytes_lit w12 notN 2 rfl not_fine (by decide) (C := #[.int .i64 1, .int .i64 4, .int .i64 0, .int .i64 0, .int .i64 2, .int .i64 1, .int .i64 2, .int .i64 7]) rfl (ls := notN.map outN) rfl) ?_; rintro e w13 ⟨B13, d13, rfl, hp, hb⟩
               have N13 := Lib.hid (N12.out.next hb)
               have P13 := Lib.hid hp
               clear hp hb b0 b1 b2 b3 t0 t1 t2 t3
               have Z10 : Hid (10 = 10) := Lib.hid rfl)
            | (go_at_call 24; (have l0 := Z8.out; clear l0); refine Calls.mono (Lg.steps (N12.out.2 (b9, fourN, true) (by simp)) six_steps) ?_; rintro e _ ⟨rfl, rfl⟩
               have Z9 : Hid (9 = 9) := Lib.hid rfl)
            | (go_at_call 22; (have l0 := Z7.out; clear l0); refine Calls.mono (Lg.done (N12.out.2 (b9, fourN, true) (by simp)) 5 I5.out six_done5) ?_; rintro e _ ⟨rfl, rfl⟩
               have Z8 : Hid (8 = 8) := Lib.hid rfl)
            | (go_at_call 22; (have l0 := Z6.out; clear l0); refine Calls.mono (Lg.done (N12.out.2 (b9, fourN, true) (by simp)) 1 I1.out six_done1) ?_; rintro e _ ⟨rfl, rfl⟩
               have Z7 : Hid (7 = 7) := Lib.hid rfl)
            | (go_at_call 16; (have l0 := Z5.out; clear l0); refine Calls.mono (Lg.notes (N11.out.2 (b9, fourN, true) (by simp)) (k := 4) rfl) ?_; rintro e w12 ⟨A12, c12, rfl, hb⟩
               have N12 := Lib.hid (N11.out.next hb)
               clear hb
               obtain ⟨b0, b1, b2, b3⟩ := X16.out _ N12.out.1
               obtain ⟨t0, t1, t2, t3⟩ := X17.out _ N12.out.1
               have Z6 : Hid (6 = 6) := Lib.hid rfl)
            | (go_at_call 21; (have l0 := Z4.out; clear l0); refine Calls.mono (Lg.begun (N11.out.2 (b9, fourN, true) (by simp))) ?_; rintro e _ ⟨rfl, rfl⟩
               have Z5 : Hid (5 = 5) := Lib.hid rfl)
            | (go_at_call 20; (have l0 := Z3.out; clear l0); refine Calls.mono (Lg.run (N10.out.2 (b9, fourN, true) (by simp)) 5 0 I5.out I0.out six_run) ?_; rintro e w11 ⟨rfl, hb⟩
               have N11 := Lib.hid (N10.out.next hb)
               clear hb
               have Z4 : Hid (4 = 4) := Lib.hid rfl)
            | (go_at_call 18; (have l0 := Z2.out; clear l0); refine Calls.mono (Lg.tile (N9.out.2 (b9, fourN, true) (by simp)) 1 2 I1.out I2.out six_tile) ?_; rintro e w10 ⟨rfl, hb⟩
               have N10 := Lib.hid (N9.out.next hb)
               clear hb
               have Z3 : Hid (3 = 3) := Lib.hid rfl)
            | (go_at_call 14; (have l0 := Z1.out; clear l0); refine Calls.mono (new_pl 4 P8.out (by decide) six_begun six_notes) ?_; rintro e w9 ⟨b9, rfl, hl, hb⟩
               have N9 := Lib.hid ((N8.out.next hb).add hl)
               clear hl hb
               have Z2 : Hid (2 = 2) := Lib.hid rfl)
            | (go_at_call 26; (have l0 := Z0.out; clear l0); refine Calls.mono (bytes_lit wX sixN 6 rfl six_fine (by decide) (C := #[.int .i64 1, .int .i64 4, .int .i64 0, .int .i64 0, .int .i64 2, .int .i64 1, .int .i64 2, .int .i64 7, .int .i64 3, .int .i64 5, .int .i64 0, .int .i64 8, .int .i64 2, .int .i64 1, .int .i64 2, .int .i64 9, .int .i64 4, .int .i64 4, .int .i64 0, .int .i64 0, .int .i64 2, .int .i64 1, .int .i64 2, .int .i64 7]) rfl (ls := sixN.map outN) rfl) ?_; rintro e w8 ⟨B8, d8, rfl, hp, hb⟩
               have N8 := Lib.hid (NX.out.next hb)
               have P8 := Lib.hid hp
               clear hp hb b0 b1 b2 b3 t0 t1 t2 t3 r0 r1 r2 r3 e0 e1 e2 e3 o0 o1 o2 o3
               have Z1 : Hid (1 = 1) := Lib.hid rfl))
          go_ret
          exact ⟨rfl, KX.out.trans (N27.out.1.mono KX.out.size)⟩
end Go.Proofs.Ytdjneiboeehclaa.noteNames

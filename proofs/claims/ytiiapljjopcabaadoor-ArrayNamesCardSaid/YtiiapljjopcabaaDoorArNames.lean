/-
  The walk of the statement ArrayNames.
-/
import Derived.Test.YtiiapljjopcabaaDoorArNc
import Derived.Deep.DeepCutAuto
namespace Go.Proofs.YtiiapljjopcabaaDoor.arrayNames
open Go.RowKit Go.Proofs.YtiiapljjopcabaaDoor.arr

structure NW (w W : World) : Prop where
  t : Tab W
  b : Below w.heap.size w W
theorem NW.next {w W W' : World} (h : NW w W) (hb : Below W.heap.size W W') : NW w W' := ⟨h.t.below hb, h.b.trans (hb.mono h.b.size)⟩
structure RdC (A : Option Addr) (W : World) : Prop where
  r : Reads W W.heap.size 1 A 2 [.int .i64 1, .int .i64 1]
theorem RdC.next {A : Option Addr} {W W' : World} (h : RdC A W) (hb : Below W.heap.size W W') : RdC A W' := ⟨(h.r.below hb).more hb.size⟩
structure KA (g : Nat) (A0 A1 : Option Addr) (c0 c1 : Nat) (W : World) : Prop where
  x : Blk W g 33 #[.int .i64 1, .slice A0 2 c0, .slice A1 6 c1]
  e : AEl W ⟨1, [2, 3], [1, 2, 3, 4, 5, 6]⟩ ⟨A0, c0, A1, c1⟩
theorem KA.next {g : Nat} {A0 A1 : Option Addr} {c0 c1 : Nat} {W W' : World} (h : KA g A0 A1 c0 c1 W) (hb : Below W.heap.size W W') : KA g A0 A1 c0 c1 W' := ⟨h.x.below hb h.x.lt, h.e.below hb⟩
structure NA (g : Nat) (A0 A1 : Option Addr) (c0 c1 : Nat) (W : World) : Prop where
  x : Blk W g 33 #[.int .i64 2, .slice A0 1 c0, .slice A1 2 c1]
  e : AEl W ⟨2, [2], [65533, 233]⟩ ⟨A0, c0, A1, c1⟩
theorem NA.next {g : Nat} {A0 A1 : Option Addr} {c0 c1 : Nat} {W W' : World} (h : NA g A0 A1 c0 c1 W) (hb : Below W.heap.size W W') : NA g A0 A1 c0 c1 W' := ⟨h.x.below hb h.x.lt, h.e.below hb⟩

set_option maxRecDepth 100000 in
set_option maxHeartbeats 16000000 in
theorem walk (w : World) (ht : Tab w) : Calls Tryd.prog 3 #[] w fun e w' => e = .returned (.bool true) ∧ Below w.heap.size w w' := by
  have H0 : Hid (NW w w) := Lib.hid ⟨ht, Below.refl _ _⟩
  clear ht
  have hmk : ∀ w : World, (Instr.makeSlice 25 (.int .i64 5) (.int .i64 5)).run Tryd.prog w = .ok (.slice (some ⟨w.heap.size, 0, none⟩) 5 5) (w.alloc (.cells #[.int .i64 0, .int .i64 0, .int .i64 0, .int .i64 0, .int .i64 0] 3)) := fun _ => by kernel_rfl
  go_enter Tryd.func3, Tryd.ntmps3
  go_upto_region 12 with (first
    | (go_at_call 8; (have l0 := H10.out; clear l0); refine (nat3 w10).mono ?_; rintro e w11 ⟨A11, c11, rfl, _, b⟩
       have H11 := Lib.hid (H10.out.next b)
       have R11 := Lib.hid (R10.out.next b)
       clear b)
    | (go_at_call 8; (have l0 := H9.out; clear l0); refine (nat2 w9 _ rfl).mono ?_; rintro e w10 ⟨A10, c10, rfl, _, b⟩
       have H10 := Lib.hid (H9.out.next b)
       have R10 := Lib.hid (R9.out.next b)
       clear b)
    | (go_at_call 9; (have l0 := H8.out; clear l0); refine (npl2 w8 _ rfl).mono ?_; rintro e w9 ⟨rfl, b⟩
       have H9 := Lib.hid (H8.out.next b)
       have R9 := Lib.hid (R8.out.next b)
       clear b)
    | (go_at_call 9; (have l0 := H7.out; clear l0); refine (npl1 w7 _ rfl).mono ?_; rintro e w8 ⟨rfl, b⟩
       have H8 := Lib.hid (H7.out.next b)
       have R8 := Lib.hid (R7.out.next b)
       clear b)
    | (go_at_call 8; (have l0 := H6.out; clear l0); refine (nat1 w6 _ rfl).mono ?_; rintro e w7 ⟨A7, c7, rfl, r, b⟩
       have H7 := Lib.hid (H6.out.next b)
       have R7 : Hid (RdC A7 w7) := Lib.hid ⟨r⟩
       clear r
       clear b)
    | (go_at_call 7; (have l0 := H5.out; clear l0); refine (nct6 w5 _ rfl).mono ?_; rintro e w6 ⟨rfl, b⟩
       have H6 := Lib.hid (H5.out.next b)
       clear b)
    | (go_at_call 7; (have l0 := H4.out; clear l0); refine (nct5 w4 _ rfl).mono ?_; rintro e w5 ⟨rfl, b⟩
       have H5 := Lib.hid (H4.out.next b)
       clear b)
    | (go_at_call 7; (have l0 := H3.out; clear l0); refine (nct4 w3 _ rfl).mono ?_; rintro e w4 ⟨rfl, b⟩
       have H4 := Lib.hid (H3.out.next b)
       clear b)
    | (go_at_call 7; (have l0 := H2.out; clear l0); refine (nct3 w2 _ rfl).mono ?_; rintro e w3 ⟨rfl, b⟩
       have H3 := Lib.hid (H2.out.next b)
       clear b)
    | (go_at_call 7; (have l0 := H1.out; clear l0); refine (nct2 w1 _ rfl).mono ?_; rintro e w2 ⟨rfl, b⟩
       have H2 := Lib.hid (H1.out.next b)
       clear b)
    | (go_at_call 7; (have l0 := H0.out; clear l0); refine (nct1 w).mono ?_; rintro e w1 ⟨rfl, b⟩
       have H1 := Lib.hid (H0.out.next b)
       clear b))
  go_upto_region 13 with (first
    | (go_at_call 10; (have l0 := H11.out; clear l0); refine (nsh w11 _ rfl A7 c7 R11.out.r).mono ?_; rintro e w12 ⟨rfl, b⟩
       have H12 := Lib.hid (H11.out.next b)
       clear b))
  go_upto_region 16 with (first
    | (go_at_call 11; (have l0 := H14.out; clear l0); refine (nmk3 u14).mono ?_; rintro e w15 ⟨C0, e0, C1, e1, rfl, b⟩
       have H15 := Lib.hid (H14.out.next b)
       have K15 := Lib.hid (K14.out.next b)
       clear b
       obtain ⟨u15, hu15⟩ : ∃ u, w15.alloc (.cells #[.int .i64 0, .slice C0 0 e0, .slice C1 0 e1] 33) = u := ⟨_, rfl⟩
       have hb15 : Below w15.heap.size w15 u15 := hu15 ▸ (Below.refl _ _).alloc (Nat.le_refl _) _
       have HS15 : Hid (u15.heap.size = w15.heap.size + 1) := Lib.hid (by rw [← hu15]; simp)
       have h15 := H15.out.next hb15
       clear H15
       have H15 := Lib.hid h15
       have k15 := K15.out.next hb15
       clear K15
       have K15 := Lib.hid k15
       clear k15
       clear hb15 h15)
    | (go_at_call 11; (have l0 := H13.out; clear l0); refine (nmk2 u13 _ (by first | rfl | exact HS13.out)).mono ?_; rintro e w14 ⟨B0, d0, B1, d1, rfl, b⟩
       have H14 := Lib.hid (H13.out.next b)
       have K14 := Lib.hid (K13.out.next b)
       clear b
       obtain ⟨u14, hu14⟩ : ∃ u, w14.alloc (.cells #[.int .i64 0, .slice B0 0 d0, .slice B1 0 d1] 33) = u := ⟨_, rfl⟩
       have hb14 : Below w14.heap.size w14 u14 := hu14 ▸ (Below.refl _ _).alloc (Nat.le_refl _) _
       have HS14 : Hid (u14.heap.size = w14.heap.size + 1) := Lib.hid (by rw [← hu14]; simp)
       have h14 := H14.out.next hb14
       clear H14
       have H14 := Lib.hid h14
       have k14 := K14.out.next hb14
       clear K14
       have K14 := Lib.hid k14
       clear k14
       clear hb14 h14)
    | (go_at_call 11; (have l0 := H12.out; clear l0); refine (nmk1 w12 _ rfl).mono ?_; rintro e w13 ⟨A0, c0, A1, c1, rfl, el, b⟩
       have H13 := Lib.hid (H12.out.next b)
       clear b
       obtain ⟨u13, hu13⟩ : ∃ u, w13.alloc (.cells #[.int .i64 1, .slice A0 2 c0, .slice A1 6 c1] 33) = u := ⟨_, rfl⟩
       have hb13 : Below w13.heap.size w13 u13 := hu13 ▸ (Below.refl _ _).alloc (Nat.le_refl _) _
       have HS13 : Hid (u13.heap.size = w13.heap.size + 1) := Lib.hid (by rw [← hu13]; simp)
       have h13 := H13.out.next hb13
       clear H13
       have H13 := Lib.hid h13
       have K13 : Hid (KA w13.heap.size A0 A1 c0 c1 u13) := Lib.hid ⟨hu13 ▸ Blk.new _ _ _, el.below hb13⟩
       clear el
       clear hb13 h13))
  go_upto_region 17 with (first
    | (go_at_call 15; (have l0 := H29.out; clear l0); refine (ntx9 p29 w29 E29.out H29.out.t).mono ?_; rintro e w30 ⟨rfl, b⟩
       have H30 := Lib.hid (H29.out.next b)
       clear b)
    | (go_at_call 18; (have l0 := H28.out; clear l0); refine (nsc w28).mono ?_; rintro e w29 ⟨p29, rfl, el, b⟩
       have H29 := Lib.hid (H28.out.next b)
       have E29 := Lib.hid el
       clear el
       clear b)
    | (go_at_call 15; (have l0 := H27.out; clear l0); refine (ntx8l w27 _ rfl H27.out.t).mono ?_; rintro e w28 ⟨rfl, b⟩
       have H28 := Lib.hid (H27.out.next b)
       clear b)
    | (go_at_call 15; (have l0 := H26.out; clear l0); refine (ntx7 p26 w26 E26.out H26.out.t).mono ?_; rintro e w27 ⟨rfl, b⟩
       have H27 := Lib.hid (H26.out.next b)
       clear b)
    | (go_at_call 17; (have l0 := H25.out; clear l0); refine (nch3 w25).mono ?_; rintro e w26 ⟨p26, rfl, el, b⟩
       have H26 := Lib.hid (H25.out.next b)
       have E26 := Lib.hid el
       clear el
       clear b)
    | (go_at_call 15; (have l0 := H24.out; clear l0); refine (ntx6l w24 _ rfl H24.out.t).mono ?_; rintro e w25 ⟨rfl, b⟩
       have H25 := Lib.hid (H24.out.next b)
       clear b)
    | (go_at_call 15; (have l0 := H23.out; clear l0); refine (ntx5 p23 w23 E23.out H23.out.t).mono ?_; rintro e w24 ⟨rfl, b⟩
       have H24 := Lib.hid (H23.out.next b)
       clear b)
    | (go_at_call 17; (have l0 := H22.out; clear l0); refine (nch2 w22).mono ?_; rintro e w23 ⟨p23, rfl, el, b⟩
       have H23 := Lib.hid (H22.out.next b)
       have E23 := Lib.hid el
       clear el
       clear b)
    | (go_at_call 15; (have l0 := H21.out; clear l0); refine (ntx4 p21 w21 E21.out H21.out.t).mono ?_; rintro e w22 ⟨rfl, b⟩
       have H22 := Lib.hid (H21.out.next b)
       clear b)
    | (go_at_call 16; (have l0 := H20.out; clear l0); refine (nvc2 w20).mono ?_; rintro e w21 ⟨p21, rfl, el, b⟩
       have H21 := Lib.hid (H20.out.next b)
       have E21 := Lib.hid el
       clear el
       clear b)
    | (go_at_call 15; (have l0 := H19.out; clear l0); refine (ntx3l A0 A1 c0 c1 w19 K19.out.e H19.out.t).mono ?_; rintro e w20 ⟨rfl, b⟩
       have H20 := Lib.hid (H19.out.next b)
       clear x0 x1 x2
       clear b)
    | (go_at_call 15; (have l0 := H18.out; clear l0); refine (ntx2 p18 w18 E18.out H18.out.t).mono ?_; rintro e w19 ⟨rfl, b⟩
       have H19 := Lib.hid (H18.out.next b)
       have K19 := Lib.hid (K18.out.next b)
       have x0 := K19.out.x.cell 0
       have x1 := K19.out.x.cell 1
       have x2 := K19.out.x.cell 2
       clear b)
    | (go_at_call 17; (have l0 := H17.out; clear l0); refine (nch1 w17).mono ?_; rintro e w18 ⟨p18, rfl, el, b⟩
       have H18 := Lib.hid (H17.out.next b)
       have K18 := Lib.hid (K17.out.next b)
       have E18 := Lib.hid el
       clear el
       clear b)
    | (go_at_call 15; (have l0 := H16.out; clear l0); refine (ntx1 p16 w16 E16.out H16.out.t).mono ?_; rintro e w17 ⟨rfl, b⟩
       have H17 := Lib.hid (H16.out.next b)
       have K17 := Lib.hid (K16.out.next b)
       clear b)
    | (go_at_call 16; (have l0 := H15.out; clear l0); refine (nvc1 u15 _ (by first | rfl | exact HS15.out)).mono ?_; rintro e w16 ⟨p16, rfl, el, b⟩
       have H16 := Lib.hid (H15.out.next b)
       have K16 := Lib.hid (K15.out.next b)
       have E16 := Lib.hid el
       clear el
       clear b))
  go_upto_region 20 with (first
    | (go_at_call 17; (have l0 := H35.out; clear l0); refine (nch4l w35).mono ?_; rintro e w36 ⟨F0, g0, F1, g1, rfl, el, b⟩
       have H36 := Lib.hid (H35.out.next b)
       clear b
       obtain ⟨u36, hu36⟩ : ∃ u, w36.alloc (.cells #[.int .i64 2, .slice F0 1 g0, .slice F1 2 g1] 33) = u := ⟨_, rfl⟩
       have hb36 : Below w36.heap.size w36 u36 := hu36 ▸ (Below.refl _ _).alloc (Nat.le_refl _) _
       have HS36 : Hid (u36.heap.size = w36.heap.size + 1) := Lib.hid (by rw [← hu36]; simp)
       have h36 := H36.out.next hb36
       clear H36
       have H36 := Lib.hid h36
       have N36 : Hid (NA w36.heap.size F0 F1 g0 g1 u36) := Lib.hid ⟨hu36 ▸ Blk.new _ _ _, el.below hb36⟩
       clear el
       clear hb36 h36)
    | (go_at_call 20; (have l0 := H34.out; clear l0); refine (nck4 w34 _ rfl).mono ?_; rintro e w35 ⟨rfl, b⟩
       have H35 := Lib.hid (H34.out.next b)
       clear b)
    | (go_at_call 20; (have l0 := H33.out; clear l0); refine (nck3 w33 _ rfl).mono ?_; rintro e w34 ⟨rfl, b⟩
       have H34 := Lib.hid (H33.out.next b)
       clear b)
    | (go_at_call 20; (have l0 := H32.out; clear l0); refine (nck2 w32 _ rfl).mono ?_; rintro e w33 ⟨rfl, b⟩
       have H33 := Lib.hid (H32.out.next b)
       clear b)
    | (go_at_call 20; (have l0 := H31.out; clear l0); refine (nck1 w31).mono ?_; rintro e w32 ⟨rfl, b⟩
       have H32 := Lib.hid (H31.out.next b)
       clear b)
    | (go_at_call 19; (have l0 := H30.out; clear l0); refine (ntz w30 H30.out.t).mono ?_; rintro e w31 ⟨rfl, b⟩
       have H31 := Lib.hid (H30.out.next b)
       clear b))
  go_wp2_with (first
    | (go_at_call 22; (have l0 := H37.out; clear l0); refine (nrs w37 _ rfl F0 F1 g0 g1 N37.out.e).mono ?_; rintro e w38 ⟨rfl, b⟩
       have H38 := Lib.hid (H37.out.next b)
       have N38 := Lib.hid (N37.out.next b)
       clear b)
    | (go_at_call 21; (have l0 := H36.out; clear l0); refine (aralive_any u36 H36.out.t).mono ?_; rintro e w37 ⟨rfl, b⟩
       have H37 := Lib.hid (H36.out.next b)
       have N37 := Lib.hid (N36.out.next b)
       have x0 := N37.out.x.cell 0
       have x1 := N37.out.x.cell 1
       have x2 := N37.out.x.cell 2
       clear b))
  go_ret
  exact ⟨rfl, H38.out.b⟩

theorem call {W : World} (ht : Tab W) : Calls Tryd.prog 3 #[] W fun e w' => e = .returned (.bool true) ∧ Below W.heap.size W w' := walk W ht
end Go.Proofs.YtiiapljjopcabaaDoor.arrayNames

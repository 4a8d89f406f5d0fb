/-
  The walk of the statement ScalarNames.
-/
import Derived.Test.YtkdnaebmifjmcaaDoorScNc
import Derived.Deep.DeepCutAuto
namespace Go.Proofs.YtkdnaebmifjmcaaDoor.scalarNames
open Go.RowKit Go.Proofs.YtkdnaebmifjmcaaDoor.sc Go.Proofs.YtkdnaebmifjmcaaDoor.arr

structure NW (w W : World) : Prop where
  t : Gly W
  b : Below w.heap.size w W
theorem NW.next {w W W' : World} (h : NW w W) (hb : Below W.heap.size W W') : NW w W' := ⟨h.t.below hb, h.b.trans (hb.mono h.b.size)⟩
theorem sn_gu : GU (fun i v W => if i = 1 then VL W v [11, 12] else if i = 2 then VA W v ⟨1, [2], [11, 12]⟩ else if i = 14 then VL W v [0, 1] else if i = 15 then VA W v ⟨1, [2], [0, 1]⟩ else if i = 32 then VL W v [1] else if i = 33 then VA W v ⟨1, [1], [1]⟩ else v = .bool true) := by
  intro i v W W' hb h
  by_cases h1 : i = 1
  · rw [if_pos h1] at h ⊢
    exact h.below hb
  rw [if_neg h1] at h ⊢
  by_cases h2 : i = 2
  · rw [if_pos h2] at h ⊢
    exact h.below hb
  rw [if_neg h2] at h ⊢
  by_cases h14 : i = 14
  · rw [if_pos h14] at h ⊢
    exact h.below hb
  rw [if_neg h14] at h ⊢
  by_cases h15 : i = 15
  · rw [if_pos h15] at h ⊢
    exact h.below hb
  rw [if_neg h15] at h ⊢
  by_cases h32 : i = 32
  · rw [if_pos h32] at h ⊢
    exact h.below hb
  rw [if_neg h32] at h ⊢
  by_cases h33 : i = 33
  · rw [if_pos h33] at h ⊢
    exact h.below hb
  rw [if_neg h33] at h ⊢
  exact h
theorem sg3 (W : World) (h : Gly W) : Calls Tryd.prog 15 #[.int .i64 3] W fun e w' => e = .returned (.string ⟨#[195, 151]⟩) ∧ Below W.heap.size W w' := (glyph_at h 3 [195, 151] rfl).mono (by
  rintro e w' ⟨rfl, rfl⟩
  exact ⟨rfl, Below.refl _ _⟩)
theorem sg18 (W : World) : Calls Tryd.prog 15 #[.int .i64 18] W fun e w' => e = .returned (.string ⟨#[]⟩) ∧ Below W.heap.size W w' := (glyph_no 18 (.inr (by decide))).mono (by
  rintro e w' ⟨rfl, rfl⟩
  exact ⟨rfl, Below.refl _ _⟩)
theorem sgm (W : World) : Calls Tryd.prog 15 #[.int .i64 (-1)] W fun e w' => e = .returned (.string ⟨#[]⟩) ∧ Below W.heap.size W w' := (glyph_no (-1) (.inl (by decide))).mono (by
  rintro e w' ⟨rfl, rfl⟩
  exact ⟨rfl, Below.refl _ _⟩)
theorem sna (W : World) (h : Gly W) : Calls Tryd.prog 17 #[.string ⟨#[226, 136, 167]⟩] W fun e w' => e = .returned (.int .i64 15) ∧ Below W.heap.size W w' := (named_hit h _ 15 named_and).mono (by
  rintro e w' ⟨rfl, rfl⟩
  exact ⟨rfl, Below.refl _ _⟩)
theorem snn (W : World) (h : Gly W) : Calls Tryd.prog 17 #[.string ⟨#[]⟩] W fun e w' => e = .returned (.int .i64 0) ∧ Below W.heap.size W w' := (named_hit h _ 0 named_none).mono (by
  rintro e w' ⟨rfl, rfl⟩
  exact ⟨rfl, Below.refl _ _⟩)
theorem ssA (A0 A1 : Option Addr) (c0 c1 : Nat) (v : Value) (W : World) (h : VA W v ⟨1, [2], [11, 12]⟩) (k : AEl W ⟨1, [2], [11, 12]⟩ ⟨A0, c0, A1, c1⟩) : Calls Tryd.prog 30 #[.agg #[.int .i64 1, .slice A0 1 c0, .slice A1 2 c1], v] W fun e w' => e = .returned (.bool true) ∧ Below W.heap.size W w' := by
  obtain ⟨q, rfl, e⟩ := h
  exact r11same_eq ⟨1, [2], [11, 12]⟩ ⟨A0, c0, A1, c1⟩ q W k e
theorem ssB (A0 A1 : Option Addr) (c0 c1 : Nat) (v : Value) (W : World) (h : VA W v ⟨1, [2], [0, 1]⟩) (k : AEl W ⟨1, [2], [0, 1]⟩ ⟨A0, c0, A1, c1⟩) : Calls Tryd.prog 30 #[.agg #[.int .i64 1, .slice A0 1 c0, .slice A1 2 c1], v] W fun e w' => e = .returned (.bool true) ∧ Below W.heap.size W w' := by
  obtain ⟨q, rfl, e⟩ := h
  exact r11same_eq ⟨1, [2], [0, 1]⟩ ⟨A0, c0, A1, c1⟩ q W k e
theorem ssC (A0 A1 : Option Addr) (c0 c1 : Nat) (v : Value) (W : World) (h : VA W v ⟨1, [1], [1]⟩) (k : AEl W ⟨1, [1], [1]⟩ ⟨A0, c0, A1, c1⟩) : Calls Tryd.prog 30 #[.agg #[.int .i64 1, .slice A0 1 c0, .slice A1 1 c1], v] W fun e w' => e = .returned (.bool true) ∧ Below W.heap.size W w' := by
  obtain ⟨q, rfl, e⟩ := h
  exact r11same_eq ⟨1, [1], [1]⟩ ⟨A0, c0, A1, c1⟩ q W k e
theorem sm7x (p : AP) (W : World) (ha : AEl W ⟨2, [1], [97]⟩ p) : Calls Tryd.prog 29 #[.int .i64 2, .agg (arC ⟨2, [1], [97]⟩ p)] W fun e w' => ∃ A0 c0 A1 c1, e = .returned (.tuple #[.agg #[.int .i64 0, .slice A0 0 c0, .slice A1 0 c1], .int .i64 5]) ∧ Below W.heap.size W w' := (sm7 p W ha).mono (by
  rintro e w' ⟨rfl, b⟩
  exact ⟨none, 0, none, 0, rfl, b⟩)

set_option maxRecDepth 100000 in
set_option maxHeartbeats 16000000 in
theorem walk (w : World) (ht : Gly w) : Calls Tryd.prog 4 #[] w fun e w' => e = .returned (.bool true) ∧ Below w.heap.size w w' := by
  have H0 : Hid (NW w w) := Lib.hid ⟨ht, Below.refl _ _⟩
  clear ht
  go_enter Tryd.func4, Tryd.ntmps4
  go_upto_region 2 with (first
    | (go_at_call 23; (have l0 := H10.out; clear l0); refine (sc11 w10).mono ?_; rintro e w11 ⟨rfl, b⟩
       have H11 := Lib.hid (H10.out.next b)
       clear b)
    | (go_at_call 24; (have l0 := H9.out; clear l0); refine (sc10 w9).mono ?_; rintro e w10 ⟨rfl, b⟩
       have H10 := Lib.hid (H9.out.next b)
       clear b)
    | (go_at_call 23; (have l0 := H8.out; clear l0); refine (sc9 w8).mono ?_; rintro e w9 ⟨rfl, b⟩
       have H9 := Lib.hid (H8.out.next b)
       clear b)
    | (go_at_call 23; (have l0 := H7.out; clear l0); refine (sc8 w7).mono ?_; rintro e w8 ⟨rfl, b⟩
       have H8 := Lib.hid (H7.out.next b)
       clear b)
    | (go_at_call 24; (have l0 := H6.out; clear l0); refine (sc7 w6).mono ?_; rintro e w7 ⟨rfl, b⟩
       have H7 := Lib.hid (H6.out.next b)
       clear b)
    | (go_at_call 24; (have l0 := H5.out; clear l0); refine (sc6 w5).mono ?_; rintro e w6 ⟨rfl, b⟩
       have H6 := Lib.hid (H5.out.next b)
       clear b)
    | (go_at_call 24; (have l0 := H4.out; clear l0); refine (sc5 w4).mono ?_; rintro e w5 ⟨rfl, b⟩
       have H5 := Lib.hid (H4.out.next b)
       clear b)
    | (go_at_call 24; (have l0 := H3.out; clear l0); refine (sc4 w3).mono ?_; rintro e w4 ⟨rfl, b⟩
       have H4 := Lib.hid (H3.out.next b)
       clear b)
    | (go_at_call 23; (have l0 := H2.out; clear l0); refine (sc3 w2).mono ?_; rintro e w3 ⟨rfl, b⟩
       have H3 := Lib.hid (H2.out.next b)
       clear b)
    | (go_at_call 24; (have l0 := H1.out; clear l0); refine (sc2 w1).mono ?_; rintro e w2 ⟨rfl, b⟩
       have H2 := Lib.hid (H1.out.next b)
       clear b)
    | (go_at_call 23; (have l0 := H0.out; clear l0); refine (sc1 w).mono ?_; rintro e w1 ⟨rfl, b⟩
       have H1 := Lib.hid (H0.out.next b)
       clear b))
  go_upto_region 3 with (first
    | (go_at_call 24; (have l0 := H23.out; clear l0); refine (sc24 w23).mono ?_; rintro e w24 ⟨rfl, b⟩
       have H24 := Lib.hid (H23.out.next b)
       clear b)
    | (go_at_call 23; (have l0 := H22.out; clear l0); refine (sc23 w22).mono ?_; rintro e w23 ⟨rfl, b⟩
       have H23 := Lib.hid (H22.out.next b)
       clear b)
    | (go_at_call 24; (have l0 := H21.out; clear l0); refine (sc22 w21).mono ?_; rintro e w22 ⟨rfl, b⟩
       have H22 := Lib.hid (H21.out.next b)
       clear b)
    | (go_at_call 24; (have l0 := H20.out; clear l0); refine (sc21 w20).mono ?_; rintro e w21 ⟨rfl, b⟩
       have H21 := Lib.hid (H20.out.next b)
       clear b)
    | (go_at_call 24; (have l0 := H19.out; clear l0); refine (sc20 w19).mono ?_; rintro e w20 ⟨rfl, b⟩
       have H20 := Lib.hid (H19.out.next b)
       clear b)
    | (go_at_call 24; (have l0 := H18.out; clear l0); refine (sc19 w18).mono ?_; rintro e w19 ⟨rfl, b⟩
       have H19 := Lib.hid (H18.out.next b)
       clear b)
    | (go_at_call 23; (have l0 := H17.out; clear l0); refine (sc18 w17).mono ?_; rintro e w18 ⟨rfl, b⟩
       have H18 := Lib.hid (H17.out.next b)
       clear b)
    | (go_at_call 23; (have l0 := H16.out; clear l0); refine (sc17 w16).mono ?_; rintro e w17 ⟨rfl, b⟩
       have H17 := Lib.hid (H16.out.next b)
       clear b)
    | (go_at_call 23; (have l0 := H15.out; clear l0); refine (sc16 w15).mono ?_; rintro e w16 ⟨rfl, b⟩
       have H16 := Lib.hid (H15.out.next b)
       clear b)
    | (go_at_call 24; (have l0 := H14.out; clear l0); refine (sc15 w14).mono ?_; rintro e w15 ⟨rfl, b⟩
       have H15 := Lib.hid (H14.out.next b)
       clear b)
    | (go_at_call 23; (have l0 := H13.out; clear l0); refine (sc14 w13).mono ?_; rintro e w14 ⟨rfl, b⟩
       have H14 := Lib.hid (H13.out.next b)
       clear b)
    | (go_at_call 23; (have l0 := H12.out; clear l0); refine (sc13 w12).mono ?_; rintro e w13 ⟨rfl, b⟩
       have H13 := Lib.hid (H12.out.next b)
       clear b)
    | (go_at_call 23; (have l0 := H11.out; clear l0); refine (sc12 w11).mono ?_; rintro e w12 ⟨rfl, b⟩
       have H12 := Lib.hid (H11.out.next b)
       clear b))
  go_upto_region 4 with (first
    | (go_at_call 23; (have l0 := H37.out; clear l0); refine (sc38 w37).mono ?_; rintro e w38 ⟨rfl, b⟩
       have H38 := Lib.hid (H37.out.next b)
       clear b)
    | (go_at_call 23; (have l0 := H36.out; clear l0); refine (sc37 w36).mono ?_; rintro e w37 ⟨rfl, b⟩
       have H37 := Lib.hid (H36.out.next b)
       clear b)
    | (go_at_call 23; (have l0 := H35.out; clear l0); refine (sc36 w35).mono ?_; rintro e w36 ⟨rfl, b⟩
       have H36 := Lib.hid (H35.out.next b)
       clear b)
    | (go_at_call 23; (have l0 := H34.out; clear l0); refine (sc35 w34).mono ?_; rintro e w35 ⟨rfl, b⟩
       have H35 := Lib.hid (H34.out.next b)
       clear b)
    | (go_at_call 24; (have l0 := H33.out; clear l0); refine (sc34 w33).mono ?_; rintro e w34 ⟨rfl, b⟩
       have H34 := Lib.hid (H33.out.next b)
       clear b)
    | (go_at_call 24; (have l0 := H32.out; clear l0); refine (sc33 w32).mono ?_; rintro e w33 ⟨rfl, b⟩
       have H33 := Lib.hid (H32.out.next b)
       clear b)
    | (go_at_call 24; (have l0 := H31.out; clear l0); refine (sc32 w31).mono ?_; rintro e w32 ⟨rfl, b⟩
       have H32 := Lib.hid (H31.out.next b)
       clear b)
    | (go_at_call 24; (have l0 := H30.out; clear l0); refine (sc31 w30).mono ?_; rintro e w31 ⟨rfl, b⟩
       have H31 := Lib.hid (H30.out.next b)
       clear b)
    | (go_at_call 24; (have l0 := H29.out; clear l0); refine (sc30 w29).mono ?_; rintro e w30 ⟨rfl, b⟩
       have H30 := Lib.hid (H29.out.next b)
       clear b)
    | (go_at_call 24; (have l0 := H28.out; clear l0); refine (sc29 w28).mono ?_; rintro e w29 ⟨rfl, b⟩
       have H29 := Lib.hid (H28.out.next b)
       clear b)
    | (go_at_call 24; (have l0 := H27.out; clear l0); refine (sc28 w27).mono ?_; rintro e w28 ⟨rfl, b⟩
       have H28 := Lib.hid (H27.out.next b)
       clear b)
    | (go_at_call 24; (have l0 := H26.out; clear l0); refine (sc27 w26).mono ?_; rintro e w27 ⟨rfl, b⟩
       have H27 := Lib.hid (H26.out.next b)
       clear b)
    | (go_at_call 24; (have l0 := H25.out; clear l0); refine (sc26 w25).mono ?_; rintro e w26 ⟨rfl, b⟩
       have H26 := Lib.hid (H25.out.next b)
       clear b)
    | (go_at_call 24; (have l0 := H24.out; clear l0); refine (sc25 w24).mono ?_; rintro e w25 ⟨rfl, b⟩
       have H25 := Lib.hid (H24.out.next b)
       clear b))
  go_upto_region 9 with (first
    | (go_at_call 5; (have l0 := H42.out; clear l0); refine (sc43 w42).mono ?_; rintro e w43 ⟨rfl, b⟩
       have H43 := Lib.hid (H42.out.next b)
       clear b)
    | (go_at_call 5; (have l0 := H41.out; clear l0); refine (sc42 w41).mono ?_; rintro e w42 ⟨rfl, b⟩
       have H42 := Lib.hid (H41.out.next b)
       clear b)
    | (go_at_call 5; (have l0 := H40.out; clear l0); refine (sc41 w40).mono ?_; rintro e w41 ⟨rfl, b⟩
       have H41 := Lib.hid (H40.out.next b)
       clear b)
    | (go_at_call 5; (have l0 := H39.out; clear l0); refine (sc40 w39).mono ?_; rintro e w40 ⟨rfl, b⟩
       have H40 := Lib.hid (H39.out.next b)
       clear b)
    | (go_at_call 5; (have l0 := H38.out; clear l0); refine (sc39 w38).mono ?_; rintro e w39 ⟨rfl, b⟩
       have H39 := Lib.hid (H38.out.next b)
       clear b))
  go_upto_region 11 with (first
    | (go_at_call 25; (have l0 := H45.out; clear l0); refine (sm1 p44 p45 w45 E45.out F45.out).mono ?_; rintro e w46 ⟨A0, c0, A1, c1, rfl, el, b⟩
       have H46 := Lib.hid (H45.out.next b)
       clear E45 F45
       clear b
       obtain ⟨u46, hu46⟩ : ∃ u, w46.alloc (.cells #[.int .i64 1, .slice A0 1 c0, .slice A1 2 c1] 46) = u := ⟨_, rfl⟩
       have hb46 : Below w46.heap.size w46 u46 := hu46 ▸ (Below.refl _ _).alloc (Nat.le_refl _) _
       have HS46 : Hid (u46.heap.size = w46.heap.size + 1) := Lib.hid (by rw [← hu46]; simp)
       have h46 := H46.out.next hb46
       clear H46
       have H46 := Lib.hid h46
       have KA46 : Hid (BX w46.heap.size ⟨1, [2], [11, 12]⟩ ⟨A0, c0, A1, c1⟩ u46) := Lib.hid ⟨hu46 ▸ Blk.new _ _ _, el.below hb46⟩
       clear el
       clear hb46 h46)
    | (go_at_call 27; (have l0 := H44.out; clear l0); refine (ss10 w44).mono ?_; rintro e w45 ⟨p45, rfl, el, b⟩
       have H45 := Lib.hid (H44.out.next b)
       have F45 := Lib.hid el
       have E45 := Lib.hid (E44.out.below b)
       clear E44 el
       clear b)
    | (go_at_call 26; (have l0 := H43.out; clear l0); refine (sv12 w43 _ rfl).mono ?_; rintro e w44 ⟨p44, rfl, el, b⟩
       have H44 := Lib.hid (H43.out.next b)
       have E44 := Lib.hid el
       clear el
       clear b))
  go_upto_region 12 with (first
    | (go_at_call 25; (have l0 := H48.out; clear l0); refine (sm2 p47 p48 w48 E48.out F48.out).mono ?_; rintro e w49 ⟨X0, x0, X1, x1, rfl, _, b⟩
       have H49 := Lib.hid (H48.out.next b)
       have KA49 := Lib.hid (KA48.out.next b)
       clear E48 F48
       clear b
       obtain ⟨u49, hu49⟩ : ∃ u, w49.alloc (.cells #[.int .i64 0, .slice X0 0 x0, .slice X1 0 x1] 46) = u := ⟨_, rfl⟩
       have hb49 : Below w49.heap.size w49 u49 := hu49 ▸ (Below.refl _ _).alloc (Nat.le_refl _) _
       have HS49 : Hid (u49.heap.size = w49.heap.size + 1) := Lib.hid (by rw [← hu49]; simp)
       have h49 := H49.out.next hb49
       clear H49
       have H49 := Lib.hid h49
       have k49 := KA49.out.next hb49
       clear KA49
       have KA49 := Lib.hid k49
       clear k49
       clear hb49 h49)
    | (go_at_call 26; (have l0 := H47.out; clear l0); refine (sv123 w47 _ rfl).mono ?_; rintro e w48 ⟨p48, rfl, el, b⟩
       have H48 := Lib.hid (H47.out.next b)
       have KA48 := Lib.hid (KA47.out.next b)
       have F48 := Lib.hid el
       have E48 := Lib.hid (E47.out.below b)
       clear E47 el
       clear b)
    | (go_at_call 26; (have l0 := H46.out; clear l0); refine (sv12 u46 _ (by first | rfl | exact HS46.out)).mono ?_; rintro e w47 ⟨p47, rfl, el, b⟩
       have H47 := Lib.hid (H46.out.next b)
       have KA47 := Lib.hid (KA46.out.next b)
       have E47 := Lib.hid el
       clear el
       clear b))
  go_upto_region 13 with (first
    | (go_at_call 25; (have l0 := H51.out; clear l0); refine (sm3 p50 p51 w51 E51.out F51.out).mono ?_; rintro e w52 ⟨B0, d0, B1, d1, rfl, el, b⟩
       have H52 := Lib.hid (H51.out.next b)
       have KA52 := Lib.hid (KA51.out.next b)
       clear E51 F51
       clear b
       obtain ⟨u52, hu52⟩ : ∃ u, w52.alloc (.cells #[.int .i64 1, .slice B0 1 d0, .slice B1 2 d1] 46) = u := ⟨_, rfl⟩
       have hb52 : Below w52.heap.size w52 u52 := hu52 ▸ (Below.refl _ _).alloc (Nat.le_refl _) _
       have HS52 : Hid (u52.heap.size = w52.heap.size + 1) := Lib.hid (by rw [← hu52]; simp)
       have h52 := H52.out.next hb52
       clear H52
       have H52 := Lib.hid h52
       have k52 := KA52.out.next hb52
       clear KA52
       have KA52 := Lib.hid k52
       clear k52
       have KB52 : Hid (BX w52.heap.size ⟨1, [2], [0, 1]⟩ ⟨B0, d0, B1, d1⟩ u52) := Lib.hid ⟨hu52 ▸ Blk.new _ _ _, el.below hb52⟩
       clear el
       clear hb52 h52)
    | (go_at_call 28; (have l0 := H50.out; clear l0); refine (sxb w50).mono ?_; rintro e w51 ⟨p51, rfl, el, b⟩
       have H51 := Lib.hid (H50.out.next b)
       have KA51 := Lib.hid (KA50.out.next b)
       have F51 := Lib.hid el
       have E51 := Lib.hid (E50.out.below b)
       clear E50 el
       clear b)
    | (go_at_call 28; (have l0 := H49.out; clear l0); refine (sab u49).mono ?_; rintro e w50 ⟨p50, rfl, el, b⟩
       have H50 := Lib.hid (H49.out.next b)
       have KA50 := Lib.hid (KA49.out.next b)
       have E50 := Lib.hid el
       clear el
       clear b))
  go_upto_region 14 with (first
    | (go_at_call 25; (have l0 := H54.out; clear l0); refine (sm4 p53 p54 w54 E54.out F54.out).mono ?_; rintro e w55 ⟨Y0, y0, Y1, y1, rfl, _, b⟩
       have H55 := Lib.hid (H54.out.next b)
       have KA55 := Lib.hid (KA54.out.next b)
       have KB55 := Lib.hid (KB54.out.next b)
       clear E54 F54
       clear b
       obtain ⟨u55, hu55⟩ : ∃ u, w55.alloc (.cells #[.int .i64 0, .slice Y0 0 y0, .slice Y1 0 y1] 46) = u := ⟨_, rfl⟩
       have hb55 : Below w55.heap.size w55 u55 := hu55 ▸ (Below.refl _ _).alloc (Nat.le_refl _) _
       have HS55 : Hid (u55.heap.size = w55.heap.size + 1) := Lib.hid (by rw [← hu55]; simp)
       have h55 := H55.out.next hb55
       clear H55
       have H55 := Lib.hid h55
       have k55 := KA55.out.next hb55
       clear KA55
       have KA55 := Lib.hid k55
       clear k55
       have k55 := KB55.out.next hb55
       clear KB55
       have KB55 := Lib.hid k55
       clear k55
       clear hb55 h55)
    | (go_at_call 27; (have l0 := H53.out; clear l0); refine (ss1 w53).mono ?_; rintro e w54 ⟨p54, rfl, el, b⟩
       have H54 := Lib.hid (H53.out.next b)
       have KA54 := Lib.hid (KA53.out.next b)
       have KB54 := Lib.hid (KB53.out.next b)
       have F54 := Lib.hid el
       have E54 := Lib.hid (E53.out.below b)
       clear E53 el
       clear b)
    | (go_at_call 28; (have l0 := H52.out; clear l0); refine (sno u52).mono ?_; rintro e w53 ⟨p53, rfl, el, b⟩
       have H53 := Lib.hid (H52.out.next b)
       have KA53 := Lib.hid (KA52.out.next b)
       have KB53 := Lib.hid (KB52.out.next b)
       have E53 := Lib.hid el
       clear el
       clear b))
  go_upto_region 15 with (first
    | (go_at_call 25; (have l0 := H56.out; clear l0); refine (sm5 p56 w56 _ rfl E56.out).mono ?_; rintro e w57 ⟨Z0, z0, Z1, z1, rfl, _, b⟩
       have H57 := Lib.hid (H56.out.next b)
       have KA57 := Lib.hid (KA56.out.next b)
       have KB57 := Lib.hid (KB56.out.next b)
       clear E56
       clear b
       obtain ⟨u57, hu57⟩ : ∃ u, w57.alloc (.cells #[.int .i64 0, .slice Z0 0 z0, .slice Z1 0 z1] 46) = u := ⟨_, rfl⟩
       have hb57 : Below w57.heap.size w57 u57 := hu57 ▸ (Below.refl _ _).alloc (Nat.le_refl _) _
       have HS57 : Hid (u57.heap.size = w57.heap.size + 1) := Lib.hid (by rw [← hu57]; simp)
       have h57 := H57.out.next hb57
       clear H57
       have H57 := Lib.hid h57
       have k57 := KA57.out.next hb57
       clear KA57
       have KA57 := Lib.hid k57
       clear k57
       have k57 := KB57.out.next hb57
       clear KB57
       have KB57 := Lib.hid k57
       clear k57
       clear hb57 h57)
    | (go_at_call 26; (have l0 := H55.out; clear l0); refine (sv1 u55 _ (by first | rfl | exact HS55.out)).mono ?_; rintro e w56 ⟨p56, rfl, el, b⟩
       have H56 := Lib.hid (H55.out.next b)
       have KA56 := Lib.hid (KA55.out.next b)
       have KB56 := Lib.hid (KB55.out.next b)
       have E56 := Lib.hid el
       clear el
       clear b))
  go_upto_region 16 with (first
    | (go_at_call 25; (have l0 := H59.out; clear l0); refine (sm6 p58 p59 w59 E59.out F59.out).mono ?_; rintro e w60 ⟨C0, e0, C1, e1, rfl, el, b⟩
       have H60 := Lib.hid (H59.out.next b)
       have KA60 := Lib.hid (KA59.out.next b)
       have KB60 := Lib.hid (KB59.out.next b)
       clear E59 F59
       clear b
       obtain ⟨u60, hu60⟩ : ∃ u, w60.alloc (.cells #[.int .i64 1, .slice C0 1 e0, .slice C1 1 e1] 46) = u := ⟨_, rfl⟩
       have hb60 : Below w60.heap.size w60 u60 := hu60 ▸ (Below.refl _ _).alloc (Nat.le_refl _) _
       have HS60 : Hid (u60.heap.size = w60.heap.size + 1) := Lib.hid (by rw [← hu60]; simp)
       have h60 := H60.out.next hb60
       clear H60
       have H60 := Lib.hid h60
       have k60 := KA60.out.next hb60
       clear KA60
       have KA60 := Lib.hid k60
       clear k60
       have k60 := KB60.out.next hb60
       clear KB60
       have KB60 := Lib.hid k60
       clear k60
       have KC60 : Hid (BX w60.heap.size ⟨1, [1], [1]⟩ ⟨C0, e0, C1, e1⟩ u60) := Lib.hid ⟨hu60 ▸ Blk.new _ _ _, el.below hb60⟩
       clear el
       clear hb60 h60)
    | (go_at_call 28; (have l0 := H58.out; clear l0); refine (sa w58).mono ?_; rintro e w59 ⟨p59, rfl, el, b⟩
       have H59 := Lib.hid (H58.out.next b)
       have KA59 := Lib.hid (KA58.out.next b)
       have KB59 := Lib.hid (KB58.out.next b)
       have F59 := Lib.hid el
       have E59 := Lib.hid (E58.out.below b)
       clear E58 el
       clear b)
    | (go_at_call 26; (have l0 := H57.out; clear l0); refine (sv97 u57 _ (by first | rfl | exact HS57.out)).mono ?_; rintro e w58 ⟨p58, rfl, el, b⟩
       have H58 := Lib.hid (H57.out.next b)
       have KA58 := Lib.hid (KA57.out.next b)
       have KB58 := Lib.hid (KB57.out.next b)
       have E58 := Lib.hid el
       clear el
       clear b))
  go_upto_region 17 with (first
    | (go_at_call 29; (have l0 := H61.out; clear l0); refine (sm7x p61 w61 E61.out).mono ?_; rintro e w62 ⟨V0, v0, V1, v1, rfl, b⟩
       have H62 := Lib.hid (H61.out.next b)
       have KA62 := Lib.hid (KA61.out.next b)
       have KB62 := Lib.hid (KB61.out.next b)
       have KC62 := Lib.hid (KC61.out.next b)
       clear E61
       clear b
       obtain ⟨u62, hu62⟩ : ∃ u, w62.alloc (.cells #[.int .i64 0, .slice V0 0 v0, .slice V1 0 v1] 46) = u := ⟨_, rfl⟩
       have hb62 : Below w62.heap.size w62 u62 := hu62 ▸ (Below.refl _ _).alloc (Nat.le_refl _) _
       have HS62 : Hid (u62.heap.size = w62.heap.size + 1) := Lib.hid (by rw [← hu62]; simp)
       have h62 := H62.out.next hb62
       clear H62
       have H62 := Lib.hid h62
       have k62 := KA62.out.next hb62
       clear KA62
       have KA62 := Lib.hid k62
       clear k62
       have k62 := KB62.out.next hb62
       clear KB62
       have KB62 := Lib.hid k62
       clear k62
       have k62 := KC62.out.next hb62
       clear KC62
       have KC62 := Lib.hid k62
       clear k62
       clear hb62 h62)
    | (go_at_call 28; (have l0 := H60.out; clear l0); refine (sa u60).mono ?_; rintro e w61 ⟨p61, rfl, el, b⟩
       have H61 := Lib.hid (H60.out.next b)
       have KA61 := Lib.hid (KA60.out.next b)
       have KB61 := Lib.hid (KB60.out.next b)
       have KC61 := Lib.hid (KC60.out.next b)
       have E61 := Lib.hid el
       clear el
       clear b))
  refine wp_region_done_on (GS _) (GR [1, 2, 3, 14, 15, 16, 32, 33, 34] (fun i v W => if i = 1 then VL W v [11, 12] else if i = 2 then VA W v ⟨1, [2], [11, 12]⟩ else if i = 14 then VL W v [0, 1] else if i = 15 then VA W v ⟨1, [2], [0, 1]⟩ else if i = 32 then VL W v [1] else if i = 33 then VA W v ⟨1, [1], [1]⟩ else v = .bool true) [.agg #[.int .i64 1, .slice A0 1 c0, .slice A1 2 c1], undef, undef, undef, .bool true, .int .i64 0, .bool true, .bool true, .bool true, .int .i64 4, .bool true, .bool true, .bool true, .agg #[.int .i64 1, .slice B0 1 d0, .slice B1 2 d1], undef, undef, undef, .bool true, .bool true, .int .i64 0, .bool true, .bool true, .bool true, .int .i64 5, .bool true, .bool true, .bool true, .int .i64 3, .bool true, .bool true, .bool true, .agg #[.int .i64 1, .slice C0 1 e0, .slice C1 1 e1], undef, undef, undef, .bool true, .bool true, .int .i64 0, .bool true, .bool true, .bool true, .int .i64 5, .bool true, .bool true, .bool true]) (by kernel_rfl) 310 rfl (by kernel_rfl) ((Below.refl _ _).drew) ?_ ?_
  · intro i hi
    have hi2 : i < 45 := hi
    clear hi
    rcases i with _ | i
    · refine gr_value rfl (by decide) (.agg #[.int .i64 1, .slice A0 1 c0, .slice A1 2 c1]) rfl ?_
      intro a8 w8 hb8 ho hn
      have o15 : a8.tmps[15]? = some _ := (ho 15 (by kernel_rfl)).trans rfl
      clear ho hn
      refine ⟨wanted_free rfl, ?_⟩
      obtain ⟨k0, k1, k2⟩ := (KA62.out.next hb8).cells
      go_simp
    rcases i with _ | i
    · refine gr_make sn_gu rfl (by decide) ?_
      intro a8 w8 hb8 ho hn
      clear ho hn
      refine ⟨wanted_free rfl, ?_⟩
      exact ⟨.slice (some ⟨w8.heap.size, 0, none⟩) 2 2, w8.alloc (.cells #[.int .i64 11, .int .i64 12] 2), (by go_simp), (Below.refl _ _).alloc (Nat.le_refl _) _, vl_new w8 [11, 12]⟩
    rcases i with _ | i
    · refine gr_call sn_gu 26 rfl (by decide) ?_
      intro a8 w8 hb8 ho hn
      obtain ⟨v229, n229, hq229⟩ := hn 1 229 (by kernel_rfl) rfl
      have hv229 := hq229.2 (by decide)
      clear ho hn
      refine ⟨wanted_free rfl, ?_⟩
      exact ⟨#[v229], (by go_simp), va_vec (show VL w8 v229 [11, 12] from hv229) (by decide) (by decide)⟩
    rcases i with _ | i
    · refine gr_call sn_gu 30 rfl (by decide) ?_
      intro a8 w8 hb8 ho hn
      obtain ⟨v228, n228, hq228⟩ := hn 0 228 (by kernel_rfl) rfl
      obtain rfl := hq228.1 (by decide)
      obtain ⟨v230, n230, hq230⟩ := hn 2 230 (by kernel_rfl) rfl
      have hv230 := hq230.2 (by decide)
      clear ho hn
      refine ⟨wanted_free rfl, ?_⟩
      refine ⟨#[.agg #[.int .i64 1, .slice A0 1 c0, .slice A1 2 c1], v230], (by go_simp), (ssA A0 A1 c0 c1 v230 w8 hv230 (KA62.out.next hb8).e).mono ?_⟩
      rintro e w9 ⟨rfl, b9⟩
      exact ⟨_, rfl, b9, rfl⟩
    rcases i with _ | i
    · refine gr_value rfl (by decide) (.bool true) rfl ?_
      intro a8 w8 hb8 ho hn
      obtain ⟨v231, n231, hq231⟩ := hn 3 231 (by kernel_rfl) rfl
      have hv231 := hq231.2 (by decide)
      clear ho hn
      refine ⟨wanted_free rfl, ?_⟩
      obtain rfl : v231 = .bool true := hv231
      go_simp
    rcases i with _ | i
    · refine gr_value rfl (by decide) (.int .i64 0) rfl ?_
      intro a8 w8 hb8 ho hn
      have o16 : a8.tmps[16]? = some _ := (ho 16 (by kernel_rfl)).trans rfl
      obtain ⟨v232, n232, hq232⟩ := hn 4 232 (by kernel_rfl) rfl
      obtain rfl := hq232.1 (by decide)
      clear ho hn
      refine ⟨wanted_of 4 232 rfl rfl n232, ?_⟩
      go_simp
    rcases i with _ | i
    · refine gr_value rfl (by decide) (.bool true) rfl ?_
      intro a8 w8 hb8 ho hn
      obtain ⟨v233, n233, hq233⟩ := hn 5 233 (by kernel_rfl) rfl
      obtain rfl := hq233.1 (by decide)
      obtain ⟨v232, n232, hq232⟩ := hn 4 232 (by kernel_rfl) rfl
      obtain rfl := hq232.1 (by decide)
      clear ho hn
      refine ⟨wanted_of 4 232 rfl rfl n232, ?_⟩
      go_simp
    rcases i with _ | i
    · refine gr_value rfl (by decide) (.bool true) rfl ?_
      intro a8 w8 hb8 ho hn
      obtain ⟨v232, n232, hq232⟩ := hn 4 232 (by kernel_rfl) rfl
      obtain rfl := hq232.1 (by decide)
      obtain ⟨v234, n234, hq234⟩ := hn 6 234 (by kernel_rfl) rfl
      obtain rfl := hq234.1 (by decide)
      clear ho hn
      refine ⟨wanted_free rfl, ?_⟩
      go_simp
    rcases i with _ | i
    · refine gr_value rfl (by decide) (.bool true) rfl ?_
      intro a8 w8 hb8 ho hn
      obtain ⟨v235, n235, hq235⟩ := hn 7 235 (by kernel_rfl) rfl
      obtain rfl := hq235.1 (by decide)
      clear ho hn
      refine ⟨wanted_free rfl, ?_⟩
      go_simp
    rcases i with _ | i
    · refine gr_value rfl (by decide) (.int .i64 4) rfl ?_
      intro a8 w8 hb8 ho hn
      have o18 : a8.tmps[18]? = some _ := (ho 18 (by kernel_rfl)).trans rfl
      obtain ⟨v236, n236, hq236⟩ := hn 8 236 (by kernel_rfl) rfl
      obtain rfl := hq236.1 (by decide)
      clear ho hn
      refine ⟨wanted_of 8 236 rfl rfl n236, ?_⟩
      go_simp
    rcases i with _ | i
    · refine gr_value rfl (by decide) (.bool true) rfl ?_
      intro a8 w8 hb8 ho hn
      obtain ⟨v237, n237, hq237⟩ := hn 9 237 (by kernel_rfl) rfl
      obtain rfl := hq237.1 (by decide)
      obtain ⟨v236, n236, hq236⟩ := hn 8 236 (by kernel_rfl) rfl
      obtain rfl := hq236.1 (by decide)
      clear ho hn
      refine ⟨wanted_of 8 236 rfl rfl n236, ?_⟩
      go_simp
    rcases i with _ | i
    · refine gr_value rfl (by decide) (.bool true) rfl ?_
      intro a8 w8 hb8 ho hn
      obtain ⟨v236, n236, hq236⟩ := hn 8 236 (by kernel_rfl) rfl
      obtain rfl := hq236.1 (by decide)
      obtain ⟨v238, n238, hq238⟩ := hn 10 238 (by kernel_rfl) rfl
      obtain rfl := hq238.1 (by decide)
      clear ho hn
      refine ⟨wanted_free rfl, ?_⟩
      go_simp
    rcases i with _ | i
    · refine gr_value rfl (by decide) (.bool true) rfl ?_
      intro a8 w8 hb8 ho hn
      obtain ⟨v239, n239, hq239⟩ := hn 11 239 (by kernel_rfl) rfl
      obtain rfl := hq239.1 (by decide)
      clear ho hn
      refine ⟨wanted_free rfl, ?_⟩
      go_simp
    rcases i with _ | i
    · refine gr_value rfl (by decide) (.agg #[.int .i64 1, .slice B0 1 d0, .slice B1 2 d1]) rfl ?_
      intro a8 w8 hb8 ho hn
      have o19 : a8.tmps[19]? = some _ := (ho 19 (by kernel_rfl)).trans rfl
      obtain ⟨v240, n240, hq240⟩ := hn 12 240 (by kernel_rfl) rfl
      obtain rfl := hq240.1 (by decide)
      clear ho hn
      refine ⟨wanted_of 12 240 rfl rfl n240, ?_⟩
      obtain ⟨k0, k1, k2⟩ := (KB62.out.next hb8).cells
      go_simp
    rcases i with _ | i
    · refine gr_make sn_gu rfl (by decide) ?_
      intro a8 w8 hb8 ho hn
      obtain ⟨v240, n240, hq240⟩ := hn 12 240 (by kernel_rfl) rfl
      obtain rfl := hq240.1 (by decide)
      clear ho hn
      refine ⟨wanted_of 12 240 rfl rfl n240, ?_⟩
      exact ⟨.slice (some ⟨w8.heap.size, 0, none⟩) 2 2, w8.alloc (.cells #[.int .i64 0, .int .i64 1] 2), (by go_simp), (Below.refl _ _).alloc (Nat.le_refl _) _, vl_new w8 [0, 1]⟩
    rcases i with _ | i
    · refine gr_call sn_gu 26 rfl (by decide) ?_
      intro a8 w8 hb8 ho hn
      obtain ⟨v242, n242, hq242⟩ := hn 14 242 (by kernel_rfl) rfl
      have hv242 := hq242.2 (by decide)
      obtain ⟨v240, n240, hq240⟩ := hn 12 240 (by kernel_rfl) rfl
      obtain rfl := hq240.1 (by decide)
      clear ho hn
      refine ⟨wanted_of 12 240 rfl rfl n240, ?_⟩
      exact ⟨#[v242], (by go_simp), va_vec (show VL w8 v242 [0, 1] from hv242) (by decide) (by decide)⟩
    rcases i with _ | i
    · refine gr_call sn_gu 30 rfl (by decide) ?_
      intro a8 w8 hb8 ho hn
      obtain ⟨v241, n241, hq241⟩ := hn 13 241 (by kernel_rfl) rfl
      obtain rfl := hq241.1 (by decide)
      obtain ⟨v243, n243, hq243⟩ := hn 15 243 (by kernel_rfl) rfl
      have hv243 := hq243.2 (by decide)
      obtain ⟨v240, n240, hq240⟩ := hn 12 240 (by kernel_rfl) rfl
      obtain rfl := hq240.1 (by decide)
      clear ho hn
      refine ⟨wanted_of 12 240 rfl rfl n240, ?_⟩
      refine ⟨#[.agg #[.int .i64 1, .slice B0 1 d0, .slice B1 2 d1], v243], (by go_simp), (ssB B0 B1 d0 d1 v243 w8 hv243 (KB62.out.next hb8).e).mono ?_⟩
      rintro e w9 ⟨rfl, b9⟩
      exact ⟨_, rfl, b9, rfl⟩
    rcases i with _ | i
    · refine gr_value rfl (by decide) (.bool true) rfl ?_
      intro a8 w8 hb8 ho hn
      obtain ⟨v240, n240, hq240⟩ := hn 12 240 (by kernel_rfl) rfl
      obtain rfl := hq240.1 (by decide)
      obtain ⟨v244, n244, hq244⟩ := hn 16 244 (by kernel_rfl) rfl
      have hv244 := hq244.2 (by decide)
      clear ho hn
      refine ⟨wanted_free rfl, ?_⟩
      obtain rfl : v244 = .bool true := hv244
      go_simp
    rcases i with _ | i
    · refine gr_value rfl (by decide) (.bool true) rfl ?_
      intro a8 w8 hb8 ho hn
      obtain ⟨v245, n245, hq245⟩ := hn 17 245 (by kernel_rfl) rfl
      obtain rfl := hq245.1 (by decide)
      clear ho hn
      refine ⟨wanted_free rfl, ?_⟩
      go_simp
    rcases i with _ | i
    · refine gr_value rfl (by decide) (.int .i64 0) rfl ?_
      intro a8 w8 hb8 ho hn
      have o20 : a8.tmps[20]? = some _ := (ho 20 (by kernel_rfl)).trans rfl
      obtain ⟨v246, n246, hq246⟩ := hn 18 246 (by kernel_rfl) rfl
      obtain rfl := hq246.1 (by decide)
      clear ho hn
      refine ⟨wanted_of 18 246 rfl rfl n246, ?_⟩
      go_simp
    rcases i with _ | i
    · refine gr_value rfl (by decide) (.bool true) rfl ?_
      intro a8 w8 hb8 ho hn
      obtain ⟨v247, n247, hq247⟩ := hn 19 247 (by kernel_rfl) rfl
      obtain rfl := hq247.1 (by decide)
      obtain ⟨v246, n246, hq246⟩ := hn 18 246 (by kernel_rfl) rfl
      obtain rfl := hq246.1 (by decide)
      clear ho hn
      refine ⟨wanted_of 18 246 rfl rfl n246, ?_⟩
      go_simp
    rcases i with _ | i
    · refine gr_value rfl (by decide) (.bool true) rfl ?_
      intro a8 w8 hb8 ho hn
      obtain ⟨v246, n246, hq246⟩ := hn 18 246 (by kernel_rfl) rfl
      obtain rfl := hq246.1 (by decide)
      obtain ⟨v248, n248, hq248⟩ := hn 20 248 (by kernel_rfl) rfl
      obtain rfl := hq248.1 (by decide)
      clear ho hn
      refine ⟨wanted_free rfl, ?_⟩
      go_simp
    rcases i with _ | i
    · refine gr_value rfl (by decide) (.bool true) rfl ?_
      intro a8 w8 hb8 ho hn
      obtain ⟨v249, n249, hq249⟩ := hn 21 249 (by kernel_rfl) rfl
      obtain rfl := hq249.1 (by decide)
      clear ho hn
      refine ⟨wanted_free rfl, ?_⟩
      go_simp
    rcases i with _ | i
    · refine gr_value rfl (by decide) (.int .i64 5) rfl ?_
      intro a8 w8 hb8 ho hn
      have o22 : a8.tmps[22]? = some _ := (ho 22 (by kernel_rfl)).trans rfl
      obtain ⟨v250, n250, hq250⟩ := hn 22 250 (by kernel_rfl) rfl
      obtain rfl := hq250.1 (by decide)
      clear ho hn
      refine ⟨wanted_of 22 250 rfl rfl n250, ?_⟩
      go_simp
    rcases i with _ | i
    · refine gr_value rfl (by decide) (.bool true) rfl ?_
      intro a8 w8 hb8 ho hn
      obtain ⟨v251, n251, hq251⟩ := hn 23 251 (by kernel_rfl) rfl
      obtain rfl := hq251.1 (by decide)
      obtain ⟨v250, n250, hq250⟩ := hn 22 250 (by kernel_rfl) rfl
      obtain rfl := hq250.1 (by decide)
      clear ho hn
      refine ⟨wanted_of 22 250 rfl rfl n250, ?_⟩
      go_simp
    rcases i with _ | i
    · refine gr_value rfl (by decide) (.bool true) rfl ?_
      intro a8 w8 hb8 ho hn
      obtain ⟨v250, n250, hq250⟩ := hn 22 250 (by kernel_rfl) rfl
      obtain rfl := hq250.1 (by decide)
      obtain ⟨v252, n252, hq252⟩ := hn 24 252 (by kernel_rfl) rfl
      obtain rfl := hq252.1 (by decide)
      clear ho hn
      refine ⟨wanted_free rfl, ?_⟩
      go_simp
    rcases i with _ | i
    · refine gr_value rfl (by decide) (.bool true) rfl ?_
      intro a8 w8 hb8 ho hn
      obtain ⟨v253, n253, hq253⟩ := hn 25 253 (by kernel_rfl) rfl
      obtain rfl := hq253.1 (by decide)
      clear ho hn
      refine ⟨wanted_free rfl, ?_⟩
      go_simp
    rcases i with _ | i
    · refine gr_value rfl (by decide) (.int .i64 3) rfl ?_
      intro a8 w8 hb8 ho hn
      have o24 : a8.tmps[24]? = some _ := (ho 24 (by kernel_rfl)).trans rfl
      obtain ⟨v254, n254, hq254⟩ := hn 26 254 (by kernel_rfl) rfl
      obtain rfl := hq254.1 (by decide)
      clear ho hn
      refine ⟨wanted_of 26 254 rfl rfl n254, ?_⟩
      go_simp
    rcases i with _ | i
    · refine gr_value rfl (by decide) (.bool true) rfl ?_
      intro a8 w8 hb8 ho hn
      obtain ⟨v255, n255, hq255⟩ := hn 27 255 (by kernel_rfl) rfl
      obtain rfl := hq255.1 (by decide)
      obtain ⟨v254, n254, hq254⟩ := hn 26 254 (by kernel_rfl) rfl
      obtain rfl := hq254.1 (by decide)
      clear ho hn
      refine ⟨wanted_of 26 254 rfl rfl n254, ?_⟩
      go_simp
    rcases i with _ | i
    · refine gr_value rfl (by decide) (.bool true) rfl ?_
      intro a8 w8 hb8 ho hn
      obtain ⟨v254, n254, hq254⟩ := hn 26 254 (by kernel_rfl) rfl
      obtain rfl := hq254.1 (by decide)
      obtain ⟨v256, n256, hq256⟩ := hn 28 256 (by kernel_rfl) rfl
      obtain rfl := hq256.1 (by decide)
      clear ho hn
      refine ⟨wanted_free rfl, ?_⟩
      go_simp
    rcases i with _ | i
    · refine gr_value rfl (by decide) (.bool true) rfl ?_
      intro a8 w8 hb8 ho hn
      obtain ⟨v257, n257, hq257⟩ := hn 29 257 (by kernel_rfl) rfl
      obtain rfl := hq257.1 (by decide)
      clear ho hn
      refine ⟨wanted_free rfl, ?_⟩
      go_simp
    rcases i with _ | i
    · refine gr_value rfl (by decide) (.agg #[.int .i64 1, .slice C0 1 e0, .slice C1 1 e1]) rfl ?_
      intro a8 w8 hb8 ho hn
      have o25 : a8.tmps[25]? = some _ := (ho 25 (by kernel_rfl)).trans rfl
      obtain ⟨v258, n258, hq258⟩ := hn 30 258 (by kernel_rfl) rfl
      obtain rfl := hq258.1 (by decide)
      clear ho hn
      refine ⟨wanted_of 30 258 rfl rfl n258, ?_⟩
      obtain ⟨k0, k1, k2⟩ := (KC62.out.next hb8).cells
      go_simp
    rcases i with _ | i
    · refine gr_make sn_gu rfl (by decide) ?_
      intro a8 w8 hb8 ho hn
      obtain ⟨v258, n258, hq258⟩ := hn 30 258 (by kernel_rfl) rfl
      obtain rfl := hq258.1 (by decide)
      clear ho hn
      refine ⟨wanted_of 30 258 rfl rfl n258, ?_⟩
      exact ⟨.slice (some ⟨w8.heap.size, 0, none⟩) 1 1, w8.alloc (.cells #[.int .i64 1] 2), (by go_simp), (Below.refl _ _).alloc (Nat.le_refl _) _, vl_new w8 [1]⟩
    rcases i with _ | i
    · refine gr_call sn_gu 26 rfl (by decide) ?_
      intro a8 w8 hb8 ho hn
      obtain ⟨v260, n260, hq260⟩ := hn 32 260 (by kernel_rfl) rfl
      have hv260 := hq260.2 (by decide)
      obtain ⟨v258, n258, hq258⟩ := hn 30 258 (by kernel_rfl) rfl
      obtain rfl := hq258.1 (by decide)
      clear ho hn
      refine ⟨wanted_of 30 258 rfl rfl n258, ?_⟩
      exact ⟨#[v260], (by go_simp), va_vec (show VL w8 v260 [1] from hv260) (by decide) (by decide)⟩
    rcases i with _ | i
    · refine gr_call sn_gu 30 rfl (by decide) ?_
      intro a8 w8 hb8 ho hn
      obtain ⟨v259, n259, hq259⟩ := hn 31 259 (by kernel_rfl) rfl
      obtain rfl := hq259.1 (by decide)
      obtain ⟨v261, n261, hq261⟩ := hn 33 261 (by kernel_rfl) rfl
      have hv261 := hq261.2 (by decide)
      obtain ⟨v258, n258, hq258⟩ := hn 30 258 (by kernel_rfl) rfl
      obtain rfl := hq258.1 (by decide)
      clear ho hn
      refine ⟨wanted_of 30 258 rfl rfl n258, ?_⟩
      refine ⟨#[.agg #[.int .i64 1, .slice C0 1 e0, .slice C1 1 e1], v261], (by go_simp), (ssC C0 C1 e0 e1 v261 w8 hv261 (KC62.out.next hb8).e).mono ?_⟩
      rintro e w9 ⟨rfl, b9⟩
      exact ⟨_, rfl, b9, rfl⟩
    rcases i with _ | i
    · refine gr_value rfl (by decide) (.bool true) rfl ?_
      intro a8 w8 hb8 ho hn
      obtain ⟨v258, n258, hq258⟩ := hn 30 258 (by kernel_rfl) rfl
      obtain rfl := hq258.1 (by decide)
      obtain ⟨v262, n262, hq262⟩ := hn 34 262 (by kernel_rfl) rfl
      have hv262 := hq262.2 (by decide)
      clear ho hn
      refine ⟨wanted_free rfl, ?_⟩
      obtain rfl : v262 = .bool true := hv262
      go_simp
    rcases i with _ | i
    · refine gr_value rfl (by decide) (.bool true) rfl ?_
      intro a8 w8 hb8 ho hn
      obtain ⟨v263, n263, hq263⟩ := hn 35 263 (by kernel_rfl) rfl
      obtain rfl := hq263.1 (by decide)
      clear ho hn
      refine ⟨wanted_free rfl, ?_⟩
      go_simp
    rcases i with _ | i
    · refine gr_value rfl (by decide) (.int .i64 0) rfl ?_
      intro a8 w8 hb8 ho hn
      have o26 : a8.tmps[26]? = some _ := (ho 26 (by kernel_rfl)).trans rfl
      obtain ⟨v264, n264, hq264⟩ := hn 36 264 (by kernel_rfl) rfl
      obtain rfl := hq264.1 (by decide)
      clear ho hn
      refine ⟨wanted_of 36 264 rfl rfl n264, ?_⟩
      go_simp
    rcases i with _ | i
    · refine gr_value rfl (by decide) (.bool true) rfl ?_
      intro a8 w8 hb8 ho hn
      obtain ⟨v265, n265, hq265⟩ := hn 37 265 (by kernel_rfl) rfl
      obtain rfl := hq265.1 (by decide)
      obtain ⟨v264, n264, hq264⟩ := hn 36 264 (by kernel_rfl) rfl
      obtain rfl := hq264.1 (by decide)
      clear ho hn
      refine ⟨wanted_of 36 264 rfl rfl n264, ?_⟩
      go_simp
    rcases i with _ | i
    · refine gr_value rfl (by decide) (.bool true) rfl ?_
      intro a8 w8 hb8 ho hn
      obtain ⟨v264, n264, hq264⟩ := hn 36 264 (by kernel_rfl) rfl
      obtain rfl := hq264.1 (by decide)
      obtain ⟨v266, n266, hq266⟩ := hn 38 266 (by kernel_rfl) rfl
      obtain rfl := hq266.1 (by decide)
      clear ho hn
      refine ⟨wanted_free rfl, ?_⟩
      go_simp
    rcases i with _ | i
    · refine gr_value rfl (by decide) (.bool true) rfl ?_
      intro a8 w8 hb8 ho hn
      obtain ⟨v267, n267, hq267⟩ := hn 39 267 (by kernel_rfl) rfl
      obtain rfl := hq267.1 (by decide)
      clear ho hn
      refine ⟨wanted_free rfl, ?_⟩
      go_simp
    rcases i with _ | i
    · refine gr_value rfl (by decide) (.int .i64 5) rfl ?_
      intro a8 w8 hb8 ho hn
      have o28 : a8.tmps[28]? = some _ := (ho 28 (by kernel_rfl)).trans rfl
      obtain ⟨v268, n268, hq268⟩ := hn 40 268 (by kernel_rfl) rfl
      obtain rfl := hq268.1 (by decide)
      clear ho hn
      refine ⟨wanted_of 40 268 rfl rfl n268, ?_⟩
      go_simp
    rcases i with _ | i
    · refine gr_value rfl (by decide) (.bool true) rfl ?_
      intro a8 w8 hb8 ho hn
      obtain ⟨v269, n269, hq269⟩ := hn 41 269 (by kernel_rfl) rfl
      obtain rfl := hq269.1 (by decide)
      obtain ⟨v268, n268, hq268⟩ := hn 40 268 (by kernel_rfl) rfl
      obtain rfl := hq268.1 (by decide)
      clear ho hn
      refine ⟨wanted_of 40 268 rfl rfl n268, ?_⟩
      go_simp
    rcases i with _ | i
    · refine gr_value rfl (by decide) (.bool true) rfl ?_
      intro a8 w8 hb8 ho hn
      obtain ⟨v268, n268, hq268⟩ := hn 40 268 (by kernel_rfl) rfl
      obtain rfl := hq268.1 (by decide)
      obtain ⟨v270, n270, hq270⟩ := hn 42 270 (by kernel_rfl) rfl
      obtain rfl := hq270.1 (by decide)
      clear ho hn
      refine ⟨wanted_free rfl, ?_⟩
      go_simp
    rcases i with _ | i
    · refine gr_value rfl (by decide) (.bool true) rfl ?_
      intro a8 w8 hb8 ho hn
      obtain ⟨v271, n271, hq271⟩ := hn 43 271 (by kernel_rfl) rfl
      obtain rfl := hq271.1 (by decide)
      clear ho hn
      refine ⟨wanted_free rfl, ?_⟩
      go_simp
    omega
  · intro dn fv w5 hb5 hR5 hall
    have h29 : fv 29 = _ := (hR5 44 29 rfl).1 (by decide)
    simp only [putAll, List.foldl_cons, List.foldl_nil, Act.put, List.setIfInBounds_toArray, List.set_cons_succ, List.set_cons_zero, h29, List.getD_cons_zero, List.getD_cons_succ]
    clear hR5 hall
    have H63 := Lib.hid (H62.out.next hb5)
    clear H62 hb5 KA62 KB62 KC62
    go_wp2_with (first
      | (go_at_call 15; (have l0 := H68.out; clear l0); refine (sgm w68).mono ?_; rintro e w69 ⟨rfl, b⟩
         have H69 := Lib.hid (H68.out.next b)
         clear b)
      | (go_at_call 15; (have l0 := H67.out; clear l0); refine (sg18 w67).mono ?_; rintro e w68 ⟨rfl, b⟩
         have H68 := Lib.hid (H67.out.next b)
         clear b)
      | (go_at_call 17; (have l0 := H66.out; clear l0); refine (snn w66 H66.out.t).mono ?_; rintro e w67 ⟨rfl, b⟩
         have H67 := Lib.hid (H66.out.next b)
         clear b)
      | (go_at_call 17; (have l0 := H65.out; clear l0); refine (sna w65 H65.out.t).mono ?_; rintro e w66 ⟨rfl, b⟩
         have H66 := Lib.hid (H65.out.next b)
         clear b)
      | (go_at_call 15; (have l0 := H64.out; clear l0); refine (sg3 w64 H64.out.t).mono ?_; rintro e w65 ⟨rfl, b⟩
         have H65 := Lib.hid (H64.out.next b)
         clear b)
      | (go_at_call 31; (have l0 := H63.out; clear l0); refine (alive12_any w5).mono ?_; rintro e w64 ⟨rfl, b⟩
         have H64 := Lib.hid (H63.out.next b)
         clear b))
    go_ret
    exact ⟨by simp, H69.out.b⟩

theorem call {W : World} (ht : Gly W) : Calls Tryd.prog 4 #[] W fun e w' => e = .returned (.bool true) ∧ Below W.heap.size W w' := walk W ht
end Go.Proofs.YtkdnaebmifjmcaaDoor.scalarNames

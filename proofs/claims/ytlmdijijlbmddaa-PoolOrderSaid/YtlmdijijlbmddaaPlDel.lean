/-
  The pool of layer 10: a frame is taken out of those that hold a tile (slices.IndexFunc, slices.DeleteFunc, at the test 'is it this one').
-/
import Derived.Test.YtlmdijijlbmddaaPlFirst
import Derived.Lib.SliceRun
namespace Go.Proofs.Ytlmdijijlbmddaa.pool
open Go.RowKit

/-- A frame's place as a value. -/
abbrev pv (b : Nat) : Value := .pointer (some ⟨b, 0, none⟩)
theorem infoFr : (Try.prog.info? 82).map (fun i => i.size) = some 7 := by kernel_rfl
theorem infoFrp : (Try.prog.info? 79).map (fun i => (i.zero, i.size, i.bytes)) = some (some (.pointer none), 1, 8) := by kernel_rfl

/-- There is a frame at b. -/
def FrB (w : World) (b : Nat) : Prop := ∃ cs, Blk w b 82 cs
theorem FrB.keep {w w' : World} {S : Nat → Prop} {b : Nat} (h : FrB w b) (hk : Keep S w w') (hn : ¬ S b) : FrB w' b := by
  obtain ⟨cs, h⟩ := h
  exact ⟨cs, hk.blk h hn⟩
theorem FrB.lt {w : World} {b : Nat} (h : FrB w b) : b < w.heap.size := by
  obtain ⟨cs, h⟩ := h
  exact h.lt

theorem rem1_any (x f C : Nat) (w : World) (hx : FrB w x) (hf : FrB w f) (hC : w.cell? ⟨C, 0, none⟩ = some (pv f)) :
    Calls Try.prog 89 #[pv x, .pointer (some ⟨C, 0, none⟩)] w fun e w' => e = .returned (.bool (decide (x = f))) ∧ w = w' := by
  obtain ⟨i0, hi0, hsz⟩ := Option.map_eq_some_iff.1 infoFr
  by_cases hxf : x = f
  · subst hxf
    have q := fun w => run_eql_ptr_same (P := Try.prog) w (tp := 79) (te := 82) ⟨x, 0, none⟩ Try.underlying79 hi0
    rw [decide_eq_true rfl]
    clear hx hf
    go_enter Try.func89, Try.ntmps89
    go_wp2
    go_ret
    exact ⟨rfl, rfl⟩
  · obtain ⟨c1, h1⟩ := hx
    obtain ⟨c2, h2⟩ := hf
    have q := run_eql_ptr_other (P := Try.prog) w (tp := 79) (te := 82) (a := ⟨x, 0, none⟩) (b := ⟨f, 0, none⟩) Try.underlying79 hi0 (by rw [hsz]; decide) (fun e => hxf (by injection e)) h1 h2
    rw [decide_eq_false hxf]
    clear h1 h2 hxf
    go_enter Try.func89, Try.ntmps89
    go_wp2
    go_ret
    exact ⟨rfl, rfl⟩

/-- The slice of frames reads as their places. -/
structure Rw (W : World) (n : Nat) (A : Option Addr) (bs : List Nat) : Prop where
  len : bs.length = n
  at_ : ∀ j, j < n → ∃ g, A = some ⟨g, 0, none⟩ ∧ W.cell? ⟨g, j, none⟩ = some (pv (bs.getD j 0))
  fr : ∀ j, j < n → FrB W (bs.getD j 0)

set_option maxHeartbeats 2000000 in
theorem idx_any (n c f C : Nat) (A : Option Addr) (bs : List Nat) (w : World) (h : Rw w n A bs) (hf : FrB w f) (hC : w.cell? ⟨C, 0, none⟩ = some (pv f)) (hn : (n : Int) ≤ 9223372036854775807) :
    Calls Try.prog 122 #[.slice A n c, .func (.func 89) #[] #[.pointer (some ⟨C, 0, none⟩)]] w fun e w' =>
      ((∃ k, k < n ∧ bs.getD k 0 = f ∧ (∀ j, j < k → bs.getD j 0 ≠ f) ∧ e = .returned (.int .i64 (k : Int))) ∨ ((∀ j, j < n → bs.getD j 0 ≠ f) ∧ e = .returned (.int .i64 (-1)))) ∧ w = w' := by
  have HH := Lib.hid h
  have HF := Lib.hid hf
  have HC := Lib.hid hC
  clear h hf hC
  go_enter Try.func122, Try.ntmps122
  go_wp2
  go_loopw [8] (fun i wr => ∃ j : Nat, j ≤ n ∧ i = .int .i64 (j : Int) ∧ (∀ t, t < j → bs.getD t 0 ≠ f) ∧ wr = w) (fun i _ => n - (intOf i).toNat)
  case atStart => exact ⟨0, Nat.zero_le _, rfl, fun t ht => by omega, rfl⟩
  case round =>
    obtain ⟨j, hj, rfl, hno, rfl⟩ := hrel
    have HNO := Lib.hid hno
    clear hno
    by_cases hlt : j < n
    · obtain ⟨g, rfl, ck⟩ := HH.out.at_ j hlt
      have HR := Lib.hid (rem1_any (bs.getD j 0) f C wr (HH.out.fr j hlt) HF.out HC.out)
      have hd : (j : Int) < (n : Int) := by omega
      obtain ⟨x, hx⟩ : ∃ x, bs.getD j 0 = x := ⟨_, rfl⟩
      rw [hx] at ck HR
      have HX := Lib.hid hx
      clear hx
      by_cases hxf : x = f
      · rw [decide_eq_true hxf] at HR
        have HXF := Lib.hid hxf
        clear hxf
        go_wp2_with (with_reducible refine HR.out.mono ?_; rintro e _ ⟨rfl, rfl⟩)
        go_ret
        exact ⟨.inl ⟨j, hlt, HX.out.trans HXF.out, HNO.out, rfl⟩, rfl⟩
      · rw [decide_eq_false hxf] at HR
        have HXF := Lib.hid hxf
        clear hxf
        go_wp2_with (with_reducible refine HR.out.mono ?_; rintro e _ ⟨rfl, rfl⟩)
        refine ⟨⟨j + 1, by omega, by go_num, fun t ht => ?_, trivial⟩, by simp [intOf]; omega⟩
        rcases Nat.lt_or_ge t j with h1 | h1
        · exact HNO.out t h1
        · obtain rfl : t = j := by omega
          rw [HX.out]
          exact HXF.out
    · obtain rfl : j = n := by omega
      clear hlt
      go_wp2
      go_ret
      exact ⟨.inr ⟨HNO.out, rfl⟩, rfl⟩

theorem own_shrink {w : World} {B e g n m c : Nat} {xs : List Value} (h : w.ownsRow B e 1 (.slice (some ⟨g, 0, none⟩) n c) n xs) (hm : m ≤ n) : w.ownsRow B e 1 (.slice (some ⟨g, 0, none⟩) m c) m (xs.take m) := by
  refine ⟨by rw [List.length_take, h.1]; omega, ?_⟩
  rcases h.2 with ⟨e1, _⟩ | ⟨g', cap, cur, e1, hb, hh, hc, hcm, hs, ht⟩
  · cases e1
  · injection e1 with e1 e2 e3
    subst e3
    refine .inr ⟨g, c, cur, rfl, ?_, ?_, by omega, hcm, hs, ?_⟩
    · injection e1 with e1; injection e1 with e1; subst e1; exact hb
    · injection e1 with e1; injection e1 with e1; subst e1; exact hh
    · rw [← ht, List.take_take]
      congr 1
      omega
theorem own_size {w : World} {B e g n c : Nat} {xs : List Value} (h : w.ownsRow B e 1 (.slice (some ⟨g, 0, none⟩) n c) n xs) : n ≤ c ∧ c ≤ 9223372036854775807 ∧ B ≤ g ∧ Typ w g e := by
  rcases h.2 with ⟨e1, _⟩ | ⟨g', cap, cur, e1, hb, hh, hc, hcm, hs, ht⟩
  · cases e1
  · injection e1 with e1 e2 e3
    injection e1 with e1; injection e1 with e1
    subst e1 e3
    exact ⟨hc, by unfold maxLen at hcm; omega, hb, cur, (0, 0), hh⟩

/-- The row while what stands behind index k moves up: m is looked at next. -/
def rowL (bs : List Nat) (k m : Nat) : List Nat := (bs.eraseIdx k).take (m - 1) ++ bs.drop (m - 1)
theorem rowL_start (bs : List Nat) (k : Nat) (h : k < bs.length) : rowL bs k (k + 1) = bs := by
  unfold rowL
  rw [Nat.add_sub_cancel]
  apply List.ext_getElem?
  intro i
  rw [List.getElem?_append]
  rw [List.length_take, List.length_eraseIdx]
  simp only [h, if_true]
  by_cases hi : i < k
  · rw [if_pos (by omega), List.getElem?_take_of_lt hi, List.getElem?_eraseIdx_of_lt (by omega)]
  · rw [if_neg (by omega), List.getElem?_drop]
    congr 1
    omega
theorem rowL_step (bs : List Nat) (k m : Nat) (hk : k < m) (hm : m < bs.length) : (rowL bs k m).set (m - 1) (bs.getD m 0) = rowL bs k (m + 1) := by
  obtain ⟨d, rfl⟩ : ∃ d, m = d + 1 := ⟨m - 1, by omega⟩
  unfold rowL
  simp only [Nat.add_sub_cancel]
  have hl : (bs.eraseIdx k).length = bs.length - 1 := by rw [List.length_eraseIdx, if_pos (by omega)]
  have hl2 : ((bs.eraseIdx k).take d).length = d := by rw [List.length_take, hl]; omega
  have hl3 : ((bs.eraseIdx k).take (d + 1)).length = d + 1 := by rw [List.length_take, hl]; omega
  apply List.ext_getElem?
  intro i
  rw [List.getElem?_set, List.getElem?_append, List.getElem?_append, hl2, hl3, List.length_append, hl2, List.length_drop]
  by_cases h1 : d = i
  · subst h1
    rw [if_pos rfl, if_pos (by omega), if_pos (by omega), List.getElem?_take_of_lt (by omega), List.getElem?_eraseIdx_of_ge (by omega), List.getD_eq_getElem?_getD, List.getElem?_eq_getElem hm]
    rfl
  · rw [if_neg h1]
    by_cases h2 : i < d
    · rw [if_pos h2, if_pos (by omega), List.getElem?_take_of_lt h2, List.getElem?_take_of_lt (by omega)]
    · rw [if_neg h2, if_neg (by omega), List.getElem?_drop, List.getElem?_drop]
      congr 1
      omega
theorem rowL_end (bs : List Nat) (k m : Nat) (hk : k < m + 1) (hm : bs.length = m + 1) : (rowL bs k (m + 1)).take m = bs.eraseIdx k := by
  unfold rowL
  have hl : (bs.eraseIdx k).length = m := by rw [List.length_eraseIdx, if_pos (by omega)]; omega
  rw [Nat.add_sub_cancel, List.take_append_of_le_length (by rw [List.length_take, hl]; omega), List.take_take, Nat.min_self, List.take_of_length_le (by omega)]
theorem rowL_at (bs : List Nat) (k m : Nat) (hk : k < m) (hm : m < bs.length) : (rowL bs k m)[m]? = some (bs.getD m 0) := by
  unfold rowL
  have hl : (bs.eraseIdx k).length = bs.length - 1 := by rw [List.length_eraseIdx, if_pos (by omega)]
  rw [List.getElem?_append, List.length_take, hl, if_neg (by omega), List.getElem?_drop, List.getD_eq_getElem?_getD, show m - 1 + (m - min (m - 1) (bs.length - 1)) = m by omega, List.getElem?_eq_getElem hm]
  rfl

theorem fr_slice_from (g m c : Nat) (h : m + 1 ≤ c) (W : World) : (Instr.sliceAt 52 (.slice (some ⟨g, 0, none⟩) (m + 1) c) (some (.int .i64 (m : Int))) none none).run Try.prog W = .ok (.slice (some ⟨g, m, none⟩) 1 (c - m)) W := by
  obtain ⟨i0, hi, hz0, hz1, hz2⟩ := info_parts infoFrp
  have he : Try.prog.elem 52 = 79 := by kernel_rfl
  have hu : Try.prog.underlying 52 = some (.slice (Try.prog.elem 52)) := by kernel_rfl
  have z5 : ∀ w, Sem.run Try.prog (Go.sizeOf 79) w = .ok 1 w := fun w => by simp [Go.sizeOf, typeInfo, hi, hz1]
  rw [run_sliceAt_slice (h := hu), run_slice_l (ht := hu) (h0 := by omega) (h1 := by omega), he, z5]
  simp only [Result.andThen, sliced, Int.toNat_natCast, Nat.mul_one, Nat.add_sub_cancel_left]
  rw [if_neg (by omega)]
  simp [Addr.add_mid]
theorem fr_clear (g m c' : Nat) (W : World) (hc : (W.cell? ⟨g, m, none⟩).isSome = true) (hf : W.frozen? ⟨g, m, none⟩ = false) (ty : TypeId) : (Builtin.clear_ #[52] ty #[.slice (some ⟨g, m, none⟩) 1 c']).run Try.prog W = .ok (.tuple #[]) (W.setCell ⟨g, m, none⟩ (.pointer none)) := by
  obtain ⟨i0, hi, hz0, hz1, hz2⟩ := info_parts infoFrp
  have hz : ∀ w, (zeroValue 79).run Try.prog w = .ok (.pointer none) w := fun w => by simp [zeroValue, typeInfo, hi, hz0]
  have h1 : ∀ j, j < 1 → (W.cell? ⟨g, m + j, none⟩).isSome = true := by
    intro j hj
    obtain rfl : j = 0 := by omega
    exact hc
  have h2 : ∀ j, j < 1 → W.frozen? ⟨g, m + j, none⟩ = false := by
    intro j hj
    obtain rfl : j = 0 := by omega
    exact hf
  have h := Lib.run_clear_slice (P := Try.prog) W 52 79 ty (.pointer none) Try.underlying52 hz rfl rfl g m 1 c' (by omega) h1 h2
  simpa [World.setCells] using h

set_option maxHeartbeats 2000000 in
/-- There is none such. -/
theorem del_no (n c f C : Nat) (A : Option Addr) (bs : List Nat) (w : World) (h : Rw w n A bs) (hf : FrB w f) (hC : w.cell? ⟨C, 0, none⟩ = some (pv f)) (hn : (n : Int) ≤ 9223372036854775807) (hno : ∀ j, j < n → bs.getD j 0 ≠ f) :
    Calls Try.prog 88 #[.slice A n c, .func (.func 89) #[] #[.pointer (some ⟨C, 0, none⟩)]] w fun e w' => e = .returned (.slice A n c) ∧ w = w' := by
  have HI : Hid (Calls Try.prog 122 #[.slice A n c, .func (.func 89) #[] #[.pointer (some ⟨C, 0, none⟩)]] w fun e w' => e = .returned (.int .i64 (-1)) ∧ w = w') := Lib.hid ((idx_any n c f C A bs w h hf hC hn).mono (fun e w' h => by
    obtain ⟨⟨k, hk, he, _⟩ | ⟨_, rfl⟩, hw⟩ := h
    · exact absurd he (hno k hk)
    · exact ⟨rfl, hw⟩))
  clear h hf hC hno
  go_enter Try.func88, Try.ntmps88
  go_wp2_with (go_at_call 122; refine HI.out.mono ?_; rintro e _ ⟨rfl, rfl⟩)
  go_ret
  exact ⟨rfl, rfl⟩

set_option maxHeartbeats 4000000 in
/-- There is one. -/
theorem del_yes (B m c g f C k : Nat) (bs : List Nat) (w : World) (h : w.ownsRow B 79 1 (.slice (some ⟨g, 0, none⟩) (m + 1) c) (m + 1) (bs.map pv)) (hl : bs.length = m + 1) (hfr : ∀ j, j < m + 1 → FrB w (bs.getD j 0)) (hk : k < m + 1) (hkf : bs.getD k 0 = f)
    (hd : ∀ j, j < m + 1 → bs.getD j 0 = f → j = k) (hC : w.cell? ⟨C, 0, none⟩ = some (pv f)) (hCg : C ≠ g) :
    Calls Try.prog 88 #[.slice (some ⟨g, 0, none⟩) (m + 1) c, .func (.func 89) #[] #[.pointer (some ⟨C, 0, none⟩)]] w fun e w' => e = .returned (.slice (some ⟨g, 0, none⟩) m c) ∧ w'.ownsRow B 79 1 (.slice (some ⟨g, 0, none⟩) m c) m ((bs.eraseIdx k).map pv) ∧ Keep (fun i => i = g) w w' := by
  have hf : FrB w f := hkf ▸ hfr k hk
  obtain ⟨hmc, hcc, hBg, htg⟩ := own_size h
  have hrw : Rw w (m + 1) (some ⟨g, 0, none⟩) bs := ⟨hl, fun j hj => ⟨g, rfl, (own_at h (by rw [List.getElem?_map, List.getElem?_eq_getElem (by omega), List.getD_eq_getElem?_getD, List.getElem?_eq_getElem (by omega)]; rfl)).1⟩, hfr⟩
  have HI : Hid (Calls Try.prog 122 #[.slice (some ⟨g, 0, none⟩) (m + 1) c, .func (.func 89) #[] #[.pointer (some ⟨C, 0, none⟩)]] w fun e w' => e = .returned (.int .i64 (k : Int)) ∧ w = w') := Lib.hid ((idx_any (m + 1) c f C _ bs w hrw hf hC (by omega)).mono (fun e w' h => by
    obtain ⟨⟨k', hk', he, _, rfl⟩ | ⟨hno, _⟩, hw⟩ := h
    · obtain rfl := hd k' hk' he
      exact ⟨rfl, hw⟩
    · exact absurd hkf (hno k hk)))
  have HS := Lib.hid (And.intro (show w.ownsRow B 79 1 (.slice (some ⟨g, 0, none⟩) (m + 1) c) (m + 1) ((rowL bs k (k + 1)).map pv) by rw [rowL_start bs k (by omega)]; exact h) (Keep.refl (fun i => i = g) w))
  have hne : ∀ b, FrB w b → b ≠ g := fun b hb e => by
    obtain ⟨cs, hb⟩ := hb
    subst e
    have := Typ.ne hb.typ htg
    exact absurd this (by decide)
  have HD := Lib.hid hd
  have HL := Lib.hid hl
  have HFR := Lib.hid hfr
  have HF := Lib.hid hf
  have HC := Lib.hid hC
  have HNE := Lib.hid hne
  have HK := Lib.hid hk
  have hsl := fr_slice_from g m c hmc
  have hkk : (k : Int) ≤ (m : Int) := by omega
  clear hf hrw h hl hfr hk hkf hd hC htg hne
  go_enter Try.func88, Try.ntmps88
  go_wp2_with (go_at_call 122; refine HI.out.mono ?_; rintro e _ ⟨rfl, rfl⟩)
  go_loopw [5, 6] (fun x y wr => ∃ p : Nat, k ≤ p ∧ p ≤ m ∧ x = .int .i64 (p : Int) ∧ y = .int .i64 ((p : Int) + 1) ∧ wr.ownsRow B 79 1 (.slice (some ⟨g, 0, none⟩) (m + 1) c) (m + 1) ((rowL bs k (p + 1)).map pv) ∧ Keep (fun i => i = g) w wr) (fun x _ _ => m + 1 - (intOf x).toNat)
  case atStart => exact ⟨k, Nat.le_refl _, by omega, rfl, by go_num, HS.out⟩
  case round =>
    obtain ⟨p, hkp, hpm, rfl, rfl, ho, hkw⟩ := hrel
    have HO := Lib.hid ho
    have HKW := Lib.hid hkw
    have hlb := HL.out
    by_cases hlt : p < m
    · have hat : (rowL bs k (p + 1))[p + 1]? = some (bs.getD (p + 1) 0) := rowL_at bs k (p + 1) (by omega) (by omega)
      obtain ⟨ck, _⟩ := own_at (j := p + 1) ho (by rw [List.getElem?_map, hat]; rfl)
      obtain ⟨u0, cp, fp⟩ : ∃ u0, wr.cell? ⟨g, p, none⟩ = some u0 ∧ wr.frozen? ⟨g, p, none⟩ = false := ⟨_, own_at (j := p) ho (List.getElem?_eq_getElem (by rw [List.length_map]; unfold rowL; rw [List.length_append, List.length_take, List.length_drop, List.length_eraseIdx, if_pos (by omega)]; omega))⟩
      have hnf : bs.getD (p + 1) 0 ≠ f := fun e => by have := HD.out (p + 1) (by omega) e; omega
      have hfx := (HFR.out (p + 1) (by omega)).keep hkw (HNE.out _ (HFR.out (p + 1) (by omega)))
      have hff := HF.out.keep hkw (HNE.out _ HF.out)
      have hcc2 : wr.cell? ⟨C, 0, none⟩ = some (pv f) := (World.cell?_of_block (hkw.block C (block_lt_of_cell HC.out) hCg)).trans HC.out
      have HR := Lib.hid (rem1_any (bs.getD (p + 1) 0) f C wr hfx hff hcc2)
      rw [decide_eq_false hnf] at HR
      have hnext : (wr.setCell ⟨g, p, none⟩ (pv (bs.getD (p + 1) 0))).ownsRow B 79 1 (.slice (some ⟨g, 0, none⟩) (m + 1) c) (m + 1) ((rowL bs k (p + 1 + 1)).map pv) := by
        have := own_put (j := p) ho (pv (bs.getD (p + 1) 0))
        rwa [← List.map_set, show (rowL bs k (p + 1)).set p (bs.getD (p + 1) 0) = rowL bs k (p + 1 + 1) from rowL_step bs k (p + 1) (by omega) (by omega)] at this
      have HNX := Lib.hid hnext
      obtain ⟨x, hx⟩ : ∃ x, bs.getD (p + 1) 0 = x := ⟨_, rfl⟩
      rw [hx] at ck HR HNX
      have hd : (p : Int) + 1 < (m : Int) + 1 := by omega
      have ck2 : wr.cell? ⟨g, ((p : Int) + 1).toNat, none⟩ = some (pv x) := by rw [show ((p : Int) + 1).toNat = p + 1 by omega]; exact ck
      clear hat hnf hfx hff hcc2 hnext hx ho hkw hlb
      go_wp2_with (with_reducible refine HR.out.mono ?_; rintro e _ ⟨rfl, rfl⟩)
      go_roundw
      case rel =>
        refine ⟨_, _, _, _, _, _, _, _, _, _, _, _, _, _, _, _, _, _, _, _, _, _, _, ?_, rfl⟩
        exact ⟨p + 1, by omega, by omega, by go_num, by go_num, HNX.out, HKW.out.setCell _ _ (fun _ => rfl)⟩
      case measure => simp [intOf]; omega
    · obtain rfl : p = m := by omega
      obtain ⟨u0, cp, fp⟩ : ∃ u0, wr.cell? ⟨g, p, none⟩ = some u0 ∧ wr.frozen? ⟨g, p, none⟩ = false := ⟨_, own_at (j := p) ho (List.getElem?_eq_getElem (by rw [List.length_map]; unfold rowL; rw [List.length_append, List.length_take, List.length_drop, List.length_eraseIdx, if_pos (by omega)]; omega))⟩
      have hcl := fr_clear g p (c - p) wr (by rw [cp]; rfl) fp
      have hend : (wr.setCell ⟨g, p, none⟩ (.pointer none)).ownsRow B 79 1 (.slice (some ⟨g, 0, none⟩) p c) p ((bs.eraseIdx k).map pv) := by
        have h1 := own_shrink (m := p) (own_put (j := p) ho (.pointer none)) (by omega)
        rw [List.take_set, List.set_eq_of_length_le (by rw [List.length_take]; omega), ← List.map_take, rowL_end bs k p (by omega) hlb] at h1
        exact h1
      have HE := Lib.hid hend
      have hpc : ¬ (c : Int) < (p : Int) := by omega
      clear ho hkw hlb hend hlt
      go_wp2
      go_ret
      exact ⟨rfl, HE.out, HKW.out.setCell _ _ (fun _ => rfl)⟩
end Go.Proofs.Ytlmdijijlbmddaa.pool

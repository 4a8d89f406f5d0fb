/-
  The space of layer 4: the calls that turn it: mark, turn, Claim, Give, Take.
-/
import Derived.Test.YtjndbibbfcmgiaaETaken
namespace Go.Proofs.Ytjndbibbfcmgiaa
open Go.RowKit

def ESt.put (s : ESt) (q m : Nat) (v : Bool) : ESt := ⟨s.f, setR s.L q m v⟩
theorem ESt.put_to (s : ESt) (q m : Nat) (v : Bool) : (s.put q m v).to = s.to := by
  show s.f + (setR s.L q m v).length = s.f + s.L.length
  rw [setR_length]
theorem ESt.put_zero (s : ESt) (q : Nat) (v : Bool) : s.put q 0 v = s := by
  unfold ESt.put
  rw [setR_zero]

theorem EK.set_ {w : World} {d : SpAt} {s : ESt} (h : EK w d s) (k : Nat) (v : Bool) (hk : k < s.L.length) : EK (w.setCell ⟨d.g, k, none⟩ (.bool v)) d ⟨s.f, s.L.set k v⟩ := by
  obtain ⟨hA, hne, cur, hb, hc⟩ := h.row (by omega)
  have hkp : Keep (fun i => i = d.g) w (w.setCell ⟨d.g, k, none⟩ (.bool v)) := (Keep.refl _ _).setCell _ _ (fun _ => rfl)
  have hl : (s.L.set k v).length = s.L.length := List.length_set ..
  have hto : (⟨s.f, s.L.set k v⟩ : ESt).to = s.to := by show s.f + (s.L.set k v).length = _; rw [hl]; rfl
  refine ⟨⟨by show s.f + (s.L.set k v).length ≤ 4096; rw [hl]; exact h.ok.few⟩, ?_, by rw [hl]; exact h.cap, fun _ => ⟨hA, hne, cur.setIfInBounds k (.bool v), hb.set_ k _, fun j x hx => ?_⟩, Nat.lt_of_lt_of_le h.gl hkp.size⟩
  · rw [hto, hl]
    exact hkp.blk h.blk (fun e => hne e)
  · by_cases e : k = j
    · subst e
      rw [List.getElem?_set_self hk] at hx
      injection hx with hx
      subst hx
      have := hc k _ (List.getElem?_eq_getElem hk)
      have hlt : k < cur.size := (Array.getElem?_eq_some_iff.1 this).1
      simp [hlt]
    · rw [List.getElem?_set_ne e] at hx
      rw [Array.getElem?_setIfInBounds_ne e]
      exact hc j x hx

section
variable {w : World} {d : SpAt} {s : ESt}
set_option maxHeartbeats 2000000 in
theorem emark_any (a n : Nat) (v : Bool) (hc : s.f ≤ a ∧ a + n ≤ s.to) (h : EK w d s) : Calls Try.prog 27 #[.pointer (some ⟨d.b, 0, none⟩), .agg #[.int .i64 (a : Int), .int .i64 (n : Int)], .bool v] w fun e w' => e = .returned (.tuple #[]) ∧ EK w' d (s.put (a - s.f) n v) ∧ Keep (fun k => k = d.g) w w' := by
  obtain ⟨A, hA⟩ : ∃ A, a - s.f = A := ⟨_, rfl⟩
  have hto : s.to = s.f + s.L.length := rfl
  have hfew := h.ok.few
  rw [hA]
  have hsub : IntKind.i64.wrap ((a : Int) - (s.f : Int)) = (A : Int) := by rw [IntKind.wrap_i64]; omega
  have hAl : A + n ≤ s.L.length := by omega
  have hbx : Below w.heap.size w (w.alloc (.cells #[.int .i64 (a : Int), .int .i64 (n : Int)] 33)) := (Below.refl _ _).alloc (Nat.le_refl _) _
  have hx := Blk.new w 33 #[.int .i64 (a : Int), .int .i64 (n : Int)]
  have h1 := h.below hbx
  have x0 := hx.cell 0
  have x1 := hx.cell 1
  have c1 := h1.blk.cell 1
  have H1 := Lib.hid h1
  have HBX := Lib.hid hbx
  clear h h1 hx hbx hA hc
  go_enter Try.func27, Try.ntmps27
  go_wp2
  go_quiet (fail)
  go_wp2
  go_loopw [17] (fun i wr => ∃ k : Nat, k ≤ n ∧ i = .int .i64 (k : Int) ∧ EK wr d (s.put A k v) ∧ Keep (fun k => k = d.g) w wr) (fun i _ => n - (intOf i).toNat)
  case atStart => exact ⟨0, Nat.zero_le _, rfl, by rw [ESt.put_zero]; exact H1.out.below (below_drewN (Below.refl _ _) _), (Keep.of_below HBX.out).drewN _⟩
  case round =>
    obtain ⟨k, hk, rfl, hE, hK⟩ := hrel
    by_cases hlt : k < n
    · have hlen : (s.put A k v).L.length = s.L.length := setR_length ..
      have hlt2 : A + k < s.L.length := by omega
      obtain ⟨hAd, cx, fx⟩ := hE.row.at_ (k := A + k) (getD_some (by rw [hlen]; exact hlt2))
      have c3 : wr.cell? ⟨d.b, 3, none⟩ = some (.slice (some ⟨d.g, 0, none⟩) s.L.length d.c) := by rw [← hAd, ← hlen]; exact hE.blk.cell 3
      generalize (s.put A k v).L.getD (A + k) false = xv at cx
      have hE2 := hE.set_ (A + k) v (by rw [hlen]; exact hlt2)
      have hst : (⟨(s.put A k v).f, (s.put A k v).L.set (A + k) v⟩ : ESt) = s.put A (k + 1) v := by
        unfold ESt.put
        rw [setR_step]
      rw [hst] at hE2
      have hK2 : Keep (fun k => k = d.g) w (wr.setCell ⟨d.g, A + k, none⟩ (.bool v)) := hK.setCell _ _ (fun _ => rfl)
      have HE2 := Lib.hid hE2
      have HK2 := Lib.hid hK2
      generalize s.L.length = N at *
      clear hE hK hE2 hK2 hst hlen
      go_wp2
      exact ⟨⟨k + 1, by omega, by go_num, HE2.out, HK2.out⟩, by simp [intOf]; omega⟩
    · obtain rfl : k = n := by omega
      have HE := Lib.hid hE
      have HK := Lib.hid hK
      clear hE hK
      go_wp2
      go_end0
      exact ⟨rfl, HE.out, HK.out⟩

/-- May an extent's sectors be turned? -/
def turnOk (s : ESt) (a n : Int) (v : Bool) : Bool := coversE s a n && decide (AllAre s.L (a - s.f).toNat n.toNat (!v))
def turnS (s : ESt) (a n : Int) (v : Bool) : ESt := if turnOk s a n v = true then s.put (a - s.f).toNat n.toNat v else s
def turnE (s : ESt) (a n : Int) (v : Bool) : Int := if turnOk s a n v = true then 0 else 40

set_option maxHeartbeats 2000000 in
theorem eturn_any (a n : Int) (v : Bool) (h : EK w d s) : Calls Try.prog 29 #[.pointer (some ⟨d.b, 0, none⟩), .agg #[.int .i64 a, .int .i64 n], .bool v] w fun e w' => e = .returned (.int .i64 (turnE s a n v)) ∧ EK w' d (turnS s a n v) ∧ Keep (fun k => k = d.g) w w' := by
  have hbx : Below w.heap.size w (w.alloc (.cells #[.int .i64 a, .int .i64 n] 33)) := (Below.refl _ _).alloc (Nat.le_refl _) _
  have hx := Blk.new w 33 #[.int .i64 a, .int .i64 n]
  have hlt := h.lt
  have h1 := h.below hbx
  have x0 := hx.cell 0
  have x1 := hx.cell 1
  have HV := Lib.hid (evalid_any h1)
  have HC := Lib.hid (ecovers_any a n h1)
  have HX := Lib.hid hx
  have HBX := Lib.hid hbx
  have H := Lib.hid h
  clear h h1 hx hbx
  cases hcov : coversE s a n
  · have he : turnE s a n v = 40 := by unfold turnE turnOk; rw [hcov]; rfl
    have hs : turnS s a n v = s := by unfold turnS turnOk; rw [hcov]; rfl
    rw [he, hs]
    rw [hcov] at HC
    clear hcov he hs
    go_enter Try.func29, Try.ntmps29
    go_wp2_with (first
      | (go_at_call 23; refine HV.out.mono ?_; rintro e _ ⟨rfl, rfl⟩)
      | (go_at_call 36; refine HC.out.mono ?_; rintro e w1 ⟨rfl, hb⟩; have HB := Lib.hid (HBX.out.trans (hb.mono HBX.out.size)); clear hb))
    go_ret
    exact ⟨rfl, H.out.below HB.out, Keep.of_below HB.out⟩
  · obtain ⟨hc1, ⟨hc2, hc3⟩, hc4⟩ : 1 ≤ n ∧ ((s.f : Int) ≤ a ∧ a < (s.to : Int)) ∧ n ≤ (s.to : Int) - a := of_decide_eq_true hcov
    obtain ⟨A, rfl⟩ := Int.eq_ofNat_of_zero_le (a := a) (by omega)
    obtain ⟨N, rfl⟩ := Int.eq_ofNat_of_zero_le (a := n) (by omega)
    have e1 : ((A : Int) - (s.f : Int)).toNat = A - s.f := by omega
    have hxc : s.f ≤ A ∧ 1 ≤ N ∧ A + N ≤ s.to := by omega
    rw [hcov] at HC
    by_cases hall : AllAre s.L (A - s.f) N (!v)
    · have hok : turnOk s (A : Int) (N : Int) v = true := by
        unfold turnOk
        rw [hcov, e1, Int.toNat_natCast, decide_eq_true hall]
        rfl
      have he : turnE s (A : Int) (N : Int) v = 0 := by unfold turnE; rw [if_pos hok]
      have hs : turnS s (A : Int) (N : Int) v = s.put (A - s.f) N v := by unfold turnS; rw [if_pos hok, e1, Int.toNat_natCast]
      rw [he, hs]
      have HALL : Hid (∀ w', EK w' d s → Calls Try.prog 37 #[.pointer (some ⟨d.b, 0, none⟩), .agg #[.int .i64 (A : Int), .int .i64 (N : Int)], .bool (!v)] w' fun e w'' => e = .returned (.bool true) ∧ Below w'.heap.size w' w'') := Lib.hid (fun w' hw => by
        have := eall_any A N (!v) hxc hw
        rwa [decide_eq_true hall] at this)
      have HXC := Lib.hid hxc
      clear hcov he hs hok hall hc1 hc2 hc3 hc4 hxc e1
      go_enter Try.func29, Try.ntmps29
      go_wp2_with (first
        | (go_at_call 23; refine HV.out.mono ?_; rintro e _ ⟨rfl, rfl⟩)
        | (go_at_call 36; refine HC.out.mono ?_; rintro e w1 ⟨rfl, hb⟩; have y0 := (HX.out.below hb HX.out.lt).cell 0; have y1 := (HX.out.below hb HX.out.lt).cell 1; have HX1 := Lib.hid (HX.out.below hb HX.out.lt); have HB := Lib.hid (HBX.out.trans (hb.mono HBX.out.size)); clear hb)
        | (go_at_call 37; refine (HALL.out _ (H.out.below HB.out)).mono ?_; rintro e w2 ⟨rfl, hb⟩; have z0 := (HX1.out.below hb HX1.out.lt).cell 0; have z1 := (HX1.out.below hb HX1.out.lt).cell 1; have HB2 := Lib.hid (HB.out.trans (hb.mono HB.out.size)); clear hb)
        | (go_at_call 27; refine (emark_any A N v ⟨HXC.out.1, HXC.out.2.2⟩ (H.out.below HB2.out)).mono ?_; rintro e w3 ⟨rfl, hE, hK⟩; have HE := Lib.hid hE; have HK := Lib.hid ((Keep.of_below HB2.out).trans hK (fun _ _ h => h)); clear hE hK))
      go_ret
      exact ⟨rfl, HE.out, HK.out⟩
    · have hok : turnOk s (A : Int) (N : Int) v = false := by
        unfold turnOk
        rw [hcov, e1, Int.toNat_natCast, decide_eq_false hall]
        rfl
      have he : turnE s (A : Int) (N : Int) v = 40 := by unfold turnE; rw [hok]; rfl
      have hs : turnS s (A : Int) (N : Int) v = s := by unfold turnS; rw [hok]; rfl
      rw [he, hs]
      have HALL : Hid (∀ w', EK w' d s → Calls Try.prog 37 #[.pointer (some ⟨d.b, 0, none⟩), .agg #[.int .i64 (A : Int), .int .i64 (N : Int)], .bool (!v)] w' fun e w'' => e = .returned (.bool false) ∧ Below w'.heap.size w' w'') := Lib.hid (fun w' hw => by
        have := eall_any A N (!v) hxc hw
        rwa [decide_eq_false hall] at this)
      clear hcov he hs hok hall hc1 hc2 hc3 hc4 hxc e1
      go_enter Try.func29, Try.ntmps29
      go_wp2_with (first
        | (go_at_call 23; refine HV.out.mono ?_; rintro e _ ⟨rfl, rfl⟩)
        | (go_at_call 36; refine HC.out.mono ?_; rintro e w1 ⟨rfl, hb⟩; have y0 := (HX.out.below hb HX.out.lt).cell 0; have y1 := (HX.out.below hb HX.out.lt).cell 1; have HB := Lib.hid (HBX.out.trans (hb.mono HBX.out.size)); clear hb)
        | (go_at_call 37; refine (HALL.out _ (H.out.below HB.out)).mono ?_; rintro e w2 ⟨rfl, hb⟩; have HB2 := Lib.hid (HB.out.trans (hb.mono HB.out.size)); clear hb))
      go_ret
      exact ⟨rfl, H.out.below HB2.out, Keep.of_below HB2.out⟩
theorem eturn_dead (p : Option Addr) (a n : Int) (v : Bool) (w : World) (h : EDead w p) : Calls Try.prog 29 #[.pointer p, .agg #[.int .i64 a, .int .i64 n], .bool v] w fun e w' => e = .returned (.int .i64 1) ∧ Below w.heap.size w w' := by
  have hbx : Below w.heap.size w (w.alloc (.cells #[.int .i64 a, .int .i64 n] 33)) := (Below.refl _ _).alloc (Nat.le_refl _) _
  have HV := Lib.hid (evalid_dead p _ (h.below hbx))
  clear h
  go_enter Try.func29, Try.ntmps29
  go_wp2_with (go_at_call 23; refine HV.out.mono ?_; rintro e _ ⟨rfl, rfl⟩)
  go_ret
  exact ⟨rfl, hbx⟩
theorem eclaim_any (a n : Int) (h : EK w d s) : Calls Try.prog 14 #[.pointer (some ⟨d.b, 0, none⟩), .agg #[.int .i64 a, .int .i64 n]] w fun e w' => e = .returned (.int .i64 (turnE s a n true)) ∧ EK w' d (turnS s a n true) ∧ Keep (fun k => k = d.g) w w' := by
  have hbx : Below w.heap.size w (w.alloc (.cells #[.int .i64 a, .int .i64 n] 33)) := (Below.refl _ _).alloc (Nat.le_refl _) _
  have hx := Blk.new w 33 #[.int .i64 a, .int .i64 n]
  have x0 := hx.cell 0
  have x1 := hx.cell 1
  have HT := Lib.hid (eturn_any a n true (h.below hbx))
  have HBX := Lib.hid hbx
  clear h hbx hx
  go_enter Try.func14, Try.ntmps14
  go_wp2_with (go_at_call 29; refine HT.out.mono ?_; rintro e w1 ⟨rfl, h1, h2⟩; have H1 := Lib.hid h1; have H2 := Lib.hid ((Keep.of_below HBX.out).trans h2 (fun _ _ h => h)); clear h1 h2)
  go_ret
  exact ⟨rfl, H1.out, H2.out⟩
theorem eclaim_dead (p : Option Addr) (a n : Int) (w : World) (h : EDead w p) : Calls Try.prog 14 #[.pointer p, .agg #[.int .i64 a, .int .i64 n]] w fun e w' => e = .returned (.int .i64 1) ∧ Below w.heap.size w w' := by
  have hbx : Below w.heap.size w (w.alloc (.cells #[.int .i64 a, .int .i64 n] 33)) := (Below.refl _ _).alloc (Nat.le_refl _) _
  have HT := Lib.hid (eturn_dead p a n true _ (h.below hbx))
  have HBX := Lib.hid hbx
  clear h hbx
  go_enter Try.func14, Try.ntmps14
  go_wp2_with (go_at_call 29; refine HT.out.mono ?_; rintro e w1 ⟨rfl, h1⟩; have H1 := Lib.hid (HBX.out.trans (h1.mono HBX.out.size)); clear h1)
  go_ret
  exact ⟨rfl, H1.out⟩
theorem egive_any (a n : Int) (h : EK w d s) : Calls Try.prog 16 #[.pointer (some ⟨d.b, 0, none⟩), .agg #[.int .i64 a, .int .i64 n]] w fun e w' => e = .returned (.int .i64 (turnE s a n false)) ∧ EK w' d (turnS s a n false) ∧ Keep (fun k => k = d.g) w w' := by
  have hbx : Below w.heap.size w (w.alloc (.cells #[.int .i64 a, .int .i64 n] 33)) := (Below.refl _ _).alloc (Nat.le_refl _) _
  have hx := Blk.new w 33 #[.int .i64 a, .int .i64 n]
  have x0 := hx.cell 0
  have x1 := hx.cell 1
  have HT := Lib.hid (eturn_any a n false (h.below hbx))
  have HBX := Lib.hid hbx
  clear h hbx hx
  go_enter Try.func16, Try.ntmps16
  go_wp2_with (go_at_call 29; refine HT.out.mono ?_; rintro e w1 ⟨rfl, h1, h2⟩; have H1 := Lib.hid h1; have H2 := Lib.hid ((Keep.of_below HBX.out).trans h2 (fun _ _ h => h)); clear h1 h2)
  go_ret
  exact ⟨rfl, H1.out, H2.out⟩
theorem egive_dead (p : Option Addr) (a n : Int) (w : World) (h : EDead w p) : Calls Try.prog 16 #[.pointer p, .agg #[.int .i64 a, .int .i64 n]] w fun e w' => e = .returned (.int .i64 1) ∧ Below w.heap.size w w' := by
  have hbx : Below w.heap.size w (w.alloc (.cells #[.int .i64 a, .int .i64 n] 33)) := (Below.refl _ _).alloc (Nat.le_refl _) _
  have HT := Lib.hid (eturn_dead p a n false _ (h.below hbx))
  have HBX := Lib.hid hbx
  clear h hbx
  go_enter Try.func16, Try.ntmps16
  go_wp2_with (go_at_call 29; refine HT.out.mono ?_; rintro e w1 ⟨rfl, h1⟩; have H1 := Lib.hid (HBX.out.trans (h1.mono HBX.out.size)); clear h1)
  go_ret
  exact ⟨rfl, H1.out⟩

/-- Take. -/
def takeE (s : ESt) (n : Int) : Int := if n < 1 then 40 else if (takeP s.L n.toNat).isSome = true then 0 else 41
def takeX (s : ESt) (n : Int) : Int × Int := if n < 1 then (0, 0) else firstE s n.toNat
def takeS (s : ESt) (n : Int) : ESt := if n < 1 then s else match takeP s.L n.toNat with
  | some q => s.put q n.toNat true
  | none => s
set_option maxHeartbeats 2000000 in
theorem etake_any (n : Int) (h : EK w d s) (hn2 : n ≤ 9223372036854775807) : Calls Try.prog 12 #[.pointer (some ⟨d.b, 0, none⟩), .int .i64 n] w fun e w' => e = .returned (.tuple #[.agg #[.int .i64 (takeX s n).1, .int .i64 (takeX s n).2], .int .i64 (takeE s n)]) ∧ EK w' d (takeS s n) ∧ Keep (fun k => k = d.g) w w' := by
  have hbx : Below w.heap.size w (w.alloc (.cells #[.int .i64 0, .int .i64 0] 33)) := (Below.refl _ _).alloc (Nat.le_refl _) _
  have hx := Blk.new w 33 #[.int .i64 0, .int .i64 0]
  have hlt := h.lt
  have h1 := h.below hbx
  have HV := Lib.hid (evalid_any h1)
  have HX := Lib.hid hx
  have HBX := Lib.hid hbx
  have H := Lib.hid h
  unfold takeE takeX takeS
  by_cases hn : n < 1
  · rw [if_pos hn, if_pos hn, if_pos hn]
    have hd : decide (n < 1) = true := decide_eq_true hn
    clear h h1 hx hbx hn
    go_enter Try.func12, Try.ntmps12
    go_wp2_with (go_at_call 23; refine HV.out.mono ?_; rintro e _ ⟨rfl, rfl⟩)
    refine bodyPost_ret (results_ext2 rfl rfl rfl HX.out) rfl ?_
    exact ⟨rfl, H.out.below HBX.out, Keep.of_below HBX.out⟩
  · rw [if_neg hn, if_neg hn, if_neg hn]
    obtain ⟨N, rfl⟩ := Int.eq_ofNat_of_zero_le (a := n) (by omega)
    have hN1 : 1 ≤ N := by omega
    have hd : decide ((N : Int) < 1) = false := decide_eq_false hn
    rw [Int.toNat_natCast]
    have HF := Lib.hid (efirst_any N h1)
    cases hp : takeP s.L N with
    | none =>
      have hfe : firstE s N = (0, 0) := by unfold firstE; rw [hp]
      rw [hfe] at HF ⊢
      clear h h1 hx hbx hn hp hfe
      go_enter Try.func12, Try.ntmps12
      go_wp2_with (first
        | (go_at_call 23; refine HV.out.mono ?_; rintro e _ ⟨rfl, rfl⟩)
        | (go_at_call 26; refine HF.out.mono ?_; rintro e w1 ⟨rfl, hb⟩; have hx1 := (HX.out.below hb HX.out.lt).alloc (.cells #[.int .i64 0, .int .i64 0] 33); have y0 := hx1.cell 0; have y1 := hx1.cell 1; have g0 := hx1.frozen 0; have g1 := hx1.frozen 1; have HX1 := Lib.hid hx1; have hb9 := HBX.out.trans (hb.mono HBX.out.size); have HB := Lib.hid (hb9.alloc hb9.size (.cells #[.int .i64 0, .int .i64 0] 33)); clear hb hx1 hb9))
      refine bodyPost_ret (results_ext2 rfl rfl rfl ((HX1.out.set_ 0 (.int .i64 0)).set_ 1 (.int .i64 0))) rfl ?_
      have hk := (Keep.of_below (S := fun k => k = w.heap.size) HB.out).trans (keep_two _ w.heap.size (.int .i64 0) (.int .i64 0)) (fun _ _ h => h)
      exact ⟨rfl, H.out.keep hk (fun k hf e => by have := hlt k hf; omega), hk.more (fun i hi e => by omega)⟩
    | some q =>
      obtain ⟨hA, _⟩ := takeP_some hN1 hp
      have hle := hA.le hN1
      have hfe : firstE s N = (((s.f + q : Nat) : Int), (N : Int)) := by unfold firstE; rw [hp]
      rw [hfe] at HF ⊢
      have heq := eql_ext ((s.f + q : Nat) : Int) (N : Int) 0 0
      rw [decide_eq_false (by omega)] at heq
      have hto : s.to = s.f + s.L.length := rfl
      have HMK : Hid (∀ w', EK w' d s → Calls Try.prog 27 #[.pointer (some ⟨d.b, 0, none⟩), .agg #[.int .i64 ((s.f + q : Nat) : Int), .int .i64 (N : Int)], .bool true] w' fun e w'' => e = .returned (.tuple #[]) ∧ EK w'' d (s.put q N true) ∧ Keep (fun k => k = d.g) w' w'') := Lib.hid (fun w' hw => by
        have := emark_any (s.f + q) N true (by omega) hw
        rwa [show s.f + q - s.f = q by omega] at this)
      generalize ((s.f + q : Nat) : Int) = a at *
      clear h h1 hx hbx hn hp hfe hA hle hto
      go_enter Try.func12, Try.ntmps12
      go_wp2_with (first
        | (go_at_call 23; refine HV.out.mono ?_; rintro e _ ⟨rfl, rfl⟩)
        | (go_at_call 26; refine HF.out.mono ?_; rintro e w1 ⟨rfl, hb⟩; have HX1 := Lib.hid (HX.out.below hb HX.out.lt); have HB := Lib.hid (HBX.out.trans (hb.mono HBX.out.size)); clear hb)
        | (go_at_call 27; refine (HMK.out _ (H.out.below (HB.out.alloc HB.out.size _))).mono ?_; rintro e w2 ⟨rfl, hE, hK⟩; have hdg := hlt d.g (.inr rfl); have hs1 := HB.out.size; have hxx := hK.blk (Blk.new w1 33 _) (by omega); have hrr := hK.blk (HX1.out.alloc _) (by omega); have x0 := hxx.cell 0; have x1 := hxx.cell 1; have y0 := hrr.cell 0; have y1 := hrr.cell 1; have g0 := hrr.frozen 0; have g1 := hrr.frozen 1; have HRR := Lib.hid hrr; have HE := Lib.hid hE; have HK := Lib.hid ((Keep.of_below (S := fun k => k = d.g) (HB.out.alloc HB.out.size _)).trans hK (fun _ _ h => h)); clear hE hK hrr hxx hdg hs1))
      refine bodyPost_ret (results_ext2 rfl rfl rfl ((HRR.out.set_ 0 (.int .i64 a)).set_ 1 (.int .i64 (N : Int)))) rfl ?_
      have hk := keep_two w2 w.heap.size (.int .i64 a) (.int .i64 (N : Int))
      have hs := HK.out.size
      exact ⟨rfl, HE.out.keep hk (fun k hf e => by have := hlt k hf; omega), HK.out.trans (hk.more (S' := fun k => w.heap.size ≤ k) (fun i _ e => by omega)) (fun i hi e => by omega)⟩
end
end Go.Proofs.Ytjndbibbfcmgiaa

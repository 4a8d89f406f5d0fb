/-
  The Reader's Raw and Text.
-/
import Derived.Test.YtlonejpphmpnjaaReader
namespace Go.Proofs.Ytlonejpphmpnjaa
open Go.RowKit

theorem rraw_nil (n : Int) (w : World) : Calls Try.prog 25 #[.pointer none, .int .i64 n] w fun e w' => e = .returned (.tuple #[.slice none 0 0, .int .i64 1]) ∧ w = w' := by
  go_enter Try.func25, Try.ntmps25
  go_wp2_with (go_at_call 38; refine (valid_nil _).mono ?_; rintro e w' ⟨rfl, rfl⟩)
  go_ret2
  exact ⟨rfl, rfl⟩

/-- What Raw has told. -/
def RawTold (w : World) (b : Nat) (A : Option Addr) (l : List UInt8) (n : Int) (e : Ending) (w' : World) : Prop :=
  ∃ A' c', e = .returned (.tuple #[.slice A' (taken (rrawErr n l) n.toNat) c', .int .i64 (rrawErr n l)]) ∧
    Took w w' b A (l.drop (taken (rrawErr n l) n.toNat)) ∧ w'.ownsRow w.heap.size 5 1 (.slice A' (taken (rrawErr n l) n.toNat) c') (taken (rrawErr n l) n.toNat) ((l.take (taken (rrawErr n l) n.toNat)).map bv)

theorem Reads.front {w : World} {B n k : Nat} {A : Option Addr} {l : List UInt8} (h : Reads w B 1 A n (l.map bv)) (hk : k ≤ n) : Reads w B 1 A k ((l.take k).map bv) := by
  have hl : l.length = n := by simpa using h.1
  refine ⟨by rw [List.length_map, List.length_take]; omega, fun h0 => ?_⟩
  obtain ⟨ad, e, hb, hc⟩ := h.2 (by omega)
  refine ⟨ad, e, hb, fun j u hu => hc j u ?_⟩
  have hj : j < k := by
    have := (List.getElem?_eq_some_iff.1 hu).1
    simp at this
    omega
  rw [List.getElem?_map] at hu ⊢
  rw [← hu, List.getElem?_take_of_lt hj]

theorem own_set {w w1 : World} {b e n m : Nat} {v : Value} {xs : List Value} {u : Value} {o : Nat} (h : w1.ownsRow w.heap.size e m v n xs) (hb : b < w.heap.size) : (w1.setCell ⟨b, o, none⟩ u).ownsRow w.heap.size e m v n xs :=
  ((Keep.refl (fun k => k = b) w1).setCell ⟨b, o, none⟩ u (fun _ => rfl)).own h (fun k hk e => by have := (h.lt k hk).1; omega)

set_option maxHeartbeats 1000000 in
theorem rraw_total (w : World) (b c : Nat) (A : Option Addr) (l : List UInt8) (h : Rd w b A c l) (hl : l.length ≤ 140737488355328) (n : Int) (h1 : -9223372036854775808 ≤ n) (h2 : n ≤ 9223372036854775807) :
    Calls Try.prog 25 #[.pointer (some ⟨b, 0, none⟩), .int .i64 n] w (RawTold w b A l n) := by
  have c0 : w.cell? ⟨b, 0, none⟩ = some (.slice A l.length c) := h.blk.cell 0
  have HV := Lib.hid (valid_any b _ _ w h.blk)
  have hcl : l.length ≤ 9223372036854775807 := by omega
  have hcap := h.cap
  have hbig := h.big
  have f0 := h.blk.frozen 0
  have H := Lib.hid h
  by_cases hn : n < 0
  · have he : rrawErr n l = 2 := by simp [rrawErr, hn]
    have ht : taken (rrawErr n l) n.toNat = 0 := by simp [taken, he]
    have HE := Lib.hid he
    have HT := Lib.hid ht
    clear he ht h hcap hbig
    go_enter Try.func25, Try.ntmps25
    go_wp2_with (go_at_call 38; refine HV.out.mono ?_; rintro e w' ⟨rfl, rfl⟩)
    go_ret2
    unfold RawTold
    rw [HT.out, HE.out]
    exact ⟨none, 0, rfl, Took.same H.out, World.ownsRow_nil _ _ _ _⟩
  · obtain ⟨k, rfl⟩ := Int.eq_ofNat_of_zero_le (a := n) (by omega)
    by_cases hk : l.length < k
    · have he : rrawErr k l = 10 := by simp [rrawErr]; omega
      have ht : taken (rrawErr k l) ((k : Int)).toNat = 0 := by simp [taken, he]
      have HE := Lib.hid he
      have HT := Lib.hid ht
      clear he ht h hcap hbig hn
      go_enter Try.func25, Try.ntmps25
      go_wp2_with (go_at_call 38; refine HV.out.mono ?_; rintro e w' ⟨rfl, rfl⟩)
      go_ret2
      unfold RawTold
      rw [HT.out, HE.out]
      exact ⟨none, 0, rfl, Took.same H.out, World.ownsRow_nil _ _ _ _⟩
    · have hkl : k ≤ l.length := by omega
      have hkc : k ≤ c := by omega
      have he : rrawErr k l = 0 := by simp [rrawErr]; omega
      have ht : taken (rrawErr k l) ((k : Int)).toNat = k := by simp [taken, he]
      have HC := Lib.hid (clone_any A k c (l.take k) w (h.reads.front hkl) (by omega))
      have HE := Lib.hid he
      have HT := Lib.hid ht
      clear he ht hk hn h
      clear c0 f0
      by_cases hck : c = k
      · subst hck
        have c0 : w.cell? ⟨b, 0, none⟩ = some (.slice A l.length c) := H.out.blk.cell 0
        go_enter Try.func25, Try.ntmps25
        go_wp2_with (first
          | (go_at_call 38; refine HV.out.mono ?_; rintro e w' ⟨rfl, rfl⟩)
          | (go_at_call 37; refine HC.out.mono ?_; rintro e w1 ⟨A1, c1, rfl, g1, k1⟩; have hr1 : Rd w1 b A c l := H.out.keep (Keep.of_below (S := fun _ => False) k1) (fun h => h) (fun _ _ h => h); have c0' : w1.cell? ⟨b, 0, none⟩ = some (.slice A l.length c) := hr1.blk.cell 0; have f0' : w1.frozen? ⟨b, 0, none⟩ = false := hr1.blk.frozen 0; have HR := Lib.hid hr1; have G1 := Lib.hid g1; clear hr1 g1))
        go_ret2
        unfold RawTold
        rw [HT.out, HE.out]
        have hm := HR.out.moved (w := w) (k := c) (A' := A) (n := 0) hkl (Keep.of_below k1) (by rw [if_pos rfl]) (by omega)
        rw [Nat.sub_self] at hm
        exact ⟨A1, c1, rfl, hm, own_set G1.out H.out.blk.lt⟩
      · have hlt : k < c := by omega
        have c0 : w.cell? ⟨b, 0, none⟩ = some (.slice A l.length c) := H.out.blk.cell 0
        go_enter Try.func25, Try.ntmps25
        go_wp2_with (first
          | (go_at_call 38; refine HV.out.mono ?_; rintro e w' ⟨rfl, rfl⟩)
          | (go_at_call 37; refine HC.out.mono ?_; rintro e w1 ⟨A1, c1, rfl, g1, k1⟩; have hr1 : Rd w1 b A c l := H.out.keep (Keep.of_below (S := fun _ => False) k1) (fun h => h) (fun _ _ h => h); have c0' : w1.cell? ⟨b, 0, none⟩ = some (.slice A l.length c) := hr1.blk.cell 0; have f0' : w1.frozen? ⟨b, 0, none⟩ = false := hr1.blk.frozen 0; have HR := Lib.hid hr1; have G1 := Lib.hid g1; clear hr1 g1))
        go_ret2
        unfold RawTold
        rw [HT.out, HE.out]
        exact ⟨A1, c1, rfl, HR.out.moved (w := w) (k := k) (A' := A.map (·.add k)) (n := l.length - k) hkl (Keep.of_below k1) (by rw [if_neg hck]) rfl, own_set G1.out H.out.blk.lt⟩

/-! ### Text -/
def rtextErr (l : List UInt8) : Int := if l.length < 2 then 10 else if l.length - 2 < num (l.take 2) then 10 else 0

theorem rtext_nil (w : World) : Calls Try.prog 23 #[.pointer none] w fun e w' => e = .returned (.tuple #[.string ⟨#[]⟩, .int .i64 1]) ∧ w = w' := by
  go_enter Try.func23, Try.ntmps23
  go_wp2_with (go_at_call 38; refine (valid_nil _).mono ?_; rintro e w' ⟨rfl, rfl⟩)
  go_ret2
  exact ⟨rfl, rfl⟩

set_option maxHeartbeats 1000000 in
theorem rtext_short (w : World) (b c : Nat) (A : Option Addr) (l : List UInt8) (h : Rd w b A c l) (hs : l.length < 2) :
    Calls Try.prog 23 #[.pointer (some ⟨b, 0, none⟩)] w fun e w' => e = .returned (.tuple #[.string ⟨#[]⟩, .int .i64 10]) ∧ Took w w' b A l := by
  have HV := Lib.hid (valid_any b _ _ w h.blk)
  have c0 : w.cell? ⟨b, 0, none⟩ = some (.slice A l.length c) := h.blk.cell 0
  have c1 : w.cell? ⟨b, 1, none⟩ = some (.bool true) := h.blk.cell 1
  have H := Lib.hid h
  clear h
  have he : rnumErr 2 l = 10 := by simp [rnumErr, sized, hs]
  have h1 := rnum_total _ _ _ _ _ H.out.copy 2 (by omega) (by omega)
  rw [he, show taken 10 (2 : Int).toNat = 0 from rfl] at h1
  have H1 := Lib.hid h1
  clear he h1 hs
  go_enter Try.func23, Try.ntmps23
  go_wp2_with (first
    | (go_at_call 38; refine HV.out.mono ?_; rintro e w' ⟨rfl, rfl⟩)
    | (go_at_call 20; refine H1.out.mono ?_; rintro e w1 ⟨rfl, A1, c1, g1, g2, k1⟩))
  go_ret2
  exact ⟨rfl, H.out.side k1⟩

theorem conv_num (l : List UInt8) : num (l.take 2) ≤ 65535 := by
  have h1 := num_lt (l.take 2)
  have h2 : (l.take 2).length ≤ 2 := by rw [List.length_take]; omega
  have h3 : 256 ^ (l.take 2).length ≤ 256 ^ 2 := Nat.pow_le_pow_right (by omega) h2
  omega

set_option maxHeartbeats 1000000 in
theorem rtext_much (w : World) (b c : Nat) (A : Option Addr) (l : List UInt8) (h : Rd w b A c l) (hl : l.length ≤ 140737488355328) (hs : 2 ≤ l.length) (hm : l.length - 2 < num (l.take 2)) :
    Calls Try.prog 23 #[.pointer (some ⟨b, 0, none⟩)] w fun e w' => e = .returned (.tuple #[.string ⟨#[]⟩, .int .i64 10]) ∧ Took w w' b A l := by
  have HV := Lib.hid (valid_any b _ _ w h.blk)
  have c0 : w.cell? ⟨b, 0, none⟩ = some (.slice A l.length c) := h.blk.cell 0
  have c1 : w.cell? ⟨b, 1, none⟩ = some (.bool true) := h.blk.cell 1
  have H := Lib.hid h
  clear h
  have he : rnumErr 2 l = 0 := by simp [rnumErr, sized]; omega
  have h1 := rnum_total _ _ _ _ _ H.out.copy 2 (by omega) (by omega)
  rw [he, show taken 0 (2 : Int).toNat = 2 from rfl] at h1
  have H1 := Lib.hid h1
  have hn := conv_num l
  have HL := Lib.hid hl
  have HM := Lib.hid hm
  clear he h1 hs hl hm
  go_enter Try.func23, Try.ntmps23
  go_wp2_with (first
    | (go_at_call 38; refine HV.out.mono ?_; rintro e w' ⟨rfl, rfl⟩)
    | (go_at_call 20; refine H1.out.mono ?_; rintro e w1 ⟨rfl, A1, c1, g1, g2, k1⟩))
  have h2 := rraw_total w1 _ _ _ _ g1 (by rw [List.length_drop]; have := HL.out; omega) (num (l.take 2)) (by omega) (by omega)
  have he : rrawErr (num (l.take 2)) (l.drop 2) = 10 := by
    have := HM.out
    simp [rrawErr]
    omega
  unfold RawTold at h2
  rw [he, show taken 10 ((num (l.take 2) : Int)).toNat = 0 from rfl] at h2
  have H2 := Lib.hid h2
  have K1 := Lib.hid k1
  clear h2 he g1 g2 k1
  go_wp2_with (go_at_call 25; refine H2.out.mono ?_; rintro e w2 ⟨A2, c2, rfl, ⟨A3, c3, g3, g4, k2⟩, g5⟩)
  go_ret2
  exact ⟨rfl, H.out.side (K1.out.trans k2 (fun _ _ h => h))⟩

set_option maxHeartbeats 1000000 in
theorem rtext_ok (w : World) (b c : Nat) (A : Option Addr) (l : List UInt8) (h : Rd w b A c l) (hl : l.length ≤ 140737488355328) (hs : 2 ≤ l.length) (hm : num (l.take 2) ≤ l.length - 2) :
    Calls Try.prog 23 #[.pointer (some ⟨b, 0, none⟩)] w fun e w' => e = .returned (.tuple #[.string ⟨((l.drop 2).take (num (l.take 2))).toArray⟩, .int .i64 0]) ∧ Took w w' b A (l.drop (2 + num (l.take 2))) := by
  have HV := Lib.hid (valid_any b _ _ w h.blk)
  have c0 : w.cell? ⟨b, 0, none⟩ = some (.slice A l.length c) := h.blk.cell 0
  have c1 : w.cell? ⟨b, 1, none⟩ = some (.bool true) := h.blk.cell 1
  have H := Lib.hid h
  clear h
  have he : rnumErr 2 l = 0 := by simp [rnumErr, sized]; omega
  have h1 := rnum_total _ _ _ _ _ H.out.copy 2 (by omega) (by omega)
  rw [he, show taken 0 (2 : Int).toNat = 2 from rfl] at h1
  have H1 := Lib.hid h1
  have hn := conv_num l
  have HL := Lib.hid hl
  have HM := Lib.hid hm
  clear he h1 hs hl hm
  go_enter Try.func23, Try.ntmps23
  go_wp2_with (first
    | (go_at_call 38; refine HV.out.mono ?_; rintro e w' ⟨rfl, rfl⟩)
    | (go_at_call 20; refine H1.out.mono ?_; rintro e w1 ⟨rfl, A1, c1, g1, g2, k1⟩))
  have h2 := rraw_total w1 _ _ _ _ g1 (by rw [List.length_drop]; have := HL.out; omega) (num (l.take 2)) (by omega) (by omega)
  have he : rrawErr (num (l.take 2)) (l.drop 2) = 0 := by
    have := HM.out
    simp [rrawErr]
    omega
  unfold RawTold at h2
  rw [he, show taken 0 ((num (l.take 2) : Int)).toNat = num (l.take 2) from by simp [taken]] at h2
  have H2 := Lib.hid h2
  have K1 := Lib.hid k1
  have G2 := Lib.hid g2
  clear h2 he g1 g2 k1
  obtain ⟨l3, hl3⟩ : ∃ l3, (l.drop 2).drop (num (l.take 2)) = l3 := ⟨_, rfl⟩
  obtain ⟨l4, hl4⟩ : ∃ l4, (l.drop 2).take (num (l.take 2)) = l4 := ⟨_, rfl⟩
  rw [hl3, hl4] at H2
  have HL3 := Lib.hid hl3
  have HL4 := Lib.hid hl4
  clear hl3 hl4
  have hbw := H.out.blk.lt
  have hne : b ≠ w.heap.size := by omega
  go_wp2_with (go_at_call 25; refine H2.out.mono ?_; rintro e w2 ⟨A2, c2, rfl, ⟨A3, c3, g3, g4, k2⟩, g5⟩; have kk : Keep (fun _ => False) w w2 := (((Keep.refl (fun _ => False) w).alloc _).trans K1.out (fun i hi e => by omega)).trans k2 (fun i hi e => by omega); have hB := kk.blk H.out.blk (fun h => h); have c0' : w2.cell? ⟨w.heap.size, 0, none⟩ = some (.slice A3 l3.length c3) := g3.blk.cell 0; have c1' : w2.cell? ⟨w.heap.size, 1, none⟩ = some (.bool true) := g3.blk.cell 1; have d0 : w2.cell? ⟨b, 0, none⟩ = some (.slice A l.length c) := hB.cell 0; have d1 : w2.cell? ⟨b, 1, none⟩ = some (.bool true) := hB.cell 1; have f0 := hB.frozen 0; have f1 := hB.frozen 1; have HB := Lib.hid hB; have KK := Lib.hid kk; have G3 := Lib.hid g3; have G4 := Lib.hid g4; have G5 := Lib.hid g5; have cv : (convert 24 9 (.slice A2 (num (l.take 2)) c2)).run Try.prog ((w2.setCell ⟨b, 0, none⟩ (.slice A3 l3.length c3)).setCell ⟨b, 1, none⟩ (.bool true)) = .ok (.string ⟨l4.toArray⟩) ((w2.setCell ⟨b, 0, none⟩ (.slice A3 l3.length c3)).setCell ⟨b, 1, none⟩ (.bool true)) := conv_reads c2 (Reads.of_own (own_set (own_set g5 (Nat.lt_of_lt_of_le hbw (Nat.le_trans (by simp) K1.out.size))) (Nat.lt_of_lt_of_le hbw (Nat.le_trans (by simp) K1.out.size)))); clear hB kk g3 g4 g5 k2)
  go_ret2
  rw [HL4.out]
  refine ⟨rfl, A3, c3, ?_, fun ad e => ?_, ((KK.out.more (S' := fun k => k = b) (fun i _ e => e.elim)).setCell ⟨b, 0, none⟩ _ (fun _ => rfl)).setCell ⟨b, 1, none⟩ _ (fun _ => rfl)⟩
  · rw [← List.drop_drop, HL3.out]
    refine Rd.back HB.out G3.out (fun ad e => ?_)
    obtain ⟨ad1, e1, q1⟩ := G4.out ad e
    obtain ⟨ad0, e0, q0⟩ := G2.out ad1 e1
    rw [q1, q0]
    exact H.out.sep ad0 e0
  · obtain ⟨ad1, e1, q1⟩ := G4.out ad e
    obtain ⟨ad0, e0, q0⟩ := G2.out ad1 e1
    exact ⟨ad0, e0, q1.trans q0⟩

/-- Text, whatever is left. -/
theorem rtext_total (w : World) (b c : Nat) (A : Option Addr) (l : List UInt8) (h : Rd w b A c l) (hl : l.length ≤ 140737488355328) :
    Calls Try.prog 23 #[.pointer (some ⟨b, 0, none⟩)] w fun e w' =>
      e = .returned (.tuple #[.string ⟨((l.drop 2).take (taken (rtextErr l) (num (l.take 2)))).toArray⟩, .int .i64 (rtextErr l)]) ∧ Took w w' b A (l.drop (taken (rtextErr l) (2 + num (l.take 2)))) := by
  by_cases h1 : l.length < 2
  · have he : rtextErr l = 10 := by simp [rtextErr, h1]
    rw [he]
    exact rtext_short w b c A l h h1
  · by_cases h2 : l.length - 2 < num (l.take 2)
    · have he : rtextErr l = 10 := by simp [rtextErr, h2]
      rw [he]
      exact rtext_much w b c A l h hl (by omega) h2
    · have he : rtextErr l = 0 := by simp [rtextErr, h1, h2]
      rw [he]
      exact rtext_ok w b c A l h hl (by omega) (by omega)

end Go.Proofs.Ytlonejpphmpnjaa

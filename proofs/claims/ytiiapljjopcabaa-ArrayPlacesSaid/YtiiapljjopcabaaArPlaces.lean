/-
  The walk of the statement ArrayPlaces.
-/
import Derived.Test.YtiiapljjopcabaaArRefA
import Derived.Test.YtiiapljjopcabaaHeads
import Derived.Test.YtiiapljjopcabaaArOpen
namespace Go.Proofs.Ytiiapljjopcabaa.arrayPlaces
open Go.RowKit Go.Proofs.Ytiiapljjopcabaa.arr

theorem arown_cap {w : World} {base e n c : Nat} {A : Option Addr} {xs : List Value} (h : w.ownsRow base e 1 (.slice A n c) n xs) : n ≤ c := by
  rcases h.2 with ⟨e1, h0⟩ | ⟨g, cap, cur, e1, _, _, hc, _⟩
  · omega
  · injection e1 with _ _ e3
    omega
theorem arown_stay {w w1 : World} {base e size n B : Nat} {v : Value} {xs : List Value} (h : w.ownsRow base e size v n xs) (hb : Below B w w1) (hB : ∀ g, v.ownBlock = some g → g < B) : w1.ownsRow base e size v n xs := by
  refine ⟨h.1, ?_⟩
  rcases h.2 with hv | ⟨g, cap, cur, rfl, h0, hh, h1, h2, h3, h4⟩
  · exact .inl hv
  · exact .inr ⟨g, cap, cur, rfl, h0, (hb.block g (hB g (by simp [Value.ownBlock]))).trans hh, h1, h2, h3, h4⟩
theorem arown_lt {w : World} {base e size n : Nat} {v : Value} {xs : List Value} (h : w.ownsRow base e size v n xs) : ∀ g, v.ownBlock = some g → base ≤ g ∧ g < w.heap.size := by
  intro g hg
  rcases h.2 with ⟨rfl, _⟩ | ⟨g', cap, cur, rfl, h0, hh, _⟩
  · simp [Value.ownBlock] at hg
  · simp [Value.ownBlock] at hg
    subst hg
    exact ⟨h0, (Array.getElem?_eq_some_iff.1 hh).1⟩

/-- A row of numbers that is written to. -/
def Own1 (w : World) (B : Nat) (A : Option Addr) (q c : Nat) : Prop := ∃ xs, w.ownsRow B 3 1 (.slice A q c) q xs ∧ ∀ v ∈ xs, ∃ z, v = .int .i64 z

set_option maxRecDepth 100000 in
set_option maxHeartbeats 4000000 in
theorem walk (A A2 : Option Addr) (n c m c2 : Nat) (l a : List Int) (x : Int) (w : World) (hl : l.length = n) (ha : Reads w w.heap.size 1 A n (l.map iv)) (hn : n ≤ 9223372036854775807) (hl2 : a.length = m) (ha2 : Reads w w.heap.size 1 A2 m (a.map iv)) (hm : m ≤ 9223372036854775807) :
    Calls Try.prog 3 #[.slice A n c, .slice A2 m c2, .int .i64 x] w fun e w' => e = .returned (.bool true) ∧ Below w.heap.size w w' := by
  by_cases h1 : 100 < n
  · have d1 : (100 : Int) < (n : Int) := by omega
    clear ha ha2
    go_enter Try.func3, Try.ntmps3
    go_wp2
    go_ret
    exact ⟨rfl, Below.refl _ _⟩
  have d1 : ¬ (100 : Int) < (n : Int) := by omega
  by_cases h2 : 100 < m
  · have d2 : (100 : Int) < (m : Int) := by omega
    clear ha ha2
    go_enter Try.func3, Try.ntmps3
    go_wp2
    go_ret
    exact ⟨rfl, Below.refl _ _⟩
  have d2 : ¬ (100 : Int) < (m : Int) := by omega
  have HA := Lib.hid ha
  have HA2 := Lib.hid ha2
  have HL := Lib.hid hl
  have HL2 := Lib.hid hl2
  have HI1 := Lib.hid (r11ints_any A c n l w ha (by omega))
  have HI2 := Lib.hid (fun W (hb : Below w.heap.size w W) => r11ints_any A2 c2 m a W ((ha2.below hb).more hb.size) (by omega))
  have HSZ : Hid (n ≤ 100 ∧ m ≤ 100) := Lib.hid ⟨by omega, by omega⟩
  clear ha ha2 hl hl2
  go_enter Try.func3, Try.ntmps3
  go_wp2_with (first
    | (go_at_call 4; (have l0 := HO1.out; clear l0); refine (HI2.out w1 HB1.out).mono ?_; rintro e w2 ⟨A4, c4, rfl, o2, b2⟩
       have HO2 := Lib.hid o2
       have HO12 := Lib.hid (arown_stay HO1.out b2 (fun g hg => (arown_lt HO1.out g hg).2))
       have HB2 := Lib.hid (HB1.out.trans (b2.mono HB1.out.size))
       have HS12 := Lib.hid b2.size
       clear o2 b2)
    | (go_at_call 4; refine HI1.out.mono ?_; rintro e w1 ⟨A3, c3, rfl, o1, b1⟩
       have HO1 := Lib.hid o1
       have HB1 := Lib.hid b1
       clear o1 b1)
    | (go_at_call 5; refine (arplace_any A3 A4 c3 n c4 m l a w2 HL.out (Reads.of_own HO12.out) (by omega) HL2.out (Reads.of_own HO2.out) (by omega)).mono ?_; rintro e _ ⟨rfl, rfl⟩)
    | (go_at_call 6; refine (r11place_any A A2 c n c2 m l a w2 HL.out ((HA.out.below HB2.out).more HB2.out.size) (by omega) HL2.out ((HA2.out.below HB2.out).more HB2.out.size) (by omega)).mono ?_; rintro e w3 ⟨rfl, b3⟩
       have HO13 := Lib.hid (arown_stay HO12.out b3 (fun g hg => (arown_lt HO12.out g hg).2))
       have HO23 := Lib.hid (arown_stay HO2.out b3 (fun g hg => (arown_lt HO2.out g hg).2))
       have HB3 := Lib.hid (HB2.out.trans (b3.mono HB2.out.size))
       clear b3)
    | (go_at_call 7; refine (arat_any A3 c3 n l x w3 HL.out (Reads.of_own HO13.out) (arown_cap HO13.out) (by omega)).mono ?_; rintro e w4 ⟨A5, c5, rfl, o5, b4⟩
       have HO5 := Lib.hid o5
       have HB34 := Lib.hid b4
       have HB4 := Lib.hid (HB3.out.trans (b4.mono HB3.out.size))
       clear o5 b4)
    | (go_at_call 8; refine (r11at_any A c n l x w4 HL.out ((HA.out.below HB4.out).more HB4.out.size) (by omega)).mono ?_; rintro e w5 ⟨A6, c6, rfl, o6, b5⟩
       have HO6 := Lib.hid o6
       have HO55 := Lib.hid (arown_stay HO5.out b5 (fun g hg => (arown_lt HO5.out g hg).2))
       have HB35 := Lib.hid (HB34.out.trans (b5.mono HB34.out.size))
       have HB5 := Lib.hid (HB4.out.trans (b5.mono HB4.out.size))
       have HLN := Lib.hid (atL_len l x)
       clear o6 b5)
    | (go_at_call 9; refine (r11shapes_any A5 A6 c5 c6 _ _ (atL l x) (atL l x) w5 rfl rfl (Reads.of_own HO55.out) (Reads.of_own HO6.out) (by have := HLN.out; omega) (by have := HLN.out; omega)).mono ?_; rintro e w6 ⟨rfl, b6⟩
       rw [decide_eq_true rfl]
       have HO56 := Lib.hid (arown_stay HO55.out b6 (fun g hg => (arown_lt HO55.out g hg).2))
       have HB36 := Lib.hid (HB35.out.trans (b6.mono HB35.out.size))
       clear b6))
  have HX0 : Hid (Own1 w6 w3.heap.size A5 (atL l x).length c5) := Lib.hid ⟨_, HO56.out, fun v hv => by
    obtain ⟨z, _, rfl⟩ := List.mem_map.1 hv
    exact ⟨z, rfl⟩⟩
  have hq4 := HLN.out
  obtain ⟨q, hq⟩ : ∃ q, (atL l x).length = q := ⟨_, rfl⟩
  simp only [hq] at *
  clear hq
  go_loopw [75] (fun i wr => ∃ j : Nat, j ≤ q ∧ i = .int .i64 (j : Int) ∧ Own1 wr w3.heap.size A5 q c5 ∧ Below w3.heap.size w3 wr) (fun i _ => q - (intOf i).toNat)
  case atStart => exact ⟨0, Nat.zero_le _, rfl, HX0.out, HB36.out⟩
  case round =>
    obtain ⟨j, hj, rfl, ⟨xs, ho, hxs⟩, hbw⟩ := hrel
    by_cases hlt : j < q
    · have hd : (j : Int) < (q : Int) := by omega
      have hjx : j < xs.length := by have := ho.1; omega
      obtain ⟨z, hz⟩ := hxs xs[j] (List.getElem_mem hjx)
      have hat : xs[j]? = some (.int .i64 z) := by rw [List.getElem?_eq_getElem hjx, hz]
      obtain ⟨g, rfl⟩ : ∃ g, A5 = some ⟨g, 0, none⟩ := by
        rcases ho.2 with ⟨_, h0⟩ | ⟨g, cap, cur, e, _⟩
        · omega
        · injection e with e _ _
          exact ⟨g, e⟩
      obtain ⟨c0, f0⟩ := own_at ho hat
      have hgb := (arown_lt ho g (by simp [Value.ownBlock])).1
      have HN : Hid (∀ u, (∃ y, u = .int .i64 y) → Own1 (wr.setCell ⟨g, j, none⟩ u) w3.heap.size (some ⟨g, 0, none⟩) q c5 ∧ Below w3.heap.size w3 (wr.setCell ⟨g, j, none⟩ u)) := Lib.hid (fun u hu => ⟨⟨_, own_put ho u, fun v hv => by
        rcases List.mem_or_eq_of_mem_set hv with h | h
        · exact hxs v h
        · rw [h]; exact hu⟩, hbw.setCell hgb u⟩)
      clear ho hxs hbw hat hz hgb
      go_wp2
      refine ⟨⟨j + 1, by omega, by go_num, ?_⟩, by simp [intOf]; omega⟩
      exact HN.out _ ⟨_, rfl⟩
    · obtain rfl : j = q := by omega
      have HO13W := Lib.hid (arown_stay HO13.out hbw (fun g hg => (arown_lt HO13.out g hg).2))
      have HO23W := Lib.hid (arown_stay HO23.out hbw (fun g hg => (arown_lt HO23.out g hg).2))
      have HBW := Lib.hid (HB3.out.trans (hbw.mono HB3.out.size))
      clear ho hxs hbw
      go_wp2_with (first
        | (go_at_call 9; (have l0 := M8.out; clear l0); refine (r11shapes_any A4 A2 c4 c2 m m a a w8 HL2.out HL2.out (Reads.of_own HO24.out) ((HA2.out.below HBW8.out).more HBW8.out.size) (by omega) (by omega)).mono ?_; rintro e w9 ⟨rfl, b9⟩
           rw [decide_eq_true rfl]
           have HB9 := Lib.hid (HBW8.out.trans (b9.mono HBW8.out.size))
           clear b9)
        | (go_at_call 9; refine (r11shapes_any A3 A c3 c n n l l wr HL.out HL.out (Reads.of_own HO13W.out) ((HA.out.below HBW.out).more HBW.out.size) (by omega) (by omega)).mono ?_; rintro e w8 ⟨rfl, b8⟩
           rw [decide_eq_true rfl]
           have HO24 := Lib.hid (arown_stay HO23W.out b8 (fun g hg => (arown_lt HO23W.out g hg).2))
           have HBW8 := Lib.hid (HBW.out.trans (b8.mono HBW.out.size))
           have M8 : Hid (8 = 8) := Lib.hid rfl
           clear b8))
      go_ret
      exact ⟨rfl, HB9.out⟩
theorem call {W : World} (A : Option Addr) (c : Nat) (l : List Int) (h : IArg W A c l) (A2 : Option Addr) (c2 : Nat) (a : List Int) (h2 : IArg W A2 c2 a) (x : Int) :
    Calls Try.prog 3 #[.slice A l.length c, .slice A2 a.length c2, .int .i64 x] W fun e w' => e = .returned (.bool true) ∧ Below W.heap.size W w' :=
  walk A A2 l.length c a.length c2 l a x W rfl h.reads (by have := h.cap; have := h.big; omega) rfl h2.reads (by have := h2.cap; have := h2.big; omega)
end Go.Proofs.Ytiiapljjopcabaa.arrayPlaces

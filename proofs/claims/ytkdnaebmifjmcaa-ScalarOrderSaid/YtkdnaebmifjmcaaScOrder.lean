/-
  The walk of the statement ScalarOrder.
-/
import Derived.Test.YtkdnaebmifjmcaaScLive
import Derived.Test.YtkdnaebmifjmcaaHeads
namespace Go.Proofs.Ytkdnaebmifjmcaa.scalarOrder
open Go.RowKit Go.Proofs.Ytkdnaebmifjmcaa.sc

def ordF : List Int := [11, 9, 14, 12, 10, 13, 6, 7]
def ordL (x y : Int) : List Int := [truthV (decide (x < y)), truthV (decide (x = y)), truthV (decide (y < x)), truthV (decide (x ≤ y)), truthV (decide (x ≠ y)), truthV (decide (y ≤ x)), min x y, max x y]
theorem ord_two (x y : Int) (hx : InR x) (hy : InR y) : ∀ (k : Nat) (f v : Int), ordF[k]? = some f → (ordL x y)[k]? = some v → TwoAt f x y v 0
  | 0, _, _, hf, hv => by cases hf; cases hv; exact (two_at hx hy rfl rfl).out
  | 1, _, _, hf, hv => by cases hf; cases hv; exact (two_at hx hy rfl rfl).out
  | 2, _, _, hf, hv => by cases hf; cases hv; exact (two_at hx hy rfl rfl).out
  | 3, _, _, hf, hv => by cases hf; cases hv; exact (two_at hx hy rfl rfl).out
  | 4, _, _, hf, hv => by cases hf; cases hv; exact (two_at hx hy rfl rfl).out
  | 5, _, _, hf, hv => by cases hf; cases hv; exact (two_at hx hy rfl rfl).out
  | 6, _, _, hf, hv => by cases hf; cases hv; exact (two_at hx hy rfl rfl).out
  | 7, _, _, hf, hv => by cases hf; cases hv; exact (two_at hx hy rfl rfl).out
  | _ + 8, _, _, hf, _ => by simp [ordF] at hf
/-- The array behind k calls. -/
def ten (L : List Int) (k : Nat) : List Value := ((L.take k) ++ List.replicate (10 - k) 0).map iv
theorem ten_set {L : List Int} {k : Nat} {v : Int} (hk : k < 8) (hv : L[k]? = some v) : (ten L k).set k (.int .i64 v) = ten L (k + 1) := by
  obtain ⟨hl, rfl⟩ := List.getElem?_eq_some_iff.1 hv
  obtain ⟨r, hr⟩ : ∃ r, 10 - k = r + 1 := ⟨9 - k, by omega⟩
  have hr2 : 10 - (k + 1) = r := by omega
  unfold ten
  rw [hr, hr2, List.take_succ_eq_append_getElem hl, List.replicate_succ, List.map_append, List.map_append, List.map_append, List.map_cons, List.set_append_right _ _ (by simp; omega)]
  rw [List.length_map, List.length_take, Nat.min_eq_left (by omega), Nat.sub_self, List.set_cons_zero, List.append_assoc]
  rfl

set_option maxRecDepth 100000 in
set_option maxHeartbeats 4000000 in
theorem walk (x y : Int) (hx : InR x) (hy : InR y) (w : World) : Calls Try.prog 6 #[.int .i64 x, .int .i64 y] w fun e w' => e = .returned (.bool true) ∧ Below w.heap.size w w' := by
  have HA := Lib.hid alive12_any
  have HT := Lib.hid (ord_two x y hx hy)
  have HL : Hid ((ordL x y).length = 8) := Lib.hid rfl
  have HC : Hid ((x < y ∧ ordL x y = [1, 0, 0, 1, 1, 0, x, y]) ∨ (x = y ∧ ordL x y = [0, 1, 0, 1, 0, 1, x, x]) ∨ (y < x ∧ ordL x y = [0, 0, 1, 0, 1, 1, y, x])) := Lib.hid (by
    unfold ordL truthV
    rcases Int.lt_trichotomy x y with h | h | h
    · left
      refine ⟨h, ?_⟩
      simp [h, show ¬ x = y by omega, show ¬ y < x by omega, show x ≤ y by omega, show ¬ y ≤ x by omega]
      omega
    · subst h
      right; left
      simp
    · right; right
      refine ⟨h, ?_⟩
      simp [h, show ¬ x = y by omega, show ¬ x < y by omega, show y ≤ x by omega, show ¬ x ≤ y by omega]
      omega)
  clear hx hy
  go_enter Try.func6, Try.ntmps6
  go_wp2_with (go_at_call 21; refine (HA.out _).mono ?_; rintro e w0 ⟨rfl, b0⟩)
  obtain ⟨L, hL⟩ : ∃ L, ordL x y = L := ⟨_, rfl⟩
  rw [hL] at HT HC HL
  clear hL
  have hs0 := b0.size
  have hB0 : Hid (Below w.heap.size w ((w0.alloc (.cells (ten L 0).toArray 56)).alloc (.cells (ordF.map iv).toArray 3)) ∧
      Blk ((w0.alloc (.cells (ten L 0).toArray 56)).alloc (.cells (ordF.map iv).toArray 3)) w0.heap.size 56 (ten L 0).toArray ∧
      Blk ((w0.alloc (.cells (ten L 0).toArray 56)).alloc (.cells (ordF.map iv).toArray 3)) (w0.heap.size + 1) 3 (ordF.map iv).toArray) := Lib.hid ⟨(b0.alloc hs0 _).alloc (by simp; omega) _, (Blk.new w0 _ _).alloc _, by
    have := Blk.new (w0.alloc (.cells (ten L 0).toArray 56)) 3 (ordF.map iv).toArray
    rwa [World.size_alloc] at this⟩
  go_loopw [15] (fun i wr => ∃ k : Nat, k ≤ 8 ∧ i = .int .i64 (k : Int) ∧ Below w.heap.size w wr ∧ Blk wr w0.heap.size 56 (ten L k).toArray ∧ Blk wr (w0.heap.size + 1) 3 (ordF.map iv).toArray) (fun i _ => 8 - (intOf i).toNat)
  case atStart => exact ⟨0, Nat.zero_le _, rfl, hB0.out⟩
  case round =>
    obtain ⟨k, hk, rfl, hb, hx, hf⟩ := hrel
    by_cases hlt : k < 8
    · have hd : (k : Int) < 8 := by omega
      obtain ⟨f, hff⟩ : ∃ f, ordF[k]? = some f := ⟨_, List.getElem?_eq_getElem (by show k < 8; exact hlt)⟩
      obtain ⟨v, hv⟩ : ∃ v, L[k]? = some v := ⟨_, List.getElem?_eq_getElem (by rw [HL.out]; exact hlt)⟩
      have H2 := Lib.hid (HT.out k f v hff hv)
      have cf : wr.cell? ⟨w0.heap.size + 1, k, none⟩ = some (.int .i64 f) := by rw [hf.cell k, List.getElem?_toArray, List.getElem?_map, hff]; rfl
      have HS := Lib.hid (ten_set hlt hv)
      have HB := Lib.hid hb
      have HX := Lib.hid hx
      have HF := Lib.hid hf
      have HSZ := Lib.hid hs0
      obtain ⟨z, hz⟩ : ∃ z, (ten L k)[k]? = some z := ⟨_, List.getElem?_eq_getElem (by unfold ten; rw [List.length_map, List.length_append, List.length_take, List.length_replicate, HL.out]; omega)⟩
      have HZ := Lib.hid hz
      clear hb hx hf hff hv hs0 hz
      go_wp2_with (go_at_call 22; (with_reducible refine (H2.out _).mono ?_); rintro e w2 ⟨rfl, b2⟩; have hx2 := HX.out.below b2 HX.out.lt; have g0 := hx2.cell k; rw [List.getElem?_toArray, HZ.out] at g0; have g1 := hx2.frozen k; have HX2 := Lib.hid hx2; clear hx2)
      refine ⟨⟨k + 1, by omega, by go_num, ?_, ?_, ?_⟩, by simp [intOf]; omega⟩
      · exact (HB.out.trans (b2.mono HB.out.size)).setCell HSZ.out _
      · have := HX2.out.set_ k (.int .i64 v)
        rw [List.setIfInBounds_toArray, HS.out] at this
        exact this
      · exact (HF.out.below b2 HF.out.lt).far (by simp) _
    · obtain rfl : k = 8 := by omega
      have HB := Lib.hid hb
      have x0 := hx.cell 0
      have x1 := hx.cell 1
      have x2 := hx.cell 2
      have x3 := hx.cell 3
      have x4 := hx.cell 4
      have x5 := hx.cell 5
      have x6 := hx.cell 6
      have x7 := hx.cell 7
      clear hb hx hf hs0
      rcases HC.out with ⟨h, hl⟩ | ⟨h, hl⟩ | ⟨h, hl⟩
      · subst hl
        simp only [ten, List.take, List.replicate, List.cons_append, List.nil_append, List.map_cons, List.map_nil, List.getElem?_toArray, List.getElem?_cons_zero, List.getElem?_cons_succ, iv] at x0 x1 x2 x3 x4 x5 x6 x7
        have h1 : (x == y) = false := by simp; omega
        have h2 : x ≤ y := by omega
        go_wp2
        go_ret
        exact ⟨rfl, HB.out⟩
      · subst hl
        subst h
        simp only [ten, List.take, List.replicate, List.cons_append, List.nil_append, List.map_cons, List.map_nil, List.getElem?_toArray, List.getElem?_cons_zero, List.getElem?_cons_succ, iv] at x0 x1 x2 x3 x4 x5 x6 x7
        go_wp2
        go_ret
        exact ⟨rfl, HB.out⟩
      · subst hl
        simp only [ten, List.take, List.replicate, List.cons_append, List.nil_append, List.map_cons, List.map_nil, List.getElem?_toArray, List.getElem?_cons_zero, List.getElem?_cons_succ, iv] at x0 x1 x2 x3 x4 x5 x6 x7
        have h1 : (x == y) = false := by simp; omega
        have h1' : (y == x) = false := by simp; omega
        have h2 : ¬ x < y := by omega
        have h3 : y ≤ x := by omega
        go_wp2
        go_ret
        exact ⟨rfl, HB.out⟩
theorem call (x : Int) (hx0 : -9223372036854775808 ≤ x) (hx1 : x ≤ 9223372036854775807) (y : Int) (hy0 : -9223372036854775808 ≤ y) (hy1 : y ≤ 9223372036854775807) (w : World) :
    Calls Try.prog 6 #[.int .i64 x, .int .i64 y] w fun e w' => e = .returned (.bool true) ∧ Below w.heap.size w w' := walk x y ⟨hx0, hx1⟩ ⟨hy0, hy1⟩ w
end Go.Proofs.Ytkdnaebmifjmcaa.scalarOrder

/-
  The memory that the statements of layer 10 lay: twelve tiles.
-/
import Derived.Test.YtlmdijijlbmddaaPlKeys
namespace Go.Proofs.Ytlmdijijlbmddaa.pool
open Go.RowKit

theorem infoTile : (Try.prog.info? 43).map (fun i => (i.zero, i.size, i.bytes)) = some (some (.agg #[.int .i64 0, .int .i64 0, .int .i64 0, .slice none 0 0]), 4, 48) := by kernel_rfl
def tv0 (i : Nat) : TV := ⟨1 + (i : Int) / 4, (i : Int) % 4, 1, [(i : Int), 10 * (i : Int), -1, 7]⟩
def L0 : List TV := (List.range 12).map tv0
def oneT (i g c : Nat) : List Value := [.int .i64 (tv0 i).file, .int .i64 (tv0 i).no, .int .i64 1, .slice (some ⟨g, 0, none⟩) 4 c]
def tilesC : Nat → List (Nat × Nat) → List Value
  | _, [] => []
  | k, x :: l => oneT k x.1 x.2 ++ tilesC (k + 1) l
theorem tilesC_snoc (x : Nat × Nat) : ∀ (l : List (Nat × Nat)) (k : Nat), tilesC k (l ++ [x]) = tilesC k l ++ oneT (k + l.length) x.1 x.2
  | [], k => by simp [tilesC]
  | y :: l, k => by
    show oneT k y.1 y.2 ++ tilesC (k + 1) (l ++ [x]) = (oneT k y.1 y.2 ++ tilesC (k + 1) l) ++ _
    rw [tilesC_snoc x l (k + 1), List.append_assoc, List.length_cons, show k + 1 + l.length = k + (l.length + 1) by omega]
theorem tilesC_at : ∀ (l : List (Nat × Nat)) (k j g c : Nat), l[j]? = some (g, c) → (tilesC k l)[4 * j]? = some (.int .i64 (tv0 (k + j)).file) ∧ (tilesC k l)[4 * j + 1]? = some (.int .i64 (tv0 (k + j)).no) ∧ (tilesC k l)[4 * j + 2]? = some (.int .i64 1) ∧ (tilesC k l)[4 * j + 3]? = some (.slice (some ⟨g, 0, none⟩) 4 c)
  | [], k, j, g, c, h => by simp at h
  | y :: l, k, 0, g, c, h => by
    simp only [List.getElem?_cons_zero, Option.some.injEq] at h
    subst h
    exact ⟨rfl, rfl, rfl, rfl⟩
  | y :: l, k, j + 1, g, c, h => by
    rw [List.getElem?_cons_succ] at h
    have ih := tilesC_at l (k + 1) j g c h
    rw [show k + 1 + j = k + (j + 1) by omega] at ih
    rw [show 4 * (j + 1) = 4 * j + 1 + 1 + 1 + 1 by omega]
    exact ih
theorem oneT_one (i g c : Nat) : ∀ v ∈ oneT i g c, v.oneCell' = true := by
  intro v hv
  simp [oneT] at hv
  rcases hv with rfl | rfl | rfl | rfl <;> rfl
/-- What the loop leaves. -/
structure BkF (z : Nat) (w W : World) (v : Value) (ll : List (Nat × Nat)) (i : Nat) : Prop where
  le : i ≤ 12
  len : ll.length = i
  b : Below z w W
  box : Blk W z 38 #[v, .slice none 0 0, .int .i64 0]
  own : W.ownsRow z 43 4 v i (tilesC 0 ll)
  el : ∀ j g c, ll[j]? = some (g, c) → El W g c (tv0 j).el ∧ z ≤ g

set_option maxRecDepth 100000 in
set_option maxHeartbeats 4000000 in
theorem back_any (w : World) : Calls Try.prog 12 #[.int .i64 0] w fun e w' => e = .returned (pv w.heap.size) ∧ (∃ v ll, BkF w.heap.size w w' v ll 12) := by
  obtain ⟨i0, hi, hz0, hz1, hz2⟩ := info_parts infoTile
  obtain ⟨z, hz⟩ : ∃ z, w.heap.size = z := ⟨_, rfl⟩
  have HZ := Lib.hid hz
  rw [hz]
  have h0 : BkF z w (w.alloc (.cells #[.slice none 0 0, .slice none 0 0, .int .i64 0] 38)) (.slice none 0 0) [] 0 := by
    refine ⟨by omega, rfl, ?_, ?_, World.ownsRow_nil _ _ _ _, fun j g c h => by simp at h⟩
    · rw [← hz]
      exact (Below.refl _ _).alloc (Nat.le_refl _) _
    · rw [← hz]
      exact Blk.new w _ _
  have H0 := Lib.hid h0
  clear h0
  go_enter Try.func12, Try.ntmps12
  go_wp2
  go_loopw [4] (fun x wr => ∃ (i : Nat) (v : Value) (ll : List (Nat × Nat)), x = .int .i64 (i : Int) ∧ BkF z w wr v ll i) (fun x _ => 13 - (intOf x).toNat)
  case atStart => exact ⟨0, _, [], rfl, H0.out⟩
  case round =>
    obtain ⟨i, v, ll, rfl, hF⟩ := hrel
    have HF := Lib.hid hF
    have hle := hF.le
    by_cases hlt : i < 12
    · have hd : (i : Int) < 12 := by omega
      have x0 := hF.box.cell 0
      have hzw : z < wr.heap.size := hF.box.lt
      obtain ⟨W2, hW2⟩ : ∃ W2, ((wr.alloc (.cells #[.int .i64 (i : Int), .int .i64 (10 * (i : Int)), .int .i64 (-1), .int .i64 7] 2)).alloc (.cells #[.int .i64 (1 + (i : Int) / 4), .int .i64 ((i : Int) % 4), .int .i64 1, .slice (some ⟨wr.heap.size, 0, none⟩) 4 4] 43)) = W2 := ⟨_, rfl⟩
      have hbA : Below wr.heap.size wr W2 := by rw [← hW2]; exact ((Below.refl _ _).alloc (Nat.le_refl _) _).alloc (by simp) _
      have hsA : W2.heap.size = wr.heap.size + 2 := by rw [← hW2]; simp
      have hbxA := hF.box.below hbA hzw
      have heA : El W2 wr.heap.size 4 (tv0 i).el := by
        refine El.mk rfl (by omega) ⟨#[.int .i64 (i : Int), .int .i64 (10 * (i : Int)), .int .i64 (-1), .int .i64 7], ?_, fun k x hk => ?_⟩
        · rw [← hW2]
          exact (Blk.new wr _ _).alloc _
        · rcases k with _ | _ | _ | _ | k <;> simp [tv0] at hk ⊢ <;> exact hk
      have hrdA : Blk W2 (wr.heap.size + 1) 43 #[.int .i64 (1 + (i : Int) / 4), .int .i64 ((i : Int) % 4), .int .i64 1, .slice (some ⟨wr.heap.size, 0, none⟩) 4 4] := by
        have h := Blk.new (wr.alloc (.cells #[.int .i64 (i : Int), .int .i64 (10 * (i : Int)), .int .i64 (-1), .int .i64 7] 2)) 43 #[.int .i64 (1 + (i : Int) / 4), .int .i64 ((i : Int) % 4), .int .i64 1, .slice (some ⟨wr.heap.size, 0, none⟩) 4 4]
        rw [hW2] at h
        simpa only [World.size_alloc] using h
      have howA : W2.ownsRow z 43 4 v i (tilesC 0 ll) := (KT.of_below (N := z) (T := []) hbA).own hF.own (by simp)
      have hrA : Reads W2 (wr.heap.size + 2) 4 (some ⟨wr.heap.size + 1, 0, none⟩) 1 (oneT i wr.heap.size 4) := ⟨rfl, fun _ => ⟨_, rfl, by simp, fun j u hu => by
        rw [Addr.add_mid, Nat.zero_add, hrdA.cell j, List.getElem?_toArray]
        exact hu⟩⟩
      have hll := hF.len
      have HBA := Lib.hid hbA
      have HBX := Lib.hid hbxA
      have HEA := Lib.hid heA
      have HOA := Lib.hid howA
      have HRA := Lib.hid hrA
      clear hF hbA hbxA heA hrdA howA hrA
      go_wp2_with (at_builtin; refine wpList_append_any _ rfl _ _ 35 rfl z 43 i0 _ 4 48 Try.underlying35 hi hz0 hz1 hz2 rfl (by decide) v i (tilesC 0 ll) rfl HOA.out (wr.heap.size + 2) (some ⟨wr.heap.size + 1, 0, none⟩) 1 1 (oneT i wr.heap.size 4) rfl HRA.out (oneT_one _ _ _) (by unfold maxLen; omega) (by omega) (by omega) ?_)
      intro v' w3 hown hgrow hat
      obtain ⟨g', c', rfl⟩ : ∃ g c, v' = .slice (some ⟨g, 0, none⟩) (i + 1) c := hown.2.elim (fun h0 => absurd h0.2 (by omega)) (fun ⟨g, cap, cur, e, _⟩ => ⟨g, cap, e⟩)
      have hb3 := HBX.out.grown hgrow (fun e => absurd (Typ.ne HBX.out.typ (own_typ_of HOA.out e.symm).2) (by decide))
      have y0 := hb3.cell 0
      have f0 := hb3.frozen 0
      have hfin : BkF z w (w3.setCell ⟨z, 0, none⟩ (.slice (some ⟨g', 0, none⟩) (i + 1) c')) (.slice (some ⟨g', 0, none⟩) (i + 1) c') (ll ++ [(wr.heap.size, 4)]) (i + 1) := by
        have k3 : KT z [43] W2 w3 := KT.append HOA.out hgrow (Nat.le_refl _) (by decide)
        have k4 : KT z [43, 38] W2 (w3.setCell ⟨z, 0, none⟩ (.slice (some ⟨g', 0, none⟩) (i + 1) c')) := (k3.more (T' := [43, 38]) (by decide)).trans (KT.set_ hb3.typ (Nat.le_refl _) (by decide) 0 _)
        have k5 := (KT.of_below (N := z) (T := [43, 38]) HBA.out).trans k4
        refine ⟨by omega, by rw [List.length_append, HF.out.len]; rfl, HF.out.b.trans (k5.below (by omega)), hb3.set_ 0 _, ?_, fun j g c h => ?_⟩
        · rw [tilesC_snoc, HF.out.len, Nat.zero_add]
          refine (Keep.setCell (S := fun k => k = z) (Keep.refl _ w3) ⟨z, 0, none⟩ _ (fun _ => rfl)).own hown (fun k hk e => ?_)
          subst e
          exact absurd (Typ.ne hb3.typ (own_typ_of hown hk).2) (by decide)
        · by_cases hj : j < ll.length
          · rw [List.getElem?_append_left hj] at h
            exact ⟨k5.el (HF.out.el j g c h).1 (by decide), (HF.out.el j g c h).2⟩
          · rw [List.getElem?_append_right (by omega)] at h
            have hj2 : j - ll.length = 0 := by
              have := (List.getElem?_eq_some_iff.1 h).1
              simpa using this
            rw [hj2] at h
            simp only [List.getElem?_cons_zero, Option.some.injEq, Prod.mk.injEq] at h
            obtain ⟨rfl, rfl⟩ := h
            obtain rfl : j = i := by omega
            exact ⟨k4.el HEA.out (by decide), by omega⟩
      have HFIN := Lib.hid hfin
      clear hb3 hfin hown hgrow hat
      go_wp2
      go_roundw
      case rel => exact ⟨i + 1, _, _, by go_num, HFIN.out⟩
      case measure => (have e1 : ∀ n : Int, intOf (.int .i64 n) = n := fun _ => rfl); rw [e1, e1]; omega
    · obtain rfl : i = 12 := by omega
      go_wp2
      go_ret
      exact ⟨rfl, v, ll, HF.out⟩
end Go.Proofs.Ytlmdijijlbmddaa.pool

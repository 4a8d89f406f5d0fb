/-
  The pool of layer 10: two rows of keys, compared.
-/
import Derived.Test.YtlmdijijlbmddaaPlNew
import Derived.Test.YtlmdijijlbmddaaDone
namespace Go.Proofs.Ytlmdijijlbmddaa.pool
open Go.RowKit

/-- A row of keys, as it is read. -/
structure KR (w : World) (v : Value) (l : List (Int × Int)) : Prop where
  sl : ∃ A c, v = .slice A l.length c ∧ ∀ j x, l[j]? = some x → ∃ g, A = some ⟨g, 0, none⟩ ∧ w.cell? ⟨g, j * 2, none⟩ = some (.int .i64 x.1) ∧ w.cell? ⟨g, j * 2 + 1, none⟩ = some (.int .i64 x.2)
theorem KR.of_own {w : World} {base n : Nat} {v : Value} {l : List (Int × Int)} (h : w.ownsRow base 29 2 v n (rowsK l)) : KR w v l := by
  have hn : l.length = n := by
    have := h.1
    rw [rowsK_length] at this
    omega
  rcases h.2 with ⟨rfl, rfl⟩ | ⟨g, cap, cur, rfl, _, hh, hnc, hcap, hsz, htk⟩
  · obtain rfl : l = [] := List.eq_nil_of_length_eq_zero hn
    exact ⟨none, 0, rfl, fun j x hx => by simp at hx⟩
  · refine ⟨some ⟨g, 0, none⟩, cap, by rw [hn], fun j x hx => ⟨g, rfl, ?_, ?_⟩⟩
    all_goals
      have hj : j < l.length := (List.getElem?_eq_some_iff.1 hx).1
      have hat := rowsK_at l j x hx
      rw [← htk] at hat
      rw [List.getElem?_take_of_lt (by omega), List.getElem?_take_of_lt (by omega), Array.getElem?_toList, Array.getElem?_toList] at hat
    · rw [Nat.mul_comm]
      exact (Blk.cell (show Blk w g 29 cur from hh) (2 * j)).trans hat.1
    · rw [Nat.mul_comm]
      exact (Blk.cell (show Blk w g 29 cur from hh) (2 * j + 1)).trans hat.2
theorem KR.below {w w' : World} {v : Value} {l : List (Int × Int)} (h : KR w v l) (hb : Below w.heap.size w w') : KR w' v l := by
  obtain ⟨A, c, rfl, hat⟩ := h.sl
  refine ⟨A, c, rfl, fun j x hx => ?_⟩
  obtain ⟨g, hA, h0, h1⟩ := hat j x hx
  exact ⟨g, hA, (hb.cell (block_lt_of_cell h0)).trans h0, (hb.cell (block_lt_of_cell h1)).trans h1⟩
set_option maxRecDepth 100000 in
set_option maxHeartbeats 4000000 in
theorem rkeys_any (l k : List (Int × Int)) (u v : Value) (w : World) (hl : KR w u l) (hk : KR w v k) (h1 : l.length ≤ 100000) : Calls Try.prog 17 #[u, v] w fun e w' => e = .returned (.bool (decide (l = k))) ∧ Below w.heap.size w w' := by
  obtain ⟨A, c, rfl, hA⟩ := hl.sl
  obtain ⟨B, d, rfl, hB⟩ := hk.sl
  have HA1 := Lib.hid hA
  have HB1 := Lib.hid hB
  clear hl hk hA hB
  by_cases hne : l.length = k.length
  · have HNE := Lib.hid hne
    obtain ⟨n, hn⟩ : ∃ n, k.length = n := ⟨_, rfl⟩
    rw [hne, hn]
    have HN := Lib.hid hn
    have h3 : n ≤ 100000 := by omega
    obtain ⟨R, hR⟩ : ∃ R, decide (l = k) = R := ⟨_, rfl⟩
    rw [hR]
    have HR := Lib.hid hR
    clear hne hn h1 hR
    go_enter Try.func17, Try.ntmps17
    go_wp2
    go_loopw [5] (fun x wr => ∃ j : Nat, j ≤ n ∧ x = .int .i64 (j : Int) ∧ l.take j = k.take j ∧ Below w.heap.size w wr) (fun x _ => n + 1 - (intOf x).toNat)
    case atStart => exact ⟨0, Nat.zero_le _, rfl, rfl, Below.refl _ _⟩
    case round =>
      obtain ⟨j, hj, rfl, htk, hbw⟩ := hrel
      have HTK := Lib.hid htk
      have HBW := Lib.hid hbw
      clear htk hbw
      by_cases hlt : j < n
      · have hd : (j : Int) < (n : Int) := by omega
        obtain ⟨⟨xa, xb⟩, hx⟩ : ∃ x, l[j]? = some x := ⟨_, List.getElem?_eq_getElem (by have := HNE.out; have := HN.out; omega)⟩
        obtain ⟨⟨ya, yb⟩, hy⟩ : ∃ x, k[j]? = some x := ⟨_, List.getElem?_eq_getElem (by have := HN.out; omega)⟩
        obtain ⟨ga, hA, x0, x1⟩ := HA1.out j _ hx
        obtain ⟨gb, hB, y0, y1⟩ := HB1.out j _ hy
        have HX := Lib.hid hx
        have HY := Lib.hid hy
        subst hA hB
        have HC : Hid (∀ W, Below wr.heap.size wr W → W.cell? ⟨ga, j * 2, none⟩ = some (.int .i64 xa) ∧ W.cell? ⟨ga, j * 2 + 1, none⟩ = some (.int .i64 xb) ∧ W.cell? ⟨gb, j * 2, none⟩ = some (.int .i64 ya) ∧ W.cell? ⟨gb, j * 2 + 1, none⟩ = some (.int .i64 yb)) := Lib.hid (fun W hW => by
          have hb := HBW.out.trans (hW.mono HBW.out.size)
          exact ⟨(hb.cell (block_lt_of_cell x0)).trans x0, (hb.cell (block_lt_of_cell x1)).trans x1, (hb.cell (block_lt_of_cell y0)).trans y0, (hb.cell (block_lt_of_cell y1)).trans y1⟩)
        clear hx hy x0 x1 y0 y1
        go_wp2
        refine wp_region_done_on (GS _) (GR [] (fun _ _ _ => True) [.slice (some ⟨ga, 0, none⟩) n c, .int .i64 (j : Int), .pointer (some ⟨ga, j * 2, none⟩), .agg #[.int .i64 xa, .int .i64 xb], .slice (some ⟨gb, 0, none⟩) n d, .int .i64 (j : Int), .pointer (some ⟨gb, j * 2, none⟩), .agg #[.int .i64 ya, .int .i64 yb], .bool (!(xa == ya && xb == yb))]) (by kernel_rfl) 26 rfl (by kernel_rfl) ((Below.refl _ _).drew) ?_ ?_
        · intro i hi
          have hi2 : i < 9 := hi
          clear hi
          rcases i with _ | i
          · refine gr_value rfl (by decide) (.slice (some ⟨ga, 0, none⟩) n c) rfl ?_
            intro a8 w8 hb8 ho hn
            have o0 : a8.tmps[0]? = some _ := (ho 0 (by kernel_rfl)).trans rfl
            clear ho hn
            refine ⟨wanted_free rfl, ?_⟩
            go_simp
          rcases i with _ | i
          · refine gr_value rfl (by decide) (.int .i64 (j : Int)) rfl ?_
            intro a8 w8 hb8 ho hn
            have o5 : a8.tmps[5]? = some _ := (ho 5 (by kernel_rfl)).trans rfl
            clear ho hn
            refine ⟨wanted_free rfl, ?_⟩
            go_simp
          rcases i with _ | i
          · refine gr_value rfl (by decide) (.pointer (some ⟨ga, j * 2, none⟩)) rfl ?_
            intro a8 w8 hb8 ho hn
            obtain ⟨v17, n17, hq17⟩ := hn 0 17 (by kernel_rfl) rfl
            obtain rfl := hq17.1 (by decide)
            obtain ⟨v18, n18, hq18⟩ := hn 1 18 (by kernel_rfl) rfl
            obtain rfl := hq18.1 (by decide)
            clear ho hn
            refine ⟨wanted_free rfl, ?_⟩
            go_simp
          rcases i with _ | i
          · refine gr_value rfl (by decide) (.agg #[.int .i64 xa, .int .i64 xb]) rfl ?_
            intro a8 w8 hb8 ho hn
            obtain ⟨v19, n19, hq19⟩ := hn 2 19 (by kernel_rfl) rfl
            obtain rfl := hq19.1 (by decide)
            clear ho hn
            refine ⟨wanted_free rfl, ?_⟩
            obtain ⟨x0, x1, _, _⟩ := HC.out w8 hb8
            go_simp
          rcases i with _ | i
          · refine gr_value rfl (by decide) (.slice (some ⟨gb, 0, none⟩) n d) rfl ?_
            intro a8 w8 hb8 ho hn
            have o1 : a8.tmps[1]? = some _ := (ho 1 (by kernel_rfl)).trans rfl
            clear ho hn
            refine ⟨wanted_free rfl, ?_⟩
            go_simp
          rcases i with _ | i
          · refine gr_value rfl (by decide) (.int .i64 (j : Int)) rfl ?_
            intro a8 w8 hb8 ho hn
            have o5 : a8.tmps[5]? = some _ := (ho 5 (by kernel_rfl)).trans rfl
            clear ho hn
            refine ⟨wanted_free rfl, ?_⟩
            go_simp
          rcases i with _ | i
          · refine gr_value rfl (by decide) (.pointer (some ⟨gb, j * 2, none⟩)) rfl ?_
            intro a8 w8 hb8 ho hn
            obtain ⟨v21, n21, hq21⟩ := hn 4 21 (by kernel_rfl) rfl
            obtain rfl := hq21.1 (by decide)
            obtain ⟨v22, n22, hq22⟩ := hn 5 22 (by kernel_rfl) rfl
            obtain rfl := hq22.1 (by decide)
            clear ho hn
            refine ⟨wanted_free rfl, ?_⟩
            go_simp
          rcases i with _ | i
          · refine gr_value rfl (by decide) (.agg #[.int .i64 ya, .int .i64 yb]) rfl ?_
            intro a8 w8 hb8 ho hn
            obtain ⟨v23, n23, hq23⟩ := hn 6 23 (by kernel_rfl) rfl
            obtain rfl := hq23.1 (by decide)
            clear ho hn
            refine ⟨wanted_free rfl, ?_⟩
            obtain ⟨_, _, y0, y1⟩ := HC.out w8 hb8
            go_simp
          rcases i with _ | i
          · refine gr_value rfl (by decide) (.bool (!(xa == ya && xb == yb))) rfl ?_
            intro a8 w8 hb8 ho hn
            obtain ⟨v20, n20, hq20⟩ := hn 3 20 (by kernel_rfl) rfl
            obtain rfl := hq20.1 (by decide)
            obtain ⟨v24, n24, hq24⟩ := hn 7 24 (by kernel_rfl) rfl
            obtain rfl := hq24.1 (by decide)
            clear ho hn
            refine ⟨wanted_free rfl, ?_⟩
            go_simp
            by_cases e1 : xa = ya <;> by_cases e2 : xb = yb <;> simp [e1, e2]
          omega
        · intro dn fv w5 hb5 hR5 hall
          have h25 : fv 25 = _ := (hR5 8 25 rfl).1 (by decide)
          simp only [putAll, List.foldl_cons, List.foldl_nil, Act.put, List.setIfInBounds_toArray, List.set_cons_succ, List.set_cons_zero, h25, List.getD_cons_zero, List.getD_cons_succ]
          clear hR5 hall
          have hb5' : Below w.heap.size w w5 := HBW.out.trans (hb5.mono HBW.out.size)
          have HB5 := Lib.hid hb5'
          clear hb5 hb5'
          by_cases he : xa = ya ∧ xb = yb
          · obtain ⟨rfl, rfl⟩ := he
            simp only [beq_self_eq_true, Bool.and_self, Bool.not_true]
            go_wp2
            go_roundw
            case rel =>
              refine ⟨j + 1, by omega, by go_num, ?_, HB5.out⟩
              rw [List.take_add_one, List.take_add_one, HX.out, HY.out, HTK.out]
            case measure => (have e1 : ∀ n : Int, intOf (.int .i64 n) = n := fun _ => rfl); rw [e1, e1]; omega
          · have hv : (!(xa == ya && xb == yb)) = true := by
              simp only [Bool.not_eq_true', Bool.and_eq_false_iff, beq_eq_false_iff_ne]
              by_cases e1 : xa = ya
              · exact .inr (fun e2 => he ⟨e1, e2⟩)
              · exact .inl e1
            rw [hv]
            have hlk : ¬ l = k := fun e => by
              have h := HX.out
              rw [e, HY.out] at h
              injection h with h
              injection h with e1 e2
              exact he ⟨e1.symm, e2.symm⟩
            go_wp2
            go_ret
            exact ⟨by rw [← HR.out, decide_eq_false hlk]; rfl, HB5.out⟩
      · obtain rfl : j = n := by omega
        have hlk : l = k := by
          have h := HTK.out
          rw [List.take_of_length_le (by have := HNE.out; have := HN.out; omega), List.take_of_length_le (by have := HN.out; omega)] at h
          exact h
        go_wp2
        go_ret
        exact ⟨by rw [← HR.out, decide_eq_true hlk]; rfl, HBW.out⟩
  · have hlk : ¬ l = k := fun e => hne (by rw [e])
    rw [decide_eq_false hlk]
    have hne2 : ¬ (l.length : Int) = (k.length : Int) := by omega
    clear HA1 HB1
    go_enter Try.func17, Try.ntmps17
    go_wp2
    go_ret
    exact ⟨rfl, Below.refl _ _⟩
end Go.Proofs.Ytlmdijijlbmddaa.pool

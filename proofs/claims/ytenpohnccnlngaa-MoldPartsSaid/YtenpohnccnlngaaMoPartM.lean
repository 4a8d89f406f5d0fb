/-
  Layer 13 (mold): parts of vectors and of rows, taken, dropped, and put together again (for MoldParts).
-/
import Derived.Test.YtenpohnccnlngaaTuAll3
import Derived.Test.YtenpohnccnlngaaMoTellK
namespace Go.Proofs.Ytenpohnccnlngaa.mo
open Go.RowKit Go.Proofs.Ytenpohnccnlngaa.arr Go.Proofs.Ytenpohnccnlngaa.tu

/-- What is cut of a vector, all of it there. -/
theorem cut_seg (cf : Int → Int → Sp) (k : Int) (l : List Int) (hl : l.length ≤ 4096) (m d : Nat) (hs : cf (limN k) l.length = ⟨m, d, l.length⟩) (hm : d + m ≤ l.length) :
    mdE (vecA l) (cwE cf ⟨1, [], [k]⟩ (vecA l).sh) (ctSh cf ⟨1, [], [k]⟩ (vecA l).sh) (ctF cf ⟨1, [], [k]⟩ (vecA l).sh) = 0 ∧ mdA (vecA l) (cwE cf ⟨1, [], [k]⟩ (vecA l).sh) (ctSh cf ⟨1, [], [k]⟩ (vecA l).sh) (ctF cf ⟨1, [], [k]⟩ (vecA l).sh) = vecA ((l.drop d).take m) := by
  have ho := vecA_ok l hl
  have hE : axE ⟨1, [], [k]⟩ (vecA l).sh = 0 := by
    unfold axE
    rw [show (vecA l).sh = [(l.length : Int)] from rfl, sh_one (by omega) (by omega), if_pos rfl]
    unfold listE
    rw [one_ok, if_pos rfl]
    rfl
  have hL : axL ⟨1, [], [k]⟩ (vecA l).sh = [limN k] := by
    unfold axL
    rw [hE, if_pos rfl]
    rfl
  have hC : cutL cf (axL ⟨1, [], [k]⟩ (vecA l).sh) (sh1 (vecA l).sh) = [⟨m, d, l.length⟩] := by
    rw [hL, ← hs]
    rfl
  have hw : cwE cf ⟨1, [], [k]⟩ (vecA l).sh = 0 := by
    unfold cwE
    rw [hE, if_neg (fun h => h rfl), hC, hL, if_neg (by simp [sh1, vecA])]
    show (if okShape [(m : Int)] = true then (0 : Int) else 9) = 0
    rw [sh_one (by omega) (by omega), if_pos rfl]
  have hS : ctSh cf ⟨1, [], [k]⟩ (vecA l).sh = [(m : Int)] := by
    unfold ctSh
    rw [hC]
    rfl
  have hF : ctF cf ⟨1, [], [k]⟩ (vecA l).sh = srcF [⟨m, d, l.length⟩] := by
    unfold ctF
    rw [hC]
  have hp : (prodI [(m : Int)]).toNat = m := by
    have := prodI_one (m : Int)
    omega
  obtain ⟨g1, g2, _⟩ := go_bring (a := vecA l) (sh := [(m : Int)]) (f := srcF [⟨m, d, l.length⟩]) (g := fun i => i + d) ho (sh_one (by omega) (by omega)) (fun i hi => by
    rw [hp] at hi
    refine ⟨?_, show i + d < l.length by omega⟩
    have h := src1 ⟨m, d, l.length⟩ i (by simpa using hi) (by simp only; omega) (by simp only; omega)
    rw [h]
    simp only [Int.natCast_add])
  rw [hw, hS, hF]
  refine ⟨g1, g2.trans ?_⟩
  have hlen : ((l.drop d).take m).length = m := by rw [List.length_take, List.length_drop]; omega
  rw [bring_el (xs := (l.drop d).take m) (by rw [hp, hlen]) (fun i hi => by
    rw [hlen] at hi
    show l.getD (i + d) 0 = _
    rw [List.getElem_take, List.getElem_drop, List.getD_eq_getElem?_getD, List.getElem?_eq_getElem (by omega)]
    show l[i + d] = _
    congr 1
    omega)]
  unfold vecA
  rw [hlen]
theorem take_front (l : List Int) (hl : l.length ≤ 4096) (k : Nat) (hk : k ≤ l.length) : tkE ⟨1, [], [(k : Int)]⟩ (vecA l) = 0 ∧ tkA ⟨1, [], [(k : Int)]⟩ (vecA l) = vecA (l.take k) := by
  have h := cut_seg takN (k : Int) l hl k 0 (by
    have e : limN (k : Int) = k := by unfold limN; omega
    rw [e]
    unfold takN
    rw [if_neg (by omega)]
    rfl) (by omega)
  rw [List.drop_zero] at h
  exact h
theorem drop_front (l : List Int) (hl : l.length ≤ 4096) (k : Nat) (hk : k ≤ l.length) : dpE ⟨1, [], [(k : Int)]⟩ (vecA l) = 0 ∧ dpA ⟨1, [], [(k : Int)]⟩ (vecA l) = vecA (l.drop k) := by
  have h := cut_seg droN (k : Int) l hl (l.length - k) k (by
    have e : limN (k : Int) = k := by unfold limN; omega
    rw [e]
    unfold droN
    rw [if_neg (by omega)]
    congr 1
    omega) (by omega)
  rw [List.take_of_length_le (by rw [List.length_drop]; omega)] at h
  exact h
theorem take_back (l : List Int) (hl : l.length ≤ 4096) (k : Nat) (hk : k ≤ l.length) (h0 : 0 < k) : tkE ⟨1, [], [-(k : Int)]⟩ (vecA l) = 0 ∧ tkA ⟨1, [], [-(k : Int)]⟩ (vecA l) = vecA (l.drop (l.length - k)) := by
  have h := cut_seg takN (-(k : Int)) l hl k (l.length - k) (by
    have e : limN (-(k : Int)) = -(k : Int) := by unfold limN; omega
    rw [e]
    unfold takN
    rw [if_pos (by omega)]
    congr 1
    · omega
    · omega) (by omega)
  rw [List.take_of_length_le (by rw [List.length_drop]; omega)] at h
  exact h
theorem drop_back (l : List Int) (hl : l.length ≤ 4096) (k : Nat) (hk : k ≤ l.length) (h0 : 0 < k) : dpE ⟨1, [], [-(k : Int)]⟩ (vecA l) = 0 ∧ dpA ⟨1, [], [-(k : Int)]⟩ (vecA l) = vecA (l.take (l.length - k)) := by
  have h := cut_seg droN (-(k : Int)) l hl (l.length - k) 0 (by
    have e : limN (-(k : Int)) = -(k : Int) := by unfold limN; omega
    rw [e]
    unfold droN
    rw [if_pos (by omega)]
    congr 1
    omega) (by omega)
  rw [List.drop_zero] at h
  exact h
/-- The two parts of a vector by a number: what is taken, what is dropped. -/
def tkL (l : List Int) (k : Int) : List Int := if k < 0 then l.drop (l.length - k.natAbs) else l.take k.natAbs
def dpL (l : List Int) (k : Int) : List Int := if k < 0 then l.take (l.length - k.natAbs) else l.drop k.natAbs
theorem tkL_ok (l : List Int) (hl : l.length ≤ 4096) (k : Int) (hk : k.natAbs ≤ l.length) : tkE ⟨1, [], [k]⟩ (vecA l) = 0 ∧ tkA ⟨1, [], [k]⟩ (vecA l) = vecA (tkL l k) := by
  unfold tkL
  by_cases h : k < 0
  · have h2 := take_back l hl k.natAbs hk (by omega)
    rw [if_pos h]
    rwa [show -((k.natAbs : Nat) : Int) = k by omega] at h2
  · have h2 := take_front l hl k.natAbs hk
    rw [if_neg h]
    rwa [show ((k.natAbs : Nat) : Int) = k by omega] at h2
theorem dpL_ok (l : List Int) (hl : l.length ≤ 4096) (k : Int) (hk : k.natAbs ≤ l.length) : dpE ⟨1, [], [k]⟩ (vecA l) = 0 ∧ dpA ⟨1, [], [k]⟩ (vecA l) = vecA (dpL l k) := by
  unfold dpL
  by_cases h : k < 0
  · have h2 := drop_back l hl k.natAbs hk (by omega)
    rw [if_pos h]
    rwa [show -((k.natAbs : Nat) : Int) = k by omega] at h2
  · have h2 := drop_front l hl k.natAbs hk
    rw [if_neg h]
    rwa [show ((k.natAbs : Nat) : Int) = k by omega] at h2
theorem tkL_len (l : List Int) (k : Int) : (tkL l k).length ≤ l.length := by
  unfold tkL
  split
  · rw [List.length_drop]; omega
  · rw [List.length_take]; omega
theorem dpL_len (l : List Int) (k : Int) : (dpL l k).length ≤ l.length := by
  unfold dpL
  split
  · rw [List.length_take]; omega
  · rw [List.length_drop]; omega
theorem tkL_mem {l : List Int} {k z : Int} (h : z ∈ tkL l k) : z ∈ l := by
  unfold tkL at h
  split at h
  · exact List.mem_of_mem_drop h
  · exact List.mem_of_mem_take h
theorem dpL_mem {l : List Int} {k z : Int} (h : z ∈ dpL l k) : z ∈ l := by
  unfold dpL at h
  split at h
  · exact List.mem_of_mem_take h
  · exact List.mem_of_mem_drop h
theorem parts_back (l : List Int) (k : Int) : (if k < 0 then dpL l k ++ tkL l k else tkL l k ++ dpL l k) = l := by
  unfold tkL dpL
  by_cases h : k < 0
  · rw [if_pos h, if_pos h, if_pos h, List.take_append_drop]
  · rw [if_neg h, if_neg h, if_neg h, List.take_append_drop]

/-! ### Rows -/
def rowA (d P : Nat) (l : List Int) : AV := ⟨1, [(d : Int), (P : Int)], l⟩
theorem sh_two {d P : Nat} (hd : d ≤ 4096) (hP : P ≤ 4096) (h : d * P ≤ 4096) : okShape [(d : Int), (P : Int)] = true := by
  refine okShape_iff.2 ⟨by simp, ?_, ?_⟩
  · rw [List.all_cons, List.all_cons, List.all_nil, Bool.and_true, Bool.and_eq_true]
    exact ⟨lenOk_iff.2 ⟨by omega, by omega⟩, lenOk_iff.2 ⟨by omega, by omega⟩⟩
  · show (d : Int) * ((P : Int) * 1) ≤ 4096
    rw [Int.mul_one]
    omega
theorem prod_two (d P : Nat) : prodI [(d : Int), (P : Int)] = ((d * P : Nat) : Int) := by
  show (d : Int) * ((P : Int) * 1) = _
  rw [Int.mul_one]
  exact (Int.natCast_mul d P).symm
theorem rowA_ok {d P : Nat} {l : List Int} (hd : d ≤ 4096) (hP : P ≤ 4096) (h : d * P ≤ 4096) (hl : l.length = d * P) : okA (rowA d P l) = true :=
  okA_iff.2 ⟨sh_two hd hP h, by show ((l.length : Nat) : Int) = prodI [(d : Int), (P : Int)]; rw [prod_two, hl], rfl⟩
/-- Rows put together. -/
def rowsL (P Q d : Nat) (l m : List Int) : List Int := (List.range (d * (P + Q))).map (fun i => if i % (P + Q) < P then l.getD (i / (P + Q) * P + i % (P + Q)) 0 else m.getD (i / (P + Q) * Q + (i % (P + Q) - P)) 0)
theorem rows_len (P Q d : Nat) (l m : List Int) : (rowsL P Q d l m).length = d * (P + Q) := by simp [rowsL]
theorem rows_at (P Q d : Nat) (l m : List Int) {i : Nat} (hi : i < d * (P + Q)) : (rowsL P Q d l m).getD i 0 = if i % (P + Q) < P then l.getD (i / (P + Q) * P + i % (P + Q)) 0 else m.getD (i / (P + Q) * Q + (i % (P + Q) - P)) 0 := by
  unfold rowsL
  rw [List.getD_eq_getElem?_getD, List.getElem?_map, List.getElem?_range hi]
  rfl
theorem div_lt_rows {i d W : Nat} (h : i < d * W) : i / W < d := Nat.div_lt_of_lt_mul (by rw [Nat.mul_comm]; exact h)
theorem row_lt {r d P j : Nat} (hr : r < d) (hj : j < P) : r * P + j < d * P := by
  have h : (r + 1) * P ≤ d * P := Nat.mul_le_mul_right P hr
  rw [Nat.add_mul, Nat.one_mul] at h
  omega
theorem cat_rows {d P Q : Nat} {l m : List Int} (hd4 : d ≤ 4096) (hP : 0 < P) (hQ : 0 < Q) (hW : P + Q ≤ 4096) (h : d * (P + Q) ≤ 4096) (hl : l.length = d * P) (hm : m.length = d * Q) :
    ctE (rowA d P l) (rowA d Q m) = 0 ∧ ctA (rowA d P l) (rowA d Q m) = rowA d (P + Q) (rowsL P Q d l m) := by
  have hdP : d * P ≤ 4096 := Nat.le_trans (Nat.mul_le_mul_left d (by omega)) h
  have hdQ : d * Q ≤ 4096 := Nat.le_trans (Nat.mul_le_mul_left d (by omega)) h
  have oa := rowA_ok (l := l) hd4 (by omega) hdP hl
  have ob := rowA_ok (l := m) hd4 (by omega) hdQ hm
  have e1 : exL [(d : Int), (P : Int)] [(d : Int), (Q : Int)] = [(d : Int), (P : Int)] := rfl
  have e2 : exL [(d : Int), (Q : Int)] [(d : Int), (P : Int)] = [(d : Int), (Q : Int)] := rfl
  have eN : ctwN [(d : Int), (P : Int)] [(d : Int), (Q : Int)] = 1 := rfl
  have hL : ctwL [(d : Int), (P : Int)] [(d : Int), (Q : Int)] = [(d : Int), ((P + Q : Nat) : Int)] := by
    unfold ctwL
    rw [eN, e1, e2]
    show [(d : Int), (P : Int) + (Q : Int)] = _
    rw [Int.natCast_add]
  have hE : ctwE [(d : Int), (P : Int)] [(d : Int), (Q : Int)] = 0 := by
    unfold ctwE
    rw [hL, eN, e1, e2, sh_two hd4 (by omega) hdP, sh_two hd4 (by omega) hdQ, if_neg (by decide), if_neg (by simp), if_neg (by simp), sh_two hd4 hW h, if_pos rfl]
  have hF : ctwF [(d : Int), (P : Int)] [(d : Int), (Q : Int)] = catF (P + Q) P Q (d * P) (d * Q) := by
    unfold ctwF
    rw [eN, e1, e2, prod_two, prod_two]
    show catF ((P : Int) + (Q : Int)).toNat (P : Int).toNat (Q : Int).toNat ((d * P : Nat) : Int).toNat ((d * Q : Nat) : Int).toNat = _
    rw [← Int.natCast_add, Int.toNat_natCast, Int.toNat_natCast, Int.toNat_natCast, Int.toNat_natCast, Int.toNat_natCast]
  obtain ⟨c1, c2⟩ := cat_made oa ob rfl
  obtain ⟨c3, c4, c5, c6⟩ := c2 hE
  refine ⟨c1.trans hE, c6.trans ?_⟩
  show (⟨1, ctwL [(d : Int), (P : Int)] [(d : Int), (Q : Int)], (List.range (prodI (ctwL [(d : Int), (P : Int)] [(d : Int), (Q : Int)])).toNat).map (fun i : Nat => elV 1 [rowA d P l, rowA d Q m] (ctwF [(d : Int), (P : Int)] [(d : Int), (Q : Int)] (i : Int).toNat))⟩ : AV) = _
  rw [hL, hF, prod_two, Int.toNat_natCast]
  unfold rowA rowsL
  congr 1
  apply List.map_congr_left
  intro i hi
  have hi2 := List.mem_range.1 hi
  have hr := div_lt_rows hi2
  have hlt := Nat.mod_lt i (show 0 < P + Q by omega)
  rw [Int.toNat_natCast]
  unfold catF
  by_cases hc : i % (P + Q) < P
  · have hx := row_lt hr hc
    rw [if_pos hc, if_pos hc, Nat.mod_eq_of_lt hx]
    generalize i / (P + Q) * P + i % (P + Q) = x at *
    show (l[(x : Int).toNat]?).getD 0 = _
    rw [Int.toNat_natCast, List.getD_eq_getElem?_getD]
  · have hx := row_lt hr (show i % (P + Q) - P < Q by omega)
    rw [if_neg hc, if_neg hc, Nat.mod_eq_of_lt hx]
    generalize i / (P + Q) * Q + (i % (P + Q) - P) = x at *
    show (m[(x : Int).toNat]?).getD 0 = _
    rw [Int.toNat_natCast, List.getD_eq_getElem?_getD]
/-- Where the elements of a part of rows come from. -/
theorem src_two {d M W e i : Nat} (hM : e + M ≤ W) (hi : i < d * M) : srcF [⟨d, 0, d⟩, ⟨M, e, W⟩] i = (0, ((i / M * W + (i % M + e) : Nat) : Int)) := by
  have hM0 : 0 < M := by
    rcases Nat.eq_zero_or_pos M with h | h
    · rw [h] at hi; omega
    · exact h
  have hr := div_lt_rows hi
  have hlt := Nat.mod_lt i hM0
  have b1 : behN [⟨d, 0, d⟩, ⟨M, e, W⟩] 1 = M := by
    show (prodI [(M : Int)]).toNat = M
    rw [prodI_one, Int.toNat_natCast]
  have b2 : behN [⟨d, 0, d⟩, ⟨M, e, W⟩] 2 = 1 := rfl
  have x0 : ixV [⟨d, 0, d⟩, ⟨M, e, W⟩] i 0 = ((i / M : Nat) : Int) := by
    show (((i / behN [⟨d, 0, d⟩, ⟨M, e, W⟩] 1) % (d : Int).toNat : Nat) : Int) + 0 = _
    rw [b1, Int.toNat_natCast, Nat.mod_eq_of_lt hr, Int.add_zero]
  have x1 : ixV [⟨d, 0, d⟩, ⟨M, e, W⟩] i 1 = ((i % M + e : Nat) : Int) := by
    show (((i / behN [⟨d, 0, d⟩, ⟨M, e, W⟩] 2) % (M : Int).toNat : Nat) : Int) + (e : Int) = _
    rw [b2, Int.toNat_natCast, Nat.div_one]
    push_cast
    rfl
  have n0 := Int.natCast_nonneg (i / M)
  have n1 := Int.natCast_nonneg (i % M)
  have hb0 : badB [⟨d, 0, d⟩, ⟨M, e, W⟩] i 0 = false := by
    unfold badB
    rw [x0, show hasV [⟨d, 0, d⟩, ⟨M, e, W⟩] 0 = (d : Int) from rfl, Bool.or_eq_false_iff, decide_eq_false_iff_not, decide_eq_false_iff_not]
    omega
  have hb1 : badB [⟨d, 0, d⟩, ⟨M, e, W⟩] i 1 = false := by
    unfold badB
    rw [x1, show hasV [⟨d, 0, d⟩, ⟨M, e, W⟩] 1 = (W : Int) from rfl, Bool.or_eq_false_iff, decide_eq_false_iff_not, decide_eq_false_iff_not]
    omega
  unfold srcF
  have ha : anyBad [⟨d, 0, d⟩, ⟨M, e, W⟩] i 2 = false := by
    rw [anyBad_succ, anyBad_succ, hb0, hb1]
    rfl
  show (if anyBad [⟨d, 0, d⟩, ⟨M, e, W⟩] i 2 = true then ((-1 : Int), (0 : Int)) else (0, srcP [⟨d, 0, d⟩, ⟨M, e, W⟩] i 2)) = _
  rw [ha, if_neg (by decide)]
  congr 1
  show (0 * hasV [⟨d, 0, d⟩, ⟨M, e, W⟩] 0 + ixV [⟨d, 0, d⟩, ⟨M, e, W⟩] i 0) * hasV [⟨d, 0, d⟩, ⟨M, e, W⟩] 1 + ixV [⟨d, 0, d⟩, ⟨M, e, W⟩] i 1 = _
  rw [x0, x1, show hasV [⟨d, 0, d⟩, ⟨M, e, W⟩] 1 = (W : Int) from rfl, Int.zero_mul, Int.zero_add]
  push_cast
  rfl
theorem two_listE (x y : Int) : listE (vecA [x, y]) = 0 := by
  unfold listE
  rw [vecA_ok [x, y] (by simp), if_pos rfl]
  rfl
/-- A part of rows, all of it there. -/
theorem cut_rows (cf : Int → Int → Sp) (k1 k2 : Int) {d W : Nat} {c : List Int} (hd : d ≤ 4096) (hW : W ≤ 4096) (h : d * W ≤ 4096) (hc : c.length = d * W) (M e : Nat) (h1 : cf (limN k1) d = ⟨d, 0, d⟩) (h2 : cf (limN k2) W = ⟨M, e, W⟩) (hM : e + M ≤ W) {xs : List Int} (hx : xs.length = d * M) (hxs : ∀ (i : Nat) (hi : i < xs.length), c.getD (i / M * W + (i % M + e)) 0 = xs[i]) :
    mdE (rowA d W c) (cwE cf (vecA [k1, k2]) (rowA d W c).sh) (ctSh cf (vecA [k1, k2]) (rowA d W c).sh) (ctF cf (vecA [k1, k2]) (rowA d W c).sh) = 0 ∧ mdA (rowA d W c) (cwE cf (vecA [k1, k2]) (rowA d W c).sh) (ctSh cf (vecA [k1, k2]) (rowA d W c).sh) (ctF cf (vecA [k1, k2]) (rowA d W c).sh) = rowA d M xs := by
  have ho := rowA_ok (l := c) hd hW h hc
  have hsh : (rowA d W c).sh = [(d : Int), (W : Int)] := rfl
  have hE : axE (vecA [k1, k2]) (rowA d W c).sh = 0 := by
    unfold axE
    rw [hsh, sh_two hd hW h, if_pos rfl]
    exact two_listE k1 k2
  have hL : axL (vecA [k1, k2]) (rowA d W c).sh = [limN k1, limN k2] := by
    unfold axL
    rw [hE, if_pos rfl]
    rfl
  have hC : cutL cf (axL (vecA [k1, k2]) (rowA d W c).sh) (sh1 (rowA d W c).sh) = [⟨d, 0, d⟩, ⟨M, e, W⟩] := by
    rw [hL, ← h1, ← h2]
    rfl
  have hdM : d * M ≤ 4096 := Nat.le_trans (Nat.mul_le_mul_left d (by omega)) h
  have hw : cwE cf (vecA [k1, k2]) (rowA d W c).sh = 0 := by
    unfold cwE
    rw [hE, if_neg (fun h => h rfl), hC, hL, if_neg (by simp [sh1, rowA])]
    show (if okShape [(d : Int), (M : Int)] = true then (0 : Int) else 9) = 0
    rw [sh_two hd (by omega) hdM, if_pos rfl]
  have hS : ctSh cf (vecA [k1, k2]) (rowA d W c).sh = [(d : Int), (M : Int)] := by
    unfold ctSh
    rw [hC]
    rfl
  have hF : ctF cf (vecA [k1, k2]) (rowA d W c).sh = srcF [⟨d, 0, d⟩, ⟨M, e, W⟩] := by
    unfold ctF
    rw [hC]
  have hp : (prodI [(d : Int), (M : Int)]).toNat = d * M := by rw [prod_two, Int.toNat_natCast]
  obtain ⟨g1, g2, _⟩ := go_bring (a := rowA d W c) (sh := [(d : Int), (M : Int)]) (f := srcF [⟨d, 0, d⟩, ⟨M, e, W⟩]) (g := fun i => i / M * W + (i % M + e)) ho (sh_two hd (by omega) hdM) (fun i hi => by
    rw [hp] at hi
    refine ⟨src_two hM hi, ?_⟩
    have hM0 : 0 < M := by
      rcases Nat.eq_zero_or_pos M with h | h
      · rw [h] at hi; omega
      · exact h
    have hlt := Nat.mod_lt i hM0
    have := row_lt (P := W) (div_lt_rows hi) (show i % M + e < W by omega)
    show i / M * W + (i % M + e) < c.length
    omega)
  rw [hw, hS, hF]
  refine ⟨g1, g2.trans ?_⟩
  exact bring_el (by rw [hp, hx]) hxs
theorem take_rows {d P Q : Nat} {l m : List Int} (hd4 : d ≤ 4096) (hP : 0 < P) (hW : P + Q ≤ 4096) (h : d * (P + Q) ≤ 4096) (hl : l.length = d * P) :
    tkE (vecA [(d : Int), (P : Int)]) (rowA d (P + Q) (rowsL P Q d l m)) = 0 ∧ tkA (vecA [(d : Int), (P : Int)]) (rowA d (P + Q) (rowsL P Q d l m)) = rowA d P l := by
  have hn : ∀ n h : Nat, n ≤ 4096 → takN (limN (n : Int)) (h : Int) = ⟨n, 0, h⟩ := fun n h hn => by
    have e : limN (n : Int) = n := by unfold limN; omega
    rw [e]
    unfold takN
    rw [if_neg (by omega)]
  refine cut_rows takN (d : Int) (P : Int) hd4 hW h (rows_len _ _ _ _ _) P 0 (hn d d hd4) (hn P (P + Q) (by omega)) (by omega) hl (fun i hi => ?_)
  rw [hl] at hi
  have hr := div_lt_rows hi
  have hlt := Nat.mod_lt i hP
  rw [Nat.add_zero, rows_at _ _ _ _ _ (row_lt hr (by omega))]
  have e1 : (i / P * (P + Q) + i % P) % (P + Q) = i % P := by rw [Nat.mul_comm, Nat.mul_add_mod, Nat.mod_eq_of_lt (by omega)]
  have e2 : (i / P * (P + Q) + i % P) / (P + Q) = i / P := by
    rw [Nat.mul_comm, Nat.mul_add_div (by omega), Nat.div_eq_of_lt (show i % P < P + Q by omega), Nat.add_zero]
  rw [e1, e2, if_pos hlt, Nat.mul_comm (i / P) P, Nat.div_add_mod, List.getD_eq_getElem?_getD, List.getElem?_eq_getElem (by omega)]
  rfl
theorem drop_rows {d P Q : Nat} {l m : List Int} (hd4 : d ≤ 4096) (hQ : 0 < Q) (hW : P + Q ≤ 4096) (h : d * (P + Q) ≤ 4096) (hm : m.length = d * Q) :
    dpE (vecA [0, (P : Int)]) (rowA d (P + Q) (rowsL P Q d l m)) = 0 ∧ dpA (vecA [0, (P : Int)]) (rowA d (P + Q) (rowsL P Q d l m)) = rowA d Q m := by
  refine cut_rows droN 0 (P : Int) hd4 hW h (rows_len _ _ _ _ _) Q P ?_ ?_ (by omega) hm (fun i hi => ?_)
  · have e : limN 0 = 0 := by decide
    rw [e]
    unfold droN
    rw [if_neg (by omega)]
    congr 1 <;> omega
  · have e : limN (P : Int) = P := by unfold limN; omega
    rw [e]
    unfold droN
    rw [if_neg (by omega)]
    congr 1
    push_cast
    omega
  · rw [hm] at hi
    have hr := div_lt_rows hi
    have hlt := Nat.mod_lt i hQ
    rw [rows_at _ _ _ _ _ (row_lt hr (by omega))]
    have e1 : (i / Q * (P + Q) + (i % Q + P)) % (P + Q) = i % Q + P := by rw [Nat.mul_comm, Nat.mul_add_mod, Nat.mod_eq_of_lt (by omega)]
    have e2 : (i / Q * (P + Q) + (i % Q + P)) / (P + Q) = i / Q := by
      rw [Nat.mul_comm, Nat.mul_add_div (by omega), Nat.div_eq_of_lt (show i % Q + P < P + Q by omega), Nat.add_zero]
    rw [e1, e2, if_neg (by omega), Nat.add_sub_cancel, Nat.mul_comm (i / Q) Q, Nat.div_add_mod, List.getD_eq_getElem?_getD, List.getElem?_eq_getElem (by omega)]
    rfl
end Go.Proofs.Ytenpohnccnlngaa.mo

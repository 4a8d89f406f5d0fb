/-
  Layer 13 (mold): Tally.
  Layer 13 (mold): how long what is catenated, taken and dropped of vectors is.
  Layer 13 (mold): Ravel.
  Layer 13 (mold): Shape.
  Layer 13 (mold): what is reshaped of a ravel, and of any array.
  Layer 13 (mold): a cut's places lie in the array; what is taken and dropped of any array is made.
-/
import Derived.Test.YtenpohnccnlngaaMoVec
import Derived.Test.YtenpohnccnlngaaMoCatE
import Derived.Test.YtenpohnccnlngaaMoAlive
import Derived.Test.YtenpohnccnlngaaArCopy
import Derived.Test.YtenpohnccnlngaaArMake
namespace Go.Proofs.Ytenpohnccnlngaa.mo
open Go.RowKit Go.Proofs.Ytenpohnccnlngaa.arr

/-- Tally's error, and what it makes. -/
def tyN (a : AV) : Int := if a.sh.length = 0 then 1 else a.sh.getD 0 0
def tyE (a : AV) : Int := if okA a = true then 0 else 110
def tyA (a : AV) : AV := if okA a = true then ⟨1, [], [tyN a]⟩ else noA
set_option maxRecDepth 100000 in
set_option maxHeartbeats 4000000 in
theorem motally_any (a : AV) (p : AP) (w : World) (ha : AEl w a p) :
    Calls Try.prog 25 #[.agg (arC a p)] w (GiveE (tyA a) (tyE a) w) := by
  have hI := OnI.start ha
  obtain ⟨w1, hw1⟩ : ∃ w1, (w.alloc (.cells (arC a p) 25)).alloc (.cells #[.int .i64 0, .slice none 0 0, .slice none 0 0] 25) = w1 := ⟨_, rfl⟩
  rw [hw1] at hI
  have HCA := Lib.hid (fun W (h : OnI w a p W) => archeck_any a p W h.ea)
  have hca : checkE a = if okA a = true then 0 else 110 := rfl
  have hE : tyE a = if okA a = true then 0 else 110 := rfl
  have hA : tyA a = if okA a = true then ⟨1, [], [tyN a]⟩ else noA := rfl
  have hN : tyN a = if a.sh.length = 0 then 1 else a.sh.getD 0 0 := rfl
  have hLC : arC a p = #[.int .i64 a.kind, .slice p.A0 a.sh.length p.c0, .slice p.A1 a.el.length p.c1] := rfl
  have HI := Lib.hid hI
  have HC := Lib.hid (fun W (h : OnI w a p W) => h.cells)
  obtain ⟨⟨x0, x1, x2⟩, ⟨r0, r1, r2⟩, f0, f1, f2⟩ := HC.out w1 hI
  have HEL : Hid (0 < a.sh.length → ∃ ad, p.A0 = some ad ∧ ∀ W, OnI w a p W → W.cell? ad = some (.int .i64 (a.sh.getD 0 0))) := Lib.hid (fun hs => by
    obtain ⟨ad, e, _, _⟩ := ha.r0.2 (by omega)
    have hx : a.sh[0]? = some (a.sh.getD 0 0) := by
      rw [List.getD_eq_getElem?_getD, List.getElem?_eq_getElem hs]
      rfl
    refine ⟨ad, e, fun W h => ?_⟩
    obtain ⟨ad2, e2, _, hc⟩ := h.ea.r0.2 (by omega)
    rw [e] at e2
    injection e2 with e2
    subst e2
    have hq := hc 0 _ (by rw [List.getElem?_map, hx]; rfl)
    have e0 : ad.add 0 = ad := by
      unfold Addr.add
      simp
    rw [e0] at hq
    exact hq)
  have HSC : Hid (∀ (n : Int) (W : World), Calls Try.prog 16 #[.int .i64 n] W fun e w' => ∃ r : AP, e = .returned (.agg #[.int .i64 1, .slice r.A0 0 r.c0, .slice r.A1 1 r.c1]) ∧ AOwn W.heap.size w' ⟨1, [], [n]⟩ r ∧ Below W.heap.size W w') := Lib.hid (fun n W => (arscalar_any n W).mono (by
    rintro e w' ⟨v, rfl, r, rfl, o, b⟩
    exact ⟨r, rfl, o, b⟩))
  rw [hLC] at HCA hw1
  rw [hLC]
  generalize a.kind = ka at *
  obtain ⟨X, hX⟩ : ∃ X, tyA a = X := ⟨_, rfl⟩
  obtain ⟨E, hE2⟩ : ∃ E, tyE a = E := ⟨_, rfl⟩
  obtain ⟨x, hx⟩ : ∃ x, tyN a = x := ⟨_, rfl⟩
  rw [hX, hE2]
  rw [hX, hx] at hA
  rw [hE2] at hE
  rw [hx] at hN
  generalize a.sh.getD 0 0 = y at *
  clear ha hI hLC hX hE2 hx
  cases hoa : okA a
  · rw [hoa, if_neg (by decide)] at hca hE hA
    subst hE
    subst hA
    rw [hca] at HCA
    clear hca HEL hN
    go_enter Try.func25, Try.ntmps25
    go_wp2_with (go_at_call 32; (try rw [hw1]); refine (HCA.out _ HI.out).mono ?_; rintro e w2 ⟨rfl, b2⟩; have hI2 := HI.out.below b2; obtain ⟨⟨x0, x1, x2⟩, ⟨r0, r1, r2⟩, f0, f1, f2⟩ := HC.out w2 hI2; have HI2 := Lib.hid hI2; clear b2 hI2)
    refine bodyPost_ret (results_arr2 rfl rfl rfl (arblk_three _ _ _ HI2.out.r)) rfl ?_
    exact GiveE.no rfl (HI2.out.fin _ _ _)
  rw [hoa, if_pos rfl] at hca hE hA
  subst hE
  rw [hca] at HCA
  clear hca
  by_cases hs : a.sh.length = 0
  · rw [if_pos hs] at hN
    subst hN
    subst hA
    rw [hs] at HCA x1 HC hw1
    rw [hs]
    clear HEL hs
    go_enter Try.func25, Try.ntmps25
    go_wp2_with (first
      | (go_at_call 32; (try rw [hw1]); refine (HCA.out _ HI.out).mono ?_; rintro e w2 ⟨rfl, b2⟩; have hI2 := HI.out.below b2; obtain ⟨⟨x0, x1, x2⟩, _⟩ := HC.out w2 hI2; have HI2 := Lib.hid hI2; clear b2 hI2)
      | (go_at_call 16; refine (HSC.out 1 w2).mono ?_; rintro e w3 ⟨r, rfl, o3, b3⟩; have HGV := Lib.hid (HI2.out.give b3 o3); have hI3 := HI2.out.below b3; obtain ⟨_, ⟨r0, r1, r2⟩, f0, f1, f2⟩ := HC.out _ hI3; have HI3 := Lib.hid hI3; clear o3 b3 hI3))
    refine bodyPost_ret (results_arr2 rfl rfl rfl (arblk_three _ _ _ HI3.out.r)) rfl ?_
    exact ⟨r, rfl, HGV.out⟩
  · rw [if_neg hs] at hN
    subst hN
    subst hA
    obtain ⟨ad, hA0, hcell⟩ := HEL.out (by omega)
    have HCELL := Lib.hid hcell
    have hs2 : ((a.sh.length : Int) == 0) = false := by rw [beq_eq_false_iff_ne]; omega
    have hs3 : (0 : Int) < (a.sh.length : Int) := by omega
    rw [hA0] at HCA x1 HC hw1
    rw [hA0]
    clear HEL hs hcell hA0
    generalize a.sh.length = q at *
    go_enter Try.func25, Try.ntmps25
    go_wp2_with (first
      | (go_at_call 32; (try rw [hw1]); refine (HCA.out _ HI.out).mono ?_; rintro e w2 ⟨rfl, b2⟩; have hI2 := HI.out.below b2; obtain ⟨⟨x0, x1, x2⟩, _⟩ := HC.out w2 hI2; have y0 := HCELL.out w2 hI2; have HI2 := Lib.hid hI2; clear b2 hI2)
      | (go_at_call 16; refine (HSC.out _ w2).mono ?_; rintro e w3 ⟨r, rfl, o3, b3⟩; have HGV := Lib.hid (HI2.out.give b3 o3); have hI3 := HI2.out.below b3; obtain ⟨_, ⟨r0, r1, r2⟩, f0, f1, f2⟩ := HC.out _ hI3; have HI3 := Lib.hid hI3; clear o3 b3 hI3))
    refine bodyPost_ret (results_arr2 rfl rfl rfl (arblk_three _ _ _ HI3.out.r)) rfl ?_
    exact ⟨r, rfl, HGV.out⟩
end Go.Proofs.Ytenpohnccnlngaa.mo

namespace Go.Proofs.Ytenpohnccnlngaa.mo
open Go.RowKit Go.Proofs.Ytenpohnccnlngaa.arr

theorem prodI_one (x : Int) : prodI [x] = x := Int.mul_one _
theorem vec_ok (l : List Int) (h : l.length ≤ 4096) : okA ⟨1, [(l.length : Int)], l⟩ = true :=
  okA_iff.2 ⟨sh_one (by omega) (by omega), (prodI_one _).symm, rfl⟩
theorem goE_one {ls : List AV} {f : Nat → Int × Int} {m : Nat} (hm : m ≤ 4096) (h : ∀ i < m, elB 1 ls (f i) = true) : goE 1 ls [(m : Int)] f = 0 ∧ goA 1 ls [(m : Int)] f = makeA 1 [(m : Int)] (goV 1 ls f) := by
  have hpm : (prodI [(m : Int)]).toNat = m := by
    have := prodI_one (m : Int)
    omega
  have hE : goE 1 ls [(m : Int)] f = 0 := by
    unfold goE
    rw [if_neg (by decide), hpm, astB_no h, if_neg (by decide)]
    unfold checkE goR
    rw [okA_mk _ hm, if_pos rfl]
  refine ⟨hE, ?_⟩
  unfold goA goR
  rw [hE, if_pos rfl]
theorem mk_len (m : Nat) (f : Int → Int) : (makeA 1 [(m : Int)] f).el.length = m := by
  show (fL f (prodI [(m : Int)]).toNat).length = m
  rw [fL_length, prodI_one]
  omega
theorem mk_fine {m : Nat} {f : Int → Int} (h : ∀ z, -9223372036854775808 ≤ f z ∧ f z ≤ 9223372036854775807) : ∀ z ∈ (makeA 1 [(m : Int)] f).el, -9223372036854775808 ≤ z ∧ z ≤ 9223372036854775807 := fun z hz => by
  obtain ⟨i, _, rfl⟩ := List.mem_map.1 (show z ∈ (List.range _).map _ from hz)
  exact h _
/-- Two vectors are put together. -/
theorem cat_vec (l m : List Int) (hl : l.length ≤ 2000) (hm : m.length ≤ 2000) :
    ctE ⟨1, [(l.length : Int)], l⟩ ⟨1, [(m.length : Int)], m⟩ = 0 ∧ ∃ f, ctA ⟨1, [(l.length : Int)], l⟩ ⟨1, [(m.length : Int)], m⟩ = makeA 1 [((l.length + m.length : Nat) : Int)] (goV 1 [⟨1, [(l.length : Int)], l⟩, ⟨1, [(m.length : Int)], m⟩] f) := by
  obtain ⟨p, hp⟩ : ∃ p, l.length = p := ⟨_, rfl⟩
  obtain ⟨q, hq⟩ : ∃ q, m.length = q := ⟨_, rfl⟩
  have o1 := vec_ok l (by omega)
  have o2 := vec_ok m (by omega)
  rw [hp] at o1
  rw [hq] at o2
  rw [hp, hq]
  have e1 : exL [(p : Int)] [(q : Int)] = [(p : Int)] := rfl
  have e2 : exL [(q : Int)] [(p : Int)] = [(q : Int)] := rfl
  have eN : ctwN [(p : Int)] [(q : Int)] = 0 := rfl
  have hL : ctwL [(p : Int)] [(q : Int)] = [((p + q : Nat) : Int)] := by
    unfold ctwL
    rw [eN, e1, e2]
    show [(p : Int) + (q : Int)] = _
    rw [Int.natCast_add]
  have hE : ctwE [(p : Int)] [(q : Int)] = 0 := by
    unfold ctwE
    rw [hL, eN, e1, e2, sh_one (by omega) (by omega), sh_one (by omega) (by omega), if_neg (by decide), if_neg (by simp), if_neg (by simp), sh_one (by omega) (by omega), if_pos rfl]
  have hF : ctwF [(p : Int)] [(q : Int)] = catF (p + q) p q p q := by
    unfold ctwF
    rw [eN, e1, e2, prodI_one, prodI_one]
    show catF ((p : Int) + (q : Int)).toNat (p : Int).toNat (q : Int).toNat (p : Int).toNat (q : Int).toNat = _
    rw [← Int.natCast_add, Int.toNat_natCast, Int.toNat_natCast, Int.toNat_natCast]
  have hel : ∀ i < p + q, elB 1 [⟨1, [(p : Int)], l⟩, ⟨1, [(q : Int)], m⟩] (catF (p + q) p q p q i) = true := fun i hi => by
    unfold catF
    by_cases h : i % (p + q) < p
    · rw [if_pos h]
      have hlt := Nat.mod_lt (i / (p + q) * p + i % (p + q)) (show 0 < p by omega)
      generalize (i / (p + q) * p + i % (p + q)) % p = x at *
      show (l[(x : Int).toNat]?).isSome = true
      rw [Int.toNat_natCast, List.getElem?_eq_getElem (by omega)]
      rfl
    · rw [if_neg h]
      have h2 := Nat.mod_lt i (show 0 < p + q by omega)
      have hlt := Nat.mod_lt (i / (p + q) * q + (i % (p + q) - p)) (show 0 < q by omega)
      generalize (i / (p + q) * q + (i % (p + q) - p)) % q = x at *
      show (m[(x : Int).toNat]?).isSome = true
      rw [Int.toNat_natCast, List.getElem?_eq_getElem (by omega)]
      rfl
  obtain ⟨g1, g2⟩ := goE_one (by omega) hel
  refine ⟨?_, catF (p + q) p q p q, ?_⟩
  · unfold ctE
    rw [o1, o2]
    show (if (true && true) = false then (110 : Int) else if (1 : Int) ≠ 1 ∧ (ctwE [(p : Int)] [(q : Int)] = 0 ∨ ctwE [(p : Int)] [(q : Int)] = 9) then 5 else if ctwE [(p : Int)] [(q : Int)] ≠ 0 then ctwE [(p : Int)] [(q : Int)] else goE 1 [⟨1, [(p : Int)], l⟩, ⟨1, [(q : Int)], m⟩] (ctwL [(p : Int)] [(q : Int)]) (ctwF [(p : Int)] [(q : Int)])) = 0
    rw [if_neg (by decide), if_neg (fun h => h.1 rfl), if_neg (fun h => h hE), hL, hF, g1]
  · unfold ctA
    rw [o1, o2]
    show (if (true && true) = false then noA else if (1 : Int) ≠ 1 ∧ (ctwE [(p : Int)] [(q : Int)] = 0 ∨ ctwE [(p : Int)] [(q : Int)] = 9) then noA else if ctwE [(p : Int)] [(q : Int)] ≠ 0 then noA else goA 1 [⟨1, [(p : Int)], l⟩, ⟨1, [(q : Int)], m⟩] (ctwL [(p : Int)] [(q : Int)]) (ctwF [(p : Int)] [(q : Int)])) = _
    rw [if_neg (by decide), if_neg (fun h => h.1 rfl), if_neg (fun h => h hE), hL, hF, g2]
theorem srcB (s : Sp) (a : AV) (hs : s.has = a.el.length) (i : Nat) (h : i < s.len.toNat) : elB 1 [a] (srcF [s] i) = true := by
  by_cases hb : badB [s] i 0 = true
  · have ha : anyBad [s] i 1 = true := by
      show (badB [s] i 0 || false) = true
      rw [hb]
      rfl
    have e : srcF [s] i = (-1, 0) := by
      unfold srcF
      show (if anyBad [s] i 1 = true then ((-1 : Int), (0 : Int)) else (0, srcP [s] i 1)) = _
      rw [if_pos ha]
    rw [e]
    rfl
  · have hb2 := hb
    unfold badB at hb
    rw [ix1 s i h] at hb
    have hb3 : ¬ ((decide ((i : Int) + s.frm < 0) || decide (s.has ≤ (i : Int) + s.frm)) = true) := hb
    rw [Bool.or_eq_true, decide_eq_true_eq, decide_eq_true_eq] at hb3
    rw [src1 s i h (by omega) (by omega)]
    unfold elB
    rw [el1 a 1 _ (by omega), List.getElem?_eq_getElem (by omega)]
    rfl
/-- What is cut of a vector. -/
theorem cut_one (cf : Int → Int → Sp) (n : Int) (a : AV) (p : Nat) (hp : p ≤ 4096) (hs : a.sh = [(p : Int)]) (ho : okA a = true) (hk : a.kind = 1) (s : Sp) (hsd : cf (limN n) p = s) (hh : s.has = p) (h0 : 0 ≤ s.len) :
    (s.len ≤ 4096 → mdE a (cwE cf ⟨1, [], [n]⟩ a.sh) (ctSh cf ⟨1, [], [n]⟩ a.sh) (ctF cf ⟨1, [], [n]⟩ a.sh) = 0 ∧ ∃ f, mdA a (cwE cf ⟨1, [], [n]⟩ a.sh) (ctSh cf ⟨1, [], [n]⟩ a.sh) (ctF cf ⟨1, [], [n]⟩ a.sh) = makeA 1 [((s.len.toNat : Nat) : Int)] (goV 1 [a] f)) ∧
    (4096 < s.len → mdE a (cwE cf ⟨1, [], [n]⟩ a.sh) (ctSh cf ⟨1, [], [n]⟩ a.sh) (ctF cf ⟨1, [], [n]⟩ a.sh) = 9 ∧ mdA a (cwE cf ⟨1, [], [n]⟩ a.sh) (ctSh cf ⟨1, [], [n]⟩ a.sh) (ctF cf ⟨1, [], [n]⟩ a.sh) = noA) := by
  rw [hs]
  have hE : axE ⟨1, [], [n]⟩ [(p : Int)] = 0 := by
    unfold axE
    rw [sh_one (by omega) (by omega), if_pos rfl]
    unfold listE
    rw [one_ok, if_pos rfl]
    rfl
  have hL : axL ⟨1, [], [n]⟩ [(p : Int)] = [limN n] := by
    unfold axL
    rw [hE, if_pos rfl]
    rfl
  have hC : cutL cf (axL ⟨1, [], [n]⟩ [(p : Int)]) (sh1 [(p : Int)]) = [s] := by
    rw [hL, ← hsd]
    rfl
  have hw : cwE cf ⟨1, [], [n]⟩ [(p : Int)] = if okShape [s.len] = true then 0 else 9 := by
    unfold cwE
    rw [hE, if_neg (fun h => h rfl), hC, hL, if_neg (by simp [sh1])]
    rfl
  have hlen : a.el.length = p := by
    have := (okA_iff.1 ho).2.1
    rw [hs, prodI_one] at this
    omega
  obtain ⟨m, hm⟩ := Int.eq_ofNat_of_zero_le h0
  have hmt : s.len.toNat = m := by omega
  have hS : ctSh cf ⟨1, [], [n]⟩ [(p : Int)] = [(m : Int)] := by
    unfold ctSh
    rw [hC, ← hm]
    rfl
  have hF : ctF cf ⟨1, [], [n]⟩ [(p : Int)] = srcF [s] := by
    unfold ctF
    rw [hC]
  refine ⟨fun h => ?_, fun h => ?_⟩
  · rw [hw, sh_one h0 h, if_pos rfl, hS, hF, hmt]
    obtain ⟨g1, g2⟩ := goE_one (ls := [a]) (f := srcF [s]) (show m ≤ 4096 by omega) (fun i hi => srcB s a (by omega) i (by omega))
    refine ⟨?_, srcF [s], ?_⟩
    · unfold mdE
      rw [ho, if_neg (by decide), if_neg (fun h => h rfl), hk, g1]
    · unfold mdA
      rw [ho, if_neg (by decide), if_neg (fun h => h rfl), hk, g2]
  · have hno : okShape [s.len] = false := by
      cases e : okShape [s.len] with
      | false => rfl
      | true =>
        have := (okShape_iff.1 e).2.2
        rw [prodI_one] at this
        omega
    rw [hw, hno, if_neg (by decide)]
    unfold mdE mdA
    rw [ho]
    exact ⟨rfl, rfl⟩
theorem take_vec (n : Int) (a : AV) (p : Nat) (hp : p ≤ 4096) (hs : a.sh = [(p : Int)]) (ho : okA a = true) (hk : a.kind = 1) :
    (-4096 ≤ n → n ≤ 4096 → tkE ⟨1, [], [n]⟩ a = 0 ∧ ∃ f, tkA ⟨1, [], [n]⟩ a = makeA 1 [((n.natAbs : Nat) : Int)] (goV 1 [a] f)) ∧
    (n < -4096 ∨ 4096 < n → tkE ⟨1, [], [n]⟩ a = 9 ∧ tkA ⟨1, [], [n]⟩ a = noA) := by
  have hsp : (takN (limN n) p).has = p ∧ (takN (limN n) p).len = (limN n).natAbs := by
    unfold takN
    split
    · exact ⟨rfl, by simp; omega⟩
    · exact ⟨rfl, by simp; omega⟩
  obtain ⟨c1, c2⟩ := cut_one takN n a p hp hs ho hk _ rfl hsp.1 (by rw [hsp.2]; omega)
  rw [hsp.2] at c1 c2
  unfold tkE tkA
  unfold limN at c1 c2
  refine ⟨fun h1 h2 => ?_, fun h => c2 (by omega)⟩
  obtain ⟨c3, f, c4⟩ := c1 (by omega)
  refine ⟨c3, f, ?_⟩
  rw [c4]
  have e : (((max (-4097) (min n 4097)).natAbs : Int)).toNat = n.natAbs := by omega
  rw [e]
theorem drop_vec (n : Int) (a : AV) (p : Nat) (hp : p ≤ 4096) (hs : a.sh = [(p : Int)]) (ho : okA a = true) (hk : a.kind = 1) :
    dpE ⟨1, [], [n]⟩ a = 0 ∧ ∃ f, dpA ⟨1, [], [n]⟩ a = makeA 1 [((p - n.natAbs : Nat) : Int)] (goV 1 [a] f) := by
  have hsp : (droN (limN n) p).has = p ∧ (droN (limN n) p).len = ((p - n.natAbs : Nat) : Int) := by
    unfold droN limN
    split
    · exact ⟨rfl, by simp only; omega⟩
    · exact ⟨rfl, by simp only; omega⟩
  obtain ⟨c1, c2⟩ := cut_one droN n a p hp hs ho hk _ rfl hsp.1 (by rw [hsp.2]; omega)
  rw [hsp.2] at c1
  unfold dpE dpA
  obtain ⟨c3, f, c4⟩ := c1 (by omega)
  refine ⟨c3, f, ?_⟩
  rw [c4, Int.toNat_natCast]
end Go.Proofs.Ytenpohnccnlngaa.mo

namespace Go.Proofs.Ytenpohnccnlngaa.mo
open Go.RowKit Go.Proofs.Ytenpohnccnlngaa.arr

def stz (z : Nat) (P : Value → World → Prop) : Prop := stk P ∧ ∀ v W x y u, P v W → P v (((W.setCell ⟨z + 1, 0, none⟩ x).setCell ⟨z + 1, 1, none⟩ y).setCell ⟨z + 1, 2, none⟩ u)
theorem cpR_z (t : TypeId) (z : Nat) (l : List Int) : stz z (CpR t (z + 2) l) := ⟨fun v W W' hb h => by
    obtain ⟨A, c, rfl, h⟩ := h
    exact ⟨A, c, rfl, arown_stay h hb (fun g hg => (arown_lt h g hg).2)⟩, fun v W x y u h => by
    obtain ⟨A, c, rfl, h⟩ := h
    exact ⟨A, c, rfl, (arkeep_three W (z + 1) x y u).own h (fun g hg e => by have := (arown_lt h g hg).1; omega)⟩⟩
theorem cpA_z (z : Nat) (X : AV) : stz z (CpA (z + 2) X) := ⟨fun v W W' hb h => by
    obtain ⟨q, rfl, h⟩ := h
    exact ⟨q, rfl, h.stay hb (Nat.le_refl _)⟩, fun v W x y u h => by
    obtain ⟨q, rfl, h⟩ := h
    exact ⟨q, rfl, h.keep (arkeep_three W (z + 1) x y u) (fun k h1 _ _ e => by omega)⟩⟩
theorem lookU_z {z : Nat} : ∀ {l : List (Nat × (Value → World → Prop))}, (∀ x ∈ l, stz z x.2) → ∀ (W : World) (x y u : Value) (j : Nat) (v : Value), lookU l j v W → lookU l j v (((W.setCell ⟨z + 1, 0, none⟩ x).setCell ⟨z + 1, 1, none⟩ y).setCell ⟨z + 1, 2, none⟩ u)
  | [], _ => fun _ _ _ _ _ _ h => h
  | (k, P) :: l, hl => fun W x y u j v h => by
    unfold lookU at h ⊢
    by_cases hk : j = k
    · rw [if_pos hk] at h ⊢
      exact (hl (k, P) (List.mem_cons_self ..)).2 v W x y u h
    · rw [if_neg hk] at h ⊢
      exact lookU_z (fun x hx => hl x (List.mem_cons_of_mem _ hx)) W x y u j v h
theorem cpT_drew {w W : World} {a : AV} {p : AP} (h : CpT w a p W) : CpT w a p W.drew := (cpCT w a p).t _ _ ((Below.refl _ _).drew) h
theorem cpCTz {w : World} {a X : AV} {p : AP} {l : List (Nat × (Value → World → Prop))} (hl : ∀ x ∈ l, stz w.heap.size x.2) : CT (CpT w a p) (CpF w.heap.size X) (lookU l) :=
  ⟨(cpCT w a p).t, (cpCT w X p).f, lookU_stay (fun x hx => (hl x hx).1)⟩
/-- What Ravel makes. -/
def raA (a : AV) : AV := if okA a = true then ⟨a.kind, [(a.el.length : Int)], a.el⟩ else noA
set_option maxRecDepth 100000 in
set_option maxHeartbeats 4000000 in
theorem moravel_any (a : AV) (p : AP) (w : World) (ha : AEl w a p) :
    Calls Try.prog 27 #[.agg (arC a p)] w (GiveE (raA a) (checkE a) w) := by
  have hI := OnI.start ha
  have hs : CpT w a p ((w.alloc (.cells (arC a p) 25)).alloc (.cells #[.int .i64 0, .slice none 0 0, .slice none 0 0] 25)) := ⟨hI.x, ha, hI.fb, by simp, _, _, _, hI.r⟩
  obtain ⟨w1, hw1⟩ : ∃ w1, (w.alloc (.cells (arC a p) 25)).alloc (.cells #[.int .i64 0, .slice none 0 0, .slice none 0 0] 25) = w1 := ⟨_, rfl⟩
  rw [hw1] at hI hs
  have HCA := Lib.hid (fun W (h : OnI w a p W) => archeck_any a p W h.ea)
  have hca : checkE a = if okA a = true then 0 else 110 := rfl
  have hA : raA a = if okA a = true then ⟨a.kind, [(a.el.length : Int)], a.el⟩ else noA := rfl
  have hLC : arC a p = #[.int .i64 a.kind, .slice p.A0 a.sh.length p.c0, .slice p.A1 a.el.length p.c1] := rfl
  have HI := Lib.hid hI
  have HS := Lib.hid hs
  have HC := Lib.hid (fun W (h : OnI w a p W) => h.cells)
  obtain ⟨⟨x0, x1, x2⟩, ⟨r0, r1, r2⟩, f0, f1, f2⟩ := HC.out w1 hI
  obtain ⟨X, hX⟩ : ∃ X, raA a = X := ⟨_, rfl⟩
  obtain ⟨E, hE⟩ : ∃ E, checkE a = E := ⟨_, rfl⟩
  rw [hX, hE]
  rw [hX] at hA
  rw [hE] at hca HCA
  rw [hLC] at HCA hw1
  rw [hLC]
  clear ha hI hs hLC hX hE
  cases hoa : okA a
  · rw [hoa, if_neg (by decide)] at hca hA
    subst hca
    subst hA
    go_enter Try.func27, Try.ntmps27
    go_wp2_with (go_at_call 32; (try rw [hw1]); refine (HCA.out _ HI.out).mono ?_; rintro e w2 ⟨rfl, b2⟩; have hI2 := HI.out.below b2; obtain ⟨⟨x0, x1, x2⟩, ⟨r0, r1, r2⟩, f0, f1, f2⟩ := HC.out w2 hI2; have HI2 := Lib.hid hI2; clear b2 hI2)
    refine bodyPost_ret (results_arr2 rfl rfl rfl (arblk_three _ _ _ HI2.out.r)) rfl ?_
    exact GiveE.no rfl (HI2.out.fin _ _ _)
  · rw [hoa, if_pos rfl] at hca hA
    subst hca
    have hlen := (okA_len hoa).1
    obtain ⟨N, hN⟩ : ∃ N, a.el.length = N := ⟨_, rfl⟩
    rw [hN] at hlen hA hw1 HCA x2
    rw [hN]
    have HN := Lib.hid (And.intro hN hlen)
    have HCL : Hid (∀ W, AEl W a p → Calls Try.prog 65 #[.slice p.A1 N p.c1] W fun e w' => ∃ A' c', e = .returned (.slice A' N c') ∧ (w.heap.size + 2 ≤ W.heap.size → CpR 2 (w.heap.size + 2) a.el (.slice A' N c') w') ∧ Below W.heap.size W w') := Lib.hid (fun W h => by
      have h1 := h.r1
      rw [HN.out.1] at h1
      refine (arcloneL_any p.A1 N p.c1 a.el W HN.out.1 h1 (by have := HN.out.2; omega)).mono ?_
      rintro e w' ⟨A', c', rfl, o, b⟩
      refine ⟨A', c', rfl, fun hs => ?_, b⟩
      rw [← HN.out.1] at o ⊢
      exact CpR.mk (arown_mono o hs))
    have HMK : Hid (∀ A9 c9 B9 d9 W, W.ownsRow (w.heap.size + 2) 3 1 (.slice A9 [(N : Int)].length c9) [(N : Int)].length ([(N : Int)].map iv) → W.ownsRow (w.heap.size + 2) 2 1 (.slice B9 a.el.length d9) a.el.length (a.el.map iv) → CpA (w.heap.size + 2) X (.agg #[.int .i64 a.kind, .slice A9 1 c9, .slice B9 a.el.length d9]) W) := Lib.hid (fun A9 c9 B9 d9 W h1 h2 => by
      rw [hA]
      exact ⟨⟨A9, c9, B9, d9⟩, rfl, h1, h2⟩)
    have HZ : ∀ x ∈ [(5, CpR 3 (w.heap.size + 2) [(N : Int)]), (8, CpR 2 (w.heap.size + 2) a.el), (9, CpA (w.heap.size + 2) X)], stz w.heap.size x.2 := by
      intro x hx
      simp only [List.mem_cons, List.not_mem_nil, or_false] at hx
      rcases hx with rfl | rfl | rfl <;> first | exact cpR_z _ _ _ | exact cpA_z _ _
    have HCT : CT (CpT w a p) (CpF w.heap.size X) (lookU [(5, CpR 3 (w.heap.size + 2) [(N : Int)]), (8, CpR 2 (w.heap.size + 2) a.el), (9, CpA (w.heap.size + 2) X)]) := cpCTz HZ
    clear hA hN
    go_enter Try.func27, Try.ntmps27
    go_upto_region 4 with (go_at_call 32; (try rw [hw1]); refine (HCA.out _ HI.out).mono ?_; rintro e w2 ⟨rfl, b2⟩; have HS2 := Lib.hid ((cpCT w a p).t _ _ b2 HS.out); clear b2)
    clear x0 x1 x2 r0 r1 r2 f0 f1 f2
    refine wp_region_done_on (CS (CpT w a p) (CpF w.heap.size X) 10) (GR [5, 8, 9] (lookU [(5, CpR 3 (w.heap.size + 2) [(N : Int)]), (8, CpR 2 (w.heap.size + 2) a.el), (9, CpA (w.heap.size + 2) X)]) [.pointer (some ⟨w.heap.size, 0, none⟩), .int .i64 a.kind, .pointer (some ⟨w.heap.size, 2, none⟩), .slice p.A1 N p.c1, .int .i64 (N : Int), undef, .pointer (some ⟨w.heap.size, 2, none⟩), .slice p.A1 N p.c1, undef, undef, undef, .int .i64 0]) (by kernel_rfl) 21 rfl (by kernel_rfl) ⟨cpT_drew HS2.out, fun e => by cases e⟩ ?_ ?_
    · intro i hi
      have hi2 : i < 12 := hi
      clear hi
      rcases i with _ | i
      · refine cs_value (by decide) rfl (by decide) (.pointer (some ⟨w.heap.size, 0, none⟩)) rfl ?_
        intro a8 w8 hb8 ho hn
        have o1 : a8.tmps[1]? = some _ := (ho 1 (by kernel_rfl)).trans rfl
        clear ho hn
        refine ⟨wanted_free rfl, ?_⟩
        go_simp
      rcases i with _ | i
      · refine cs_value (by decide) rfl (by decide) (.int .i64 a.kind) rfl ?_
        intro a8 w8 hb8 ho hn
        obtain ⟨v11, n11, hq11⟩ := hn 0 11 (by kernel_rfl) rfl
        obtain rfl := hq11.1 (by decide)
        clear ho hn
        refine ⟨wanted_free rfl, ?_⟩
        obtain ⟨x0, x1, x2⟩ := hb8.cells
        go_simp
      rcases i with _ | i
      · refine cs_value (by decide) rfl (by decide) (.pointer (some ⟨w.heap.size, 2, none⟩)) rfl ?_
        intro a8 w8 hb8 ho hn
        have o1 : a8.tmps[1]? = some _ := (ho 1 (by kernel_rfl)).trans rfl
        clear ho hn
        refine ⟨wanted_free rfl, ?_⟩
        go_simp
      rcases i with _ | i
      · refine cs_value (by decide) rfl (by decide) (.slice p.A1 N p.c1) rfl ?_
        intro a8 w8 hb8 ho hn
        obtain ⟨v13, n13, hq13⟩ := hn 2 13 (by kernel_rfl) rfl
        obtain rfl := hq13.1 (by decide)
        clear ho hn
        refine ⟨wanted_free rfl, ?_⟩
        obtain ⟨x0, x1, x2⟩ := hb8.cells
        rw [HN.out.1] at x2
        go_simp
      rcases i with _ | i
      · refine cs_value (by decide) rfl (by decide) (.int .i64 (N : Int)) rfl ?_
        intro a8 w8 hb8 ho hn
        obtain ⟨v14, n14, hq14⟩ := hn 3 14 (by kernel_rfl) rfl
        obtain rfl := hq14.1 (by decide)
        clear ho hn
        refine ⟨wanted_free rfl, ?_⟩
        go_simp
      rcases i with _ | i
      · refine cs_make HCT (by decide) rfl (by decide) ?_
        intro a8 w8 hb8 ho hn
        obtain ⟨v15, n15, hq15⟩ := hn 4 15 (by kernel_rfl) rfl
        obtain rfl := hq15.1 (by decide)
        clear ho hn
        refine ⟨wanted_free rfl, ?_⟩
        refine ⟨.slice (some ⟨w8.heap.size, 0, none⟩) 1 1, w8.alloc (.cells #[.int .i64 (N : Int)] 3), (by go_simp), albel _ _, CpR.mk (l := [(N : Int)]) (arown_lit w8 _ hb8.s _)⟩
      rcases i with _ | i
      · refine cs_value (by decide) rfl (by decide) (.pointer (some ⟨w.heap.size, 2, none⟩)) rfl ?_
        intro a8 w8 hb8 ho hn
        have o1 : a8.tmps[1]? = some _ := (ho 1 (by kernel_rfl)).trans rfl
        clear ho hn
        refine ⟨wanted_free rfl, ?_⟩
        go_simp
      rcases i with _ | i
      · refine cs_value (by decide) rfl (by decide) (.slice p.A1 N p.c1) rfl ?_
        intro a8 w8 hb8 ho hn
        obtain ⟨v17, n17, hq17⟩ := hn 6 17 (by kernel_rfl) rfl
        obtain rfl := hq17.1 (by decide)
        clear ho hn
        refine ⟨wanted_free rfl, ?_⟩
        obtain ⟨x0, x1, x2⟩ := hb8.cells
        rw [HN.out.1] at x2
        go_simp
      rcases i with _ | i
      · refine cs_call HCT 65 (by decide) rfl (by decide) ?_
        intro a8 w8 hb8 ho hn
        obtain ⟨v18, n18, hq18⟩ := hn 7 18 (by kernel_rfl) rfl
        obtain rfl := hq18.1 (by decide)
        clear ho hn
        refine ⟨wanted_free rfl, ?_⟩
        refine ⟨#[.slice p.A1 N p.c1], (by go_simp), (HCL.out w8 hb8.el).mono ?_⟩
        rintro e w9 ⟨A9, c9, rfl, o9, b9⟩
        exact ⟨_, rfl, b9, o9 hb8.s⟩
      rcases i with _ | i
      · refine cs_make HCT (by decide) rfl (by decide) ?_
        intro a8 w8 hb8 ho hn
        obtain ⟨v12, n12, hq12⟩ := hn 1 12 (by kernel_rfl) rfl
        obtain rfl := hq12.1 (by decide)
        obtain ⟨v16, n16, hq16⟩ := hn 5 16 (by kernel_rfl) rfl
        have hv16 : CpR 3 (w.heap.size + 2) [(N : Int)] v16 w8 := hq16.2 (by decide)
        obtain ⟨v19, n19, hq19⟩ := hn 8 19 (by kernel_rfl) rfl
        have hv19 : CpR 2 (w.heap.size + 2) a.el v19 w8 := hq19.2 (by decide)
        clear ho hn
        refine ⟨wanted_free rfl, ?_⟩
        obtain ⟨A9, c9, rfl, o9⟩ := hv16
        obtain ⟨B9, d9, rfl, p9⟩ := hv19
        exact ⟨.agg #[.int .i64 a.kind, .slice A9 1 c9, .slice B9 a.el.length d9], w8, (by go_simp), Below.refl _ _, HMK.out A9 c9 B9 d9 w8 o9 p9⟩
      rcases i with _ | i
      · refine cs_store rfl rfl (by decide) rfl ?_
        intro a8 w8 hb8 ho hn
        have o2 : a8.tmps[2]? = some _ := (ho 2 (by kernel_rfl)).trans rfl
        obtain ⟨v20, n20, hq20⟩ := hn 9 20 (by kernel_rfl) rfl
        have hv20 : CpA (w.heap.size + 2) X v20 w8 := hq20.2 (by decide)
        clear ho hn
        refine ⟨wanted_free rfl, ?_⟩
        obtain ⟨q9, rfl, ow9⟩ := hv20
        obtain ⟨y0, y1, y2, r9⟩ := hb8.r
        have x0 := r9.cell 0
        have x1 := r9.cell 1
        have x2 := r9.cell 2
        have f0 := r9.frozen 0
        have f1 := r9.frozen 1
        have f2 := r9.frozen 2
        refine ⟨((w8.setCell ⟨w.heap.size + 1, 0, none⟩ (.int .i64 X.kind)).setCell ⟨w.heap.size + 1, 1, none⟩ (.slice q9.A0 X.sh.length q9.c0)).setCell ⟨w.heap.size + 1, 2, none⟩ (.slice q9.A1 X.el.length q9.c1), ?_, hb8.store r9 _ _ _, cpF_store r9 ow9, fun j v h => lookU_z HZ w8 _ _ _ j v h⟩
        clear hb8 r9 ow9
        unfold arC at *
        go_simp
      rcases i with _ | i
      · refine cs_value (by decide) rfl (by decide) (.int .i64 0) rfl ?_
        intro a8 w8 hb8 ho hn
        clear ho hn
        refine ⟨wanted_free rfl, ?_⟩
        go_simp
      omega
    · intro dn fv w5 hb5 hR5 hall
      have h3 : fv 3 = _ := (hR5 11 3 rfl).1 (by decide)
      simp only [putAll, List.foldl_cons, List.foldl_nil, Act.put, List.setIfInBounds_toArray, List.set_cons_succ, List.set_cons_zero, h3, List.getD_cons_zero, List.getD_cons_succ]
      have hfin := hb5.2 (hall 10 (by decide))
      have hfb := hb5.1.b
      clear hR5 hall hb5
      obtain ⟨q, hq, ho⟩ := hfin
      go_wp2
      refine bodyPost_ret (results_arr2 rfl rfl rfl hq) rfl ?_
      exact ⟨q, rfl, ⟨arown_mono ho.o0 (by omega), arown_mono ho.o1 (by omega)⟩, hfb⟩
end Go.Proofs.Ytenpohnccnlngaa.mo

namespace Go.Proofs.Ytenpohnccnlngaa.mo
open Go.RowKit Go.Proofs.Ytenpohnccnlngaa.arr

/-- What Shape makes. -/
def shA (a : AV) : AV := if okA a = true then ⟨1, [(a.sh.length : Int)], a.sh⟩ else noA
set_option maxRecDepth 100000 in
set_option maxHeartbeats 4000000 in
theorem moshape_any (a : AV) (p : AP) (w : World) (ha : AEl w a p) :
    Calls Try.prog 26 #[.agg (arC a p)] w (GiveE (shA a) (checkE a) w) := by
  obtain ⟨A0, c0, A1, c1⟩ := p
  have hI := OnI.start ha
  obtain ⟨w1, hw1⟩ : ∃ w1, (w.alloc (.cells (arC a ⟨A0, c0, A1, c1⟩) 25)).alloc (.cells #[.int .i64 0, .slice none 0 0, .slice none 0 0] 25) = w1 := ⟨_, rfl⟩
  rw [hw1] at hI
  have HCA := Lib.hid (fun W (h : OnI w a ⟨A0, c0, A1, c1⟩ W) => archeck_any a ⟨A0, c0, A1, c1⟩ W h.ea)
  have hca : checkE a = if okA a = true then 0 else 110 := rfl
  have hA : shA a = if okA a = true then ⟨1, [(a.sh.length : Int)], a.sh⟩ else noA := rfl
  have hLC : arC a ⟨A0, c0, A1, c1⟩ = #[.int .i64 a.kind, .slice A0 a.sh.length c0, .slice A1 a.el.length c1] := rfl
  have HI := Lib.hid hI
  have HC : Hid (∀ W, OnI w a ⟨A0, c0, A1, c1⟩ W → (W.cell? ⟨w.heap.size, 0, none⟩ = some (.int .i64 a.kind) ∧ W.cell? ⟨w.heap.size, 1, none⟩ = some (.slice A0 a.sh.length c0) ∧ W.cell? ⟨w.heap.size, 2, none⟩ = some (.slice A1 a.el.length c1)) ∧
    (W.cell? ⟨w.heap.size + 1, 0, none⟩ = some (.int .i64 0) ∧ W.cell? ⟨w.heap.size + 1, 1, none⟩ = some (.slice none 0 0) ∧ W.cell? ⟨w.heap.size + 1, 2, none⟩ = some (.slice none 0 0)) ∧
    W.frozen? ⟨w.heap.size + 1, 0, none⟩ = false ∧ W.frozen? ⟨w.heap.size + 1, 1, none⟩ = false ∧ W.frozen? ⟨w.heap.size + 1, 2, none⟩ = false) := Lib.hid (fun W h => h.cells)
  obtain ⟨⟨x0, x1, x2⟩, ⟨r0, r1, r2⟩, f0, f1, f2⟩ := HC.out w1 hI
  obtain ⟨X, hX⟩ : ∃ X, shA a = X := ⟨_, rfl⟩
  obtain ⟨E, hE⟩ : ∃ E, checkE a = E := ⟨_, rfl⟩
  rw [hX, hE]
  rw [hX] at hA
  rw [hE] at hca HCA
  rw [hLC] at HCA hw1
  rw [hLC]
  clear ha hI hLC hX hE
  cases hoa : okA a
  · rw [hoa, if_neg (by decide)] at hca hA
    subst hca
    subst hA
    go_enter Try.func26, Try.ntmps26
    go_wp2_with (go_at_call 32; (try rw [hw1]); refine (HCA.out _ HI.out).mono ?_; rintro e w2 ⟨rfl, b2⟩; have hI2 := HI.out.below b2; obtain ⟨⟨x0, x1, x2⟩, ⟨r0, r1, r2⟩, f0, f1, f2⟩ := HC.out w2 hI2; have HI2 := Lib.hid hI2; clear b2 hI2)
    refine bodyPost_ret (results_arr2 rfl rfl rfl (arblk_three _ _ _ HI2.out.r)) rfl ?_
    exact GiveE.no rfl (HI2.out.fin _ _ _)
  rw [hoa, if_pos rfl] at hca hA
  subst hca
  have hlen := (okA_len hoa).2
  obtain ⟨i0, hi, hz0, hz1, hz2⟩ := info_parts arInfoI64
  obtain ⟨q, hq⟩ : ∃ q, a.sh.length = q := ⟨_, rfl⟩
  have HQ := Lib.hid hq
  have HCELL : Hid (∀ j W, j < q → OnI w a ⟨A0, c0, A1, c1⟩ W → ∃ ad, A0 = some ad ∧ W.cell? (ad.add j) = some (.int .i64 (a.sh.getD j 0))) := Lib.hid (fun j W hj h => by
    obtain ⟨ad, e, _, hc⟩ := h.ea.r0.2 (by rw [HQ.out]; omega)
    refine ⟨ad, e, hc j _ ?_⟩
    rw [List.getElem?_map, List.getD_eq_getElem?_getD, List.getElem?_eq_getElem (by rw [HQ.out]; omega)]
    rfl)
  have HTK : Hid (∀ j, j < q → (a.sh.take (j + 1)).map iv = (a.sh.take j).map iv ++ [.int .i64 (a.sh.getD j 0)]) := Lib.hid (fun j hj => by
    have hj2 : j < a.sh.length := by rw [HQ.out]; omega
    rw [List.take_succ_eq_append_getElem hj2, List.getD_eq_getElem?_getD, List.getElem?_eq_getElem hj2, List.map_append]
    rfl)
  have HVC : Hid (∀ (A : Option Addr) (c : Nat) (W : World), Reads W W.heap.size 1 A q (a.sh.map iv) → Calls Try.prog 18 #[.slice A q c] W fun e w' => ∃ r : AP, e = .returned (.agg #[.int .i64 1, .slice r.A0 1 r.c0, .slice r.A1 q r.c1]) ∧ AOwn W.heap.size w' X r ∧ Below W.heap.size W w') := Lib.hid (fun A c W hr => by
    refine (arvector_any A q c a.sh W HQ.out hr (by omega)).mono ?_
    rintro e w' ⟨v, rfl, r, rfl, o, b⟩
    refine ⟨r, ?_, ?_, b⟩
    · unfold arC
      rw [HQ.out]
      rfl
    · rw [hA, HQ.out]
      exact o)
  have hXP : X.kind = 1 ∧ X.sh.length = 1 ∧ X.el.length = q := by
    rw [hA]
    exact ⟨rfl, rfl, hq⟩
  have HXP := Lib.hid hXP
  rw [hq] at hw1 HCA x1 HC hlen
  rw [hq]
  clear hA hq hXP
  go_enter Try.func26, Try.ntmps26
  go_wp2_with (go_at_call 32; (try rw [hw1]); refine (HCA.out _ HI.out).mono ?_; rintro e w2 ⟨rfl, b2⟩; have hI2 := HI.out.below b2; obtain ⟨⟨x0, x1, x2⟩, _⟩ := HC.out w2 hI2; have HI2 := Lib.hid hI2; clear b2 hI2)
  clear r0 r1 r2 f0 f1 f2
  go_loopw [17, 5] (fun i v wr => ∃ (j : Nat) (B1 : Option Addr) (d1 : Nat), j ≤ q ∧ i = .int .i64 (j : Int) ∧ v = .slice B1 j d1 ∧ wr.ownsRow w2.heap.size 2 1 (.slice B1 j d1) j ((a.sh.take j).map iv) ∧ Below w2.heap.size w2 wr) (fun i _ _ => q - (intOf i).toNat)
  case atStart => exact ⟨0, none, 0, Nat.zero_le _, rfl, rfl, World.ownsRow_nil _ _ _ _, Below.refl _ _⟩
  case round =>
    obtain ⟨j, B1, d1, hj, rfl, rfl, ho, hbw⟩ := hrel
    clear x0 x1 x2
    by_cases hlt : j < q
    · have hd : (j : Int) < (q : Int) := by omega
      obtain ⟨ad, rfl, cA⟩ := HCELL.out j wr hlt (HI2.out.below hbw)
      obtain ⟨z, hz⟩ : ∃ z, a.sh.getD j 0 = z := ⟨_, rfl⟩
      have HTJ := Lib.hid (HTK.out j hlt)
      rw [hz] at cA HTJ
      have HNEW : Hid (∀ W : World, ∀ k u, [Value.int .i64 z][k]? = some u → (W.alloc (.cells #[.int .i64 z] 2)).cell? ((⟨W.heap.size, 0, none⟩ : Addr).add k) = some u) := Lib.hid (fun W k u hu => by
        rw [Addr.add_mid, Nat.zero_add, (Blk.new W 2 _).cell k, List.getElem?_toArray]
        exact hu)
      have HO := Lib.hid ho
      have HBW := Lib.hid hbw
      clear ho hbw hz
      go_wp2_with (at_builtin; refine wpList_append_own _ rfl _ _ 23 rfl w2.heap.size 2 i0 (.int .i64 0) 1 8 Try.underlying23 hi hz0 hz1 hz2 rfl (by decide) _ j _ rfl (arown_stay HO.out ((Below.refl _ wr).alloc (Nat.le_refl _) _) (fun g hg => (arown_lt HO.out g hg).2)) ⟨wr.heap.size, 0, none⟩ 1 1 [.int .i64 z] rfl rfl (HNEW.out wr) (by intro u hu; rw [List.mem_singleton] at hu; subst hu; rfl) (by unfold maxLen; omega) (by omega) (by have h2 := HBW.out.size; simp; omega) ?_; intro v3 w3 hown hgrow _; have b3 : Below w2.heap.size w2 w3 := (HBW.out.alloc HBW.out.size _).grown hgrow (by have h2 := HBW.out.size; simp; omega) (fun g e => (arown_lt HO.out g e).1); have B3 := Lib.hid b3; have O3 := Lib.hid hown; clear hown hgrow b3)
      obtain ⟨A3, c3, rfl⟩ : ∃ A3 c3, v3 = .slice A3 (j + 1) c3 := by
        rcases O3.out.2 with ⟨_, h0⟩ | ⟨g, cap, cur, e, _⟩
        · omega
        · exact ⟨_, cap, e⟩
      refine ⟨⟨j + 1, A3, c3, by omega, by go_num, rfl, ?_, B3.out⟩, by simp [intOf]; omega⟩
      rw [HTJ.out]
      exact O3.out
    · obtain rfl : j = q := by omega
      have HO := Lib.hid (Reads.of_own ho)
      have hI3 := HI2.out.below hbw
      have HI3 := Lib.hid hI3
      have HJ : Hid (a.sh.take j = a.sh) := Lib.hid (by rw [← HQ.out, List.take_length])
      have HV := Lib.hid (HVC.out B1 d1 wr (by rw [← HJ.out]; exact HO.out))
      clear ho hbw hI3
      go_wp2_with (go_at_call 18; refine HV.out.mono ?_; rintro e w4 ⟨r, rfl, o4, b4⟩; have HGV := Lib.hid (HI3.out.give b4 o4); have hI4 := HI3.out.below b4; obtain ⟨_, ⟨r0, r1, r2⟩, f0, f1, f2⟩ := HC.out _ hI4; have HI4 := Lib.hid hI4; clear o4 b4 hI4)
      refine bodyPost_ret (results_arr2 rfl rfl rfl (arblk_three _ _ _ HI4.out.r)) rfl ?_
      have hg := HGV.out
      obtain ⟨k1, k2, k3⟩ := HXP.out
      rw [k1, k2, k3] at hg
      exact ⟨r, by unfold arC; rw [k1, k2, k3]; rfl, hg⟩
end Go.Proofs.Ytenpohnccnlngaa.mo

namespace Go.Proofs.Ytenpohnccnlngaa.mo
open Go.RowKit Go.Proofs.Ytenpohnccnlngaa.arr

def rsV (a : AV) (i : Nat) : Int := if a.el.length = 0 then fillV a.kind else a.el.getD (i % a.el.length) 0
theorem rsh_el (a : AV) (ho : okA a = true) (i : Nat) : elF a.kind [a] (rshF (prodI a.sh) i) = some (rsV a i) := by
  have hl := (okA_iff.1 ho).2.1
  rw [← hl]
  unfold rshF rsV
  by_cases h : a.el.length = 0
  · rw [if_pos (by omega), if_pos h]
    rfl
  · rw [if_neg (by omega), if_neg h, ← Int.natCast_emod, el1 a a.kind _ (by omega), Int.toNat_natCast]
    have hlt := Nat.mod_lt i (show 0 < a.el.length by omega)
    rw [List.getD_eq_getElem?_getD, List.getElem?_eq_getElem hlt]
    rfl
theorem rsV_kind (a : AV) (ho : okA a = true) (i : Nat) : a.kind = 2 → charOk (rsV a i) = true := fun hk => by
  have h := (okA_iff.1 ho).2.2
  unfold arr.kindOk at h
  rw [hk] at h
  have h2 : a.el.all charOk = true := by simpa using h
  unfold rsV
  split
  · rw [hk]
    decide
  · rename_i hn
    have hlt := Nat.mod_lt i (show 0 < a.el.length by omega)
    rw [List.getD_eq_getElem?_getD, List.getElem?_eq_getElem hlt]
    exact List.all_eq_true.1 h2 _ (List.getElem_mem hlt)
theorem rsV_fine (a : AV) (hf : ∀ z ∈ a.el, -9223372036854775808 ≤ z ∧ z ≤ 9223372036854775807) (i : Nat) : -9223372036854775808 ≤ rsV a i ∧ rsV a i ≤ 9223372036854775807 := by
  unfold rsV
  split
  · unfold fillV
    split <;> simp
  · rename_i hn
    have hlt := Nat.mod_lt i (show 0 < a.el.length by omega)
    rw [List.getD_eq_getElem?_getD, List.getElem?_eq_getElem hlt]
    exact hf _ (List.getElem_mem hlt)
def rsM (a : AV) (sh : List Int) : AV := ⟨a.kind, sh, (List.range (prodI sh).toNat).map (rsV a)⟩
theorem go_rsh (a : AV) (ho : okA a = true) (sh : List Int) (hs : okShape sh = true) : goE a.kind [a] sh (rshF (prodI a.sh)) = 0 ∧ goA a.kind [a] sh (rshF (prodI a.sh)) = rsM a sh := by
  have hR : goR a.kind [a] sh (rshF (prodI a.sh)) = rsM a sh := by
    unfold goR makeA rsM fL
    congr 1
    apply List.map_congr_left
    intro i _
    unfold goV elV
    rw [Int.toNat_natCast, rsh_el a ho i]
    rfl
  have hk := (okA_iff.1 ho).2.2
  have hkB : kindB a.kind = true := by
    unfold arr.kindOk at hk
    unfold kindB
    rw [Bool.or_eq_true, Bool.and_eq_true] at hk
    rw [Bool.or_eq_true]
    exact hk.imp id And.left
  have hp : 0 ≤ prodI sh := (prodI_bounds _ (okShape_iff.1 hs).2.1).1
  have hO : okA (rsM a sh) = true := by
    refine okA_iff.2 ⟨hs, ?_, ?_⟩
    · show (((List.range (prodI sh).toNat).map (rsV a)).length : Int) = prodI sh
      rw [List.length_map, List.length_range]
      omega
    · show arr.kindOk a.kind ((List.range (prodI sh).toNat).map (rsV a)) = true
      unfold kindB at hkB
      unfold arr.kindOk
      rw [Bool.or_eq_true, decide_eq_true_eq, decide_eq_true_eq] at hkB
      rcases hkB with h | h
      · rw [h]
        rfl
      · have hc : ((List.range (prodI sh).toNat).map (rsV a)).all charOk = true := List.all_eq_true.2 (fun z hz => by
          obtain ⟨i, _, rfl⟩ := List.mem_map.1 hz
          exact rsV_kind a ho i h)
        rw [hc, h]
        rfl
  have hE : goE a.kind [a] sh (rshF (prodI a.sh)) = 0 := by
    unfold goE
    rw [hkB, if_neg (by decide), astB_no (fun i _ => by unfold elB; rw [rsh_el a ho i]; rfl), if_neg (by decide), hR]
    unfold checkE
    rw [hO, if_pos rfl]
  refine ⟨hE, ?_⟩
  unfold goA
  rw [hE, if_pos rfl, hR]
theorem md_no {a : AV} (ho : okA a = true) {E : Int} (hE : E ≠ 0) (sh : List Int) (f : Nat → Int × Int) : mdE a E sh f = E ∧ mdA a E sh f = noA := by
  constructor
  · unfold mdE
    rw [ho, if_neg (by decide), if_pos hE]
  · unfold mdA
    rw [ho, if_neg (by decide), if_pos hE]
theorem md_yes {a : AV} (ho : okA a = true) (sh : List Int) (f : Nat → Int × Int) : mdE a 0 sh f = goE a.kind [a] sh f ∧ mdA a 0 sh f = goA a.kind [a] sh f := by
  constructor
  · unfold mdE
    rw [ho, if_neg (by decide), if_neg (fun h => h rfl)]
  · unfold mdA
    rw [ho, if_neg (by decide), if_neg (fun h => h rfl)]
theorem lim_same {l : List Int} (h : ∀ z ∈ l, 0 ≤ z ∧ z ≤ 4096) : l.map limN = l := by
  have : l.map limN = l.map id := List.map_congr_left (fun z hz => by
    have := h z hz
    unfold limN
    show _ = z
    omega)
  rw [this, List.map_id]
theorem vec_axE (l : List Int) (hl : l.length ≤ 4096) {sh : List Int} (hs : okShape sh = true) : axE ⟨1, [(l.length : Int)], l⟩ sh = 0 ∧ axL ⟨1, [(l.length : Int)], l⟩ sh = l.map limN := by
  have hE : axE ⟨1, [(l.length : Int)], l⟩ sh = 0 := by
    unfold axE
    rw [hs, if_pos rfl]
    unfold listE
    rw [vec_ok l hl, if_pos rfl]
    rfl
  refine ⟨hE, ?_⟩
  unfold axL
  rw [hE, if_pos rfl]
/-- A list reshapes an array. -/
theorem rs_list (l : List Int) (hl : l.length ≤ 4096) (a : AV) (ho : okA a = true) :
    (rsE ⟨1, [(l.length : Int)], l⟩ a = 5 ∨ rsE ⟨1, [(l.length : Int)], l⟩ a = 9) ∧ rsA ⟨1, [(l.length : Int)], l⟩ a = noA ∨ rsE ⟨1, [(l.length : Int)], l⟩ a = 0 ∧ okShape l = true ∧ rsA ⟨1, [(l.length : Int)], l⟩ a = rsM a l := by
  have hs := (okA_iff.1 ho).1
  obtain ⟨h1, h2⟩ := vec_axE l hl hs
  have hw : rwE ⟨1, [(l.length : Int)], l⟩ a.sh = if (l.map limN).any negB = true then 5 else if okShape (l.map limN) = true then 0 else 9 := by
    unfold rwE
    rw [h1, if_neg (fun h => h rfl), h2]
  unfold rsE rsA
  rw [h2]
  by_cases hn : (l.map limN).any negB = true
  · rw [if_pos hn] at hw
    rw [hw, (md_no ho (by decide) _ _).1, (md_no ho (by decide) _ _).2]
    exact .inl ⟨.inl rfl, rfl⟩
  · rw [if_neg hn] at hw
    by_cases hk : okShape (l.map limN) = true
    · rw [if_pos hk] at hw
      rw [hw, (md_yes ho _ _).1, (md_yes ho _ _).2]
      have hb : ∀ z ∈ l, 0 ≤ z ∧ z ≤ 4096 := fun z hz => by
        have := lenOk_iff.1 (List.all_eq_true.1 (okShape_iff.1 hk).2.1 (limN z) (List.mem_map.2 ⟨z, hz, rfl⟩))
        unfold limN at this
        omega
      rw [lim_same hb] at hk ⊢
      obtain ⟨g1, g2⟩ := go_rsh a ho l hk
      exact .inr ⟨g1, hk, g2⟩
    · rw [if_neg hk] at hw
      rw [hw, (md_no ho (by decide) _ _).1, (md_no ho (by decide) _ _).2]
      exact .inl ⟨.inr rfl, rfl⟩
/-- A ravel, reshaped by the shape, is the array. -/
theorem rs_back (a : AV) (ho : okA a = true) : rsE ⟨1, [(a.sh.length : Int)], a.sh⟩ ⟨a.kind, [(a.el.length : Int)], a.el⟩ = 0 ∧ rsA ⟨1, [(a.sh.length : Int)], a.sh⟩ ⟨a.kind, [(a.el.length : Int)], a.el⟩ = a ∧ okA ⟨a.kind, [(a.el.length : Int)], a.el⟩ = true := by
  obtain ⟨k1, k2⟩ := okA_len ho
  obtain ⟨h1, h2, h3⟩ := okA_iff.1 ho
  have hr : okA ⟨a.kind, [(a.el.length : Int)], a.el⟩ = true := okA_iff.2 ⟨sh_one (by omega) (by omega), (prodI_one _).symm, h3⟩
  have hb : ∀ z ∈ a.sh, 0 ≤ z ∧ z ≤ 4096 := fun z hz => lenOk_iff.1 (List.all_eq_true.1 (okShape_iff.1 h1).2.1 z hz)
  have hM : rsM ⟨a.kind, [(a.el.length : Int)], a.el⟩ a.sh = a := by
    have hel : (List.range (prodI a.sh).toNat).map (rsV ⟨a.kind, [(a.el.length : Int)], a.el⟩) = a.el := by
      rw [← h2, Int.toNat_natCast]
      apply List.ext_getElem
      · simp
      · intro i q1 q2
        rw [List.getElem_map, List.getElem_range]
        show (if a.el.length = 0 then _ else a.el.getD (i % a.el.length) 0) = _
        rw [if_neg (by omega), Nat.mod_eq_of_lt q2, List.getD_eq_getElem?_getD, List.getElem?_eq_getElem q2]
        rfl
    unfold rsM
    rw [hel]
  have hlim := lim_same hb
  rcases rs_list a.sh (by omega) ⟨a.kind, [(a.el.length : Int)], a.el⟩ hr with ⟨h, _⟩ | ⟨e1, _, e2⟩
  · exfalso
    obtain ⟨x1, x2⟩ := vec_axE a.sh (by omega) (okA_iff.1 hr).1
    have hn : (a.sh.map limN).any negB = false := by
      rw [hlim, List.any_eq_false]
      intro z hz
      have := hb z hz
      unfold negB
      simp
      omega
    have hw : rwE ⟨1, [(a.sh.length : Int)], a.sh⟩ [(a.el.length : Int)] = 0 := by
      unfold rwE
      rw [x1, if_neg (fun h => h rfl), x2, hn, if_neg (by decide), hlim, h1, if_pos rfl]
    have h0 : rsE ⟨1, [(a.sh.length : Int)], a.sh⟩ ⟨a.kind, [(a.el.length : Int)], a.el⟩ = 0 := by
      unfold rsE
      show mdE _ (rwE ⟨1, [(a.sh.length : Int)], a.sh⟩ [(a.el.length : Int)]) (axL ⟨1, [(a.sh.length : Int)], a.sh⟩ [(a.el.length : Int)]) _ = 0
      rw [hw, (md_yes hr _ _).1, x2, hlim]
      exact (go_rsh ⟨a.kind, [(a.el.length : Int)], a.el⟩ hr a.sh h1).1
    omega
  · exact ⟨e1, by rw [e2, hM], hr⟩
end Go.Proofs.Ytenpohnccnlngaa.mo

namespace Go.Proofs.Ytenpohnccnlngaa.mo
open Go.RowKit Go.Proofs.Ytenpohnccnlngaa.arr

theorem srcP_lt {L : List Sp} {n : Nat} : ∀ k, k ≤ L.length → anyBad L n k = false → 0 ≤ srcP L n k ∧ srcP L n k < prodI ((L.map Sp.has).take k)
  | 0, _, _ => by
    show 0 ≤ (0 : Int) ∧ (0 : Int) < prodI []
    decide
  | k + 1, hk, h => by
    rw [anyBad_succ, Bool.or_eq_false_iff] at h
    obtain ⟨h1, h2⟩ := srcP_lt k (by omega) h.1
    have hb := h.2
    unfold badB at hb
    rw [Bool.or_eq_false_iff, decide_eq_false_iff_not, decide_eq_false_iff_not] at hb
    have hk2 : k < (L.map Sp.has).length := by rw [List.length_map]; omega
    have hh : hasV L k = (L.map Sp.has)[k] := by
      unfold hasV
      rw [List.getElem?_eq_getElem (by omega), List.getElem_map]
    rw [prodI_snoc _ hk2, ← hh]
    show 0 ≤ srcP L n k * hasV L k + ixV L n k ∧ srcP L n k * hasV L k + ixV L n k < _
    have m1 : 0 ≤ srcP L n k * hasV L k := Int.mul_nonneg h1 (by omega)
    have m2 : (srcP L n k + 1) * hasV L k ≤ prodI ((L.map Sp.has).take k) * hasV L k := Int.mul_le_mul_of_nonneg_right (by omega) (by omega)
    have m3 : (srcP L n k + 1) * hasV L k = srcP L n k * hasV L k + hasV L k := by rw [Int.add_mul, Int.one_mul]
    omega
theorem cut_el {L : List Sp} (k : Int) (a : AV) (ls : List AV) (h : prodI (L.map Sp.has) = a.el.length) (n : Nat) : elB k (a :: ls) (srcF L n) = true := by
  unfold srcF
  split
  · rfl
  · rename_i hb
    have hb2 : anyBad L n L.length = false := by
      cases e : anyBad L n L.length with
      | false => rfl
      | true => exact absurd e hb
    obtain ⟨h1, h2⟩ := srcP_lt L.length (Nat.le_refl _) hb2
    rw [List.take_of_length_le (by simp), h] at h2
    unfold elB
    have e : elF k (a :: ls) (0, srcP L n L.length) = a.el[(srcP L n L.length).toNat]? := by
      show (if (0 : Int) = -1 then some (fillV k) else if (0 : Int) ≤ 0 then (if 0 ≤ srcP L n L.length then a.el[(srcP L n L.length).toNat]? else none) else none) = _
      rw [if_neg (by decide), if_pos (by decide), if_pos h1]
    rw [e, List.getElem?_eq_getElem (by omega)]
    rfl
theorem prodI_sh1 (sh : List Int) : prodI (sh1 sh) = prodI sh := by
  unfold sh1
  split
  · rename_i h
    rw [List.eq_nil_of_length_eq_zero h]
    rfl
  · rfl
theorem cut_has {cf : Int → Int → Sp} (hcf : ∀ n h, (cf n h).has = h) : ∀ (l sh : List Int), l.length = sh.length → (cutL cf l sh).map Sp.has = sh
  | [], [], _ => rfl
  | x :: l, y :: sh, h => by
    show (cf x y).has :: (cutL cf l sh).map Sp.has = y :: sh
    rw [hcf, cut_has hcf l sh (by simpa using h)]
  | [], _ :: _, h => by simp at h
  | _ :: _, [], h => by simp at h
theorem takN_has (n h : Int) : (takN n h).has = h := by
  unfold takN
  split <;> rfl
theorem droN_has (n h : Int) : (droN n h).has = h := by
  unfold droN
  split <;> rfl
/-- What a gather map makes whose elements are all there. -/
theorem go_made {k : Int} {ls : List AV} {sh : List Int} {f : Nat → Int × Int} (hkB : kindB k = true) (hs : okShape sh = true) (hel : ∀ i < (prodI sh).toNat, ∃ z, elF k ls (f i) = some z ∧ (k = 2 → charOk z = true)) :
    goE k ls sh f = 0 ∧ goA k ls sh f = goR k ls sh f ∧ okA (goR k ls sh f) = true := by
  have hp : 0 ≤ prodI sh := (prodI_bounds _ (okShape_iff.1 hs).2.1).1
  have hO : okA (goR k ls sh f) = true := by
    refine okA_iff.2 ⟨hs, ?_, ?_⟩
    · show ((fL (goV k ls f) (prodI sh).toNat).length : Int) = prodI sh
      rw [fL_length]
      omega
    · show arr.kindOk k (fL (goV k ls f) (prodI sh).toNat) = true
      unfold kindB at hkB
      unfold arr.kindOk
      rw [Bool.or_eq_true, decide_eq_true_eq, decide_eq_true_eq] at hkB
      rcases hkB with h | h
      · rw [h]
        rfl
      · have hc : (fL (goV k ls f) (prodI sh).toNat).all charOk = true := List.all_eq_true.2 (fun z hz => by
          obtain ⟨i, hi, rfl⟩ := List.mem_map.1 (show z ∈ (List.range _).map _ from hz)
          obtain ⟨y, hy, hy2⟩ := hel i (List.mem_range.1 hi)
          show charOk (elV k ls (f (i : Int).toNat)) = true
          unfold elV
          rw [Int.toNat_natCast, hy]
          exact hy2 h)
        rw [hc, h]
        rfl
  have hE : goE k ls sh f = 0 := by
    unfold goE
    rw [hkB, if_neg (by decide), astB_no (fun i hi => by
      obtain ⟨y, hy, _⟩ := hel i hi
      unfold elB
      rw [hy]
      rfl), if_neg (by decide)]
    unfold checkE
    rw [hO, if_pos rfl]
  refine ⟨hE, ?_, hO⟩
  unfold goA
  rw [hE, if_pos rfl]
theorem kind_of {a : AV} (ho : okA a = true) : kindB a.kind = true := by
  have hk := (okA_iff.1 ho).2.2
  unfold arr.kindOk at hk
  unfold kindB
  rw [Bool.or_eq_true, Bool.and_eq_true] at hk
  rw [Bool.or_eq_true]
  exact hk.imp id And.left
/-- A source in the first array: the same, whatever arrays come behind it. -/
theorem src_one (k : Int) (a : AV) (ls : List AV) (L : List Sp) (n : Nat) : elF k (a :: ls) (srcF L n) = elF k [a] (srcF L n) := by
  unfold srcF
  split <;> rfl
theorem rsh_one (k : Int) (a : AV) (ls : List AV) (N : Int) (n : Nat) : elF k (a :: ls) (rshF N n) = elF k [a] (rshF N n) := by
  unfold rshF
  split <;> rfl
theorem go_one {k : Int} {a : AV} {ls : List AV} {sh : List Int} {f : Nat → Int × Int} (h : ∀ n, elF k (a :: ls) (f n) = elF k [a] (f n)) : goE k (a :: ls) sh f = goE k [a] sh f ∧ goA k (a :: ls) sh f = goA k [a] sh f := by
  have hR : goR k (a :: ls) sh f = goR k [a] sh f := by
    unfold goR makeA fL
    congr 1
    apply List.map_congr_left
    intro i _
    unfold goV elV
    rw [h]
  have hA : astB k (a :: ls) f (prodI sh).toNat = astB k [a] f (prodI sh).toNat := by
    unfold astB elB
    congr 1
    funext i
    rw [h]
  have hE : goE k (a :: ls) sh f = goE k [a] sh f := by
    unfold goE
    rw [hA, hR]
  refine ⟨hE, ?_⟩
  unfold goA
  rw [hE, hR]
end Go.Proofs.Ytenpohnccnlngaa.mo

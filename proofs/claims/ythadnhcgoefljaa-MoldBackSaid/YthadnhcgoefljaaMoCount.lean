/-
  Layer 13 (mold): how long what is catenated, taken and dropped of vectors is.
-/
import Derived.Test.YthadnhcgoefljaaMoCatE
import Derived.Test.YthadnhcgoefljaaMoTally
namespace Go.Proofs.Ythadnhcgoefljaa.mo
open Go.RowKit Go.Proofs.Ythadnhcgoefljaa.arr

theorem prodI_one (x : Int) : prodI [x] = x := Int.mul_one _
theorem vec_ok (l : List Int) (h : l.length ≤ 4096) : okA ⟨1, [(l.length : Int)], l⟩ = true :=
  okA_iff.2 ⟨sh_one (by omega) (by omega), (prodI_one _).symm, rfl⟩
theorem goE_one {ls : List AV} {f : Nat → Int × Int} {m : Nat} (hm : m ≤ 4096) (h : ∀ i < m, elB 1 ls (f i) = true) : goE 1 ls [(m : Int)] f = 0 ∧ goA 1 ls [(m : Int)] f = makeA 1 [(m : Int)] (goV 1 ls f) := by
  have hpm : (prodI [(m : Int)]).toNat = m := by
    have := prodI_one (m : Int)
    omega
  have hE : goE 1 ls [(m : Int)] f = 0 := by
    unfold goE
    rw [if_neg (by decide), hpm, astB_no h, if_neg (by decide)]
    unfold checkE goR
    rw [okA_mk _ hm, if_pos rfl]
  refine ⟨hE, ?_⟩
  unfold goA goR
  rw [hE, if_pos rfl]
theorem mk_len (m : Nat) (f : Int → Int) : (makeA 1 [(m : Int)] f).el.length = m := by
  show (fL f (prodI [(m : Int)]).toNat).length = m
  rw [fL_length, prodI_one]
  omega
theorem mk_fine {m : Nat} {f : Int → Int} (h : ∀ z, -9223372036854775808 ≤ f z ∧ f z ≤ 9223372036854775807) : ∀ z ∈ (makeA 1 [(m : Int)] f).el, -9223372036854775808 ≤ z ∧ z ≤ 9223372036854775807 := fun z hz => by
  obtain ⟨i, _, rfl⟩ := List.mem_map.1 (show z ∈ (List.range _).map _ from hz)
  exact h _
/-- Two vectors are put together. -/
theorem cat_vec (l m : List Int) (hl : l.length ≤ 2000) (hm : m.length ≤ 2000) :
    ctE ⟨1, [(l.length : Int)], l⟩ ⟨1, [(m.length : Int)], m⟩ = 0 ∧ ∃ f, ctA ⟨1, [(l.length : Int)], l⟩ ⟨1, [(m.length : Int)], m⟩ = makeA 1 [((l.length + m.length : Nat) : Int)] (goV 1 [⟨1, [(l.length : Int)], l⟩, ⟨1, [(m.length : Int)], m⟩] f) := by
  obtain ⟨p, hp⟩ : ∃ p, l.length = p := ⟨_, rfl⟩
  obtain ⟨q, hq⟩ : ∃ q, m.length = q := ⟨_, rfl⟩
  have o1 := vec_ok l (by omega)
  have o2 := vec_ok m (by omega)
  rw [hp] at o1
  rw [hq] at o2
  rw [hp, hq]
  have e1 : exL [(p : Int)] [(q : Int)] = [(p : Int)] := rfl
  have e2 : exL [(q : Int)] [(p : Int)] = [(q : Int)] := rfl
  have eN : ctwN [(p : Int)] [(q : Int)] = 0 := rfl
  have hL : ctwL [(p : Int)] [(q : Int)] = [((p + q : Nat) : Int)] := by
    unfold ctwL
    rw [eN, e1, e2]
    show [(p : Int) + (q : Int)] = _
    rw [Int.natCast_add]
  have hE : ctwE [(p : Int)] [(q : Int)] = 0 := by
    unfold ctwE
    rw [hL, eN, e1, e2, sh_one (by omega) (by omega), sh_one (by omega) (by omega), if_neg (by decide), if_neg (by simp), if_neg (by simp), sh_one (by omega) (by omega), if_pos rfl]
  have hF : ctwF [(p : Int)] [(q : Int)] = catF (p + q) p q p q := by
    unfold ctwF
    rw [eN, e1, e2, prodI_one, prodI_one]
    show catF ((p : Int) + (q : Int)).toNat (p : Int).toNat (q : Int).toNat (p : Int).toNat (q : Int).toNat = _
    rw [← Int.natCast_add, Int.toNat_natCast, Int.toNat_natCast, Int.toNat_natCast]
  have hel : ∀ i < p + q, elB 1 [⟨1, [(p : Int)], l⟩, ⟨1, [(q : Int)], m⟩] (catF (p + q) p q p q i) = true := fun i hi => by
    unfold catF
    by_cases h : i % (p + q) < p
    · rw [if_pos h]
      have hlt := Nat.mod_lt (i / (p + q) * p + i % (p + q)) (show 0 < p by omega)
      generalize (i / (p + q) * p + i % (p + q)) % p = x at *
      show (l[(x : Int).toNat]?).isSome = true
      rw [Int.toNat_natCast, List.getElem?_eq_getElem (by omega)]
      rfl
    · rw [if_neg h]
      have h2 := Nat.mod_lt i (show 0 < p + q by omega)
      have hlt := Nat.mod_lt (i / (p + q) * q + (i % (p + q) - p)) (show 0 < q by omega)
      generalize (i / (p + q) * q + (i % (p + q) - p)) % q = x at *
      show (m[(x : Int).toNat]?).isSome = true
      rw [Int.toNat_natCast, List.getElem?_eq_getElem (by omega)]
      rfl
  obtain ⟨g1, g2⟩ := goE_one (by omega) hel
  refine ⟨?_, catF (p + q) p q p q, ?_⟩
  · unfold ctE
    rw [o1, o2]
    show (if (true && true) = false then (110 : Int) else if (1 : Int) ≠ 1 ∧ (ctwE [(p : Int)] [(q : Int)] = 0 ∨ ctwE [(p : Int)] [(q : Int)] = 9) then 5 else if ctwE [(p : Int)] [(q : Int)] ≠ 0 then ctwE [(p : Int)] [(q : Int)] else goE 1 [⟨1, [(p : Int)], l⟩, ⟨1, [(q : Int)], m⟩] (ctwL [(p : Int)] [(q : Int)]) (ctwF [(p : Int)] [(q : Int)])) = 0
    rw [if_neg (by decide), if_neg (fun h => h.1 rfl), if_neg (fun h => h hE), hL, hF, g1]
  · unfold ctA
    rw [o1, o2]
    show (if (true && true) = false then noA else if (1 : Int) ≠ 1 ∧ (ctwE [(p : Int)] [(q : Int)] = 0 ∨ ctwE [(p : Int)] [(q : Int)] = 9) then noA else if ctwE [(p : Int)] [(q : Int)] ≠ 0 then noA else goA 1 [⟨1, [(p : Int)], l⟩, ⟨1, [(q : Int)], m⟩] (ctwL [(p : Int)] [(q : Int)]) (ctwF [(p : Int)] [(q : Int)])) = _
    rw [if_neg (by decide), if_neg (fun h => h.1 rfl), if_neg (fun h => h hE), hL, hF, g2]
theorem srcB (s : Sp) (a : AV) (hs : s.has = a.el.length) (i : Nat) (h : i < s.len.toNat) : elB 1 [a] (srcF [s] i) = true := by
  by_cases hb : badB [s] i 0 = true
  · have ha : anyBad [s] i 1 = true := by
      show (badB [s] i 0 || false) = true
      rw [hb]
      rfl
    have e : srcF [s] i = (-1, 0) := by
      unfold srcF
      show (if anyBad [s] i 1 = true then ((-1 : Int), (0 : Int)) else (0, srcP [s] i 1)) = _
      rw [if_pos ha]
    rw [e]
    rfl
  · have hb2 := hb
    unfold badB at hb
    rw [ix1 s i h] at hb
    have hb3 : ¬ ((decide ((i : Int) + s.frm < 0) || decide (s.has ≤ (i : Int) + s.frm)) = true) := hb
    rw [Bool.or_eq_true, decide_eq_true_eq, decide_eq_true_eq] at hb3
    rw [src1 s i h (by omega) (by omega)]
    unfold elB
    rw [el1 a 1 _ (by omega), List.getElem?_eq_getElem (by omega)]
    rfl
/-- What is cut of a vector. -/
theorem cut_one (cf : Int → Int → Sp) (n : Int) (a : AV) (p : Nat) (hp : p ≤ 4096) (hs : a.sh = [(p : Int)]) (ho : okA a = true) (hk : a.kind = 1) (s : Sp) (hsd : cf (limN n) p = s) (hh : s.has = p) (h0 : 0 ≤ s.len) :
    (s.len ≤ 4096 → mdE a (cwE cf ⟨1, [], [n]⟩ a.sh) (ctSh cf ⟨1, [], [n]⟩ a.sh) (ctF cf ⟨1, [], [n]⟩ a.sh) = 0 ∧ ∃ f, mdA a (cwE cf ⟨1, [], [n]⟩ a.sh) (ctSh cf ⟨1, [], [n]⟩ a.sh) (ctF cf ⟨1, [], [n]⟩ a.sh) = makeA 1 [((s.len.toNat : Nat) : Int)] (goV 1 [a] f)) ∧
    (4096 < s.len → mdE a (cwE cf ⟨1, [], [n]⟩ a.sh) (ctSh cf ⟨1, [], [n]⟩ a.sh) (ctF cf ⟨1, [], [n]⟩ a.sh) = 9 ∧ mdA a (cwE cf ⟨1, [], [n]⟩ a.sh) (ctSh cf ⟨1, [], [n]⟩ a.sh) (ctF cf ⟨1, [], [n]⟩ a.sh) = noA) := by
  rw [hs]
  have hE : axE ⟨1, [], [n]⟩ [(p : Int)] = 0 := by
    unfold axE
    rw [sh_one (by omega) (by omega), if_pos rfl]
    unfold listE
    rw [one_ok, if_pos rfl]
    rfl
  have hL : axL ⟨1, [], [n]⟩ [(p : Int)] = [limN n] := by
    unfold axL
    rw [hE, if_pos rfl]
    rfl
  have hC : cutL cf (axL ⟨1, [], [n]⟩ [(p : Int)]) (sh1 [(p : Int)]) = [s] := by
    rw [hL, ← hsd]
    rfl
  have hw : cwE cf ⟨1, [], [n]⟩ [(p : Int)] = if okShape [s.len] = true then 0 else 9 := by
    unfold cwE
    rw [hE, if_neg (fun h => h rfl), hC, hL, if_neg (by simp [sh1])]
    rfl
  have hlen : a.el.length = p := by
    have := (okA_iff.1 ho).2.1
    rw [hs, prodI_one] at this
    omega
  obtain ⟨m, hm⟩ := Int.eq_ofNat_of_zero_le h0
  have hmt : s.len.toNat = m := by omega
  have hS : ctSh cf ⟨1, [], [n]⟩ [(p : Int)] = [(m : Int)] := by
    unfold ctSh
    rw [hC, ← hm]
    rfl
  have hF : ctF cf ⟨1, [], [n]⟩ [(p : Int)] = srcF [s] := by
    unfold ctF
    rw [hC]
  refine ⟨fun h => ?_, fun h => ?_⟩
  · rw [hw, sh_one h0 h, if_pos rfl, hS, hF, hmt]
    obtain ⟨g1, g2⟩ := goE_one (ls := [a]) (f := srcF [s]) (show m ≤ 4096 by omega) (fun i hi => srcB s a (by omega) i (by omega))
    refine ⟨?_, srcF [s], ?_⟩
    · unfold mdE
      rw [ho, if_neg (by decide), if_neg (fun h => h rfl), hk, g1]
    · unfold mdA
      rw [ho, if_neg (by decide), if_neg (fun h => h rfl), hk, g2]
  · have hno : okShape [s.len] = false := by
      cases e : okShape [s.len] with
      | false => rfl
      | true =>
        have := (okShape_iff.1 e).2.2
        rw [prodI_one] at this
        omega
    rw [hw, hno, if_neg (by decide)]
    unfold mdE mdA
    rw [ho]
    exact ⟨rfl, rfl⟩
theorem take_vec (n : Int) (a : AV) (p : Nat) (hp : p ≤ 4096) (hs : a.sh = [(p : Int)]) (ho : okA a = true) (hk : a.kind = 1) :
    (-4096 ≤ n → n ≤ 4096 → tkE ⟨1, [], [n]⟩ a = 0 ∧ ∃ f, tkA ⟨1, [], [n]⟩ a = makeA 1 [((n.natAbs : Nat) : Int)] (goV 1 [a] f)) ∧
    (n < -4096 ∨ 4096 < n → tkE ⟨1, [], [n]⟩ a = 9 ∧ tkA ⟨1, [], [n]⟩ a = noA) := by
  have hsp : (takN (limN n) p).has = p ∧ (takN (limN n) p).len = (limN n).natAbs := by
    unfold takN
    split
    · exact ⟨rfl, by simp; omega⟩
    · exact ⟨rfl, by simp; omega⟩
  obtain ⟨c1, c2⟩ := cut_one takN n a p hp hs ho hk _ rfl hsp.1 (by rw [hsp.2]; omega)
  rw [hsp.2] at c1 c2
  unfold tkE tkA
  unfold limN at c1 c2
  refine ⟨fun h1 h2 => ?_, fun h => c2 (by omega)⟩
  obtain ⟨c3, f, c4⟩ := c1 (by omega)
  refine ⟨c3, f, ?_⟩
  rw [c4]
  have e : (((max (-4097) (min n 4097)).natAbs : Int)).toNat = n.natAbs := by omega
  rw [e]
theorem drop_vec (n : Int) (a : AV) (p : Nat) (hp : p ≤ 4096) (hs : a.sh = [(p : Int)]) (ho : okA a = true) (hk : a.kind = 1) :
    dpE ⟨1, [], [n]⟩ a = 0 ∧ ∃ f, dpA ⟨1, [], [n]⟩ a = makeA 1 [((p - n.natAbs : Nat) : Int)] (goV 1 [a] f) := by
  have hsp : (droN (limN n) p).has = p ∧ (droN (limN n) p).len = ((p - n.natAbs : Nat) : Int) := by
    unfold droN limN
    split
    · exact ⟨rfl, by simp only; omega⟩
    · exact ⟨rfl, by simp only; omega⟩
  obtain ⟨c1, c2⟩ := cut_one droN n a p hp hs ho hk _ rfl hsp.1 (by rw [hsp.2]; omega)
  rw [hsp.2] at c1
  unfold dpE dpA
  obtain ⟨c3, f, c4⟩ := c1 (by omega)
  refine ⟨c3, f, ?_⟩
  rw [c4, Int.toNat_natCast]
end Go.Proofs.Ythadnhcgoefljaa.mo

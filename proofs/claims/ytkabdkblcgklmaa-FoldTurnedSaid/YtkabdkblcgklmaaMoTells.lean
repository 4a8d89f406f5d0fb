/-
  Layer 13 (mold): Tally.
  Layer 13 (mold): how long what is catenated, taken and dropped of vectors is.
  Layer 13 (mold): Ravel.
  Layer 13 (mold): Shape.
  Layer 13 (mold): what is reshaped of a ravel, and of any array.
  Layer 13 (mold): a cut's places lie in the array; what is taken and dropped of any array is made.
-/
import Derived.Test.YtkabdkblcgklmaaMoVec
import Derived.Test.YtkabdkblcgklmaaMoCatE
import Derived.Test.YtkabdkblcgklmaaMoAlive
import Derived.Test.YtkabdkblcgklmaaArCopy
import Derived.Test.YtkabdkblcgklmaaArMake
namespace Go.Proofs.Ytkabdkblcgklmaa.mo
open Go.RowKit Go.Proofs.Ytkabdkblcgklmaa.arr

/-- Tally's error, and what it makes. -/
def tyN (a : AV) : Int := if a.sh.length = 0 then 1 else a.sh.getD 0 0
def tyE (a : AV) : Int := if okA a = true then 0 else 110
def tyA (a : AV) : AV := if okA a = true then ⟨1, [], [tyN a]⟩ else noA
end Go.Proofs.Ytkabdkblcgklmaa.mo

namespace Go.Proofs.Ytkabdkblcgklmaa.mo
open Go.RowKit Go.Proofs.Ytkabdkblcgklmaa.arr

theorem prodI_one (x : Int) : prodI [x] = x := Int.mul_one _
theorem vec_ok (l : List Int) (h : l.length ≤ 4096) : okA ⟨1, [(l.length : Int)], l⟩ = true :=
  okA_iff.2 ⟨sh_one (by omega) (by omega), (prodI_one _).symm, rfl⟩
theorem goE_one {ls : List AV} {f : Nat → Int × Int} {m : Nat} (hm : m ≤ 4096) (h : ∀ i < m, elB 1 ls (f i) = true) : goE 1 ls [(m : Int)] f = 0 ∧ goA 1 ls [(m : Int)] f = makeA 1 [(m : Int)] (goV 1 ls f) := by
  have hpm : (prodI [(m : Int)]).toNat = m := by
    have := prodI_one (m : Int)
    omega
  have hE : goE 1 ls [(m : Int)] f = 0 := by
    unfold goE
    rw [if_neg (by decide), hpm, astB_no h, if_neg (by decide)]
    unfold checkE goR
    rw [okA_mk _ hm, if_pos rfl]
  refine ⟨hE, ?_⟩
  unfold goA goR
  rw [hE, if_pos rfl]
theorem mk_len (m : Nat) (f : Int → Int) : (makeA 1 [(m : Int)] f).el.length = m := by
  show (fL f (prodI [(m : Int)]).toNat).length = m
  rw [fL_length, prodI_one]
  omega
theorem mk_fine {m : Nat} {f : Int → Int} (h : ∀ z, -9223372036854775808 ≤ f z ∧ f z ≤ 9223372036854775807) : ∀ z ∈ (makeA 1 [(m : Int)] f).el, -9223372036854775808 ≤ z ∧ z ≤ 9223372036854775807 := fun z hz => by
  obtain ⟨i, _, rfl⟩ := List.mem_map.1 (show z ∈ (List.range _).map _ from hz)
  exact h _
/-- Two vectors are put together. -/
theorem cat_vec (l m : List Int) (hl : l.length ≤ 2000) (hm : m.length ≤ 2000) :
    ctE ⟨1, [(l.length : Int)], l⟩ ⟨1, [(m.length : Int)], m⟩ = 0 ∧ ∃ f, ctA ⟨1, [(l.length : Int)], l⟩ ⟨1, [(m.length : Int)], m⟩ = makeA 1 [((l.length + m.length : Nat) : Int)] (goV 1 [⟨1, [(l.length : Int)], l⟩, ⟨1, [(m.length : Int)], m⟩] f) := by
  obtain ⟨p, hp⟩ : ∃ p, l.length = p := ⟨_, rfl⟩
  obtain ⟨q, hq⟩ : ∃ q, m.length = q := ⟨_, rfl⟩
  have o1 := vec_ok l (by omega)
  have o2 := vec_ok m (by omega)
  rw [hp] at o1
  rw [hq] at o2
  rw [hp, hq]
  have e1 : exL [(p : Int)] [(q : Int)] = [(p : Int)] := rfl
  have e2 : exL [(q : Int)] [(p : Int)] = [(q : Int)] := rfl
  have eN : ctwN [(p : Int)] [(q : Int)] = 0 := rfl
  have hL : ctwL [(p : Int)] [(q : Int)] = [((p + q : Nat) : Int)] := by
    unfold ctwL
    rw [eN, e1, e2]
    show [(p : Int) + (q : Int)] = _
    rw [Int.natCast_add]
  have hE : ctwE [(p : Int)] [(q : Int)] = 0 := by
    unfold ctwE
    rw [hL, eN, e1, e2, sh_one (by omega) (by omega), sh_one (by omega) (by omega), if_neg (by decide), if_neg (by simp), if_neg (by simp), sh_one (by omega) (by omega), if_pos rfl]
  have hF : ctwF [(p : Int)] [(q : Int)] = catF (p + q) p q p q := by
    unfold ctwF
    rw [eN, e1, e2, prodI_one, prodI_one]
    show catF ((p : Int) + (q : Int)).toNat (p : Int).toNat (q : Int).toNat (p : Int).toNat (q : Int).toNat = _
    rw [← Int.natCast_add, Int.toNat_natCast, Int.toNat_natCast, Int.toNat_natCast]
  have hel : ∀ i < p + q, elB 1 [⟨1, [(p : Int)], l⟩, ⟨1, [(q : Int)], m⟩] (catF (p + q) p q p q i) = true := fun i hi => by
    unfold catF
    by_cases h : i % (p + q) < p
    · rw [if_pos h]
      have hlt := Nat.mod_lt (i / (p + q) * p + i % (p + q)) (show 0 < p by omega)
      generalize (i / (p + q) * p + i % (p + q)) % p = x at *
      show (l[(x : Int).toNat]?).isSome = true
      rw [Int.toNat_natCast, List.getElem?_eq_getElem (by omega)]
      rfl
    · rw [if_neg h]
      have h2 := Nat.mod_lt i (show 0 < p + q by omega)
      have hlt := Nat.mod_lt (i / (p + q) * q + (i % (p + q) - p)) (show 0 < q by omega)
      generalize (i / (p + q) * q + (i % (p + q) - p)) % q = x at *
      show (m[(x : Int).toNat]?).isSome = true
      rw [Int.toNat_natCast, List.getElem?_eq_getElem (by omega)]
      rfl
  obtain ⟨g1, g2⟩ := goE_one (by omega) hel
  refine ⟨?_, catF (p + q) p q p q, ?_⟩
  · unfold ctE
    rw [o1, o2]
    show (if (true && true) = false then (110 : Int) else if (1 : Int) ≠ 1 ∧ (ctwE [(p : Int)] [(q : Int)] = 0 ∨ ctwE [(p : Int)] [(q : Int)] = 9) then 5 else if ctwE [(p : Int)] [(q : Int)] ≠ 0 then ctwE [(p : Int)] [(q : Int)] else goE 1 [⟨1, [(p : Int)], l⟩, ⟨1, [(q : Int)], m⟩] (ctwL [(p : Int)] [(q : Int)]) (ctwF [(p : Int)] [(q : Int)])) = 0
    rw [if_neg (by decide), if_neg (fun h => h.1 rfl), if_neg (fun h => h hE), hL, hF, g1]
  · unfold ctA
    rw [o1, o2]
    show (if (true && true) = false then noA else if (1 : Int) ≠ 1 ∧ (ctwE [(p : Int)] [(q : Int)] = 0 ∨ ctwE [(p : Int)] [(q : Int)] = 9) then noA else if ctwE [(p : Int)] [(q : Int)] ≠ 0 then noA else goA 1 [⟨1, [(p : Int)], l⟩, ⟨1, [(q : Int)], m⟩] (ctwL [(p : Int)] [(q : Int)]) (ctwF [(p : Int)] [(q : Int)])) = _
    rw [if_neg (by decide), if_neg (fun h => h.1 rfl), if_neg (fun h => h hE), hL, hF, g2]
theorem srcB (s : Sp) (a : AV) (hs : s.has = a.el.length) (i : Nat) (h : i < s.len.toNat) : elB 1 [a] (srcF [s] i) = true := by
  by_cases hb : badB [s] i 0 = true
  · have ha : anyBad [s] i 1 = true := by
      show (badB [s] i 0 || false) = true
      rw [hb]
      rfl
    have e : srcF [s] i = (-1, 0) := by
      unfold srcF
      show (if anyBad [s] i 1 = true then ((-1 : Int), (0 : Int)) else (0, srcP [s] i 1)) = _
      rw [if_pos ha]
    rw [e]
    rfl
  · have hb2 := hb
    unfold badB at hb
    rw [ix1 s i h] at hb
    have hb3 : ¬ ((decide ((i : Int) + s.frm < 0) || decide (s.has ≤ (i : Int) + s.frm)) = true) := hb
    rw [Bool.or_eq_true, decide_eq_true_eq, decide_eq_true_eq] at hb3
    rw [src1 s i h (by omega) (by omega)]
    unfold elB
    rw [el1 a 1 _ (by omega), List.getElem?_eq_getElem (by omega)]
    rfl
/-- What is cut of a vector. -/
theorem cut_one (cf : Int → Int → Sp) (n : Int) (a : AV) (p : Nat) (hp : p ≤ 4096) (hs : a.sh = [(p : Int)]) (ho : okA a = true) (hk : a.kind = 1) (s : Sp) (hsd : cf (limN n) p = s) (hh : s.has = p) (h0 : 0 ≤ s.len) :
    (s.len ≤ 4096 → mdE a (cwE cf ⟨1, [], [n]⟩ a.sh) (ctSh cf ⟨1, [], [n]⟩ a.sh) (ctF cf ⟨1, [], [n]⟩ a.sh) = 0 ∧ ∃ f, mdA a (cwE cf ⟨1, [], [n]⟩ a.sh) (ctSh cf ⟨1, [], [n]⟩ a.sh) (ctF cf ⟨1, [], [n]⟩ a.sh) = makeA 1 [((s.len.toNat : Nat) : Int)] (goV 1 [a] f)) ∧
    (4096 < s.len → mdE a (cwE cf ⟨1, [], [n]⟩ a.sh) (ctSh cf ⟨1, [], [n]⟩ a.sh) (ctF cf ⟨1, [], [n]⟩ a.sh) = 9 ∧ mdA a (cwE cf ⟨1, [], [n]⟩ a.sh) (ctSh cf ⟨1, [], [n]⟩ a.sh) (ctF cf ⟨1, [], [n]⟩ a.sh) = noA) := by
  rw [hs]
  have hE : axE ⟨1, [], [n]⟩ [(p : Int)] = 0 := by
    unfold axE
    rw [sh_one (by omega) (by omega), if_pos rfl]
    unfold listE
    rw [one_ok, if_pos rfl]
    rfl
  have hL : axL ⟨1, [], [n]⟩ [(p : Int)] = [limN n] := by
    unfold axL
    rw [hE, if_pos rfl]
    rfl
  have hC : cutL cf (axL ⟨1, [], [n]⟩ [(p : Int)]) (sh1 [(p : Int)]) = [s] := by
    rw [hL, ← hsd]
    rfl
  have hw : cwE cf ⟨1, [], [n]⟩ [(p : Int)] = if okShape [s.len] = true then 0 else 9 := by
    unfold cwE
    rw [hE, if_neg (fun h => h rfl), hC, hL, if_neg (by simp [sh1])]
    rfl
  have hlen : a.el.length = p := by
    have := (okA_iff.1 ho).2.1
    rw [hs, prodI_one] at this
    omega
  obtain ⟨m, hm⟩ := Int.eq_ofNat_of_zero_le h0
  have hmt : s.len.toNat = m := by omega
  have hS : ctSh cf ⟨1, [], [n]⟩ [(p : Int)] = [(m : Int)] := by
    unfold ctSh
    rw [hC, ← hm]
    rfl
  have hF : ctF cf ⟨1, [], [n]⟩ [(p : Int)] = srcF [s] := by
    unfold ctF
    rw [hC]
  refine ⟨fun h => ?_, fun h => ?_⟩
  · rw [hw, sh_one h0 h, if_pos rfl, hS, hF, hmt]
    obtain ⟨g1, g2⟩ := goE_one (ls := [a]) (f := srcF [s]) (show m ≤ 4096 by omega) (fun i hi => srcB s a (by omega) i (by omega))
    refine ⟨?_, srcF [s], ?_⟩
    · unfold mdE
      rw [ho, if_neg (by decide), if_neg (fun h => h rfl), hk, g1]
    · unfold mdA
      rw [ho, if_neg (by decide), if_neg (fun h => h rfl), hk, g2]
  · have hno : okShape [s.len] = false := by
      cases e : okShape [s.len] with
      | false => rfl
      | true =>
        have := (okShape_iff.1 e).2.2
        rw [prodI_one] at this
        omega
    rw [hw, hno, if_neg (by decide)]
    unfold mdE mdA
    rw [ho]
    exact ⟨rfl, rfl⟩
theorem take_vec (n : Int) (a : AV) (p : Nat) (hp : p ≤ 4096) (hs : a.sh = [(p : Int)]) (ho : okA a = true) (hk : a.kind = 1) :
    (-4096 ≤ n → n ≤ 4096 → tkE ⟨1, [], [n]⟩ a = 0 ∧ ∃ f, tkA ⟨1, [], [n]⟩ a = makeA 1 [((n.natAbs : Nat) : Int)] (goV 1 [a] f)) ∧
    (n < -4096 ∨ 4096 < n → tkE ⟨1, [], [n]⟩ a = 9 ∧ tkA ⟨1, [], [n]⟩ a = noA) := by
  have hsp : (takN (limN n) p).has = p ∧ (takN (limN n) p).len = (limN n).natAbs := by
    unfold takN
    split
    · exact ⟨rfl, by simp; omega⟩
    · exact ⟨rfl, by simp; omega⟩
  obtain ⟨c1, c2⟩ := cut_one takN n a p hp hs ho hk _ rfl hsp.1 (by rw [hsp.2]; omega)
  rw [hsp.2] at c1 c2
  unfold tkE tkA
  unfold limN at c1 c2
  refine ⟨fun h1 h2 => ?_, fun h => c2 (by omega)⟩
  obtain ⟨c3, f, c4⟩ := c1 (by omega)
  refine ⟨c3, f, ?_⟩
  rw [c4]
  have e : (((max (-4097) (min n 4097)).natAbs : Int)).toNat = n.natAbs := by omega
  rw [e]
theorem drop_vec (n : Int) (a : AV) (p : Nat) (hp : p ≤ 4096) (hs : a.sh = [(p : Int)]) (ho : okA a = true) (hk : a.kind = 1) :
    dpE ⟨1, [], [n]⟩ a = 0 ∧ ∃ f, dpA ⟨1, [], [n]⟩ a = makeA 1 [((p - n.natAbs : Nat) : Int)] (goV 1 [a] f) := by
  have hsp : (droN (limN n) p).has = p ∧ (droN (limN n) p).len = ((p - n.natAbs : Nat) : Int) := by
    unfold droN limN
    split
    · exact ⟨rfl, by simp only; omega⟩
    · exact ⟨rfl, by simp only; omega⟩
  obtain ⟨c1, c2⟩ := cut_one droN n a p hp hs ho hk _ rfl hsp.1 (by rw [hsp.2]; omega)
  rw [hsp.2] at c1
  unfold dpE dpA
  obtain ⟨c3, f, c4⟩ := c1 (by omega)
  refine ⟨c3, f, ?_⟩
  rw [c4, Int.toNat_natCast]
end Go.Proofs.Ytkabdkblcgklmaa.mo

namespace Go.Proofs.Ytkabdkblcgklmaa.mo
open Go.RowKit Go.Proofs.Ytkabdkblcgklmaa.arr

def stz (z : Nat) (P : Value → World → Prop) : Prop := stk P ∧ ∀ v W x y u, P v W → P v (((W.setCell ⟨z + 1, 0, none⟩ x).setCell ⟨z + 1, 1, none⟩ y).setCell ⟨z + 1, 2, none⟩ u)
theorem cpR_z (t : TypeId) (z : Nat) (l : List Int) : stz z (CpR t (z + 2) l) := ⟨fun v W W' hb h => by
    obtain ⟨A, c, rfl, h⟩ := h
    exact ⟨A, c, rfl, arown_stay h hb (fun g hg => (arown_lt h g hg).2)⟩, fun v W x y u h => by
    obtain ⟨A, c, rfl, h⟩ := h
    exact ⟨A, c, rfl, (arkeep_three W (z + 1) x y u).own h (fun g hg e => by have := (arown_lt h g hg).1; omega)⟩⟩
theorem cpA_z (z : Nat) (X : AV) : stz z (CpA (z + 2) X) := ⟨fun v W W' hb h => by
    obtain ⟨q, rfl, h⟩ := h
    exact ⟨q, rfl, h.stay hb (Nat.le_refl _)⟩, fun v W x y u h => by
    obtain ⟨q, rfl, h⟩ := h
    exact ⟨q, rfl, h.keep (arkeep_three W (z + 1) x y u) (fun k h1 _ _ e => by omega)⟩⟩
theorem lookU_z {z : Nat} : ∀ {l : List (Nat × (Value → World → Prop))}, (∀ x ∈ l, stz z x.2) → ∀ (W : World) (x y u : Value) (j : Nat) (v : Value), lookU l j v W → lookU l j v (((W.setCell ⟨z + 1, 0, none⟩ x).setCell ⟨z + 1, 1, none⟩ y).setCell ⟨z + 1, 2, none⟩ u)
  | [], _ => fun _ _ _ _ _ _ h => h
  | (k, P) :: l, hl => fun W x y u j v h => by
    unfold lookU at h ⊢
    by_cases hk : j = k
    · rw [if_pos hk] at h ⊢
      exact (hl (k, P) (List.mem_cons_self ..)).2 v W x y u h
    · rw [if_neg hk] at h ⊢
      exact lookU_z (fun x hx => hl x (List.mem_cons_of_mem _ hx)) W x y u j v h
theorem cpT_drew {w W : World} {a : AV} {p : AP} (h : CpT w a p W) : CpT w a p W.drew := (cpCT w a p).t _ _ ((Below.refl _ _).drew) h
theorem cpCTz {w : World} {a X : AV} {p : AP} {l : List (Nat × (Value → World → Prop))} (hl : ∀ x ∈ l, stz w.heap.size x.2) : CT (CpT w a p) (CpF w.heap.size X) (lookU l) :=
  ⟨(cpCT w a p).t, (cpCT w X p).f, lookU_stay (fun x hx => (hl x hx).1)⟩
/-- What Ravel makes. -/
def raA (a : AV) : AV := if okA a = true then ⟨a.kind, [(a.el.length : Int)], a.el⟩ else noA
end Go.Proofs.Ytkabdkblcgklmaa.mo

namespace Go.Proofs.Ytkabdkblcgklmaa.mo
open Go.RowKit Go.Proofs.Ytkabdkblcgklmaa.arr

/-- What Shape makes. -/
def shA (a : AV) : AV := if okA a = true then ⟨1, [(a.sh.length : Int)], a.sh⟩ else noA
end Go.Proofs.Ytkabdkblcgklmaa.mo

namespace Go.Proofs.Ytkabdkblcgklmaa.mo
open Go.RowKit Go.Proofs.Ytkabdkblcgklmaa.arr

def rsV (a : AV) (i : Nat) : Int := if a.el.length = 0 then fillV a.kind else a.el.getD (i % a.el.length) 0
theorem rsh_el (a : AV) (ho : okA a = true) (i : Nat) : elF a.kind [a] (rshF (prodI a.sh) i) = some (rsV a i) := by
  have hl := (okA_iff.1 ho).2.1
  rw [← hl]
  unfold rshF rsV
  by_cases h : a.el.length = 0
  · rw [if_pos (by omega), if_pos h]
    rfl
  · rw [if_neg (by omega), if_neg h, ← Int.natCast_emod, el1 a a.kind _ (by omega), Int.toNat_natCast]
    have hlt := Nat.mod_lt i (show 0 < a.el.length by omega)
    rw [List.getD_eq_getElem?_getD, List.getElem?_eq_getElem hlt]
    rfl
theorem rsV_kind (a : AV) (ho : okA a = true) (i : Nat) : a.kind = 2 → charOk (rsV a i) = true := fun hk => by
  have h := (okA_iff.1 ho).2.2
  unfold arr.kindOk at h
  rw [hk] at h
  have h2 : a.el.all charOk = true := by simpa using h
  unfold rsV
  split
  · rw [hk]
    decide
  · rename_i hn
    have hlt := Nat.mod_lt i (show 0 < a.el.length by omega)
    rw [List.getD_eq_getElem?_getD, List.getElem?_eq_getElem hlt]
    exact List.all_eq_true.1 h2 _ (List.getElem_mem hlt)
theorem rsV_fine (a : AV) (hf : ∀ z ∈ a.el, -9223372036854775808 ≤ z ∧ z ≤ 9223372036854775807) (i : Nat) : -9223372036854775808 ≤ rsV a i ∧ rsV a i ≤ 9223372036854775807 := by
  unfold rsV
  split
  · unfold fillV
    split <;> simp
  · rename_i hn
    have hlt := Nat.mod_lt i (show 0 < a.el.length by omega)
    rw [List.getD_eq_getElem?_getD, List.getElem?_eq_getElem hlt]
    exact hf _ (List.getElem_mem hlt)
def rsM (a : AV) (sh : List Int) : AV := ⟨a.kind, sh, (List.range (prodI sh).toNat).map (rsV a)⟩
theorem go_rsh (a : AV) (ho : okA a = true) (sh : List Int) (hs : okShape sh = true) : goE a.kind [a] sh (rshF (prodI a.sh)) = 0 ∧ goA a.kind [a] sh (rshF (prodI a.sh)) = rsM a sh := by
  have hR : goR a.kind [a] sh (rshF (prodI a.sh)) = rsM a sh := by
    unfold goR makeA rsM fL
    congr 1
    apply List.map_congr_left
    intro i _
    unfold goV elV
    rw [Int.toNat_natCast, rsh_el a ho i]
    rfl
  have hk := (okA_iff.1 ho).2.2
  have hkB : kindB a.kind = true := by
    unfold arr.kindOk at hk
    unfold kindB
    rw [Bool.or_eq_true, Bool.and_eq_true] at hk
    rw [Bool.or_eq_true]
    exact hk.imp id And.left
  have hp : 0 ≤ prodI sh := (prodI_bounds _ (okShape_iff.1 hs).2.1).1
  have hO : okA (rsM a sh) = true := by
    refine okA_iff.2 ⟨hs, ?_, ?_⟩
    · show (((List.range (prodI sh).toNat).map (rsV a)).length : Int) = prodI sh
      rw [List.length_map, List.length_range]
      omega
    · show arr.kindOk a.kind ((List.range (prodI sh).toNat).map (rsV a)) = true
      unfold kindB at hkB
      unfold arr.kindOk
      rw [Bool.or_eq_true, decide_eq_true_eq, decide_eq_true_eq] at hkB
      rcases hkB with h | h
      · rw [h]
        rfl
      · have hc : ((List.range (prodI sh).toNat).map (rsV a)).all charOk = true := List.all_eq_true.2 (fun z hz => by
          obtain ⟨i, _, rfl⟩ := List.mem_map.1 hz
          exact rsV_kind a ho i h)
        rw [hc, h]
        rfl
  have hE : goE a.kind [a] sh (rshF (prodI a.sh)) = 0 := by
    unfold goE
    rw [hkB, if_neg (by decide), astB_no (fun i _ => by unfold elB; rw [rsh_el a ho i]; rfl), if_neg (by decide), hR]
    unfold checkE
    rw [hO, if_pos rfl]
  refine ⟨hE, ?_⟩
  unfold goA
  rw [hE, if_pos rfl, hR]
theorem md_no {a : AV} (ho : okA a = true) {E : Int} (hE : E ≠ 0) (sh : List Int) (f : Nat → Int × Int) : mdE a E sh f = E ∧ mdA a E sh f = noA := by
  constructor
  · unfold mdE
    rw [ho, if_neg (by decide), if_pos hE]
  · unfold mdA
    rw [ho, if_neg (by decide), if_pos hE]
theorem md_yes {a : AV} (ho : okA a = true) (sh : List Int) (f : Nat → Int × Int) : mdE a 0 sh f = goE a.kind [a] sh f ∧ mdA a 0 sh f = goA a.kind [a] sh f := by
  constructor
  · unfold mdE
    rw [ho, if_neg (by decide), if_neg (fun h => h rfl)]
  · unfold mdA
    rw [ho, if_neg (by decide), if_neg (fun h => h rfl)]
theorem lim_same {l : List Int} (h : ∀ z ∈ l, 0 ≤ z ∧ z ≤ 4096) : l.map limN = l := by
  have : l.map limN = l.map id := List.map_congr_left (fun z hz => by
    have := h z hz
    unfold limN
    show _ = z
    omega)
  rw [this, List.map_id]
theorem vec_axE (l : List Int) (hl : l.length ≤ 4096) {sh : List Int} (hs : okShape sh = true) : axE ⟨1, [(l.length : Int)], l⟩ sh = 0 ∧ axL ⟨1, [(l.length : Int)], l⟩ sh = l.map limN := by
  have hE : axE ⟨1, [(l.length : Int)], l⟩ sh = 0 := by
    unfold axE
    rw [hs, if_pos rfl]
    unfold listE
    rw [vec_ok l hl, if_pos rfl]
    rfl
  refine ⟨hE, ?_⟩
  unfold axL
  rw [hE, if_pos rfl]
/-- A list reshapes an array. -/
theorem rs_list (l : List Int) (hl : l.length ≤ 4096) (a : AV) (ho : okA a = true) :
    (rsE ⟨1, [(l.length : Int)], l⟩ a = 5 ∨ rsE ⟨1, [(l.length : Int)], l⟩ a = 9) ∧ rsA ⟨1, [(l.length : Int)], l⟩ a = noA ∨ rsE ⟨1, [(l.length : Int)], l⟩ a = 0 ∧ okShape l = true ∧ rsA ⟨1, [(l.length : Int)], l⟩ a = rsM a l := by
  have hs := (okA_iff.1 ho).1
  obtain ⟨h1, h2⟩ := vec_axE l hl hs
  have hw : rwE ⟨1, [(l.length : Int)], l⟩ a.sh = if (l.map limN).any negB = true then 5 else if okShape (l.map limN) = true then 0 else 9 := by
    unfold rwE
    rw [h1, if_neg (fun h => h rfl), h2]
  unfold rsE rsA
  rw [h2]
  by_cases hn : (l.map limN).any negB = true
  · rw [if_pos hn] at hw
    rw [hw, (md_no ho (by decide) _ _).1, (md_no ho (by decide) _ _).2]
    exact .inl ⟨.inl rfl, rfl⟩
  · rw [if_neg hn] at hw
    by_cases hk : okShape (l.map limN) = true
    · rw [if_pos hk] at hw
      rw [hw, (md_yes ho _ _).1, (md_yes ho _ _).2]
      have hb : ∀ z ∈ l, 0 ≤ z ∧ z ≤ 4096 := fun z hz => by
        have := lenOk_iff.1 (List.all_eq_true.1 (okShape_iff.1 hk).2.1 (limN z) (List.mem_map.2 ⟨z, hz, rfl⟩))
        unfold limN at this
        omega
      rw [lim_same hb] at hk ⊢
      obtain ⟨g1, g2⟩ := go_rsh a ho l hk
      exact .inr ⟨g1, hk, g2⟩
    · rw [if_neg hk] at hw
      rw [hw, (md_no ho (by decide) _ _).1, (md_no ho (by decide) _ _).2]
      exact .inl ⟨.inr rfl, rfl⟩
/-- A ravel, reshaped by the shape, is the array. -/
theorem rs_back (a : AV) (ho : okA a = true) : rsE ⟨1, [(a.sh.length : Int)], a.sh⟩ ⟨a.kind, [(a.el.length : Int)], a.el⟩ = 0 ∧ rsA ⟨1, [(a.sh.length : Int)], a.sh⟩ ⟨a.kind, [(a.el.length : Int)], a.el⟩ = a ∧ okA ⟨a.kind, [(a.el.length : Int)], a.el⟩ = true := by
  obtain ⟨k1, k2⟩ := okA_len ho
  obtain ⟨h1, h2, h3⟩ := okA_iff.1 ho
  have hr : okA ⟨a.kind, [(a.el.length : Int)], a.el⟩ = true := okA_iff.2 ⟨sh_one (by omega) (by omega), (prodI_one _).symm, h3⟩
  have hb : ∀ z ∈ a.sh, 0 ≤ z ∧ z ≤ 4096 := fun z hz => lenOk_iff.1 (List.all_eq_true.1 (okShape_iff.1 h1).2.1 z hz)
  have hM : rsM ⟨a.kind, [(a.el.length : Int)], a.el⟩ a.sh = a := by
    have hel : (List.range (prodI a.sh).toNat).map (rsV ⟨a.kind, [(a.el.length : Int)], a.el⟩) = a.el := by
      rw [← h2, Int.toNat_natCast]
      apply List.ext_getElem
      · simp
      · intro i q1 q2
        rw [List.getElem_map, List.getElem_range]
        show (if a.el.length = 0 then _ else a.el.getD (i % a.el.length) 0) = _
        rw [if_neg (by omega), Nat.mod_eq_of_lt q2, List.getD_eq_getElem?_getD, List.getElem?_eq_getElem q2]
        rfl
    unfold rsM
    rw [hel]
  have hlim := lim_same hb
  rcases rs_list a.sh (by omega) ⟨a.kind, [(a.el.length : Int)], a.el⟩ hr with ⟨h, _⟩ | ⟨e1, _, e2⟩
  · exfalso
    obtain ⟨x1, x2⟩ := vec_axE a.sh (by omega) (okA_iff.1 hr).1
    have hn : (a.sh.map limN).any negB = false := by
      rw [hlim, List.any_eq_false]
      intro z hz
      have := hb z hz
      unfold negB
      simp
      omega
    have hw : rwE ⟨1, [(a.sh.length : Int)], a.sh⟩ [(a.el.length : Int)] = 0 := by
      unfold rwE
      rw [x1, if_neg (fun h => h rfl), x2, hn, if_neg (by decide), hlim, h1, if_pos rfl]
    have h0 : rsE ⟨1, [(a.sh.length : Int)], a.sh⟩ ⟨a.kind, [(a.el.length : Int)], a.el⟩ = 0 := by
      unfold rsE
      show mdE _ (rwE ⟨1, [(a.sh.length : Int)], a.sh⟩ [(a.el.length : Int)]) (axL ⟨1, [(a.sh.length : Int)], a.sh⟩ [(a.el.length : Int)]) _ = 0
      rw [hw, (md_yes hr _ _).1, x2, hlim]
      exact (go_rsh ⟨a.kind, [(a.el.length : Int)], a.el⟩ hr a.sh h1).1
    omega
  · exact ⟨e1, by rw [e2, hM], hr⟩
end Go.Proofs.Ytkabdkblcgklmaa.mo

namespace Go.Proofs.Ytkabdkblcgklmaa.mo
open Go.RowKit Go.Proofs.Ytkabdkblcgklmaa.arr

theorem srcP_lt {L : List Sp} {n : Nat} : ∀ k, k ≤ L.length → anyBad L n k = false → 0 ≤ srcP L n k ∧ srcP L n k < prodI ((L.map Sp.has).take k)
  | 0, _, _ => by
    show 0 ≤ (0 : Int) ∧ (0 : Int) < prodI []
    decide
  | k + 1, hk, h => by
    rw [anyBad_succ, Bool.or_eq_false_iff] at h
    obtain ⟨h1, h2⟩ := srcP_lt k (by omega) h.1
    have hb := h.2
    unfold badB at hb
    rw [Bool.or_eq_false_iff, decide_eq_false_iff_not, decide_eq_false_iff_not] at hb
    have hk2 : k < (L.map Sp.has).length := by rw [List.length_map]; omega
    have hh : hasV L k = (L.map Sp.has)[k] := by
      unfold hasV
      rw [List.getElem?_eq_getElem (by omega), List.getElem_map]
    rw [prodI_snoc _ hk2, ← hh]
    show 0 ≤ srcP L n k * hasV L k + ixV L n k ∧ srcP L n k * hasV L k + ixV L n k < _
    have m1 : 0 ≤ srcP L n k * hasV L k := Int.mul_nonneg h1 (by omega)
    have m2 : (srcP L n k + 1) * hasV L k ≤ prodI ((L.map Sp.has).take k) * hasV L k := Int.mul_le_mul_of_nonneg_right (by omega) (by omega)
    have m3 : (srcP L n k + 1) * hasV L k = srcP L n k * hasV L k + hasV L k := by rw [Int.add_mul, Int.one_mul]
    omega
theorem cut_el {L : List Sp} (k : Int) (a : AV) (ls : List AV) (h : prodI (L.map Sp.has) = a.el.length) (n : Nat) : elB k (a :: ls) (srcF L n) = true := by
  unfold srcF
  split
  · rfl
  · rename_i hb
    have hb2 : anyBad L n L.length = false := by
      cases e : anyBad L n L.length with
      | false => rfl
      | true => exact absurd e hb
    obtain ⟨h1, h2⟩ := srcP_lt L.length (Nat.le_refl _) hb2
    rw [List.take_of_length_le (by simp), h] at h2
    unfold elB
    have e : elF k (a :: ls) (0, srcP L n L.length) = a.el[(srcP L n L.length).toNat]? := by
      show (if (0 : Int) = -1 then some (fillV k) else if (0 : Int) ≤ 0 then (if 0 ≤ srcP L n L.length then a.el[(srcP L n L.length).toNat]? else none) else none) = _
      rw [if_neg (by decide), if_pos (by decide), if_pos h1]
    rw [e, List.getElem?_eq_getElem (by omega)]
    rfl
theorem prodI_sh1 (sh : List Int) : prodI (sh1 sh) = prodI sh := by
  unfold sh1
  split
  · rename_i h
    rw [List.eq_nil_of_length_eq_zero h]
    rfl
  · rfl
theorem cut_has {cf : Int → Int → Sp} (hcf : ∀ n h, (cf n h).has = h) : ∀ (l sh : List Int), l.length = sh.length → (cutL cf l sh).map Sp.has = sh
  | [], [], _ => rfl
  | x :: l, y :: sh, h => by
    show (cf x y).has :: (cutL cf l sh).map Sp.has = y :: sh
    rw [hcf, cut_has hcf l sh (by simpa using h)]
  | [], _ :: _, h => by simp at h
  | _ :: _, [], h => by simp at h
theorem takN_has (n h : Int) : (takN n h).has = h := by
  unfold takN
  split <;> rfl
theorem droN_has (n h : Int) : (droN n h).has = h := by
  unfold droN
  split <;> rfl
/-- What a gather map makes whose elements are all there. -/
theorem go_made {k : Int} {ls : List AV} {sh : List Int} {f : Nat → Int × Int} (hkB : kindB k = true) (hs : okShape sh = true) (hel : ∀ i < (prodI sh).toNat, ∃ z, elF k ls (f i) = some z ∧ (k = 2 → charOk z = true)) :
    goE k ls sh f = 0 ∧ goA k ls sh f = goR k ls sh f ∧ okA (goR k ls sh f) = true := by
  have hp : 0 ≤ prodI sh := (prodI_bounds _ (okShape_iff.1 hs).2.1).1
  have hO : okA (goR k ls sh f) = true := by
    refine okA_iff.2 ⟨hs, ?_, ?_⟩
    · show ((fL (goV k ls f) (prodI sh).toNat).length : Int) = prodI sh
      rw [fL_length]
      omega
    · show arr.kindOk k (fL (goV k ls f) (prodI sh).toNat) = true
      unfold kindB at hkB
      unfold arr.kindOk
      rw [Bool.or_eq_true, decide_eq_true_eq, decide_eq_true_eq] at hkB
      rcases hkB with h | h
      · rw [h]
        rfl
      · have hc : (fL (goV k ls f) (prodI sh).toNat).all charOk = true := List.all_eq_true.2 (fun z hz => by
          obtain ⟨i, hi, rfl⟩ := List.mem_map.1 (show z ∈ (List.range _).map _ from hz)
          obtain ⟨y, hy, hy2⟩ := hel i (List.mem_range.1 hi)
          show charOk (elV k ls (f (i : Int).toNat)) = true
          unfold elV
          rw [Int.toNat_natCast, hy]
          exact hy2 h)
        rw [hc, h]
        rfl
  have hE : goE k ls sh f = 0 := by
    unfold goE
    rw [hkB, if_neg (by decide), astB_no (fun i hi => by
      obtain ⟨y, hy, _⟩ := hel i hi
      unfold elB
      rw [hy]
      rfl), if_neg (by decide)]
    unfold checkE
    rw [hO, if_pos rfl]
  refine ⟨hE, ?_, hO⟩
  unfold goA
  rw [hE, if_pos rfl]
theorem kind_of {a : AV} (ho : okA a = true) : kindB a.kind = true := by
  have hk := (okA_iff.1 ho).2.2
  unfold arr.kindOk at hk
  unfold kindB
  rw [Bool.or_eq_true, Bool.and_eq_true] at hk
  rw [Bool.or_eq_true]
  exact hk.imp id And.left
/-- A source in the first array: the same, whatever arrays come behind it. -/
theorem src_one (k : Int) (a : AV) (ls : List AV) (L : List Sp) (n : Nat) : elF k (a :: ls) (srcF L n) = elF k [a] (srcF L n) := by
  unfold srcF
  split <;> rfl
theorem rsh_one (k : Int) (a : AV) (ls : List AV) (N : Int) (n : Nat) : elF k (a :: ls) (rshF N n) = elF k [a] (rshF N n) := by
  unfold rshF
  split <;> rfl
theorem go_one {k : Int} {a : AV} {ls : List AV} {sh : List Int} {f : Nat → Int × Int} (h : ∀ n, elF k (a :: ls) (f n) = elF k [a] (f n)) : goE k (a :: ls) sh f = goE k [a] sh f ∧ goA k (a :: ls) sh f = goA k [a] sh f := by
  have hR : goR k (a :: ls) sh f = goR k [a] sh f := by
    unfold goR makeA fL
    congr 1
    apply List.map_congr_left
    intro i _
    unfold goV elV
    rw [h]
  have hA : astB k (a :: ls) f (prodI sh).toNat = astB k [a] f (prodI sh).toNat := by
    unfold astB elB
    congr 1
    funext i
    rw [h]
  have hE : goE k (a :: ls) sh f = goE k [a] sh f := by
    unfold goE
    rw [hA, hR]
  refine ⟨hE, ?_⟩
  unfold goA
  rw [hE, hR]
end Go.Proofs.Ytkabdkblcgklmaa.mo

/-
  Layer 14 (turn): the laws' is, matrix, alive.
  Layer 14 (turn): the laws' alive.
  Layer 14 (turn): what a gather map of one array brings.
  Layer 14 (turn): the boxes in which a law keeps its arrays.
  Layer 14 (turn): orders of the axes, one after the other; rotated twice.
  Layer 14 (turn): reversed, transposed and rotated, any array.
-/
import Derived.Test.YtkabdkblcgklmaaTuAll2
import Derived.Test.YtkabdkblcgklmaaMoBox
import Derived.Test.YtkabdkblcgklmaaMoTells
namespace Go.Proofs.Ytkabdkblcgklmaa.tu
open Go.RowKit Go.Proofs.Ytkabdkblcgklmaa.arr Go.Proofs.Ytkabdkblcgklmaa.mo

theorem _root_.Go.Proofs.Ytkabdkblcgklmaa.arr.AOwn.mono {B C : Nat} {W : World} {a : AV} {p : AP} (h : AOwn B W a p) (hC : C ≤ B) : AOwn C W a p := ⟨arown_mono h.o0 hC, arown_mono h.o1 hC⟩
theorem al_v3 (p : AP) (W : World) (h : AEl W ⟨1, [2, 3], [1, 2, 3, 4, 5, 6]⟩ p) : Calls Try.prog 53 #[.agg (arC ⟨1, [2, 3], [1, 2, 3, 4, 5, 6]⟩ p)] W (GiveT ⟨1, [3, 2], [1, 4, 2, 5, 3, 6]⟩ 0 W) :=
  (tutranspose_any _ p W h).mono (fun e w' g => g.t (by kernel_rfl) (by kernel_rfl) (by kernel_rfl))
end Go.Proofs.Ytkabdkblcgklmaa.tu

namespace Go.Proofs.Ytkabdkblcgklmaa.tu
open Go.RowKit Go.Proofs.Ytkabdkblcgklmaa.arr Go.Proofs.Ytkabdkblcgklmaa.mo

end Go.Proofs.Ytkabdkblcgklmaa.tu

namespace Go.Proofs.Ytkabdkblcgklmaa.tu
open Go.RowKit Go.Proofs.Ytkabdkblcgklmaa.arr Go.Proofs.Ytkabdkblcgklmaa.mo

/-- An array whose places are brought from another's. -/
def bringM (a : AV) (sh : List Int) (g : Nat → Nat) : AV := ⟨a.kind, sh, (List.range (prodI sh).toNat).map (fun i => a.el.getD (g i) 0)⟩
theorem bring_len (a : AV) (sh : List Int) (g : Nat → Nat) : (bringM a sh g).el.length = (prodI sh).toNat := by simp [bringM]
theorem bring_get {a : AV} {sh : List Int} {g : Nat → Nat} {i : Nat} (h : i < (prodI sh).toNat) : (bringM a sh g).el.getD i 0 = a.el.getD (g i) 0 := by
  show ((List.range _).map _).getD i 0 = _
  rw [List.getD_eq_getElem?_getD, List.getElem?_map, List.getElem?_range h]
  rfl
theorem go_bring {a : AV} {sh : List Int} {f : Nat → Int × Int} {g : Nat → Nat} (ho : okA a = true) (hs : okShape sh = true) (hg : ∀ i < (prodI sh).toNat, f i = (0, (g i : Int)) ∧ g i < a.el.length) :
    mdE a 0 sh f = 0 ∧ mdA a 0 sh f = bringM a sh g ∧ okA (bringM a sh g) = true := by
  have hel : ∀ i < (prodI sh).toNat, elF a.kind [a] (f i) = some (a.el.getD (g i) 0) := fun i hi => by
    obtain ⟨e, h⟩ := hg i hi
    rw [e]
    show (if 0 ≤ ((g i : Nat) : Int) then a.el[((g i : Nat) : Int).toNat]? else none) = _
    rw [if_pos (by omega), Int.toNat_natCast, List.getD_eq_getElem?_getD, List.getElem?_eq_getElem h]
    rfl
  have hR : goR a.kind [a] sh f = bringM a sh g := by
    unfold goR makeA fL bringM
    congr 1
    apply List.map_congr_left
    intro i hi
    show elV a.kind [a] (f (i : Int).toNat) = _
    unfold elV
    rw [Int.toNat_natCast, hel i (List.mem_range.1 hi)]
    rfl
  obtain ⟨g1, g2, g3⟩ := go_made (kind_of ho) hs (fun i hi => ⟨_, hel i hi, fun hk => by
    have h1 := (okA_iff.1 ho).2.2
    rw [hk] at h1
    have h2 : a.el.all charOk = true := by simpa [arr.kindOk] using h1
    rw [List.getD_eq_getElem?_getD, List.getElem?_eq_getElem (hg i hi).2]
    exact List.all_eq_true.1 h2 _ (List.getElem_mem _)⟩)
  rw [hR] at g2 g3
  refine ⟨?_, ?_, g3⟩
  · unfold mdE
    rw [ho, if_neg (by decide), if_neg (fun h => h rfl)]
    exact g1
  · unfold mdA
    rw [ho, if_neg (by decide), if_neg (fun h => h rfl)]
    exact g2
theorem bring_bring {a : AV} {sh1 sh2 : List Int} {g1 g2 : Nat → Nat} (h : ∀ i < (prodI sh2).toNat, g2 i < (prodI sh1).toNat) : bringM (bringM a sh1 g1) sh2 g2 = bringM a sh2 (fun i => g1 (g2 i)) := by
  have e : (List.range (prodI sh2).toNat).map (fun i => (bringM a sh1 g1).el.getD (g2 i) 0) = (List.range (prodI sh2).toNat).map (fun i => a.el.getD (g1 (g2 i)) 0) := by
    apply List.map_congr_left
    intro i hi
    exact bring_get (h i (List.mem_range.1 hi))
  show (⟨a.kind, sh2, _⟩ : AV) = ⟨a.kind, sh2, _⟩
  rw [e]
theorem bring_same {a : AV} {sh : List Int} {g1 g2 : Nat → Nat} (h : ∀ i < (prodI sh).toNat, g1 i = g2 i) : bringM a sh g1 = bringM a sh g2 := by
  have e : (List.range (prodI sh).toNat).map (fun i => a.el.getD (g1 i) 0) = (List.range (prodI sh).toNat).map (fun i => a.el.getD (g2 i) 0) := by
    apply List.map_congr_left
    intro i hi
    show a.el.getD (g1 i) 0 = a.el.getD (g2 i) 0
    rw [h i (List.mem_range.1 hi)]
  unfold bringM
  rw [e]
theorem bring_el {a : AV} {sh : List Int} {g : Nat → Nat} {xs : List Int} (hl : (prodI sh).toNat = xs.length) (h : ∀ (i : Nat) (hi : i < xs.length), a.el.getD (g i) 0 = xs[i]) : bringM a sh g = ⟨a.kind, sh, xs⟩ := by
  have e : (List.range (prodI sh).toNat).map (fun i => a.el.getD (g i) 0) = xs := by
    rw [hl]
    apply List.ext_getElem (by simp)
    intro i h1 h2
    rw [List.getElem_map (f := fun i => a.el.getD (g i) 0), List.getElem_range]
    exact h i h2
  unfold bringM
  rw [e]
theorem ok_len {a : AV} (ho : okA a = true) : (prodI a.sh).toNat = a.el.length := by
  have := (okA_iff.1 ho).2.1
  omega
theorem bring_id {a : AV} {g : Nat → Nat} (ho : okA a = true) (h : ∀ i < a.el.length, g i = i) : bringM a a.sh g = a :=
  bring_el (ok_len ho) (fun i hi => by rw [h i hi, List.getD_eq_getElem?_getD, List.getElem?_eq_getElem hi]; rfl)

/-! ### Within rows -/
def gW (R : Nat) (V : Nat → Nat) (i : Nat) : Nat := i - i % R + V i
theorem gW_mul (R : Nat) (V : Nat → Nat) (i : Nat) : gW R V i = R * (i / R) + V i := by
  have h2 := Nat.div_add_mod i R
  unfold gW
  omega
theorem gW_lt {R P i : Nat} {V : Nat → Nat} (hd : R ∣ P) (hv : V i < R) (hi : i < P) : gW R V i < P := by
  obtain ⟨k, rfl⟩ := hd
  have h1 : i / R < k := Nat.div_lt_of_lt_mul hi
  have h3 : R * (i / R) + R ≤ R * k := by
    rw [← Nat.mul_succ]
    exact Nat.mul_le_mul_left R h1
  rw [gW_mul]
  omega
theorem gW_mod {R i : Nat} {V : Nat → Nat} (hv : V i < R) : gW R V i % R = V i := by rw [gW_mul, Nat.mul_add_mod, Nat.mod_eq_of_lt hv]
theorem gW_div {R i : Nat} {V : Nat → Nat} (hv : V i < R) : gW R V i / R = i / R := by
  rw [gW_mul, Nat.mul_add_div (by omega), Nat.div_eq_of_lt hv, Nat.add_zero]
theorem row_dvdN : ∀ L : List Nat, rowN L ∣ prodN L
  | [] => ⟨1, rfl⟩
  | [x] => ⟨1, rfl⟩
  | x :: y :: L => by
    have e : rowN (x :: y :: L) = rowN (y :: L) := by
      unfold rowN
      rw [if_neg (by simp), if_neg (by simp)]
      rfl
    rw [e]
    exact Nat.dvd_trans (row_dvdN (y :: L)) ⟨x, Nat.mul_comm _ _⟩
theorem row_dvd {a : AV} (ho : okA a = true) : rowS a.sh ∣ a.el.length := by
  obtain ⟨L, _, h2, _, _, h5, _⟩ := shape_nat (okA_iff.1 ho).1
  have h6 := ok_len ho
  rw [h5, Int.toNat_natCast] at h6
  unfold rowS
  rw [h2, ← h6]
  exact row_dvdN L
theorem row_pos {a : AV} (ho : okA a = true) {i : Nat} (hi : i < a.el.length) : 0 < rowS a.sh := Nat.pos_of_dvd_of_pos (row_dvd ho) (by omega)
theorem withF_gW (sh : List Int) (V : Nat → Nat) (i : Nat) : withF sh V i = (0, ((gW (rowS sh) V i : Nat) : Int)) := by
  unfold withF gW
  rw [Int.natCast_add]
theorem with_bring {a : AV} {V : Nat → Nat} (ho : okA a = true) (hv : ∀ i < a.el.length, V i < rowS a.sh) :
    mdE a 0 a.sh (withF a.sh V) = 0 ∧ mdA a 0 a.sh (withF a.sh V) = bringM a a.sh (gW (rowS a.sh) V) ∧ okA (bringM a a.sh (gW (rowS a.sh) V)) = true :=
  go_bring ho (okA_iff.1 ho).1 (fun i hi => by
    rw [ok_len ho] at hi
    exact ⟨withF_gW _ _ _, gW_lt (row_dvd ho) (hv i hi) hi⟩)
theorem revV_lt {sh : List Int} {n : Nat} (hp : 0 < rowS sh) : revV sh n < rowS sh := by
  unfold revV
  omega
theorem rev_bring {a : AV} (ho : okA a = true) :
    mdE a (if okShape a.sh = true then 0 else 110) a.sh (withF a.sh (revV a.sh)) = 0 ∧ mdA a (if okShape a.sh = true then 0 else 110) a.sh (withF a.sh (revV a.sh)) = bringM a a.sh (gW (rowS a.sh) (revV a.sh)) ∧ okA (bringM a a.sh (gW (rowS a.sh) (revV a.sh))) = true := by
  rw [if_pos (okA_iff.1 ho).1]
  exact with_bring ho (fun i hi => revV_lt (row_pos ho hi))
theorem rot_bring {a l : AV} (ho : okA a = true) (he : rotE l a.sh = 0) :
    mdE a (rotE l a.sh) a.sh (withF a.sh (rotV a.sh l.el)) = 0 ∧ mdA a (rotE l a.sh) a.sh (withF a.sh (rotV a.sh l.el)) = bringM a a.sh (gW (rowS a.sh) (rotV a.sh l.el)) ∧ okA (bringM a a.sh (gW (rowS a.sh) (rotV a.sh l.el))) = true := by
  rw [he]
  exact with_bring ho (fun i hi => (rotV_lt (row_pos ho hi)).1)
theorem rotE_scalar (k : Int) {a : AV} (ho : okA a = true) : rotE ⟨1, [], [k]⟩ a.sh = 0 := by
  unfold rotE
  rw [if_pos (okA_iff.1 ho).1]
  rfl

/-! ### Vectors -/
def vecA (l : List Int) : AV := ⟨1, [(l.length : Int)], l⟩
theorem row_vec (n : Nat) : rowS [(n : Int)] = n := Int.toNat_natCast n
theorem vecA_ok (l : List Int) (h : l.length ≤ 4096) : okA (vecA l) = true := vec_ok l h
theorem rev_vec (l : List Int) (hl : l.length ≤ 4096) :
    mdE (vecA l) (if okShape (vecA l).sh = true then 0 else 110) (vecA l).sh (withF (vecA l).sh (revV (vecA l).sh)) = 0 ∧ mdA (vecA l) (if okShape (vecA l).sh = true then 0 else 110) (vecA l).sh (withF (vecA l).sh (revV (vecA l).sh)) = vecA l.reverse := by
  obtain ⟨h1, h2, _⟩ := rev_bring (vecA_ok l hl)
  refine ⟨h1, h2.trans ?_⟩
  have hp : (prodI (vecA l).sh).toNat = l.reverse.length := by rw [ok_len (vecA_ok l hl), List.length_reverse]; rfl
  rw [bring_el hp (fun i hi => by
    rw [List.length_reverse] at hi
    have e : gW (rowS (vecA l).sh) (revV (vecA l).sh) i = l.length - 1 - i := by
      unfold gW revV
      rw [show rowS (vecA l).sh = l.length from row_vec _, Nat.mod_eq_of_lt hi]
      omega
    rw [e, List.getElem_reverse]
    show l.getD _ 0 = _
    rw [List.getD_eq_getElem?_getD, List.getElem?_eq_getElem (by omega)]
    rfl)]
  unfold vecA
  rw [List.length_reverse]
theorem rot_vec (l m : List Int) (hl : l.length + m.length ≤ 4096) :
    mdE (vecA (l ++ m)) (rotE ⟨1, [], [(l.length : Int)]⟩ (vecA (l ++ m)).sh) (vecA (l ++ m)).sh (withF (vecA (l ++ m)).sh (rotV (vecA (l ++ m)).sh [(l.length : Int)])) = 0 ∧ mdA (vecA (l ++ m)) (rotE ⟨1, [], [(l.length : Int)]⟩ (vecA (l ++ m)).sh) (vecA (l ++ m)).sh (withF (vecA (l ++ m)).sh (rotV (vecA (l ++ m)).sh [(l.length : Int)])) = vecA (m ++ l) := by
  have hlm : (l ++ m).length = l.length + m.length := List.length_append
  have hml : (m ++ l).length = m.length + l.length := List.length_append
  have ho := vecA_ok (l ++ m) (by omega)
  obtain ⟨h1, h2, _⟩ := rot_bring (l := ⟨1, [], [(l.length : Int)]⟩) ho (rotE_scalar _ ho)
  refine ⟨h1, h2.trans ?_⟩
  have hp : (prodI (vecA (l ++ m)).sh).toNat = (m ++ l).length := by
    rw [ok_len ho]
    show (l ++ m).length = _
    omega
  rw [bring_el hp (fun i hi => by
    have hR : rowS (vecA (l ++ m)).sh = l.length + m.length := (row_vec _).trans hlm
    have hi2 : i < l.length + m.length := by omega
    have e : gW (rowS (vecA (l ++ m)).sh) (rotV (vecA (l ++ m)).sh [(l.length : Int)]) i = (i + l.length) % (l.length + m.length) := by
      unfold gW rotV
      rw [hR, Nat.mod_eq_of_lt hi2]
      show i - i + (((i : Int) + (([(l.length : Int)] : List Int).getD (i / (l.length + m.length) % 1) 0)) % ((l.length + m.length : Nat) : Int)).toNat = _
      rw [Nat.mod_one]
      show i - i + (((i : Int) + (l.length : Int)) % ((l.length + m.length : Nat) : Int)).toNat = _
      rw [← Int.natCast_add, ← Int.natCast_emod, Int.toNat_natCast]
      omega
    show (l ++ m).getD _ 0 = _
    rw [e]
    by_cases hc : i < m.length
    · rw [Nat.mod_eq_of_lt (by omega), List.getElem_append_left hc, List.getD_eq_getElem?_getD, List.getElem?_append_right (by omega), Nat.add_sub_cancel, List.getElem?_eq_getElem hc]
      rfl
    · have e2 : (i + l.length) % (l.length + m.length) = i - m.length := by
        rw [show i + l.length = i - m.length + (l.length + m.length) by omega, Nat.add_mod_right, Nat.mod_eq_of_lt (by omega)]
      rw [e2, List.getElem_append_right (by omega), List.getD_eq_getElem?_getD, List.getElem?_append_left (by omega), List.getElem?_eq_getElem (by omega)]
      rfl)]
  unfold vecA
  rw [hlm, hml, Nat.add_comm]
/-- Two vectors are put together. -/
theorem cat_vec2 (l m : List Int) (hl : l.length ≤ 2000) (hm : m.length ≤ 2000) :
    ctE ⟨1, [(l.length : Int)], l⟩ ⟨1, [(m.length : Int)], m⟩ = 0 ∧ ctA ⟨1, [(l.length : Int)], l⟩ ⟨1, [(m.length : Int)], m⟩ = makeA 1 [((l.length + m.length : Nat) : Int)] (goV 1 [⟨1, [(l.length : Int)], l⟩, ⟨1, [(m.length : Int)], m⟩] (catF (l.length + m.length) l.length m.length l.length m.length)) := by
  obtain ⟨p, hp⟩ : ∃ p, l.length = p := ⟨_, rfl⟩
  obtain ⟨q, hq⟩ : ∃ q, m.length = q := ⟨_, rfl⟩
  have o1 := vec_ok l (by omega)
  have o2 := vec_ok m (by omega)
  rw [hp] at o1
  rw [hq] at o2
  rw [hp, hq]
  have e1 : exL [(p : Int)] [(q : Int)] = [(p : Int)] := rfl
  have e2 : exL [(q : Int)] [(p : Int)] = [(q : Int)] := rfl
  have eN : ctwN [(p : Int)] [(q : Int)] = 0 := rfl
  have hL : ctwL [(p : Int)] [(q : Int)] = [((p + q : Nat) : Int)] := by
    unfold ctwL
    rw [eN, e1, e2]
    show [(p : Int) + (q : Int)] = _
    rw [Int.natCast_add]
  have hE : ctwE [(p : Int)] [(q : Int)] = 0 := by
    unfold ctwE
    rw [hL, eN, e1, e2, sh_one (by omega) (by omega), sh_one (by omega) (by omega), if_neg (by decide), if_neg (by simp), if_neg (by simp), sh_one (by omega) (by omega), if_pos rfl]
  have hF : ctwF [(p : Int)] [(q : Int)] = catF (p + q) p q p q := by
    unfold ctwF
    rw [eN, e1, e2, prodI_one, prodI_one]
    show catF ((p : Int) + (q : Int)).toNat (p : Int).toNat (q : Int).toNat (p : Int).toNat (q : Int).toNat = _
    rw [← Int.natCast_add, Int.toNat_natCast, Int.toNat_natCast, Int.toNat_natCast]
  have hel : ∀ i < p + q, elB 1 [⟨1, [(p : Int)], l⟩, ⟨1, [(q : Int)], m⟩] (catF (p + q) p q p q i) = true := fun i hi => by
    unfold catF
    by_cases h : i % (p + q) < p
    · rw [if_pos h]
      have hlt := Nat.mod_lt (i / (p + q) * p + i % (p + q)) (show 0 < p by omega)
      generalize (i / (p + q) * p + i % (p + q)) % p = x at *
      show (l[(x : Int).toNat]?).isSome = true
      rw [Int.toNat_natCast, List.getElem?_eq_getElem (by omega)]
      rfl
    · rw [if_neg h]
      have h2 := Nat.mod_lt i (show 0 < p + q by omega)
      have hlt := Nat.mod_lt (i / (p + q) * q + (i % (p + q) - p)) (show 0 < q by omega)
      generalize (i / (p + q) * q + (i % (p + q) - p)) % q = x at *
      show (m[(x : Int).toNat]?).isSome = true
      rw [Int.toNat_natCast, List.getElem?_eq_getElem (by omega)]
      rfl
  obtain ⟨g1, g2⟩ := goE_one (by omega) hel
  refine ⟨?_, ?_⟩
  · unfold ctE
    rw [o1, o2]
    show (if (true && true) = false then (110 : Int) else if (1 : Int) ≠ 1 ∧ (ctwE [(p : Int)] [(q : Int)] = 0 ∨ ctwE [(p : Int)] [(q : Int)] = 9) then 5 else if ctwE [(p : Int)] [(q : Int)] ≠ 0 then ctwE [(p : Int)] [(q : Int)] else goE 1 [⟨1, [(p : Int)], l⟩, ⟨1, [(q : Int)], m⟩] (ctwL [(p : Int)] [(q : Int)]) (ctwF [(p : Int)] [(q : Int)])) = 0
    rw [if_neg (by decide), if_neg (fun h => h.1 rfl), if_neg (fun h => h hE), hL, hF, g1]
  · unfold ctA
    rw [o1, o2]
    show (if (true && true) = false then noA else if (1 : Int) ≠ 1 ∧ (ctwE [(p : Int)] [(q : Int)] = 0 ∨ ctwE [(p : Int)] [(q : Int)] = 9) then noA else if ctwE [(p : Int)] [(q : Int)] ≠ 0 then noA else goA 1 [⟨1, [(p : Int)], l⟩, ⟨1, [(q : Int)], m⟩] (ctwL [(p : Int)] [(q : Int)]) (ctwF [(p : Int)] [(q : Int)])) = _
    rw [if_neg (by decide), if_neg (fun h => h.1 rfl), if_neg (fun h => h hE), hL, hF, g2]
theorem cat_vecA (l m : List Int) (hl : l.length ≤ 2000) (hm : m.length ≤ 2000) : ctE (vecA l) (vecA m) = 0 ∧ ctA (vecA l) (vecA m) = vecA (l ++ m) := by
  obtain ⟨h1, h2⟩ := cat_vec2 l m hl hm
  refine ⟨h1, h2.trans ?_⟩
  have hlm : (l ++ m).length = l.length + m.length := List.length_append
  have e : fL (goV 1 [vecA l, vecA m] (catF (l.length + m.length) l.length m.length l.length m.length)) (prodI [((l.length + m.length : Nat) : Int)]).toNat = l ++ m := by
    have hp : (prodI [((l.length + m.length : Nat) : Int)]).toNat = l.length + m.length := by
      rw [prodI_one]
      exact Int.toNat_natCast _
    rw [hp]
    unfold fL
    apply List.ext_getElem (by rw [List.length_map, List.length_range, hlm])
    intro i g1 g2
    rw [List.length_map, List.length_range] at g1
    rw [List.getElem_map (f := fun (i : Nat) => goV 1 [vecA l, vecA m] (catF (l.length + m.length) l.length m.length l.length m.length) (i : Int)), List.getElem_range]
    show elV 1 [vecA l, vecA m] (catF _ _ _ _ _ (i : Int).toNat) = _
    rw [Int.toNat_natCast]
    unfold catF
    rw [Nat.mod_eq_of_lt g1, Nat.div_eq_of_lt g1, Nat.zero_mul, Nat.zero_add, Nat.zero_mul, Nat.zero_add]
    by_cases hc : i < l.length
    · rw [if_pos hc, Nat.mod_eq_of_lt hc, List.getElem_append_left hc]
      show (if 0 ≤ ((i : Nat) : Int) then l[((i : Nat) : Int).toNat]? else none).getD 0 = _
      rw [if_pos (by omega), Int.toNat_natCast, List.getElem?_eq_getElem hc]
      rfl
    · rw [if_neg hc, Nat.mod_eq_of_lt (by omega), List.getElem_append_right (by omega)]
      show (if 0 ≤ ((i - l.length : Nat) : Int) then m[((i - l.length : Nat) : Int).toNat]? else none).getD 0 = _
      rw [if_pos (by omega), Int.toNat_natCast, List.getElem?_eq_getElem (by omega)]
      rfl
  show (⟨1, [((l.length + m.length : Nat) : Int)], _⟩ : AV) = ⟨1, [((l ++ m).length : Int)], l ++ m⟩
  rw [hlm]
  congr 1
end Go.Proofs.Ytkabdkblcgklmaa.tu

namespace Go.Proofs.Ytkabdkblcgklmaa.tu
open Go.RowKit Go.Proofs.Ytkabdkblcgklmaa.arr Go.Proofs.Ytkabdkblcgklmaa.mo

/-- A box of a law that holds an array. -/
structure BoxA (W : World) (g : Nat) (X : AV) (p : AP) : Prop where
  k : Blk W g 25 (arC X p)
  e : AEl W X p
  c : Cap X p
theorem BoxA.up {W W' : World} {g : Nat} {X : AV} {p : AP} (h : BoxA W g X p) (hb : Below W.heap.size W W') : BoxA W' g X p := ⟨blk_up h.k hb, h.e.below hb, h.c⟩
theorem BoxA.new {W : World} {X : AV} {p : AP} (h : AEl W X p) (c : Cap X p) : BoxA (W.alloc (.cells (arC X p) 25)) W.heap.size X p := ⟨Blk.new _ _ _, h.below (albel _ _), c⟩
theorem BoxA.cells {W : World} {g : Nat} {X : AV} {p : AP} (h : BoxA W g X p) : W.cell? ⟨g, 0, none⟩ = some (.int .i64 X.kind) ∧ W.cell? ⟨g, 1, none⟩ = some (.slice p.A0 X.sh.length p.c0) ∧ W.cell? ⟨g, 2, none⟩ = some (.slice p.A1 X.el.length p.c1) := ⟨h.k.cell 0, h.k.cell 1, h.k.cell 2⟩
theorem giveT_of {X : AV} {E : Int} {w w' : World} {e : Ending} (h : GiveE X E w e w') (h0 : X.sh.length ≤ 9223372036854775807) (h1 : X.el.length ≤ 9223372036854775807) (hf : ∀ z ∈ X.el, -9223372036854775808 ≤ z ∧ z ≤ 9223372036854775807) : GiveT X E w e w' := by
  obtain ⟨p, rfl, o, b⟩ := h
  exact ⟨p, rfl, o.el h0 h1 hf, Cap.of o, b⟩
theorem bring_fine {a : AV} {sh : List Int} {g : Nat → Nat} (h : ∀ z ∈ a.el, -9223372036854775808 ≤ z ∧ z ≤ 9223372036854775807) : ∀ z ∈ (bringM a sh g).el, -9223372036854775808 ≤ z ∧ z ≤ 9223372036854775807 := fun z hz => by
  obtain ⟨i, _, rfl⟩ := List.mem_map.1 (show z ∈ (List.range _).map _ from hz)
  show -9223372036854775808 ≤ a.el.getD (g i) 0 ∧ a.el.getD (g i) 0 ≤ 9223372036854775807
  rw [List.getD_eq_getElem?_getD]
  cases e : a.el[g i]? with
  | none => simp
  | some y => exact h y (List.mem_of_getElem? e)
theorem vec_giveT {l : List Int} {E : Int} {w w' : World} {e : Ending} (h : GiveE (vecA l) E w e w') (h1 : l.length ≤ 100000) (hf : ∀ z ∈ l, -9223372036854775808 ≤ z ∧ z ≤ 9223372036854775807) : GiveT (vecA l) E w e w' :=
  giveT_of h (show (1 : Nat) ≤ _ by omega) (show l.length ≤ _ by omega) hf
end Go.Proofs.Ytkabdkblcgklmaa.tu

namespace Go.Proofs.Ytkabdkblcgklmaa.tu
open Go.RowKit Go.Proofs.Ytkabdkblcgklmaa.arr Go.Proofs.Ytkabdkblcgklmaa.mo

def ordG (sh : List Int) (tos : List Nat) (n : Nat) : Nat := (ordF sh tos n).2.toNat
/-- A map that brings, with another order of the axes, each element. -/
structure OrdM (a : AV) (tos L M : List Nat) : Prop where
  hL : a.sh = iL L
  hM : shO a.sh tos = iL M
  l1 : tos.length = L.length
  l2 : M.length = L.length
  lt : ∀ (i b : Nat), tos[i]? = some b → b < M.length
  at_ : ∀ n < prodN M, ordG a.sh tos n < prodN L ∧ dig L (ordG a.sh tos n) = tos.map (fun b => (dig M n).getD b 0)
  e : mdE a 0 (shO a.sh tos) (ordF a.sh tos) = 0
  m : mdA a 0 (shO a.sh tos) (ordF a.sh tos) = bringM a (shO a.sh tos) (ordG a.sh tos)
  ok : okA (bringM a (shO a.sh tos) (ordG a.sh tos)) = true
theorem ord_bring {a : AV} {tos : List Nat} (h : PermO a.sh.length tos) (ho : okA a = true) : ∃ L M, OrdM a tos L M := by
  have hs := (okA_iff.1 ho).1
  have hs2 : okShape (shO a.sh tos) = true := (shO_ok h).trans hs
  obtain ⟨L, M, hL, hM, hO, _, _, _, hP, _⟩ := shO_nat h hs2
  have hm : (shO a.sh tos).map Int.toNat = M := by rw [hM]; exact map_toNat M
  have hat : ∀ n < prodN M, ordF a.sh tos n = (0, ((ordG a.sh tos n : Nat) : Int)) ∧ ordG a.sh tos n < prodN L ∧ dig L (ordG a.sh tos n) = tos.map (fun b => (dig M n).getD b 0) := fun n hn => by
    have hN : numsO M tos n = iL (tos.map (fun b => (dig M n).getD b 0)) := by
      unfold numsO iL
      rw [List.map_map]
      apply List.map_congr_left
      intro b hb
      obtain ⟨i, hi, rfl⟩ := List.mem_iff_getElem.1 hb
      have hlt := hO.lt i _ (List.getElem?_eq_getElem hi)
      show numV M n (tos[i] : Int) = (((dig M n).getD tos[i] 0 : Nat) : Int)
      unfold numV
      rw [if_pos ⟨by omega, by omega⟩, Int.toNat_natCast, List.getD_eq_getElem?_getD, numN_at M n _ hlt hn]
      rfl
    have ht := hO.tup (pos_all (show 0 < prodN M by omega)) n
    rw [hN] at ht
    obtain ⟨v1, v2⟩ := val_lt ht
    have hv : ordF a.sh tos n = (0, ((valN L (tos.map (fun b => (dig M n).getD b 0)) : Nat) : Int)) := by
      unfold ordF
      rw [hm, hN, hL]
      have := hor_val 0 L (tos.map (fun b => (dig M n).getD b 0)) (by rw [List.length_map, hO.l1])
      rw [Nat.zero_mul, Nat.zero_add] at this
      rw [← this]
      rfl
    have hg : ordG a.sh tos n = valN L (tos.map (fun b => (dig M n).getD b 0)) := by
      unfold ordG
      rw [hv]
      exact Int.toNat_natCast _
    rw [hg]
    exact ⟨hv, v1, v2⟩
  have hpl : prodN L = a.el.length := by
    have := ok_len ho
    rw [hL, prod_iL, Int.toNat_natCast] at this
    exact this
  have hpm : (prodI (shO a.sh tos)).toNat = prodN M := by rw [hP, Int.toNat_natCast]
  obtain ⟨e1, e2, e3⟩ := go_bring (g := ordG a.sh tos) ho hs2 (fun i hi => by
    rw [hpm] at hi
    obtain ⟨x1, x2, _⟩ := hat i hi
    exact ⟨x1, by rw [← hpl]; exact x2⟩)
  exact ⟨L, M, hL, hM, hO.l1, hO.l2, hO.lt, fun n hn => (hat n hn).2, e1, e2, e3⟩
theorem perm_mem {m : Nat} {tos : List Nat} (h : PermO m tos) {c : Nat} (hc : c < m) : ∃ i : Nat, tos[i]? = some c := by
  have hp : tos.Perm (List.range m) := perm_range h
  have : c ∈ tos := hp.mem_iff.2 (List.mem_range.2 hc)
  exact List.mem_iff_getElem?.1 this
theorem iL_inj {L M : List Nat} (h : iL L = iL M) : L = M := by
  have := congrArg (List.map Int.toNat) h
  rw [map_toNat L, map_toNat M] at this
  exact this
theorem shape_uniq {m : Nat} {X Y : List Int} {tos : List Nat} (h : PermO m tos) (hX : X.length = m) (hY : Y.length = m) (hat : ∀ (i c : Nat), tos[i]? = some c → X[c]? = Y[c]?) : X = Y := by
  apply List.ext_getElem?
  intro c
  by_cases hc : c < m
  · obtain ⟨i, hi⟩ := perm_mem h hc
    exact hat i c hi
  · rw [List.getElem?_eq_none (by omega), List.getElem?_eq_none (by omega)]
theorem dig_same {L : List Nat} {x y : Nat} (hx : x < prodN L) (hy : y < prodN L) (h : dig L x = dig L y) : x = y := by
  have h1 := (dig_tup hx).2
  have h2 := (dig_tup hy).2
  rw [← h1, ← h2, h]
/-- Two orders of the axes, one after the other. -/
theorem ord_ord {a : AV} {t1 t2 t3 : List Nat} (h1 : PermO a.sh.length t1) (h2 : PermO a.sh.length t2) (h3 : PermO a.sh.length t3) (ho : okA a = true) (h : ∀ (i b : Nat), t1[i]? = some b → t3[i]? = t2[b]?) :
    bringM (bringM a (shO a.sh t1) (ordG a.sh t1)) (shO (shO a.sh t1) t2) (ordG (shO a.sh t1) t2) = bringM a (shO a.sh t3) (ordG a.sh t3) := by
  obtain ⟨L, M, o1⟩ := ord_bring h1 ho
  have hlen : (shO a.sh t1).length = a.sh.length := stepO_length _ _ _
  have h2' : PermO (bringM a (shO a.sh t1) (ordG a.sh t1)).sh.length t2 := by
    show PermO (shO a.sh t1).length t2
    rw [hlen]
    exact h2
  obtain ⟨M', N, o2⟩ := ord_bring h2' o1.ok
  obtain ⟨L', N', o3⟩ := ord_bring h3 ho
  have hM : M' = M := iL_inj (o2.hL.symm.trans o1.hM)
  subst hM
  have hL : L' = L := iL_inj (o3.hL.symm.trans o1.hL)
  subst hL
  have hsh : shO (shO a.sh t1) t2 = shO a.sh t3 := by
    refine shape_uniq h3 ((stepO_length _ _ _).trans hlen) (stepO_length _ _ _) (fun i c hc => ?_)
    have hi : i < t1.length := by
      have := (List.getElem?_eq_some_iff.1 hc).1
      rw [h1.len, ← h3.len]
      exact this
    have hb := List.getElem?_eq_getElem hi
    have e1 := shO_at h1 i _ hb
    have e2 := shO_at (sh := shO a.sh t1) (by rw [hlen]; exact h2) t1[i] c ((h i _ hb).symm.trans hc)
    have e3 := shO_at h3 i c hc
    rw [e2, e1, e3]
  have hN : N' = N := iL_inj (o3.hM.symm.trans (hsh.symm.trans o2.hM))
  subst hN
  have hpN : (prodI (shO (shO a.sh t1) t2)).toNat = prodN N' := by
    rw [show shO (shO a.sh t1) t2 = iL N' from o2.hM, prod_iL, Int.toNat_natCast]
  have hpM : (prodI (shO a.sh t1)).toNat = prodN M' := by
    rw [o1.hM, prod_iL, Int.toNat_natCast]
  rw [bring_bring (fun i hi => by
    rw [hpN] at hi
    rw [hpM]
    exact (o2.at_ i hi).1), ← hsh]
  apply bring_same
  intro n hn
  rw [hpN] at hn
  obtain ⟨x1, x2⟩ := o2.at_ n hn
  obtain ⟨y1, y2⟩ := o1.at_ _ x1
  obtain ⟨z1, z2⟩ := o3.at_ n hn
  refine dig_same y1 z1 ?_
  refine Eq.trans (show dig L' (ordG a.sh t1 (ordG (shO a.sh t1) t2 n)) = _ from y2) ?_
  rw [z2, x2]
  apply List.ext_getElem?
  intro i
  rw [List.getElem?_map, List.getElem?_map]
  cases hb : t1[i]? with
  | none =>
    have := List.getElem?_eq_none_iff.1 hb
    rw [List.getElem?_eq_none (by rw [h3.len, ← h1.len]; exact this)]
    rfl
  | some b =>
    have hbl : b < t2.length := by rw [h2.len]; exact h1.lt b (List.mem_of_getElem? hb)
    rw [h i b hb, List.getElem?_eq_getElem hbl]
    show some (List.getD (t2.map _) b 0) = some ((dig N' n).getD t2[b] 0)
    rw [List.getD_eq_getElem?_getD, List.getElem?_map, List.getElem?_eq_getElem hbl]
    rfl
theorem range_perm (m : Nat) : PermO m (List.range m) := ⟨List.length_range, fun _ ha => List.mem_range.1 ha, List.nodup_range⟩
/-- The order that the axes have. -/
theorem ord_id {a : AV} (ho : okA a = true) : bringM a (shO a.sh (List.range a.sh.length)) (ordG a.sh (List.range a.sh.length)) = a := by
  have hp := range_perm a.sh.length
  obtain ⟨L, M, o⟩ := ord_bring hp ho
  have hsh : shO a.sh (List.range a.sh.length) = a.sh := by
    refine shape_uniq hp (stepO_length _ _ _) rfl (fun i c hc => ?_)
    have e := shO_at hp i c hc
    obtain ⟨hi, he⟩ := List.getElem?_eq_some_iff.1 hc
    rw [List.getElem_range] at he
    subst he
    exact e
  have hM : M = L := iL_inj (o.hM.symm.trans (hsh.trans o.hL))
  subst hM
  have hpl : prodN M = a.el.length := by
    have := ok_len ho
    rw [o.hL, prod_iL, Int.toNat_natCast] at this
    exact this
  rw [hsh]
  refine bring_id ho (fun n hn => ?_)
  obtain ⟨x1, x2⟩ := o.at_ n (by omega)
  refine dig_same x1 (by omega) ?_
  rw [x2]
  have hdl : (dig M n).length = a.sh.length := by rw [dig_length, ← o.l1, List.length_range]
  apply List.ext_getElem (by rw [List.length_map, List.length_range, hdl])
  intro i g1 g2
  rw [List.getElem_map (f := fun b => (dig M n).getD b 0), List.getElem_range, List.getD_eq_getElem?_getD, List.getElem?_eq_getElem g2]
  rfl
theorem tosR_at (m i : Nat) (h : i < m) : (tosR m)[i]? = some (m - 1 - i) := by
  unfold tosR
  rw [List.getElem?_map, List.getElem?_range h]
  rfl
/-- Transposed twice. -/
theorem tra_tra {a : AV} (ho : okA a = true) : bringM (bringM a (shO a.sh (tosR a.sh.length)) (ordG a.sh (tosR a.sh.length))) (shO (shO a.sh (tosR a.sh.length)) (tosR a.sh.length)) (ordG (shO a.sh (tosR a.sh.length)) (tosR a.sh.length)) = a := by
  refine (ord_ord (tosR_perm _) (tosR_perm _) (range_perm _) ho (fun i b hb => ?_)).trans (ord_id ho)
  have hi : i < a.sh.length := by
    have := (List.getElem?_eq_some_iff.1 hb).1
    rwa [(tosR_perm a.sh.length).len] at this
  rw [tosR_at _ _ hi] at hb
  have hb2 : a.sh.length - 1 - i = b := Option.some.inj hb
  rw [List.getElem?_range hi, tosR_at _ _ (by omega)]
  congr 1
  omega
end Go.Proofs.Ytkabdkblcgklmaa.tu

namespace Go.Proofs.Ytkabdkblcgklmaa.tu
open Go.RowKit Go.Proofs.Ytkabdkblcgklmaa.arr Go.Proofs.Ytkabdkblcgklmaa.mo

structure BoxL (W : World) (g : Nat) (X : AV) (p : AP) : Prop where
  k : Blk W g 25 (arC X p)
  e : AEl W X p
  c : X.sh.length ≤ p.c0
theorem BoxL.up {W W' : World} {g : Nat} {X : AV} {p : AP} (h : BoxL W g X p) (hb : Below W.heap.size W W') : BoxL W' g X p := ⟨blk_up h.k hb, h.e.below hb, h.c⟩
theorem BoxL.new {W : World} {X : AV} {p : AP} (h : AEl W X p) (c : Cap X p) : BoxL (W.alloc (.cells (arC X p) 25)) W.heap.size X p := ⟨Blk.new _ _ _, h.below (albel _ _), c.le⟩
theorem BoxL.cells {W : World} {g : Nat} {X : AV} {p : AP} (h : BoxL W g X p) : W.cell? ⟨g, 0, none⟩ = some (.int .i64 X.kind) ∧ W.cell? ⟨g, 1, none⟩ = some (.slice p.A0 X.sh.length p.c0) ∧ W.cell? ⟨g, 2, none⟩ = some (.slice p.A1 X.el.length p.c1) := ⟨h.k.cell 0, h.k.cell 1, h.k.cell 2⟩

abbrev Fine (a : AV) : Prop := ∀ z ∈ a.el, -9223372036854775808 ≤ z ∧ z ≤ 9223372036854775807
def revB (a : AV) : AV := bringM a a.sh (gW (rowS a.sh) (revV a.sh))
def traB (a : AV) : AV := bringM a (shO a.sh (tosR a.sh.length)) (ordG a.sh (tosR a.sh.length))
def rotB (k : Int) (a : AV) : AV := bringM a a.sh (gW (rowS a.sh) (rotV a.sh [k]))
theorem revB_ok {a : AV} (ho : okA a = true) : okA (revB a) = true := (rev_bring ho).2.2
theorem rotB_ok (k : Int) {a : AV} (ho : okA a = true) : okA (rotB k a) = true := (rot_bring (l := ⟨1, [], [k]⟩) ho (rotE_scalar k ho)).2.2
theorem traB_ok {a : AV} (ho : okA a = true) : okA (traB a) = true := by
  obtain ⟨L, M, o⟩ := ord_bring (tosR_perm a.sh.length) ho
  exact o.ok
theorem revB_fine {a : AV} (h : Fine a) : Fine (revB a) := bring_fine h
theorem rotB_fine (k : Int) {a : AV} (h : Fine a) : Fine (rotB k a) := bring_fine h
theorem traB_fine {a : AV} (h : Fine a) : Fine (traB a) := bring_fine h
theorem giveT_ok {X : AV} {E : Int} {w w' : World} {e : Ending} (h : GiveE X E w e w') (ho : okA X = true) (hf : Fine X) : GiveT X E w e w' := by
  have := okA_len ho
  exact giveT_of h (by omega) (by omega) hf
theorem traB_give {a : AV} (ho : okA a = true) (hf : Fine a) (q : AP) (W : World) (h : AEl W a q) : Calls Try.prog 53 #[.agg (arC a q)] W (GiveT (traB a) 0 W) := by
  have h1 := tutranspose_any a q W h
  obtain ⟨L, M, o⟩ := ord_bring (tosR_perm a.sh.length) ho
  have hs2 : okShape (shO a.sh (tosR a.sh.length)) = true := (shO_ok (tosR_perm _)).trans (okA_iff.1 ho).1
  rw [if_pos hs2, o.e, o.m] at h1
  exact h1.mono (fun _ _ g => giveT_ok g o.ok (bring_fine hf))

theorem rev_rev {a : AV} (ho : okA a = true) : revB (revB a) = a := by
  have hl := ok_len ho
  show bringM (bringM a a.sh (gW (rowS a.sh) (revV a.sh))) a.sh (gW (rowS a.sh) (revV a.sh)) = a
  rw [bring_bring (fun i hi => by
    rw [hl] at hi ⊢
    exact gW_lt (row_dvd ho) (revV_lt (row_pos ho hi)) hi)]
  refine bring_id ho (fun i hi => ?_)
  have hR := row_pos ho hi
  have hv := revV_lt (n := i) hR
  show gW (rowS a.sh) (revV a.sh) (gW (rowS a.sh) (revV a.sh) i) = i
  rw [gW_mul, gW_div hv]
  unfold revV
  rw [gW_mod (V := fun n => rowS a.sh - 1 - n % rowS a.sh) (show rowS a.sh - 1 - i % rowS a.sh < rowS a.sh from hv)]
  have h1 := Nat.mod_lt i hR
  have h2 := Nat.div_add_mod i (rowS a.sh)
  omega
theorem rotV_one (sh : List Int) (k : Int) (n : Nat) : rotV sh [k] n = ((((n % rowS sh : Nat) : Int) + k) % ((rowS sh : Nat) : Int)).toNat := by
  unfold rotV
  show ((((n % rowS sh : Nat) : Int) + ([k] : List Int).getD ((n / rowS sh) % 1) 0) % ((rowS sh : Nat) : Int)).toNat = _
  rw [Nat.mod_one]
  rfl
theorem rotV_int {sh : List Int} (k : Int) {n : Nat} (hp : 0 < rowS sh) : rotV sh [k] n < rowS sh ∧ ((rotV sh [k] n : Nat) : Int) = (((n % rowS sh : Nat) : Int) + k) % ((rowS sh : Nat) : Int) := by
  refine ⟨(rotV_lt hp).1, ?_⟩
  rw [rotV_one]
  have := Int.emod_nonneg (((n % rowS sh : Nat) : Int) + k) (show ((rowS sh : Nat) : Int) ≠ 0 by omega)
  omega
theorem rot_rot (n m : Int) {a : AV} (ho : okA a = true) : rotB m (rotB n a) = rotB (n + m) a := by
  have hl := ok_len ho
  show bringM (bringM a a.sh (gW (rowS a.sh) (rotV a.sh [n]))) a.sh (gW (rowS a.sh) (rotV a.sh [m])) = bringM a a.sh (gW (rowS a.sh) (rotV a.sh [n + m]))
  rw [bring_bring (fun i hi => by
    rw [hl] at hi ⊢
    exact gW_lt (row_dvd ho) (rotV_int m (row_pos ho hi)).1 hi)]
  apply bring_same
  intro i hi
  rw [hl] at hi
  have hR := row_pos ho hi
  obtain ⟨v1, v2⟩ := rotV_int m (n := i) hR
  obtain ⟨u1, u2⟩ := rotV_int n (n := gW (rowS a.sh) (rotV a.sh [m]) i) hR
  obtain ⟨t1, t2⟩ := rotV_int (n + m) (n := i) hR
  rw [gW_mul (rowS a.sh) (rotV a.sh [n]), gW_div v1, gW_mul (rowS a.sh) (rotV a.sh [n + m])]
  rw [gW_mod v1, v2, Int.emod_add_emod] at u2
  have e : (((i % rowS a.sh : Nat) : Int) + m + n) = (((i % rowS a.sh : Nat) : Int) + (n + m)) := by omega
  rw [e, ← t2] at u2
  omega
theorem rot_long {a : AV} (ho : okA a = true) : rotB ((rowS a.sh : Nat) : Int) a = a := by
  refine bring_id ho (fun i hi => ?_)
  have hR := row_pos ho hi
  obtain ⟨v1, v2⟩ := rotV_int ((rowS a.sh : Nat) : Int) (n := i) hR
  have h1 := Nat.mod_lt i hR
  rw [Int.add_emod_right, Int.emod_eq_of_lt (by omega) (by omega)] at v2
  have h2 := Nat.div_add_mod i (rowS a.sh)
  rw [gW_mul]
  omega
theorem tra_traB {a : AV} (ho : okA a = true) : traB (traB a) = a := by
  have hlen : (shO a.sh (tosR a.sh.length)).length = a.sh.length := stepO_length _ _ _
  have h := tra_tra ho
  unfold traB
  show bringM (bringM a (shO a.sh (tosR a.sh.length)) (ordG a.sh (tosR a.sh.length))) (shO (shO a.sh (tosR a.sh.length)) (tosR (shO a.sh (tosR a.sh.length)).length)) (ordG (shO a.sh (tosR a.sh.length)) (tosR (shO a.sh (tosR a.sh.length)).length)) = a
  rw [hlen]
  exact h
theorem row_last {a : AV} (ho : okA a = true) : (a.sh.length = 0 → rowS a.sh = 1) ∧ (∀ k, a.sh.length = k + 1 → a.sh[k]? = some ((rowS a.sh : Nat) : Int)) := by
  obtain ⟨L, h1, h2, _⟩ := shape_nat (okA_iff.1 ho).1
  unfold rowS
  rw [h2, h1, iL_length]
  have h3 := rowI_iL L
  rw [iL_length] at h3
  refine ⟨fun h => ?_, fun k hk => ?_⟩
  · unfold rowN
    rw [if_pos h]
  · rw [if_neg (by omega), hk, Nat.add_sub_cancel, List.getD_eq_getElem?_getD, List.getElem?_eq_getElem (by rw [iL_length]; omega)] at h3
    rw [List.getElem?_eq_getElem (by rw [iL_length]; omega)]
    exact congrArg some h3
end Go.Proofs.Ytkabdkblcgklmaa.tu

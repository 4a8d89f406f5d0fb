/-
  Layer 13 (mold): what is reshaped of a ravel, and of any array.
-/
import Derived.Test.YthadnhcgoefljaaMoCount
import Derived.Test.YthadnhcgoefljaaMoRavel
import Derived.Test.YthadnhcgoefljaaMoShape
namespace Go.Proofs.Ythadnhcgoefljaa.mo
open Go.RowKit Go.Proofs.Ythadnhcgoefljaa.arr

def rsV (a : AV) (i : Nat) : Int := if a.el.length = 0 then fillV a.kind else a.el.getD (i % a.el.length) 0
theorem rsh_el (a : AV) (ho : okA a = true) (i : Nat) : elF a.kind [a] (rshF (prodI a.sh) i) = some (rsV a i) := by
  have hl := (okA_iff.1 ho).2.1
  rw [← hl]
  unfold rshF rsV
  by_cases h : a.el.length = 0
  · rw [if_pos (by omega), if_pos h]
    rfl
  · rw [if_neg (by omega), if_neg h, ← Int.natCast_emod, el1 a a.kind _ (by omega), Int.toNat_natCast]
    have hlt := Nat.mod_lt i (show 0 < a.el.length by omega)
    rw [List.getD_eq_getElem?_getD, List.getElem?_eq_getElem hlt]
    rfl
theorem rsV_kind (a : AV) (ho : okA a = true) (i : Nat) : a.kind = 2 → charOk (rsV a i) = true := fun hk => by
  have h := (okA_iff.1 ho).2.2
  unfold arr.kindOk at h
  rw [hk] at h
  have h2 : a.el.all charOk = true := by simpa using h
  unfold rsV
  split
  · rw [hk]
    decide
  · rename_i hn
    have hlt := Nat.mod_lt i (show 0 < a.el.length by omega)
    rw [List.getD_eq_getElem?_getD, List.getElem?_eq_getElem hlt]
    exact List.all_eq_true.1 h2 _ (List.getElem_mem hlt)
theorem rsV_fine (a : AV) (hf : ∀ z ∈ a.el, -9223372036854775808 ≤ z ∧ z ≤ 9223372036854775807) (i : Nat) : -9223372036854775808 ≤ rsV a i ∧ rsV a i ≤ 9223372036854775807 := by
  unfold rsV
  split
  · unfold fillV
    split <;> simp
  · rename_i hn
    have hlt := Nat.mod_lt i (show 0 < a.el.length by omega)
    rw [List.getD_eq_getElem?_getD, List.getElem?_eq_getElem hlt]
    exact hf _ (List.getElem_mem hlt)
def rsM (a : AV) (sh : List Int) : AV := ⟨a.kind, sh, (List.range (prodI sh).toNat).map (rsV a)⟩
theorem go_rsh (a : AV) (ho : okA a = true) (sh : List Int) (hs : okShape sh = true) : goE a.kind [a] sh (rshF (prodI a.sh)) = 0 ∧ goA a.kind [a] sh (rshF (prodI a.sh)) = rsM a sh := by
  have hR : goR a.kind [a] sh (rshF (prodI a.sh)) = rsM a sh := by
    unfold goR makeA rsM fL
    congr 1
    apply List.map_congr_left
    intro i _
    unfold goV elV
    rw [Int.toNat_natCast, rsh_el a ho i]
    rfl
  have hk := (okA_iff.1 ho).2.2
  have hkB : kindB a.kind = true := by
    unfold arr.kindOk at hk
    unfold kindB
    rw [Bool.or_eq_true, Bool.and_eq_true] at hk
    rw [Bool.or_eq_true]
    exact hk.imp id And.left
  have hp : 0 ≤ prodI sh := (prodI_bounds _ (okShape_iff.1 hs).2.1).1
  have hO : okA (rsM a sh) = true := by
    refine okA_iff.2 ⟨hs, ?_, ?_⟩
    · show (((List.range (prodI sh).toNat).map (rsV a)).length : Int) = prodI sh
      rw [List.length_map, List.length_range]
      omega
    · show arr.kindOk a.kind ((List.range (prodI sh).toNat).map (rsV a)) = true
      unfold kindB at hkB
      unfold arr.kindOk
      rw [Bool.or_eq_true, decide_eq_true_eq, decide_eq_true_eq] at hkB
      rcases hkB with h | h
      · rw [h]
        rfl
      · have hc : ((List.range (prodI sh).toNat).map (rsV a)).all charOk = true := List.all_eq_true.2 (fun z hz => by
          obtain ⟨i, _, rfl⟩ := List.mem_map.1 hz
          exact rsV_kind a ho i h)
        rw [hc, h]
        rfl
  have hE : goE a.kind [a] sh (rshF (prodI a.sh)) = 0 := by
    unfold goE
    rw [hkB, if_neg (by decide), astB_no (fun i _ => by unfold elB; rw [rsh_el a ho i]; rfl), if_neg (by decide), hR]
    unfold checkE
    rw [hO, if_pos rfl]
  refine ⟨hE, ?_⟩
  unfold goA
  rw [hE, if_pos rfl, hR]
theorem md_no {a : AV} (ho : okA a = true) {E : Int} (hE : E ≠ 0) (sh : List Int) (f : Nat → Int × Int) : mdE a E sh f = E ∧ mdA a E sh f = noA := by
  constructor
  · unfold mdE
    rw [ho, if_neg (by decide), if_pos hE]
  · unfold mdA
    rw [ho, if_neg (by decide), if_pos hE]
theorem md_yes {a : AV} (ho : okA a = true) (sh : List Int) (f : Nat → Int × Int) : mdE a 0 sh f = goE a.kind [a] sh f ∧ mdA a 0 sh f = goA a.kind [a] sh f := by
  constructor
  · unfold mdE
    rw [ho, if_neg (by decide), if_neg (fun h => h rfl)]
  · unfold mdA
    rw [ho, if_neg (by decide), if_neg (fun h => h rfl)]
theorem lim_same {l : List Int} (h : ∀ z ∈ l, 0 ≤ z ∧ z ≤ 4096) : l.map limN = l := by
  have : l.map limN = l.map id := List.map_congr_left (fun z hz => by
    have := h z hz
    unfold limN
    show _ = z
    omega)
  rw [this, List.map_id]
theorem vec_axE (l : List Int) (hl : l.length ≤ 4096) {sh : List Int} (hs : okShape sh = true) : axE ⟨1, [(l.length : Int)], l⟩ sh = 0 ∧ axL ⟨1, [(l.length : Int)], l⟩ sh = l.map limN := by
  have hE : axE ⟨1, [(l.length : Int)], l⟩ sh = 0 := by
    unfold axE
    rw [hs, if_pos rfl]
    unfold listE
    rw [vec_ok l hl, if_pos rfl]
    rfl
  refine ⟨hE, ?_⟩
  unfold axL
  rw [hE, if_pos rfl]
/-- A list reshapes an array. -/
theorem rs_list (l : List Int) (hl : l.length ≤ 4096) (a : AV) (ho : okA a = true) :
    (rsE ⟨1, [(l.length : Int)], l⟩ a = 5 ∨ rsE ⟨1, [(l.length : Int)], l⟩ a = 9) ∧ rsA ⟨1, [(l.length : Int)], l⟩ a = noA ∨ rsE ⟨1, [(l.length : Int)], l⟩ a = 0 ∧ okShape l = true ∧ rsA ⟨1, [(l.length : Int)], l⟩ a = rsM a l := by
  have hs := (okA_iff.1 ho).1
  obtain ⟨h1, h2⟩ := vec_axE l hl hs
  have hw : rwE ⟨1, [(l.length : Int)], l⟩ a.sh = if (l.map limN).any negB = true then 5 else if okShape (l.map limN) = true then 0 else 9 := by
    unfold rwE
    rw [h1, if_neg (fun h => h rfl), h2]
  unfold rsE rsA
  rw [h2]
  by_cases hn : (l.map limN).any negB = true
  · rw [if_pos hn] at hw
    rw [hw, (md_no ho (by decide) _ _).1, (md_no ho (by decide) _ _).2]
    exact .inl ⟨.inl rfl, rfl⟩
  · rw [if_neg hn] at hw
    by_cases hk : okShape (l.map limN) = true
    · rw [if_pos hk] at hw
      rw [hw, (md_yes ho _ _).1, (md_yes ho _ _).2]
      have hb : ∀ z ∈ l, 0 ≤ z ∧ z ≤ 4096 := fun z hz => by
        have := lenOk_iff.1 (List.all_eq_true.1 (okShape_iff.1 hk).2.1 (limN z) (List.mem_map.2 ⟨z, hz, rfl⟩))
        unfold limN at this
        omega
      rw [lim_same hb] at hk ⊢
      obtain ⟨g1, g2⟩ := go_rsh a ho l hk
      exact .inr ⟨g1, hk, g2⟩
    · rw [if_neg hk] at hw
      rw [hw, (md_no ho (by decide) _ _).1, (md_no ho (by decide) _ _).2]
      exact .inl ⟨.inr rfl, rfl⟩
/-- A ravel, reshaped by the shape, is the array. -/
theorem rs_back (a : AV) (ho : okA a = true) : rsE ⟨1, [(a.sh.length : Int)], a.sh⟩ ⟨a.kind, [(a.el.length : Int)], a.el⟩ = 0 ∧ rsA ⟨1, [(a.sh.length : Int)], a.sh⟩ ⟨a.kind, [(a.el.length : Int)], a.el⟩ = a ∧ okA ⟨a.kind, [(a.el.length : Int)], a.el⟩ = true := by
  obtain ⟨k1, k2⟩ := okA_len ho
  obtain ⟨h1, h2, h3⟩ := okA_iff.1 ho
  have hr : okA ⟨a.kind, [(a.el.length : Int)], a.el⟩ = true := okA_iff.2 ⟨sh_one (by omega) (by omega), (prodI_one _).symm, h3⟩
  have hb : ∀ z ∈ a.sh, 0 ≤ z ∧ z ≤ 4096 := fun z hz => lenOk_iff.1 (List.all_eq_true.1 (okShape_iff.1 h1).2.1 z hz)
  have hM : rsM ⟨a.kind, [(a.el.length : Int)], a.el⟩ a.sh = a := by
    have hel : (List.range (prodI a.sh).toNat).map (rsV ⟨a.kind, [(a.el.length : Int)], a.el⟩) = a.el := by
      rw [← h2, Int.toNat_natCast]
      apply List.ext_getElem
      · simp
      · intro i q1 q2
        rw [List.getElem_map, List.getElem_range]
        show (if a.el.length = 0 then _ else a.el.getD (i % a.el.length) 0) = _
        rw [if_neg (by omega), Nat.mod_eq_of_lt q2, List.getD_eq_getElem?_getD, List.getElem?_eq_getElem q2]
        rfl
    unfold rsM
    rw [hel]
  have hlim := lim_same hb
  rcases rs_list a.sh (by omega) ⟨a.kind, [(a.el.length : Int)], a.el⟩ hr with ⟨h, _⟩ | ⟨e1, _, e2⟩
  · exfalso
    obtain ⟨x1, x2⟩ := vec_axE a.sh (by omega) (okA_iff.1 hr).1
    have hn : (a.sh.map limN).any negB = false := by
      rw [hlim, List.any_eq_false]
      intro z hz
      have := hb z hz
      unfold negB
      simp
      omega
    have hw : rwE ⟨1, [(a.sh.length : Int)], a.sh⟩ [(a.el.length : Int)] = 0 := by
      unfold rwE
      rw [x1, if_neg (fun h => h rfl), x2, hn, if_neg (by decide), hlim, h1, if_pos rfl]
    have h0 : rsE ⟨1, [(a.sh.length : Int)], a.sh⟩ ⟨a.kind, [(a.el.length : Int)], a.el⟩ = 0 := by
      unfold rsE
      show mdE _ (rwE ⟨1, [(a.sh.length : Int)], a.sh⟩ [(a.el.length : Int)]) (axL ⟨1, [(a.sh.length : Int)], a.sh⟩ [(a.el.length : Int)]) _ = 0
      rw [hw, (md_yes hr _ _).1, x2, hlim]
      exact (go_rsh ⟨a.kind, [(a.el.length : Int)], a.el⟩ hr a.sh h1).1
    omega
  · exact ⟨e1, by rw [e2, hM], hr⟩
end Go.Proofs.Ythadnhcgoefljaa.mo

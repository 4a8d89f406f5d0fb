/-
  Layer 14 (turn): what the ways tell, and that each brings each element just once (for TurnTells).
-/
import Derived.Test.YtenpohnccnlngaaTuAll3
import Derived.Test.YtenpohnccnlngaaMoTellK
namespace Go.Proofs.Ytenpohnccnlngaa.tu
open Go.RowKit Go.Proofs.Ytenpohnccnlngaa.arr Go.Proofs.Ytenpohnccnlngaa.mo

/-- A way brings each of N elements just once: g tells from where. -/
structure Once (N : Nat) (f : Nat → Int × Int) (g : Nat → Nat) : Prop where
  at_ : ∀ k < N, f k = (0, (g k : Int))
  lt : ∀ k < N, g k < N
  inj : ∀ i j, i < N → j < N → g i = g j → i = j
/-- What a way and its function tell of an array. -/
structure Tells (a : AV) (E : Int) (sh : List Int) (f : Nat → Int × Int) : Prop where
  e : mdE a E sh f = E
  g : E = 0 → goE a.kind [a] sh f = 0 ∧ goA a.kind [a] sh f = mdA a E sh f ∧ okA (mdA a E sh f) = true
  o : E = 0 → ∃ g, Once a.el.length f g
  p : E = 0 → (prodI sh).toNat = a.el.length
theorem tells_no {a : AV} (ho : okA a = true) {E : Int} (hE : E ≠ 0) (sh : List Int) (f : Nat → Int × Int) : Tells a E sh f := ⟨(md_no ho hE sh f).1, fun h => absurd h hE, fun h => absurd h hE, fun h => absurd h hE⟩
theorem tells_yes {a : AV} {sh : List Int} {f : Nat → Int × Int} {g : Nat → Nat} (ho : okA a = true) (h : mdE a 0 sh f = 0 ∧ mdA a 0 sh f = bringM a sh g ∧ okA (bringM a sh g) = true) (o : Once a.el.length f g) (p : (prodI sh).toNat = a.el.length) : Tells a 0 sh f := by
  obtain ⟨h1, h2, h3⟩ := h
  obtain ⟨g1, g2⟩ := md_yes ho sh f
  exact ⟨h1, fun _ => ⟨g1.symm.trans h1, g2.symm, by rw [h2]; exact h3⟩, fun _ => ⟨g, o⟩, fun _ => p⟩
theorem gW_inj {R N : Nat} {V : Nat → Nat} (hV : ∀ i < N, V i < R) (hinj : ∀ i j, i < N → j < N → i / R = j / R → V i = V j → i % R = j % R) : ∀ i j, i < N → j < N → gW R V i = gW R V j → i = j := by
  intro i j hi hj h
  have hd : i / R = j / R := by rw [← gW_div (hV i hi), ← gW_div (hV j hj), h]
  have hm := hinj i j hi hj hd (by rw [← gW_mod (i := i) (hV i hi), ← gW_mod (i := j) (hV j hj), h])
  rw [← Nat.div_add_mod i R, ← Nat.div_add_mod j R, hd, hm]
theorem with_tells {a : AV} {V : Nat → Nat} (ho : okA a = true) (hv : ∀ i < a.el.length, V i < rowS a.sh) (hinj : ∀ i j, i < a.el.length → j < a.el.length → i / rowS a.sh = j / rowS a.sh → V i = V j → i % rowS a.sh = j % rowS a.sh) : Tells a 0 a.sh (withF a.sh V) :=
  tells_yes ho (with_bring ho hv) ⟨fun _ _ => withF_gW _ _ _, fun k hk => gW_lt (row_dvd ho) (hv k hk) hk, gW_inj hv hinj⟩ (ok_len ho)
theorem rev_tells {a : AV} (ho : okA a = true) : Tells a (if okShape a.sh = true then 0 else 110) a.sh (withF a.sh (revV a.sh)) := by
  rw [if_pos (okA_iff.1 ho).1]
  refine with_tells ho (fun i hi => revV_lt (row_pos ho hi)) (fun i j hi hj _ h => ?_)
  have h1 := Nat.mod_lt i (row_pos ho hi)
  have h2 := Nat.mod_lt j (row_pos ho hi)
  unfold revV at h
  omega
theorem rot_tells (l : AV) {a : AV} (ho : okA a = true) : Tells a (rotE l a.sh) a.sh (withF a.sh (rotV a.sh l.el)) := by
  by_cases he : rotE l a.sh = 0
  · rw [he]
    refine with_tells ho (fun i hi => (rotV_lt (row_pos ho hi)).1) (fun i j hi hj hd h => ?_)
    have h0 := row_pos ho hi
    have h1 := Nat.mod_lt i h0
    have h2 := Nat.mod_lt j h0
    unfold rotV at h
    rw [hd] at h
    generalize l.el.getD (j / rowS a.sh % l.el.length) 0 = x at h
    generalize i % rowS a.sh = p at *
    generalize j % rowS a.sh = q at *
    generalize rowS a.sh = R at *
    have n1 := Int.emod_nonneg ((p : Int) + x) (show (R : Int) ≠ 0 by omega)
    have n2 := Int.emod_nonneg ((q : Int) + x) (show (R : Int) ≠ 0 by omega)
    have h3 : ((p : Int) + x) % (R : Int) = ((q : Int) + x) % (R : Int) := by omega
    have h4 := (Int.emod_add_cancel_right x).1 h3
    rw [Int.emod_eq_of_lt (by omega) (by omega), Int.emod_eq_of_lt (by omega) (by omega)] at h4
    omega
  · exact tells_no ho he _ _
theorem ord_inj {a : AV} {tos L M : List Nat} (o : OrdM a tos L M) (h : PermO a.sh.length tos) : ∀ i j, i < prodN M → j < prodN M → ordG a.sh tos i = ordG a.sh tos j → i = j := by
  intro i j hi hj he
  obtain ⟨_, d1⟩ := o.at_ i hi
  obtain ⟨_, d2⟩ := o.at_ j hj
  rw [he, d2] at d1
  refine dig_same hi hj ?_
  apply List.ext_getElem?
  intro c
  by_cases hc : c < M.length
  · obtain ⟨k, hk⟩ := perm_mem h (show c < a.sh.length by rw [o.hL, iL_length]; have := o.l2; omega)
    have h1 := congrArg (fun l : List Nat => l[k]?) d1
    simp only [List.getElem?_map, hk, Option.map_some] at h1
    have h2 := Option.some.inj h1
    have li : c < (dig M i).length := by rw [dig_length]; exact hc
    have lj : c < (dig M j).length := by rw [dig_length]; exact hc
    rw [List.getD_eq_getElem?_getD, List.getD_eq_getElem?_getD, List.getElem?_eq_getElem li, List.getElem?_eq_getElem lj] at h2
    rw [List.getElem?_eq_getElem li, List.getElem?_eq_getElem lj]
    exact congrArg some h2.symm
  · rw [List.getElem?_eq_none (by rw [dig_length]; omega), List.getElem?_eq_none (by rw [dig_length]; omega)]
theorem ord_two {a : AV} {tos : List Nat} (h : PermO a.sh.length tos) (ho : okA a = true) {n : Nat} (hn : n < (prodI (shO a.sh tos)).toNat) : ordF a.sh tos n = (0, ((ordG a.sh tos n : Nat) : Int)) := by
  have hs := (okA_iff.1 ho).1
  have hs2 : okShape (shO a.sh tos) = true := (shO_ok h).trans hs
  obtain ⟨L, M, hL, hM, hO, _, _, _, hP, _⟩ := shO_nat h hs2
  have hm : (shO a.sh tos).map Int.toNat = M := by rw [hM]; exact map_toNat M
  rw [hP, Int.toNat_natCast] at hn
  have hN : numsO M tos n = iL (tos.map (fun b => (dig M n).getD b 0)) := by
    unfold numsO iL
    rw [List.map_map]
    apply List.map_congr_left
    intro b hb
    obtain ⟨i, hi, rfl⟩ := List.mem_iff_getElem.1 hb
    have hlt := hO.lt i _ (List.getElem?_eq_getElem hi)
    show numV M n (tos[i] : Int) = (((dig M n).getD tos[i] 0 : Nat) : Int)
    unfold numV
    rw [if_pos ⟨by omega, by omega⟩, Int.toNat_natCast, List.getD_eq_getElem?_getD, numN_at M n _ hlt hn]
    rfl
  have hv : ordF a.sh tos n = (0, ((valN L (tos.map (fun b => (dig M n).getD b 0)) : Nat) : Int)) := by
    unfold ordF
    rw [hm, hN, hL]
    have := hor_val 0 L (tos.map (fun b => (dig M n).getD b 0)) (by rw [List.length_map, hO.l1])
    rw [Nat.zero_mul, Nat.zero_add] at this
    rw [← this]
    rfl
  unfold ordG
  rw [hv]
  rfl
theorem ord_tells {a : AV} {tos : List Nat} (h : PermO a.sh.length tos) (ho : okA a = true) : Tells a 0 (shO a.sh tos) (ordF a.sh tos) := by
  obtain ⟨L, M, o⟩ := ord_bring h ho
  have hpm : (prodI (shO a.sh tos)).toNat = prodN M := by rw [o.hM, prod_iL, Int.toNat_natCast]
  have hpl : prodN L = a.el.length := by
    have := ok_len ho
    rw [o.hL, prod_iL, Int.toNat_natCast] at this
    exact this
  have hp : (prodI (shO a.sh tos)).toNat = a.el.length := by rw [shO_prod h]; exact ok_len ho
  have hN : prodN M = a.el.length := hpm.symm.trans hp
  refine tells_yes ho ⟨o.e, o.m, o.ok⟩ ⟨fun k hk => ord_two h ho (by rw [hp]; exact hk), fun k hk => ?_, fun i j hi hj he => ord_inj o h i j (by omega) (by omega) he⟩ hp
  have := (o.at_ k (by omega)).1
  omega
theorem tra_tells {a : AV} (ho : okA a = true) : Tells a (if okShape (shO a.sh (tosR a.sh.length)) = true then 0 else 110) (shO a.sh (tosR a.sh.length)) (ordF a.sh (tosR a.sh.length)) := by
  rw [if_pos ((shO_ok (tosR_perm _)).trans (okA_iff.1 ho).1)]
  exact ord_tells (tosR_perm _) ho
theorem perm_tells (l : AV) {a : AV} (ho : okA a = true) : Tells a (perE l a.sh) (shO a.sh (tosP l)) (ordF a.sh (tosP l)) := by
  by_cases he : perE l a.sh = 0
  · rw [he]
    exact ord_tells (tosP_perm he).1 ho
  · exact tells_no ho he _ _
/-- Which elements have been brought, k places gone through. -/
def seenL (g : Nat → Nat) (N k : Nat) : List Int := (List.range N).map (fun p => if (List.range k).any (fun i => g i == p) = true then 1 else 0)
theorem seen_len (g : Nat → Nat) (N k : Nat) : (seenL g N k).length = N := by simp [seenL]
theorem seen_at (g : Nat → Nat) {N k p : Nat} (hp : p < N) : (seenL g N k)[p]? = some (if (List.range k).any (fun i => g i == p) = true then 1 else 0) := by
  unfold seenL
  rw [List.getElem?_map, List.getElem?_range hp]
  rfl
theorem seen_zero (g : Nat → Nat) (N : Nat) : (seenL g N 0).map iv = List.replicate N (.int .i64 0) := by
  apply List.ext_getElem?
  intro p
  by_cases hp : p < N
  · rw [List.getElem?_map, seen_at g hp, List.getElem?_replicate, if_pos hp]
    rfl
  · rw [List.getElem?_eq_none (by rw [List.length_map, seen_len]; omega), List.getElem?_eq_none (by rw [List.length_replicate]; omega)]
theorem seen_new {N : Nat} {f : Nat → Int × Int} {g : Nat → Nat} (o : Once N f g) {k : Nat} (hk : k < N) : ((seenL g N k).map iv)[g k]? = some (.int .i64 0) := by
  rw [List.getElem?_map, seen_at g (o.lt k hk)]
  have : (List.range k).any (fun i => g i == g k) = false := by
    rw [List.any_eq_false]
    intro i hi h
    have hi2 := List.mem_range.1 hi
    have := o.inj i k (by omega) hk (beq_iff_eq.1 h)
    omega
  rw [this]
  rfl
theorem seen_next {N : Nat} {g : Nat → Nat} {k : Nat} : ((seenL g N k).map iv).set (g k) (.int .i64 1) = (seenL g N (k + 1)).map iv := by
  apply List.ext_getElem?
  intro p
  by_cases hp : p < N
  · rw [List.getElem?_set]
    by_cases he : g k = p
    · subst he
      rw [if_pos rfl, if_pos (by rw [List.length_map, seen_len]; exact hp), List.getElem?_map, seen_at g hp, List.range_succ, List.any_append]
      simp [iv]
    · rw [if_neg he, List.getElem?_map, List.getElem?_map, seen_at g hp, seen_at g hp, List.range_succ, List.any_append]
      have : (List.any [k] fun i => g i == p) = false := by simp [he]
      rw [this, Bool.or_false]
  · rw [List.getElem?_eq_none (by rw [List.length_set, List.length_map, seen_len]; omega), List.getElem?_eq_none (by rw [List.length_map, seen_len]; omega)]
end Go.Proofs.Ytenpohnccnlngaa.tu

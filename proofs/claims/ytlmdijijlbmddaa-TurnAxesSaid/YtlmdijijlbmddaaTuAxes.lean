/-
  Layer 14 (turn): permuted by a list, by two lists one after the other, by the axes in reverse (for TurnAxes).
  The walk of the statement TurnAxes.
-/
import Derived.Test.YtlmdijijlbmddaaTuAll3
import Derived.Test.YtlmdijijlbmddaaArOpen
namespace Go.Proofs.Ytlmdijijlbmddaa.tu
open Go.RowKit Go.Proofs.Ytlmdijijlbmddaa.arr Go.Proofs.Ytlmdijijlbmddaa.mo

/-- A box of a law that holds an array that is only looked at. -/
structure BoxP (W : World) (g : Nat) (X : AV) (p : AP) : Prop where
  k : Blk W g 63 (arC X p)
  e : AEl W X p
theorem BoxP.up {W W' : World} {g : Nat} {X : AV} {p : AP} (h : BoxP W g X p) (hb : Below W.heap.size W W') : BoxP W' g X p := ⟨blk_up h.k hb, h.e.below hb⟩
theorem BoxP.new {W : World} {X : AV} {p : AP} (h : AEl W X p) (_c : Cap X p) : BoxP (W.alloc (.cells (arC X p) 63)) W.heap.size X p := ⟨Blk.new _ _ _, h.below (albel _ _)⟩
theorem BoxP.cells {W : World} {g : Nat} {X : AV} {p : AP} (h : BoxP W g X p) : W.cell? ⟨g, 0, none⟩ = some (.int .i64 X.kind) ∧ W.cell? ⟨g, 1, none⟩ = some (.slice p.A0 X.sh.length p.c0) ∧ W.cell? ⟨g, 2, none⟩ = some (.slice p.A1 X.el.length p.c1) := ⟨h.k.cell 0, h.k.cell 1, h.k.cell 2⟩
def perB (l : List Int) (a : AV) : AV := bringM a (shO a.sh (tosP (vecA l))) (ordG a.sh (tosP (vecA l)))
theorem vec_listE (l : List Int) (hl : l.length ≤ 4096) : listE (vecA l) = 0 := by
  unfold listE
  rw [vecA_ok l hl, if_pos rfl, if_neg (show ¬ 1 < (vecA l).sh.length by show ¬ 1 < 1; omega), if_neg (show ¬ (vecA l).kind = 2 by show ¬ (1 : Int) = 2; omega)]
/-- A list permutes the axes, or it does not. -/
theorem perE_vec (l : List Int) (hl : l.length ≤ 4096) {sh : List Int} (hs : okShape sh = true) : (perE (vecA l) sh = 0 ∧ l.length = sh.length ∧ permB sh.length l = true) ∨ ((perE (vecA l) sh = 4 ∨ perE (vecA l) sh = 5) ∧ ¬ (l.length = sh.length ∧ permB sh.length l = true)) := by
  unfold perE
  rw [if_pos hs, if_pos (vec_listE l hl)]
  rw [show (vecA l).el = l from rfl]
  by_cases h1 : l.length = sh.length
  · rw [if_pos h1]
    by_cases h2 : permB sh.length l = true
    · rw [if_pos h2]
      exact .inl ⟨rfl, h1, h2⟩
    · rw [if_neg h2]
      exact .inr ⟨.inr rfl, fun h => h2 h.2⟩
  · rw [if_neg h1]
    exact .inr ⟨.inl rfl, fun h => h1 h.1⟩
theorem perB_yes {l : List Int} {a : AV} (ho : okA a = true) (he : perE (vecA l) a.sh = 0) :
    mdE a (perE (vecA l) a.sh) (shO a.sh (tosP (vecA l))) (ordF a.sh (tosP (vecA l))) = 0 ∧ mdA a (perE (vecA l) a.sh) (shO a.sh (tosP (vecA l))) (ordF a.sh (tosP (vecA l))) = perB l a ∧ okA (perB l a) = true ∧ (perB l a).sh.length = a.sh.length := by
  rw [he]
  obtain ⟨L, M, o⟩ := ord_bring (tosP_perm he).1 ho
  exact ⟨o.e, o.m, o.ok, stepO_length _ _ _⟩
theorem perB_no {l : List Int} {a : AV} (ho : okA a = true) (he : perE (vecA l) a.sh ≠ 0) :
    mdE a (perE (vecA l) a.sh) (shO a.sh (tosP (vecA l))) (ordF a.sh (tosP (vecA l))) = perE (vecA l) a.sh ∧ mdA a (perE (vecA l) a.sh) (shO a.sh (tosP (vecA l))) (ordF a.sh (tosP (vecA l))) = noA := by
  unfold mdE mdA
  constructor
  · rw [ho, if_neg (by decide), if_pos he]
  · rw [ho, if_neg (by decide), if_pos he]
theorem tosP_at (l : List Int) (i : Nat) : (tosP (vecA l))[i]? = (l[i]?).map (fun x => (x - 1).toNat) := by
  show (((l.map (fun x => x - 1)).map Int.toNat))[i]? = _
  rw [List.map_map, List.getElem?_map]
  rfl
/-- The list of both. -/
def bothL (l m : List Int) : List Int := l.map (fun x => m.getD (x - 1).toNat 0)
theorem both_ok {l m : List Int} {sh : List Int} (hl : l.length = sh.length) (hm : m.length = sh.length) (h1 : permB sh.length l = true) (h2 : permB sh.length m = true) : (bothL l m).length = sh.length ∧ permB sh.length (bothL l m) = true := by
  refine ⟨by unfold bothL; rw [List.length_map, hl], ?_⟩
  obtain ⟨a1, a2⟩ := permB_iff.1 h1
  obtain ⟨b1, b2⟩ := permB_iff.1 h2
  have hat : ∀ x ∈ l, (x - 1).toNat < m.length := fun x hx => by have := a1 x hx; omega
  refine permB_iff.2 ⟨fun y hy => ?_, ?_⟩
  · obtain ⟨x, hx, rfl⟩ := List.mem_map.1 hy
    have h := hat x hx
    rw [List.getD_eq_getElem?_getD, List.getElem?_eq_getElem h]
    exact b1 _ (List.getElem_mem _)
  · unfold bothL
    rw [List.nodup_iff_pairwise_ne, List.pairwise_map]
    refine List.Pairwise.imp_of_mem ?_ (List.nodup_iff_pairwise_ne.1 a2)
    intro x y hx hy hxy e
    have k1 := hat x hx
    have k2 := hat y hy
    rw [List.getD_eq_getElem?_getD, List.getElem?_eq_getElem k1, List.getD_eq_getElem?_getD, List.getElem?_eq_getElem k2] at e
    have e2 : m[(x - 1).toNat] = m[(y - 1).toNat] := e
    have hp := List.pairwise_iff_getElem.1 (List.nodup_iff_pairwise_ne.1 b2)
    have := a1 x hx
    have := a1 y hy
    rcases Nat.lt_trichotomy (x - 1).toNat (y - 1).toNat with h | h | h
    · exact hp _ _ k1 k2 h e2
    · exact hxy (by omega)
    · exact hp _ _ k2 k1 h e2.symm
/-- Permuted by one, and then by another. -/
theorem per_per {l m : List Int} {a : AV} (ho : okA a = true) (hl4 : l.length ≤ 4096) (h1 : perE (vecA l) a.sh = 0) (h2 : perE (vecA m) (perB l a).sh = 0) : perE (vecA (bothL l m)) a.sh = 0 ∧ perB (bothL l m) a = perB m (perB l a) := by
  have hs := (okA_iff.1 ho).1
  have hlen : (perB l a).sh.length = a.sh.length := (perB_yes ho h1).2.2.2
  obtain ⟨_, _, l3, l4⟩ := perE_ok h1
  obtain ⟨_, _, m3, m4⟩ := perE_ok h2
  rw [hlen] at m3 m4
  obtain ⟨b3, b4⟩ := both_ok (show l.length = _ from l3) (show m.length = _ from m3) l4 m4
  have hb4 : (bothL l m).length ≤ 4096 := by unfold bothL; rw [List.length_map]; exact hl4
  have hb : perE (vecA (bothL l m)) a.sh = 0 := by
    rcases perE_vec (bothL l m) hb4 hs with h | h
    · exact h.1
    · exact absurd ⟨b3, b4⟩ h.2
  refine ⟨hb, ?_⟩
  have p2 : PermO a.sh.length (tosP (vecA m)) := by
    have := (tosP_perm h2).1
    rw [hlen] at this
    exact this
  refine (ord_ord (tosP_perm h1).1 p2 (tosP_perm hb).1 ho (fun i b hi => ?_)).symm
  rw [tosP_at] at hi
  rw [tosP_at, tosP_at]
  unfold bothL
  rw [List.getElem?_map]
  cases hx : l[i]? with
  | none => rw [hx] at hi; cases hi
  | some x =>
    rw [hx] at hi
    have hb2 : (x - 1).toNat = b := Option.some.inj hi
    subst hb2
    have hlt : (x - 1).toNat < m.length := by
      have h5 := (permB_iff.1 l4).1 x (List.mem_of_getElem? hx)
      have h6 : m.length = a.sh.length := m3
      omega
    rw [List.getElem?_eq_getElem hlt]
    show some ((m.getD (x - 1).toNat 0 - 1).toNat) = some ((m[(x - 1).toNat] - 1).toNat)
    rw [List.getD_eq_getElem?_getD, List.getElem?_eq_getElem hlt]
    rfl
/-- The axes in reverse. -/
def aboutL (n : Nat) : List Int := (List.range n).map (fun i : Nat => ((n - i : Nat) : Int))
theorem about_ok {a : AV} (ho : okA a = true) : perE (vecA (aboutL a.sh.length)) a.sh = 0 ∧ perB (aboutL a.sh.length) a = traB a := by
  have hs := (okA_iff.1 ho).1
  have hlen : (aboutL a.sh.length).length = a.sh.length := by unfold aboutL; rw [List.length_map, List.length_range]
  have h4 := (okA_len ho).2
  have hp : permB a.sh.length (aboutL a.sh.length) = true := by
    refine permB_iff.2 ⟨fun x hx => ?_, ?_⟩
    · obtain ⟨i, hi, rfl⟩ := List.mem_map.1 hx
      have := List.mem_range.1 hi
      omega
    · unfold aboutL
      rw [List.nodup_iff_pairwise_ne, List.pairwise_map]
      refine List.Pairwise.imp_of_mem ?_ (List.nodup_iff_pairwise_ne.1 (List.nodup_range (n := a.sh.length)))
      intro x y hx hy hxy e
      have h1 := List.mem_range.1 hx
      have h2 := List.mem_range.1 hy
      exact hxy (by omega)
  have ht : tosP (vecA (aboutL a.sh.length)) = tosR a.sh.length := by
    show ((aboutL a.sh.length).map (fun x => x - 1)).map Int.toNat = _
    unfold aboutL tosR
    rw [List.map_map, List.map_map]
    apply List.map_congr_left
    intro i hi
    have := List.mem_range.1 hi
    show (((a.sh.length - i : Nat) : Int) - 1).toNat = _
    omega
  refine ⟨?_, ?_⟩
  · rcases perE_vec (aboutL a.sh.length) (by omega) hs with h | h
    · exact h.1
    · exact absurd ⟨hlen, hp⟩ h.2
  · unfold perB traB
    rw [ht]
/-- What Permute answers of a list: the array's axes in that order, or an error. -/
theorem per_tells (l : List Int) (hl : l.length ≤ 4096) {a : AV} (ho : okA a = true) (hf : Fine a) {E : Int} {X : AV} (hE : mdE a (perE (vecA l) a.sh) (shO a.sh (tosP (vecA l))) (ordF a.sh (tosP (vecA l))) = E) (hX : mdA a (perE (vecA l) a.sh) (shO a.sh (tosP (vecA l))) (ordF a.sh (tosP (vecA l))) = X) :
    (E = 0 ∨ E = 4 ∨ E = 5) ∧ (X.sh.length ≤ 9223372036854775807 ∧ X.el.length ≤ 9223372036854775807 ∧ Fine X) ∧ (E = 0 → perE (vecA l) a.sh = 0 ∧ X = perB l a ∧ okA X = true ∧ X.el.length = a.el.length ∧ X.sh.length = a.sh.length) := by
  rcases perE_vec l hl (okA_iff.1 ho).1 with ⟨h, _⟩ | ⟨h, _⟩
  · obtain ⟨e1, e2, e3, e4⟩ := perB_yes ho h
    rw [e1] at hE
    rw [e2] at hX
    subst hE
    subst hX
    have h4 := okA_len e3
    refine ⟨.inl rfl, ⟨by omega, by omega, bring_fine hf⟩, fun _ => ⟨h, rfl, e3, ?_, e4⟩⟩
    rw [show (perB l a).el.length = _ from bring_len _ _ _, shO_prod (tosP_perm h).1]
    exact ok_len ho
  · have hne : perE (vecA l) a.sh ≠ 0 := by omega
    obtain ⟨e1, e2⟩ := perB_no ho hne
    rw [e1] at hE
    rw [e2] at hX
    subst hE
    subst hX
    exact ⟨.inr h, ⟨show (0 : Nat) ≤ _ by omega, show (0 : Nat) ≤ _ by omega, fun z hz => by cases hz⟩, fun h0 => absurd h0 hne⟩
theorem both_take {l m : List Int} {j : Nat} (h : j < l.length) : ((bothL l m).take (j + 1)).map iv = ((bothL l m).take j).map iv ++ [.int .i64 (m.getD (l[j] - 1).toNat 0)] := by
  have hl : j < (bothL l m).length := by unfold bothL; rw [List.length_map]; exact h
  have he0 : (bothL l m)[j]? = some (m.getD (l[j] - 1).toNat 0) := by
    unfold bothL
    rw [List.getElem?_map, List.getElem?_eq_getElem h]
    rfl
  have he : (bothL l m)[j] = m.getD (l[j] - 1).toNat 0 := (List.getElem?_eq_some_iff.1 he0).2
  rw [List.take_succ_eq_append_getElem hl, he, List.map_append]
  rfl
end Go.Proofs.Ytlmdijijlbmddaa.tu

namespace Go.Proofs.Ytlmdijijlbmddaa.turnAxes
open Go.RowKit Go.Proofs.Ytlmdijijlbmddaa.arr Go.Proofs.Ytlmdijijlbmddaa.mo Go.Proofs.Ytlmdijijlbmddaa.tu

abbrev GiveV (X : AV) (W : World) (e : Ending) (w' : World) : Prop := ∃ r : AP, e = .returned (.agg (arC X r)) ∧ AOwn W.heap.size w' X r ∧ Below W.heap.size W w'
theorem vec_give (l : List Int) (hl : l.length ≤ 100000) (A : Option Addr) (n c : Nat) (W : World) (hn : l.length = n) (hr : Reads W W.heap.size 1 A n (l.map iv)) : Calls Try.prog 36 #[.slice A n c] W (GiveV (vecA l) W) := by
  subst hn
  refine (arvector_any A l.length c l W rfl hr (by omega)).mono ?_
  rintro e w' ⟨v, rfl, r, rfl, o, b⟩
  exact ⟨r, rfl, o, b⟩
theorem about_at {n j : Nat} (h : j < n) : ((aboutL n).take (j + 1)).map iv = ((aboutL n).take j).map iv ++ [.int .i64 ((n - j : Nat) : Int)] := by
  have hl : j < (aboutL n).length := by unfold aboutL; rw [List.length_map, List.length_range]; exact h
  have he0 : (aboutL n)[j]? = some ((n - j : Nat) : Int) := by
    unfold aboutL
    rw [List.getElem?_map, List.getElem?_range h]
    rfl
  have he : (aboutL n)[j] = ((n - j : Nat) : Int) := (List.getElem?_eq_some_iff.1 he0).2
  rw [List.take_succ_eq_append_getElem hl, he, List.map_append]
  rfl
set_option maxRecDepth 100000 in
set_option maxHeartbeats 16000000 in
theorem walk (a : AV) (p : AP) (A B : Option Addr) (c d : Nat) (l m : List Int) (w : World) (ha : AEl w a p) (hl : IArg w A c l) (hm : IArg w B d m) :
    Calls Try.prog 10 #[.agg (arC a p), .slice A l.length c, .slice B m.length d] w fun e w' => e = .returned (.bool true) ∧ Below w.heap.size w w' := by
  obtain ⟨i0, hi, hz0, hz1, hz2⟩ := info_parts arInfoI64
  have hbig := hl.cap
  have hbig1 := hl.big
  have hbig2 := hm.cap
  have hbig3 := hm.big
  have hb1 := albel w (.cells (arC a p) 63)
  have hx1 := Blk.new w 63 (arC a p)
  have hLC : ∀ p, arC a p = #[.int .i64 a.kind, .slice p.A0 a.sh.length p.c0, .slice p.A1 a.el.length p.c1] := fun p => rfl
  obtain ⟨w0, hw0⟩ : ∃ w0, w.alloc (.cells (arC a p) 63) = w0 := ⟨_, rfl⟩
  rw [hw0] at hb1 hx1
  have A_0 : Hid (BoxP w0 w.heap.size a p) := Lib.hid ⟨hx1, ha.below hb1⟩
  have HG : Hid (∀ W, Calls Try.prog 28 #[.agg #[.int .i64 a.kind, .slice p.A0 a.sh.length p.c0, .slice p.A1 a.el.length p.c1]] W fun e w' => e = .returned (.int .i64 (greatA a)) ∧ Below W.heap.size W w') := Lib.hid (fun W => argreat_any a p W)
  have HCK : Hid (∀ W, AEl W a p → Calls Try.prog 29 #[.agg #[.int .i64 a.kind, .slice p.A0 a.sh.length p.c0, .slice p.A1 a.el.length p.c1]] W fun e w' => e = .returned (.int .i64 (checkE a)) ∧ Below W.heap.size W w') := Lib.hid (fun W h => archeck_any a p W h)
  have BW_0 := Lib.hid hb1
  have hgr : greatA a = 0 ∨ greatA a = 1 := by unfold greatA; split <;> simp
  rw [hLC p] at hw0
  rw [hLC p]
  clear hx1 hb1 hLC
  obtain ⟨x0, x1, x2⟩ := A_0.out.cells
  by_cases hg : greatA a = 1
  · rw [hg] at HG
    generalize l.length = P at *
    generalize m.length = Q at *
    clear hgr hg ha HCK hl hm
    go_enter Try.func10, Try.ntmps10
    go_wp2_with (first
      | (go_at_call 41; (try rw [hw0]); refine (l14alive _).mono ?_; rintro e w1 ⟨rfl, b1⟩; have A_1 := Lib.hid (A_0.out.up b1); obtain ⟨x0, x1, x2⟩ := A_1.out.cells; have BW_1 := Lib.hid (bon BW_0.out b1); clear b1)
      | (go_at_call 28; refine (HG.out _).mono ?_; rintro e w2 ⟨rfl, b2⟩; have BW_2 := Lib.hid (bon BW_1.out b2); clear b2))
    go_ret
    exact ⟨rfl, BW_2.out⟩
  have hg0 : greatA a = 0 := hgr.resolve_right hg
  rw [hg0] at HG
  clear hgr hg hg0
  by_cases h1 : 10 < l.length
  · have d1 : (10 : Int) < (l.length : Int) := by omega
    generalize l.length = P at *
    generalize m.length = Q at *
    clear ha HCK hl hm h1
    go_enter Try.func10, Try.ntmps10
    go_wp2_with (first
      | (go_at_call 41; (try rw [hw0]); refine (l14alive _).mono ?_; rintro e w1 ⟨rfl, b1⟩; have A_1 := Lib.hid (A_0.out.up b1); obtain ⟨x0, x1, x2⟩ := A_1.out.cells; have BW_1 := Lib.hid (bon BW_0.out b1); clear b1)
      | (go_at_call 28; refine (HG.out _).mono ?_; rintro e w2 ⟨rfl, b2⟩; have BW_2 := Lib.hid (bon BW_1.out b2); clear b2))
    go_ret
    exact ⟨rfl, BW_2.out⟩
  have d1 : ¬ (10 : Int) < (l.length : Int) := by omega
  by_cases h2 : 10 < m.length
  · have d2 : (10 : Int) < (m.length : Int) := by omega
    generalize l.length = P at *
    generalize m.length = Q at *
    clear ha HCK hl hm h1 h2
    go_enter Try.func10, Try.ntmps10
    go_wp2_with (first
      | (go_at_call 41; (try rw [hw0]); refine (l14alive _).mono ?_; rintro e w1 ⟨rfl, b1⟩; have A_1 := Lib.hid (A_0.out.up b1); obtain ⟨x0, x1, x2⟩ := A_1.out.cells; have BW_1 := Lib.hid (bon BW_0.out b1); clear b1)
      | (go_at_call 28; refine (HG.out _).mono ?_; rintro e w2 ⟨rfl, b2⟩; have BW_2 := Lib.hid (bon BW_1.out b2); clear b2))
    go_ret
    exact ⟨rfl, BW_2.out⟩
  have d2 : ¬ (10 : Int) < (m.length : Int) := by omega
  cases ho : okA a
  · have hc : checkE a = 110 := by unfold checkE; rw [ho, if_neg (by decide)]
    rw [hc] at HCK
    generalize l.length = P at *
    generalize m.length = Q at *
    clear ha hc ho hl hm h1 h2
    go_enter Try.func10, Try.ntmps10
    go_wp2_with (first
      | (go_at_call 41; (try rw [hw0]); refine (l14alive _).mono ?_; rintro e w1 ⟨rfl, b1⟩; have A_1 := Lib.hid (A_0.out.up b1); obtain ⟨x0, x1, x2⟩ := A_1.out.cells; have BW_1 := Lib.hid (bon BW_0.out b1); clear b1)
      | (go_at_call 28; refine (HG.out _).mono ?_; rintro e w2 ⟨rfl, b2⟩; have A_2 := Lib.hid (A_1.out.up b2); obtain ⟨x0, x1, x2⟩ := A_2.out.cells; have BW_2 := Lib.hid (bon BW_1.out b2); clear b2)
      | (go_at_call 29; refine (HCK.out _ A_2.out.e).mono ?_; rintro e w3 ⟨rfl, b3⟩; have BW_3 := Lib.hid (bon BW_2.out b3); clear b3))
    go_ret
    exact ⟨rfl, BW_3.out⟩
  have hc : checkE a = 0 := by unfold checkE; rw [ho, if_pos rfl]
  rw [hc] at HCK
  have hf : Fine a := ha.f1
  have hP : l.length ≤ 10 := by omega
  have hQ : m.length ≤ 10 := by omega
  have hA4 := okA_len ho
  have htr := fun q W h => traB_give ho hf q W h
  have hab0 := about_ok ho
  have hpab : ∀ (q r : AP) (W : World), AEl W (vecA (aboutL a.sh.length)) q → AEl W a r → Calls Try.prog 46 #[.agg (arC (vecA (aboutL a.sh.length)) q), .agg (arC a r)] W (GiveE (traB a) 0 W) := fun q r W h h2 => by
    have h3 := tupermute_any (vecA (aboutL a.sh.length)) a q r W h h2
    obtain ⟨e1, e2, _⟩ := perB_yes ho hab0.1
    rw [e1, e2, hab0.2] at h3
    exact h3
  have habl : (aboutL a.sh.length).length = a.sh.length := by unfold aboutL; rw [List.length_map, List.length_range]
  have habf : ∀ z ∈ aboutL a.sh.length, -9223372036854775808 ≤ z ∧ z ≤ 9223372036854775807 := fun z hz => by
    obtain ⟨i, hi, rfl⟩ := List.mem_map.1 hz
    omega
  have hvab := fun (A1 : Option Addr) (c1 : Nat) (W : World) (hr : Reads W W.heap.size 1 A1 a.sh.length ((aboutL a.sh.length).map iv)) => vec_give (aboutL a.sh.length) (by omega) A1 a.sh.length c1 W habl hr
  have hst := fun j (h : j < a.sh.length) => about_at h
  have htk : (aboutL a.sh.length).take a.sh.length = aboutL a.sh.length := List.take_of_length_le (by omega)
  obtain ⟨XT, hXT⟩ : ∃ X, traB a = X := ⟨_, rfl⟩
  rw [hXT] at htr hpab
  have HFT : Hid (XT.sh.length ≤ 9223372036854775807 ∧ XT.el.length ≤ 9223372036854775807 ∧ Fine XT) := Lib.hid (by
    rw [← hXT]
    have := okA_len (traB_ok ho)
    exact ⟨by omega, by omega, traB_fine hf⟩)
  have HTR := Lib.hid htr
  have HPAB := Lib.hid hpab
  have HVAB := Lib.hid hvab
  have HST := Lib.hid hst
  have HTK := Lib.hid htk
  have HVE : Hid ((vecA (aboutL a.sh.length)).sh.length ≤ 9223372036854775807 ∧ (vecA (aboutL a.sh.length)).el.length ≤ 9223372036854775807 ∧ Fine (vecA (aboutL a.sh.length))) := Lib.hid ⟨show (1 : Nat) ≤ _ by omega, show (aboutL a.sh.length).length ≤ _ by omega, habf⟩
  have HLR := Lib.hid (fun W (hb : Below w.heap.size w W) => (hl.reads.below hb).more hb.size)
  have HMR := Lib.hid (fun W (hb : Below w.heap.size w W) => (hm.reads.below hb).more hb.size)
  have HLF := Lib.hid (And.intro hl.fine hm.fine)
  have HOK := Lib.hid (And.intro ho hf)
  obtain ⟨EL, hEL⟩ : ∃ E, mdE a (perE (vecA l) a.sh) (shO a.sh (tosP (vecA l))) (ordF a.sh (tosP (vecA l))) = E := ⟨_, rfl⟩
  obtain ⟨XL, hXL⟩ : ∃ X, mdA a (perE (vecA l) a.sh) (shO a.sh (tosP (vecA l))) (ordF a.sh (tosP (vecA l))) = X := ⟨_, rfl⟩
  have hpl : ∀ (q r : AP) (W : World), AEl W (vecA l) q → AEl W a r → Calls Try.prog 46 #[.agg (arC (vecA l) q), .agg (arC a r)] W (GiveE XL EL W) := fun q r W h h2 => by
    have h3 := tupermute_any (vecA l) a q r W h h2
    rw [hXL, hEL] at h3
    exact h3
  obtain ⟨tl1, tl2, tl3⟩ := per_tells l (by omega) ho hf hEL hXL
  obtain ⟨EM, hEM⟩ : ∃ E, mdE XL (perE (vecA m) XL.sh) (shO XL.sh (tosP (vecA m))) (ordF XL.sh (tosP (vecA m))) = E := ⟨_, rfl⟩
  obtain ⟨XM, hXM⟩ : ∃ X, mdA XL (perE (vecA m) XL.sh) (shO XL.sh (tosP (vecA m))) (ordF XL.sh (tosP (vecA m))) = X := ⟨_, rfl⟩
  have hpm : ∀ (q r : AP) (W : World), AEl W (vecA m) q → AEl W XL r → Calls Try.prog 46 #[.agg (arC (vecA m) q), .agg (arC XL r)] W (GiveE XM EM W) := fun q r W h h2 => by
    have h3 := tupermute_any (vecA m) XL q r W h h2
    rw [hXM, hEM] at h3
    exact h3
  have HTM : Hid (EL = 0 → (EM = 0 ∨ EM = 4 ∨ EM = 5) ∧ (XM.sh.length ≤ 9223372036854775807 ∧ XM.el.length ≤ 9223372036854775807 ∧ Fine XM) ∧ (EM = 0 → perE (vecA m) XL.sh = 0 ∧ XM = perB m XL)) := Lib.hid (fun h0 => by
    obtain ⟨z1, z2, z3⟩ := per_tells m (by omega) (tl3 h0).2.2.1 tl2.2.2 hEM hXM
    exact ⟨z1, z2, fun h => ⟨(z3 h).1, (z3 h).2.1⟩⟩)
  have HBO : Hid (EL = 0 → EM = 0 → (l.length ≤ 4 ∧ (∀ x ∈ l, 1 ≤ x ∧ x ≤ (m.length : Int))) ∧ ∀ (q r : AP) (W : World), AEl W (vecA (bothL l m)) q → AEl W a r → Calls Try.prog 46 #[.agg (arC (vecA (bothL l m)) q), .agg (arC a r)] W (GiveE XM 0 W)) := Lib.hid (fun h0 h0' => by
    obtain ⟨pl, hx, _, _, hxs⟩ := tl3 h0
    obtain ⟨pm, hy⟩ := (HTM.out h0).2.2 h0'
    have pm2 : perE (vecA m) (perB l a).sh = 0 := by rw [← hx]; exact pm
    obtain ⟨b1, b2⟩ := per_per ho (show l.length ≤ 4096 by omega) pl pm2
    obtain ⟨_, _, l3, l4⟩ := perE_ok pl
    obtain ⟨_, _, m3, _⟩ := perE_ok pm
    rw [hxs] at m3
    have l3 : l.length = a.sh.length := l3
    have m3 : m.length = a.sh.length := m3
    refine ⟨⟨by omega, fun x hx => by rw [m3]; exact (permB_iff.1 l4).1 x hx⟩, fun q r W h h2 => ?_⟩
    have h3 := tupermute_any (vecA (bothL l m)) a q r W h h2
    obtain ⟨e1, e2, _⟩ := perB_yes ho b1
    rw [e1, e2, b2, ← hx, ← hy] at h3
    exact h3)
  have HTL := Lib.hid tl1
  have HFL := Lib.hid tl2
  have HLEN : Hid (EL = 0 → XL.el.length = a.el.length) := Lib.hid (fun h0 => (tl3 h0).2.2.2.1)
  have HPL := Lib.hid hpl
  have HPM := Lib.hid hpm
  have HVL := Lib.hid (fun W (hb : Below w.heap.size w W) => vec_give l (by omega) A l.length c W rfl ((hl.reads.below hb).more hb.size))
  have HVM := Lib.hid (fun W (hb : Below w.heap.size w W) => vec_give m (by omega) B m.length d W rfl ((hm.reads.below hb).more hb.size))
  have HVEL : Hid ((vecA l).sh.length ≤ 9223372036854775807 ∧ (vecA l).el.length ≤ 9223372036854775807 ∧ Fine (vecA l)) := Lib.hid ⟨show (1 : Nat) ≤ _ by omega, show l.length ≤ _ by omega, hl.fine⟩
  have HVEM : Hid ((vecA m).sh.length ≤ 9223372036854775807 ∧ (vecA m).el.length ≤ 9223372036854775807 ∧ Fine (vecA m)) := Lib.hid ⟨show (1 : Nat) ≤ _ by omega, show m.length ≤ _ by omega, hm.fine⟩
  have HBV : Hid ((bothL l m).length = l.length ∧ (vecA (bothL l m)).sh.length ≤ 9223372036854775807 ∧ (vecA (bothL l m)).el.length ≤ 9223372036854775807 ∧ Fine (vecA (bothL l m))) := Lib.hid (by
    have hbl : (bothL l m).length = l.length := by unfold bothL; rw [List.length_map]
    refine ⟨hbl, show (1 : Nat) ≤ _ by omega, show (bothL l m).length ≤ _ by omega, fun z hz => ?_⟩
    obtain ⟨x, _, rfl⟩ := List.mem_map.1 (show z ∈ bothL l m from hz)
    show -9223372036854775808 ≤ m.getD (x - 1).toNat 0 ∧ m.getD (x - 1).toNat 0 ≤ 9223372036854775807
    rw [List.getD_eq_getElem?_getD]
    cases e : m[(x - 1).toNat]? with
    | none => simp
    | some y => exact hm.fine y (List.mem_of_getElem? e))
  clear hpl hpm tl1 tl2 tl3 hEL hXL hEM hXM
  clear htr hpab hvab hst htk habl habf hab0 hXT hf hc ho ha hl hm
  have hN4 : a.sh.length ≤ 4 := hA4.2
  go_enter Try.func10, Try.ntmps10
  go_wp2_with (first
      | (go_at_call 41; (try rw [hw0]); refine (l14alive _).mono ?_; rintro e w1 ⟨rfl, b1⟩; have A_1 := Lib.hid (A_0.out.up b1); obtain ⟨x0, x1, x2⟩ := A_1.out.cells; have BW_1 := Lib.hid (bon BW_0.out b1); clear b1)
      | (go_at_call 28; refine (HG.out _).mono ?_; rintro e w2 ⟨rfl, b2⟩; have A_2 := Lib.hid (A_1.out.up b2); obtain ⟨x0, x1, x2⟩ := A_2.out.cells; have BW_2 := Lib.hid (bon BW_1.out b2); clear b2)
      | (go_at_call 29; refine (HCK.out _ A_2.out.e).mono ?_; rintro e w3 ⟨rfl, b3⟩; have A_3 := Lib.hid (A_2.out.up b3); obtain ⟨x0, x1, x2⟩ := A_3.out.cells; have BW_3 := Lib.hid (bon BW_2.out b3); clear b3))
  go_loopw [9, 8] (fun i v wr => ∃ (j : Nat) (A1 : Option Addr) (c1 : Nat), j ≤ a.sh.length ∧ i = .int .i64 ((a.sh.length - j : Nat) : Int) ∧ v = .slice A1 j c1 ∧ wr.ownsRow w3.heap.size 2 1 (.slice A1 j c1) j (((aboutL a.sh.length).take j).map iv) ∧ Below w3.heap.size w3 wr) (fun i _ _ => (intOf i).toNat)
  case atStart => exact ⟨0, none, 0, Nat.zero_le _, rfl, rfl, World.ownsRow_nil _ _ _ _, Below.refl _ _⟩
  case round =>
    obtain ⟨j, A1, c1, hj, rfl, rfl, o1, hbw⟩ := hrel
    by_cases hlt : j < a.sh.length
    · have hst := HST.out j hlt
      obtain ⟨y, hy⟩ : ∃ y, a.sh.length - j = y := ⟨_, rfl⟩
      have hy0 : (0 : Int) < (y : Int) := by omega
      have hy4 : (y : Int) ≤ 4 := by omega
      rw [hy] at hst
      rw [hy]
      have HST1 := Lib.hid hst
      have HO1 := Lib.hid o1
      have HBW := Lib.hid hbw
      have HYJ := Lib.hid hy
      have HNEW : Hid (∀ W : World, ∀ k u, [Value.int .i64 (y : Int)][k]? = some u → (W.alloc (.cells #[.int .i64 (y : Int)] 2)).cell? ((⟨W.heap.size, 0, none⟩ : Addr).add k) = some u) := Lib.hid (fun W k u hu => by
        rw [Addr.add_mid, Nat.zero_add, (Blk.new W 2 _).cell k, List.getElem?_toArray]
        exact hu)
      clear hst o1 hbw hy
      go_wp2_with (
        at_builtin
        refine wpList_append_own _ rfl _ _ 41 rfl w3.heap.size 2 i0 (.int .i64 0) 1 8 Try.underlying41 hi hz0 hz1 hz2 rfl (by decide) _ j _ rfl (arown_stay HO1.out ((Below.refl _ wr).alloc (Nat.le_refl _) _) (fun g hg => (arown_lt HO1.out g hg).2)) ⟨wr.heap.size, 0, none⟩ 1 1 [.int .i64 (y : Int)] rfl rfl (HNEW.out wr) (by intro u hu; rw [List.mem_singleton] at hu; subst hu; rfl) (by unfold maxLen; omega) (by omega) (by have h2 := HBW.out.size; simp; omega) ?_
        intro v4 w4 hown hgrow _
        have b4 : Below w3.heap.size w3 w4 := (HBW.out.alloc HBW.out.size _).grown hgrow (by have h2 := HBW.out.size; simp; omega) (fun g e => (arown_lt HO1.out g e).1)
        have B4 := Lib.hid b4
        have O4 := Lib.hid hown
        clear hown hgrow b4)
      obtain ⟨A4, c4, rfl⟩ : ∃ A4 c4, v4 = .slice A4 (j + 1) c4 := by
        rcases O4.out.2 with ⟨_, h0⟩ | ⟨g, cap, cur, e, _⟩
        · omega
        · exact ⟨_, cap, e⟩
      have hyj := HYJ.out
      refine ⟨⟨j + 1, A4, c4, by omega, ?_, rfl, ?_, B4.out⟩, by simp [intOf]; omega⟩
      · rw [show ((a.sh.length - (j + 1) : Nat) : Int) = (y : Int) - 1 by omega]
      · rw [HST1.out]
        exact O4.out
    · have hje : j = a.sh.length := by omega
      subst hje
      rw [HTK.out] at o1
      have HAB : Hid (∀ W, Below wr.heap.size wr W → Calls Try.prog 36 #[.slice A1 a.sh.length c1] W (GiveV (vecA (aboutL a.sh.length)) W)) := Lib.hid (fun W hb => HVAB.out A1 c1 W (Reads.of_own (arown_stay o1 hb (fun g hg => (arown_lt o1 g hg).2))))
      have A_r := Lib.hid (A_3.out.up hbw)
      have BW_r := Lib.hid (bon BW_3.out hbw)
      clear o1 hbw hj hlt HVAB HTK HST HG HCK A_0 A_1 A_2 A_3 BW_0 BW_1 BW_2 BW_3 x0 x1 x2
      rw [Nat.sub_self]
      obtain ⟨x0, x1, x2⟩ := A_r.out.cells
      go_upto_region 10 with (go_at_call 43; refine (HTR.out p _ A_r.out.e).mono ?_; rintro e v5 ⟨p5, he, hk, ck, bk⟩; obtain rfl : e = .returned (.tuple #[.agg #[.int .i64 XT.kind, .slice p5.A0 XT.sh.length p5.c0, .slice p5.A1 XT.el.length p5.c1], .int .i64 0]) := he; have HK5 := Lib.hid hk; have CK5 := Lib.hid ck; have BK5 := Lib.hid bk; clear hk ck bk)
      obtain ⟨w5, hw5⟩ : ∃ W, v5.alloc (.cells #[.int .i64 XT.kind, .slice p5.A0 XT.sh.length p5.c0, .slice p5.A1 XT.el.length p5.c1] 63) = W := ⟨_, rfl⟩
      obtain ⟨g5, hg5⟩ : ∃ g, v5.heap.size = g := ⟨_, rfl⟩
      have bb5 : Below wr.heap.size wr w5 := by rw [← hw5]; exact bon BK5.out (albel _ _)
      have N5 : Hid (BoxP w5 g5 XT p5) := Lib.hid (by rw [← hw5, ← hg5]; exact BoxP.new HK5.out CK5.out)
      have A_5 := Lib.hid (A_r.out.up bb5)
      have BW_5 : Hid (Below w.heap.size w w5) := Lib.hid (bon BW_r.out bb5)
      have B5R := Lib.hid bb5
      rw [hw5, hg5]
      clear x0 x1 x2 HK5 CK5 BK5 bb5 hw5 hg5 A_r BW_r
      have HAB5 : Hid (∀ W, Below w5.heap.size w5 W → Calls Try.prog 36 #[.slice A1 a.sh.length c1] W (GiveV (vecA (aboutL a.sh.length)) W)) := Lib.hid (fun W hb => HAB.out W (bon B5R.out hb))
      have N5_5 := N5
      go_upto_region 10 with (fail)
      have HUX : BxU w5 (lookU [(1, xo w5 (vecA (aboutL a.sh.length))), (3, xto w5 XT 0), (4, xto w5 XT 0), (5, xo w5 XT)]) := lookU_two (by
        intro x hx
        simp only [List.mem_cons, List.not_mem_nil, or_false] at hx
        rcases hx with rfl | rfl | rfl | rfl <;> first | exact xo_stk _ _ | exact xto_stk _ _ _)
      refine wp_region_doneT_on (BxS w5 7 8 12 XT) (bxR 7 [1, 3, 4, 5] (lookU [(1, xo w5 (vecA (aboutL a.sh.length))), (3, xto w5 XT 0), (4, xto w5 XT 0), (5, xo w5 XT)]) [.slice A1 a.sh.length c1, undef, .agg #[.int .i64 a.kind, .slice p.A0 a.sh.length p.c0, .slice p.A1 a.el.length p.c1], undef, undef, undef, .int .i64 0, undef, undef, .int .i64 0]) (by kernel_rfl) 154 rfl (by kernel_rfl) ⟨(Below.refl _ _).drew, fun e => (by cases e), fun e => (by cases e)⟩ ?_ ?_
      · intro i hi
        have hi2 : i < 10 := hi
        clear hi
        rcases i with _ | i
        · refine bx_value HUX rfl (by decide) (by decide) (by decide) 63 rfl (by decide) (.slice A1 a.sh.length c1) rfl ?_
          intro a8 w8 hb8 ho hn
          have o8 : a8.tmps[8]? = some _ := (ho 8 (by kernel_rfl)).trans rfl
          clear ho hn
          refine ⟨wanted_free rfl, ?_⟩
          go_simp
        rcases i with _ | i
        · refine bx_call HUX 36 rfl (by decide) (by decide) (by decide) 64 rfl (by decide) ?_
          intro a8 w8 hb8 ho hn
          obtain ⟨v63, n63, hq63⟩ := hn 0 63 (by kernel_rfl) rfl
          obtain rfl := hq63.1 (by decide) (by decide)
          clear ho hn
          refine ⟨wanted_free rfl, ?_⟩
          refine ⟨#[.slice A1 a.sh.length c1], (by go_simp), (HAB5.out w8 hb8).mono ?_⟩
          rintro e wz ⟨p_, rfl, o, b⟩
          exact ⟨_, rfl, b, p_, rfl, o.mono hb8.size⟩
        rcases i with _ | i
        · refine bx_value HUX rfl (by decide) (by decide) (by decide) 65 rfl (by decide) (.agg #[.int .i64 a.kind, .slice p.A0 a.sh.length p.c0, .slice p.A1 a.el.length p.c1]) rfl ?_
          intro a8 w8 hb8 ho hn
          have o3 : a8.tmps[3]? = some _ := (ho 3 (by kernel_rfl)).trans rfl
          clear ho hn
          refine ⟨wanted_free rfl, ?_⟩
          obtain ⟨x0, x1, x2⟩ := (A_5.out.up hb8).cells
          go_simp
        rcases i with _ | i
        · refine bx_call HUX 46 rfl (by decide) (by decide) (by decide) 66 rfl (by decide) ?_
          intro a8 w8 hb8 ho hn
          obtain ⟨v64, n64, hq64⟩ := hn 1 64 (by kernel_rfl) rfl
          have hv64 : xo w5 (vecA (aboutL a.sh.length)) v64 w8 := hq64.2 (by decide)
          obtain ⟨v65, n65, hq65⟩ := hn 2 65 (by kernel_rfl) rfl
          obtain rfl := hq65.1 (by decide) (by decide)
          clear ho hn
          refine ⟨wanted_free rfl, ?_⟩
          obtain ⟨p_, rfl, o⟩ := hv64
          refine ⟨#[.agg (arC (vecA (aboutL a.sh.length)) p_), .agg #[.int .i64 a.kind, .slice p.A0 a.sh.length p.c0, .slice p.A1 a.el.length p.c1]], (by go_simp), (HPAB.out p_ p w8 (o.el HVE.out.1 HVE.out.2.1 HVE.out.2.2) (A_5.out.up hb8).e).mono ?_⟩
          rintro e wz ⟨r, rfl, o9, b9⟩
          exact ⟨_, rfl, b9, r, rfl, o9.mono hb8.size⟩
        rcases i with _ | i
        · refine bx_make HUX rfl (by decide) (by decide) (by decide) 62 rfl (by decide) ?_
          intro a8 w8 hb8 ho hn
          obtain ⟨v66, n66, hq66⟩ := hn 3 66 (by kernel_rfl) rfl
          have hv66 : xto w5 XT 0 v66 w8 := hq66.2 (by decide)
          clear ho hn
          refine ⟨wanted_free rfl, ?_⟩
          exact ⟨v66, w8, (by go_simp), Below.refl _ _, hv66⟩
        rcases i with _ | i
        · refine bx_make HUX rfl (by decide) (by decide) (by decide) 67 rfl (by decide) ?_
          intro a8 w8 hb8 ho hn
          obtain ⟨v62, n62, hq62⟩ := hn 4 62 (by kernel_rfl) rfl
          have hv62 : xto w5 XT 0 v62 w8 := hq62.2 (by decide)
          clear ho hn
          refine ⟨wanted_free rfl, ?_⟩
          obtain ⟨p_, rfl, o⟩ := hv62
          exact ⟨.agg (arC XT p_), w8, (by go_simp), Below.refl _ _, p_, rfl, o⟩
        rcases i with _ | i
        · refine bx_value HUX rfl (by decide) (by decide) (by decide) 68 rfl (by decide) (.int .i64 0) rfl ?_
          intro a8 w8 hb8 ho hn
          obtain ⟨v62, n62, hq62⟩ := hn 4 62 (by kernel_rfl) rfl
          have hv62 : xto w5 XT 0 v62 w8 := hq62.2 (by decide)
          clear ho hn
          refine ⟨wanted_free rfl, ?_⟩
          obtain ⟨p_, rfl, o⟩ := hv62
          go_simp
        rcases i with _ | i
        · refine bx_alloc HUX rfl (by decide) (by decide) rfl (.int .i64 0) (.slice none 0 0) (.slice none 0 0) ?_
          intro a8 w8 ho
          have o153 : a8.tmps[153]? = some _ := (ho 153 (by kernel_rfl)).trans rfl
          have hsz : 153 < a8.tmps.size := (Array.getElem?_eq_some_iff.1 o153).1
          refine ⟨by omega, wanted_free rfl, ?_⟩
          go_simp
        rcases i with _ | i
        · refine bx_store HUX rfl rfl (by decide) (by decide) rfl (by kernel_rfl) rfl ?_
          intro a8 w8 g u0 u1 u2 hg n12 hn
          obtain ⟨v67, n67, hq67⟩ := hn 5 67 (by kernel_rfl) rfl
          have hv67 : xo w5 XT v67 w8 := hq67.2 (by decide)
          clear hn
          refine ⟨wanted_free rfl, ?_⟩
          obtain ⟨r, rfl, o⟩ := hv67
          have x0 := hg.cell 0
          have x1 := hg.cell 1
          have x2 := hg.cell 2
          have f0 := hg.frozen 0
          have f1 := hg.frozen 1
          have f2 := hg.frozen 2
          refine ⟨r, o, ?_⟩
          rw [show arC XT r = #[.int .i64 XT.kind, .slice r.A0 XT.sh.length r.c0, .slice r.A1 XT.el.length r.c1] from rfl] at n67
          clear hg o
          go_simp
        rcases i with _ | i
        · refine bx_value HUX rfl (by decide) (by decide) (by decide) 13 rfl (by decide) (.int .i64 0) rfl ?_
          intro a8 w8 hb8 ho hn
          obtain ⟨v68, n68, hq68⟩ := hn 6 68 (by kernel_rfl) rfl
          obtain rfl := hq68.1 (by decide) (by decide)
          clear ho hn
          refine ⟨wanted_free rfl, ?_⟩
          go_simp
        omega
      · intro dn fv w6 hS5 hR5 hall
        obtain ⟨gu, e8, hg8, _, hfin⟩ := hS5.h (hall 7 (by decide))
        obtain ⟨ru, hb8, ho8⟩ := hfin (hall 8 (by decide))
        have hbw := hS5.b
        have h48 : fv 13 = .int .i64 0 := (hR5 9 13 rfl).1 (by decide) (by decide)
        clear hS5 hR5 hall hfin
        simp only [putAll, List.foldl_cons, List.foldl_nil, Act.put, List.setIfInBounds_toArray, List.set_cons_succ, List.set_cons_zero, List.getElem?_toArray, List.getElem?_cons_succ, List.getElem?_cons_zero, Option.some.injEq] at e8 ⊢
        rw [e8, h48]
        have Ou_6 : Hid (BoxP w6 gu XT ru) := Lib.hid ⟨hb8, ho8.el HFT.out.1 HFT.out.2.1 HFT.out.2.2⟩
        have A_6 := Lib.hid (A_5.out.up hbw)
        have N5_6 := Lib.hid (N5_5.out.up hbw)
        have BW_6 := Lib.hid (bon BW_5.out hbw)
        generalize fv 63 = u63
        generalize fv 64 = u64
        generalize fv 65 = u65
        generalize fv 66 = u66
        generalize fv 62 = u62
        generalize fv 67 = u67
        generalize fv 68 = u68
        clear hb8 ho8 hbw e8 h48 hg8 HUX BW_5 A_5 N5_5
        clear HAB HAB5 N5 HPAB
        obtain ⟨x0, x1, x2⟩ := N5_6.out.cells
        obtain ⟨y0, y1, y2⟩ := Ou_6.out.cells
        go_upto_region 13 with (go_at_call 44; refine (l14is_yes XT p5 ru _ N5_6.out.e Ou_6.out.e).mono ?_; rintro e w7 ⟨rfl, b7⟩; have A_7 := Lib.hid (A_6.out.up b7); have BW_7 := Lib.hid (bon BW_6.out b7); clear b7)
        clear x0 x1 x2 y0 y1 y2 N5_6 Ou_6 A_6 BW_6
        have HUX : BxU w7 (lookU [(1, xo w7 (vecA l)), (3, xto w7 XL EL), (4, xto w7 XL EL), (5, xo w7 XL)]) := lookU_two (by
          intro x hx
          simp only [List.mem_cons, List.not_mem_nil, or_false] at hx
          rcases hx with rfl | rfl | rfl | rfl <;> first | exact xo_stk _ _ | exact xto_stk _ _ _)
        refine wp_region_doneT_on (BxS w7 7 8 14 XL) (bxR 7 [1, 3, 4, 5] (lookU [(1, xo w7 (vecA l)), (3, xto w7 XL EL), (4, xto w7 XL EL), (5, xo w7 XL)]) [.slice A l.length c, undef, .agg #[.int .i64 a.kind, .slice p.A0 a.sh.length p.c0, .slice p.A1 a.el.length p.c1], undef, undef, undef, .int .i64 EL, undef, undef, .int .i64 EL]) (by kernel_rfl) 154 rfl (by kernel_rfl) ⟨(Below.refl _ _).drew, fun e => (by cases e), fun e => (by cases e)⟩ ?_ ?_
        · intro i hi
          have hi2 : i < 10 := hi
          clear hi
          rcases i with _ | i
          · refine bx_value HUX rfl (by decide) (by decide) (by decide) 79 rfl (by decide) (.slice A l.length c) rfl ?_
            intro a8 w8 hb8 ho hn
            have o1 : a8.tmps[1]? = some _ := (ho 1 (by kernel_rfl)).trans rfl
            clear ho hn
            refine ⟨wanted_free rfl, ?_⟩
            go_simp
          rcases i with _ | i
          · refine bx_call HUX 36 rfl (by decide) (by decide) (by decide) 80 rfl (by decide) ?_
            intro a8 w8 hb8 ho hn
            obtain ⟨v79, n79, hq79⟩ := hn 0 79 (by kernel_rfl) rfl
            obtain rfl := hq79.1 (by decide) (by decide)
            clear ho hn
            refine ⟨wanted_free rfl, ?_⟩
            refine ⟨#[.slice A l.length c], (by go_simp), (HVL.out w8 (bon BW_7.out hb8)).mono ?_⟩
            rintro e wz ⟨p_, rfl, o, b⟩
            exact ⟨_, rfl, b, p_, rfl, o.mono hb8.size⟩
          rcases i with _ | i
          · refine bx_value HUX rfl (by decide) (by decide) (by decide) 81 rfl (by decide) (.agg #[.int .i64 a.kind, .slice p.A0 a.sh.length p.c0, .slice p.A1 a.el.length p.c1]) rfl ?_
            intro a8 w8 hb8 ho hn
            have o3 : a8.tmps[3]? = some _ := (ho 3 (by kernel_rfl)).trans rfl
            clear ho hn
            refine ⟨wanted_free rfl, ?_⟩
            obtain ⟨x0, x1, x2⟩ := (A_7.out.up hb8).cells
            go_simp
          rcases i with _ | i
          · refine bx_call HUX 46 rfl (by decide) (by decide) (by decide) 82 rfl (by decide) ?_
            intro a8 w8 hb8 ho hn
            obtain ⟨v80, n80, hq80⟩ := hn 1 80 (by kernel_rfl) rfl
            have hv80 : xo w7 (vecA l) v80 w8 := hq80.2 (by decide)
            obtain ⟨v81, n81, hq81⟩ := hn 2 81 (by kernel_rfl) rfl
            obtain rfl := hq81.1 (by decide) (by decide)
            clear ho hn
            refine ⟨wanted_free rfl, ?_⟩
            obtain ⟨p_, rfl, o⟩ := hv80
            refine ⟨#[.agg (arC (vecA l) p_), .agg #[.int .i64 a.kind, .slice p.A0 a.sh.length p.c0, .slice p.A1 a.el.length p.c1]], (by go_simp), (HPL.out p_ p w8 (o.el HVEL.out.1 HVEL.out.2.1 HVEL.out.2.2) (A_7.out.up hb8).e).mono ?_⟩
            rintro e wz ⟨r, rfl, o9, b9⟩
            exact ⟨_, rfl, b9, r, rfl, o9.mono hb8.size⟩
          rcases i with _ | i
          · refine bx_make HUX rfl (by decide) (by decide) (by decide) 78 rfl (by decide) ?_
            intro a8 w8 hb8 ho hn
            obtain ⟨v82, n82, hq82⟩ := hn 3 82 (by kernel_rfl) rfl
            have hv82 : xto w7 XL EL v82 w8 := hq82.2 (by decide)
            clear ho hn
            refine ⟨wanted_free rfl, ?_⟩
            exact ⟨v82, w8, (by go_simp), Below.refl _ _, hv82⟩
          rcases i with _ | i
          · refine bx_make HUX rfl (by decide) (by decide) (by decide) 83 rfl (by decide) ?_
            intro a8 w8 hb8 ho hn
            obtain ⟨v78, n78, hq78⟩ := hn 4 78 (by kernel_rfl) rfl
            have hv78 : xto w7 XL EL v78 w8 := hq78.2 (by decide)
            clear ho hn
            refine ⟨wanted_free rfl, ?_⟩
            obtain ⟨p_, rfl, o⟩ := hv78
            exact ⟨.agg (arC XL p_), w8, (by go_simp), Below.refl _ _, p_, rfl, o⟩
          rcases i with _ | i
          · refine bx_value HUX rfl (by decide) (by decide) (by decide) 84 rfl (by decide) (.int .i64 EL) rfl ?_
            intro a8 w8 hb8 ho hn
            obtain ⟨v78, n78, hq78⟩ := hn 4 78 (by kernel_rfl) rfl
            have hv78 : xto w7 XL EL v78 w8 := hq78.2 (by decide)
            clear ho hn
            refine ⟨wanted_free rfl, ?_⟩
            obtain ⟨p_, rfl, o⟩ := hv78
            go_simp
          rcases i with _ | i
          · refine bx_alloc HUX rfl (by decide) (by decide) rfl (.int .i64 0) (.slice none 0 0) (.slice none 0 0) ?_
            intro a8 w8 ho
            have o153 : a8.tmps[153]? = some _ := (ho 153 (by kernel_rfl)).trans rfl
            have hsz : 153 < a8.tmps.size := (Array.getElem?_eq_some_iff.1 o153).1
            refine ⟨by omega, wanted_free rfl, ?_⟩
            go_simp
          rcases i with _ | i
          · refine bx_store HUX rfl rfl (by decide) (by decide) rfl (by kernel_rfl) rfl ?_
            intro a8 w8 g u0 u1 u2 hg n14 hn
            obtain ⟨v83, n83, hq83⟩ := hn 5 83 (by kernel_rfl) rfl
            have hv83 : xo w7 XL v83 w8 := hq83.2 (by decide)
            clear hn
            refine ⟨wanted_free rfl, ?_⟩
            obtain ⟨r, rfl, o⟩ := hv83
            have x0 := hg.cell 0
            have x1 := hg.cell 1
            have x2 := hg.cell 2
            have f0 := hg.frozen 0
            have f1 := hg.frozen 1
            have f2 := hg.frozen 2
            refine ⟨r, o, ?_⟩
            rw [show arC XL r = #[.int .i64 XL.kind, .slice r.A0 XL.sh.length r.c0, .slice r.A1 XL.el.length r.c1] from rfl] at n83
            clear hg o
            go_simp
          rcases i with _ | i
          · refine bx_value HUX rfl (by decide) (by decide) (by decide) 15 rfl (by decide) (.int .i64 EL) rfl ?_
            intro a8 w8 hb8 ho hn
            obtain ⟨v84, n84, hq84⟩ := hn 6 84 (by kernel_rfl) rfl
            obtain rfl := hq84.1 (by decide) (by decide)
            clear ho hn
            refine ⟨wanted_free rfl, ?_⟩
            go_simp
          omega
        · intro dn fv wb hS5 hR5 hall
          obtain ⟨gx, e8, hg8, _, hfin⟩ := hS5.h (hall 7 (by decide))
          obtain ⟨rx, hb8, ho8⟩ := hfin (hall 8 (by decide))
          have hbw := hS5.b
          have h48 : fv 15 = .int .i64 EL := (hR5 9 15 rfl).1 (by decide) (by decide)
          clear hS5 hR5 hall hfin
          simp only [putAll, List.foldl_cons, List.foldl_nil, Act.put, List.setIfInBounds_toArray, List.set_cons_succ, List.set_cons_zero, List.getElem?_toArray, List.getElem?_cons_succ, List.getElem?_cons_zero, Option.some.injEq] at e8 ⊢
          rw [e8, h48]
          have Ox_b : Hid (BoxP wb gx XL rx) := Lib.hid ⟨hb8, ho8.el HFL.out.1 HFL.out.2.1 HFL.out.2.2⟩
          have A_b := Lib.hid (A_7.out.up hbw)
          have BW_b := Lib.hid (bon BW_7.out hbw)
          generalize fv 79 = u79
          generalize fv 80 = u80
          generalize fv 81 = u81
          generalize fv 82 = u82
          generalize fv 78 = u78
          generalize fv 83 = u83
          generalize fv 84 = u84
          clear hb8 ho8 hbw e8 h48 hg8 HUX BW_7 A_7
          rcases HTL.out with h0 | h0 | h0
          rotate_left
          · subst h0
            go_wp2
            go_ret
            exact ⟨rfl, BW_b.out⟩
          · subst h0
            go_wp2
            go_ret
            exact ⟨rfl, BW_b.out⟩
          subst h0
          obtain ⟨tm1, tm2, tm3⟩ := HTM.out rfl
          have HFM := Lib.hid tm2
          have HTM1 := Lib.hid tm1
          have HLE1 := Lib.hid (HLEN.out rfl)
          clear tm1 tm2 tm3 HLEN
          go_upto_region 16 with (fail)
          have HUX : BxU wb (lookU [(1, xo wb (vecA m)), (3, xto wb XM EM), (4, xto wb XM EM), (5, xo wb XM)]) := lookU_two (by
            intro x hx
            simp only [List.mem_cons, List.not_mem_nil, or_false] at hx
            rcases hx with rfl | rfl | rfl | rfl <;> first | exact xo_stk _ _ | exact xto_stk _ _ _)
          refine wp_region_doneT_on (BxS wb 7 8 16 XM) (bxR 7 [1, 3, 4, 5] (lookU [(1, xo wb (vecA m)), (3, xto wb XM EM), (4, xto wb XM EM), (5, xo wb XM)]) [.slice B m.length d, undef, .agg #[.int .i64 XL.kind, .slice rx.A0 XL.sh.length rx.c0, .slice rx.A1 XL.el.length rx.c1], undef, undef, undef, .int .i64 EM, undef, undef, .int .i64 EM]) (by kernel_rfl) 154 rfl (by kernel_rfl) ⟨(Below.refl _ _).drew, fun e => (by cases e), fun e => (by cases e)⟩ ?_ ?_
          · intro i hi
            have hi2 : i < 10 := hi
            clear hi
            rcases i with _ | i
            · refine bx_value HUX rfl (by decide) (by decide) (by decide) 97 rfl (by decide) (.slice B m.length d) rfl ?_
              intro a8 w8 hb8 ho hn
              have o2 : a8.tmps[2]? = some _ := (ho 2 (by kernel_rfl)).trans rfl
              clear ho hn
              refine ⟨wanted_free rfl, ?_⟩
              go_simp
            rcases i with _ | i
            · refine bx_call HUX 36 rfl (by decide) (by decide) (by decide) 98 rfl (by decide) ?_
              intro a8 w8 hb8 ho hn
              obtain ⟨v97, n97, hq97⟩ := hn 0 97 (by kernel_rfl) rfl
              obtain rfl := hq97.1 (by decide) (by decide)
              clear ho hn
              refine ⟨wanted_free rfl, ?_⟩
              refine ⟨#[.slice B m.length d], (by go_simp), (HVM.out w8 (bon BW_b.out hb8)).mono ?_⟩
              rintro e wz ⟨p_, rfl, o, b⟩
              exact ⟨_, rfl, b, p_, rfl, o.mono hb8.size⟩
            rcases i with _ | i
            · refine bx_value HUX rfl (by decide) (by decide) (by decide) 99 rfl (by decide) (.agg #[.int .i64 XL.kind, .slice rx.A0 XL.sh.length rx.c0, .slice rx.A1 XL.el.length rx.c1]) rfl ?_
              intro a8 w8 hb8 ho hn
              have o14 : a8.tmps[14]? = some _ := (ho 14 (by kernel_rfl)).trans rfl
              clear ho hn
              refine ⟨wanted_free rfl, ?_⟩
              obtain ⟨x0, x1, x2⟩ := (Ox_b.out.up hb8).cells
              go_simp
            rcases i with _ | i
            · refine bx_call HUX 46 rfl (by decide) (by decide) (by decide) 100 rfl (by decide) ?_
              intro a8 w8 hb8 ho hn
              obtain ⟨v98, n98, hq98⟩ := hn 1 98 (by kernel_rfl) rfl
              have hv98 : xo wb (vecA m) v98 w8 := hq98.2 (by decide)
              obtain ⟨v99, n99, hq99⟩ := hn 2 99 (by kernel_rfl) rfl
              obtain rfl := hq99.1 (by decide) (by decide)
              clear ho hn
              refine ⟨wanted_free rfl, ?_⟩
              obtain ⟨p_, rfl, o⟩ := hv98
              refine ⟨#[.agg (arC (vecA m) p_), .agg #[.int .i64 XL.kind, .slice rx.A0 XL.sh.length rx.c0, .slice rx.A1 XL.el.length rx.c1]], (by go_simp), (HPM.out p_ rx w8 (o.el HVEM.out.1 HVEM.out.2.1 HVEM.out.2.2) (Ox_b.out.up hb8).e).mono ?_⟩
              rintro e wz ⟨r, rfl, o9, b9⟩
              exact ⟨_, rfl, b9, r, rfl, o9.mono hb8.size⟩
            rcases i with _ | i
            · refine bx_make HUX rfl (by decide) (by decide) (by decide) 96 rfl (by decide) ?_
              intro a8 w8 hb8 ho hn
              obtain ⟨v100, n100, hq100⟩ := hn 3 100 (by kernel_rfl) rfl
              have hv100 : xto wb XM EM v100 w8 := hq100.2 (by decide)
              clear ho hn
              refine ⟨wanted_free rfl, ?_⟩
              exact ⟨v100, w8, (by go_simp), Below.refl _ _, hv100⟩
            rcases i with _ | i
            · refine bx_make HUX rfl (by decide) (by decide) (by decide) 101 rfl (by decide) ?_
              intro a8 w8 hb8 ho hn
              obtain ⟨v96, n96, hq96⟩ := hn 4 96 (by kernel_rfl) rfl
              have hv96 : xto wb XM EM v96 w8 := hq96.2 (by decide)
              clear ho hn
              refine ⟨wanted_free rfl, ?_⟩
              obtain ⟨p_, rfl, o⟩ := hv96
              exact ⟨.agg (arC XM p_), w8, (by go_simp), Below.refl _ _, p_, rfl, o⟩
            rcases i with _ | i
            · refine bx_value HUX rfl (by decide) (by decide) (by decide) 102 rfl (by decide) (.int .i64 EM) rfl ?_
              intro a8 w8 hb8 ho hn
              obtain ⟨v96, n96, hq96⟩ := hn 4 96 (by kernel_rfl) rfl
              have hv96 : xto wb XM EM v96 w8 := hq96.2 (by decide)
              clear ho hn
              refine ⟨wanted_free rfl, ?_⟩
              obtain ⟨p_, rfl, o⟩ := hv96
              go_simp
            rcases i with _ | i
            · refine bx_alloc HUX rfl (by decide) (by decide) rfl (.int .i64 0) (.slice none 0 0) (.slice none 0 0) ?_
              intro a8 w8 ho
              have o153 : a8.tmps[153]? = some _ := (ho 153 (by kernel_rfl)).trans rfl
              have hsz : 153 < a8.tmps.size := (Array.getElem?_eq_some_iff.1 o153).1
              refine ⟨by omega, wanted_free rfl, ?_⟩
              go_simp
            rcases i with _ | i
            · refine bx_store HUX rfl rfl (by decide) (by decide) rfl (by kernel_rfl) rfl ?_
              intro a8 w8 g u0 u1 u2 hg n16 hn
              obtain ⟨v101, n101, hq101⟩ := hn 5 101 (by kernel_rfl) rfl
              have hv101 : xo wb XM v101 w8 := hq101.2 (by decide)
              clear hn
              refine ⟨wanted_free rfl, ?_⟩
              obtain ⟨r, rfl, o⟩ := hv101
              have x0 := hg.cell 0
              have x1 := hg.cell 1
              have x2 := hg.cell 2
              have f0 := hg.frozen 0
              have f1 := hg.frozen 1
              have f2 := hg.frozen 2
              refine ⟨r, o, ?_⟩
              rw [show arC XM r = #[.int .i64 XM.kind, .slice r.A0 XM.sh.length r.c0, .slice r.A1 XM.el.length r.c1] from rfl] at n101
              clear hg o
              go_simp
            rcases i with _ | i
            · refine bx_value HUX rfl (by decide) (by decide) (by decide) 17 rfl (by decide) (.int .i64 EM) rfl ?_
              intro a8 w8 hb8 ho hn
              obtain ⟨v102, n102, hq102⟩ := hn 6 102 (by kernel_rfl) rfl
              obtain rfl := hq102.1 (by decide) (by decide)
              clear ho hn
              refine ⟨wanted_free rfl, ?_⟩
              go_simp
            omega
          · intro dn fv wc hS5 hR5 hall
            obtain ⟨gy, e8, hg8, _, hfin⟩ := hS5.h (hall 7 (by decide))
            obtain ⟨ry, hb8, ho8⟩ := hfin (hall 8 (by decide))
            have hbw := hS5.b
            have h48 : fv 17 = .int .i64 EM := (hR5 9 17 rfl).1 (by decide) (by decide)
            clear hS5 hR5 hall hfin
            simp only [putAll, List.foldl_cons, List.foldl_nil, Act.put, List.setIfInBounds_toArray, List.set_cons_succ, List.set_cons_zero, List.getElem?_toArray, List.getElem?_cons_succ, List.getElem?_cons_zero, Option.some.injEq] at e8 ⊢
            rw [e8, h48]
            have Oy_c : Hid (BoxP wc gy XM ry) := Lib.hid ⟨hb8, ho8.el HFM.out.1 HFM.out.2.1 HFM.out.2.2⟩
            have A_c := Lib.hid (A_b.out.up hbw)
            have Ox_c := Lib.hid (Ox_b.out.up hbw)
            have BW_c := Lib.hid (bon BW_b.out hbw)
            generalize fv 97 = u97
            generalize fv 98 = u98
            generalize fv 99 = u99
            generalize fv 100 = u100
            generalize fv 96 = u96
            generalize fv 101 = u101
            generalize fv 102 = u102
            clear hb8 ho8 hbw e8 h48 hg8 HUX BW_b A_b Ox_b
            rcases HTM1.out with h0 | h0 | h0
            rotate_left
            · subst h0
              go_wp2
              go_ret
              exact ⟨rfl, BW_c.out⟩
            · subst h0
              go_wp2
              go_ret
              exact ⟨rfl, BW_c.out⟩
            subst h0
            obtain ⟨⟨bo1, bo2⟩, bo3⟩ := HBO.out rfl rfl
            have HPB := Lib.hid bo3
            have HB2 := Lib.hid bo2
            have hl4 : l.length ≤ 4 := bo1
            clear bo1 bo2 bo3 HBO HTM HTM1 HTL
            go_wp2
            go_loopw [116, 18] (fun i v wr => ∃ (j : Nat) (A1 : Option Addr) (c1 : Nat), j ≤ l.length ∧ i = .int .i64 (j : Int) ∧ v = .slice A1 j c1 ∧ wr.ownsRow wc.heap.size 2 1 (.slice A1 j c1) j (((bothL l m).take j).map iv) ∧ Below wc.heap.size wc wr) (fun i _ _ => l.length - (intOf i).toNat)
            case atStart => exact ⟨0, none, 0, Nat.zero_le _, rfl, rfl, World.ownsRow_nil _ _ _ _, Below.refl _ _⟩
            case round =>
              obtain ⟨j, A1, c1, hj, rfl, rfl, o1, hbw⟩ := hrel
              by_cases hlt : j < l.length
              · have hst := both_take (m := m) hlt
                have hx := HB2.out l[j] (List.getElem_mem _)
                obtain ⟨k, hk⟩ : ∃ k : Nat, l[j] = (k : Int) + 1 := ⟨(l[j] - 1).toNat, by omega⟩
                have hkm : k < m.length := by omega
                have hk4 : (k : Int) ≤ 10 := by omega
                obtain ⟨ad, hA, hla, hca⟩ := (HLR.out wr (bon BW_c.out hbw)).int_at hlt rfl
                obtain ⟨ad2, hB, hlb, hcb⟩ := (HMR.out wr (bon BW_c.out hbw)).int_at hkm rfl
                rw [hk] at hca hst
                obtain ⟨z, hz⟩ : ∃ z, m[k] = z := ⟨_, rfl⟩
                have hzf : -9223372036854775808 ≤ z ∧ z ≤ 9223372036854775807 := by rw [← hz]; exact HLF.out.2 _ (List.getElem_mem _)
                obtain ⟨hzf1, hzf2⟩ := hzf
                have hst2 : m.getD ((k : Int) + 1 - 1).toNat 0 = z := by
                  rw [show ((k : Int) + 1 - 1).toNat = k by omega, List.getD_eq_getElem?_getD, List.getElem?_eq_getElem hkm, ← hz]
                  rfl
                rw [hst2] at hst
                rw [hz] at hcb
                have e1 : (k : Int) + 1 - 1 = (k : Int) := by omega
                have e2 : (k : Int) < (m.length : Int) := by omega
                have e3 : (j : Int) < (l.length : Int) := by omega
                have e4 : (j : Int) ≤ 10 := by omega
                have HST1 := Lib.hid hst
                have HO1 := Lib.hid o1
                have HBW := Lib.hid hbw
                have HNEW : Hid (∀ W : World, ∀ k u, [Value.int .i64 z][k]? = some u → (W.alloc (.cells #[.int .i64 z] 2)).cell? ((⟨W.heap.size, 0, none⟩ : Addr).add k) = some u) := Lib.hid (fun W k u hu => by
                  rw [Addr.add_mid, Nat.zero_add, (Blk.new W 2 _).cell k, List.getElem?_toArray]
                  exact hu)
                subst hA
                subst hB
                clear hst hst2 o1 hbw hz hk hx
                go_wp2_with (
                  at_builtin
                  refine wpList_append_own _ rfl _ _ 41 rfl wc.heap.size 2 i0 (.int .i64 0) 1 8 Try.underlying41 hi hz0 hz1 hz2 rfl (by decide) _ j _ rfl (arown_stay HO1.out ((Below.refl _ wr).alloc (Nat.le_refl _) _) (fun g hg => (arown_lt HO1.out g hg).2)) ⟨wr.heap.size, 0, none⟩ 1 1 [.int .i64 z] rfl rfl (HNEW.out wr) (by intro u hu; rw [List.mem_singleton] at hu; subst hu; rfl) (by unfold maxLen; omega) (by omega) (by have h2 := HBW.out.size; simp; omega) ?_
                  intro v4 w4 hown hgrow _
                  have b4 : Below wc.heap.size wc w4 := (HBW.out.alloc HBW.out.size _).grown hgrow (by have h2 := HBW.out.size; simp; omega) (fun g e => (arown_lt HO1.out g e).1)
                  have B4 := Lib.hid b4
                  have O4 := Lib.hid hown
                  clear hown hgrow b4)
                obtain ⟨A4, c4, rfl⟩ : ∃ A4 c4, v4 = .slice A4 (j + 1) c4 := by
                  rcases O4.out.2 with ⟨_, h0⟩ | ⟨g, cap, cur, e, _⟩
                  · omega
                  · exact ⟨_, cap, e⟩
                refine ⟨⟨j + 1, A4, c4, by omega, by go_num, rfl, ?_, B4.out⟩, by simp [intOf]; omega⟩
                rw [HST1.out]
                exact O4.out
              · have hje : j = l.length := by omega
                subst hje
                rw [List.take_of_length_le (by rw [HBV.out.1]; omega)] at o1
                have HBB : Hid (∀ W, Below wr.heap.size wr W → Calls Try.prog 36 #[.slice A1 l.length c1] W (GiveV (vecA (bothL l m)) W)) := Lib.hid (fun W hb => vec_give (bothL l m) (by have := HBV.out.1; omega) A1 l.length c1 W HBV.out.1 (Reads.of_own (arown_stay o1 hb (fun g hg => (arown_lt o1 g hg).2))))
                have A_r := Lib.hid (A_c.out.up hbw)
                have Ox_r := Lib.hid (Ox_c.out.up hbw)
                have Oy_r := Lib.hid (Oy_c.out.up hbw)
                have BW_r := Lib.hid (bon BW_c.out hbw)
                clear o1 hbw hj hlt A_c Ox_c Oy_c BW_c
                go_upto_region 25 with (fail)
                have HUX : BxU wr (lookU [(1, xo wr (vecA (bothL l m))), (3, xto wr XM 0), (4, xto wr XM 0), (5, xo wr XM)]) := lookU_two (by
                  intro x hx
                  simp only [List.mem_cons, List.not_mem_nil, or_false] at hx
                  rcases hx with rfl | rfl | rfl | rfl <;> first | exact xo_stk _ _ | exact xto_stk _ _ _)
                refine wp_region_doneT_on (BxS wr 7 8 20 XM) (bxR 7 [1, 3, 4, 5] (lookU [(1, xo wr (vecA (bothL l m))), (3, xto wr XM 0), (4, xto wr XM 0), (5, xo wr XM)]) [.slice A1 l.length c1, undef, .agg #[.int .i64 a.kind, .slice p.A0 a.sh.length p.c0, .slice p.A1 a.el.length p.c1], undef, undef, undef, .int .i64 0, undef, undef, .int .i64 0]) (by kernel_rfl) 154 rfl (by kernel_rfl) ⟨(Below.refl _ _).drew, fun e => (by cases e), fun e => (by cases e)⟩ ?_ ?_
                · intro i hi
                  have hi2 : i < 10 := hi
                  clear hi
                  rcases i with _ | i
                  · refine bx_value HUX rfl (by decide) (by decide) (by decide) 132 rfl (by decide) (.slice A1 l.length c1) rfl ?_
                    intro a8 w8 hb8 ho hn
                    have o18 : a8.tmps[18]? = some _ := (ho 18 (by kernel_rfl)).trans rfl
                    clear ho hn
                    refine ⟨wanted_free rfl, ?_⟩
                    go_simp
                  rcases i with _ | i
                  · refine bx_call HUX 36 rfl (by decide) (by decide) (by decide) 133 rfl (by decide) ?_
                    intro a8 w8 hb8 ho hn
                    obtain ⟨v132, n132, hq132⟩ := hn 0 132 (by kernel_rfl) rfl
                    obtain rfl := hq132.1 (by decide) (by decide)
                    clear ho hn
                    refine ⟨wanted_free rfl, ?_⟩
                    refine ⟨#[.slice A1 l.length c1], (by go_simp), (HBB.out w8 hb8).mono ?_⟩
                    rintro e wz ⟨p_, rfl, o, b⟩
                    exact ⟨_, rfl, b, p_, rfl, o.mono hb8.size⟩
                  rcases i with _ | i
                  · refine bx_value HUX rfl (by decide) (by decide) (by decide) 134 rfl (by decide) (.agg #[.int .i64 a.kind, .slice p.A0 a.sh.length p.c0, .slice p.A1 a.el.length p.c1]) rfl ?_
                    intro a8 w8 hb8 ho hn
                    have o3 : a8.tmps[3]? = some _ := (ho 3 (by kernel_rfl)).trans rfl
                    clear ho hn
                    refine ⟨wanted_free rfl, ?_⟩
                    obtain ⟨x0, x1, x2⟩ := (A_r.out.up hb8).cells
                    go_simp
                  rcases i with _ | i
                  · refine bx_call HUX 46 rfl (by decide) (by decide) (by decide) 135 rfl (by decide) ?_
                    intro a8 w8 hb8 ho hn
                    obtain ⟨v133, n133, hq133⟩ := hn 1 133 (by kernel_rfl) rfl
                    have hv133 : xo wr (vecA (bothL l m)) v133 w8 := hq133.2 (by decide)
                    obtain ⟨v134, n134, hq134⟩ := hn 2 134 (by kernel_rfl) rfl
                    obtain rfl := hq134.1 (by decide) (by decide)
                    clear ho hn
                    refine ⟨wanted_free rfl, ?_⟩
                    obtain ⟨p_, rfl, o⟩ := hv133
                    refine ⟨#[.agg (arC (vecA (bothL l m)) p_), .agg #[.int .i64 a.kind, .slice p.A0 a.sh.length p.c0, .slice p.A1 a.el.length p.c1]], (by go_simp), (HPB.out p_ p w8 (o.el HBV.out.2.1 HBV.out.2.2.1 HBV.out.2.2.2) (A_r.out.up hb8).e).mono ?_⟩
                    rintro e wz ⟨r, rfl, o9, b9⟩
                    exact ⟨_, rfl, b9, r, rfl, o9.mono hb8.size⟩
                  rcases i with _ | i
                  · refine bx_make HUX rfl (by decide) (by decide) (by decide) 131 rfl (by decide) ?_
                    intro a8 w8 hb8 ho hn
                    obtain ⟨v135, n135, hq135⟩ := hn 3 135 (by kernel_rfl) rfl
                    have hv135 : xto wr XM 0 v135 w8 := hq135.2 (by decide)
                    clear ho hn
                    refine ⟨wanted_free rfl, ?_⟩
                    exact ⟨v135, w8, (by go_simp), Below.refl _ _, hv135⟩
                  rcases i with _ | i
                  · refine bx_make HUX rfl (by decide) (by decide) (by decide) 136 rfl (by decide) ?_
                    intro a8 w8 hb8 ho hn
                    obtain ⟨v131, n131, hq131⟩ := hn 4 131 (by kernel_rfl) rfl
                    have hv131 : xto wr XM 0 v131 w8 := hq131.2 (by decide)
                    clear ho hn
                    refine ⟨wanted_free rfl, ?_⟩
                    obtain ⟨p_, rfl, o⟩ := hv131
                    exact ⟨.agg (arC XM p_), w8, (by go_simp), Below.refl _ _, p_, rfl, o⟩
                  rcases i with _ | i
                  · refine bx_value HUX rfl (by decide) (by decide) (by decide) 137 rfl (by decide) (.int .i64 0) rfl ?_
                    intro a8 w8 hb8 ho hn
                    obtain ⟨v131, n131, hq131⟩ := hn 4 131 (by kernel_rfl) rfl
                    have hv131 : xto wr XM 0 v131 w8 := hq131.2 (by decide)
                    clear ho hn
                    refine ⟨wanted_free rfl, ?_⟩
                    obtain ⟨p_, rfl, o⟩ := hv131
                    go_simp
                  rcases i with _ | i
                  · refine bx_alloc HUX rfl (by decide) (by decide) rfl (.int .i64 0) (.slice none 0 0) (.slice none 0 0) ?_
                    intro a8 w8 ho
                    have o153 : a8.tmps[153]? = some _ := (ho 153 (by kernel_rfl)).trans rfl
                    have hsz : 153 < a8.tmps.size := (Array.getElem?_eq_some_iff.1 o153).1
                    refine ⟨by omega, wanted_free rfl, ?_⟩
                    go_simp
                  rcases i with _ | i
                  · refine bx_store HUX rfl rfl (by decide) (by decide) rfl (by kernel_rfl) rfl ?_
                    intro a8 w8 g u0 u1 u2 hg n20 hn
                    obtain ⟨v136, n136, hq136⟩ := hn 5 136 (by kernel_rfl) rfl
                    have hv136 : xo wr XM v136 w8 := hq136.2 (by decide)
                    clear hn
                    refine ⟨wanted_free rfl, ?_⟩
                    obtain ⟨r, rfl, o⟩ := hv136
                    have x0 := hg.cell 0
                    have x1 := hg.cell 1
                    have x2 := hg.cell 2
                    have f0 := hg.frozen 0
                    have f1 := hg.frozen 1
                    have f2 := hg.frozen 2
                    refine ⟨r, o, ?_⟩
                    rw [show arC XM r = #[.int .i64 XM.kind, .slice r.A0 XM.sh.length r.c0, .slice r.A1 XM.el.length r.c1] from rfl] at n136
                    clear hg o
                    go_simp
                  rcases i with _ | i
                  · refine bx_value HUX rfl (by decide) (by decide) (by decide) 21 rfl (by decide) (.int .i64 0) rfl ?_
                    intro a8 w8 hb8 ho hn
                    obtain ⟨v137, n137, hq137⟩ := hn 6 137 (by kernel_rfl) rfl
                    obtain rfl := hq137.1 (by decide) (by decide)
                    clear ho hn
                    refine ⟨wanted_free rfl, ?_⟩
                    go_simp
                  omega
                · intro dn fv we hS5 hR5 hall
                  obtain ⟨gz, e8, hg8, _, hfin⟩ := hS5.h (hall 7 (by decide))
                  obtain ⟨rz, hb8, ho8⟩ := hfin (hall 8 (by decide))
                  have hbw := hS5.b
                  have h48 : fv 21 = .int .i64 0 := (hR5 9 21 rfl).1 (by decide) (by decide)
                  clear hS5 hR5 hall hfin
                  simp only [putAll, List.foldl_cons, List.foldl_nil, Act.put, List.setIfInBounds_toArray, List.set_cons_succ, List.set_cons_zero, List.getElem?_toArray, List.getElem?_cons_succ, List.getElem?_cons_zero, Option.some.injEq] at e8 ⊢
                  rw [e8, h48]
                  have Oz_e : Hid (BoxP we gz XM rz) := Lib.hid ⟨hb8, ho8.el HFM.out.1 HFM.out.2.1 HFM.out.2.2⟩
                  have A_e := Lib.hid (A_r.out.up hbw)
                  have Ox_e := Lib.hid (Ox_r.out.up hbw)
                  have Oy_e := Lib.hid (Oy_r.out.up hbw)
                  have BW_e := Lib.hid (bon BW_r.out hbw)
                  generalize fv 132 = u132
                  generalize fv 133 = u133
                  generalize fv 134 = u134
                  generalize fv 135 = u135
                  generalize fv 131 = u131
                  generalize fv 136 = u136
                  generalize fv 137 = u137
                  clear hb8 ho8 hbw e8 h48 hg8 HUX BW_r A_r Ox_r Oy_r
                  have hq := HLE1.out
                  have q1 : ((XL.el.length : Int) == (a.el.length : Int)) = true := beq_iff_eq.2 (by omega)
                  clear hq
                  obtain ⟨x0, x1, x2⟩ := Oz_e.out.cells
                  obtain ⟨y0, y1, y2⟩ := Oy_e.out.cells
                  go_wp2_with (go_at_call 44; refine (l14is_yes XM rz ry _ Oz_e.out.e Oy_e.out.e).mono ?_; rintro e wf ⟨rfl, bf⟩; have A_f := Lib.hid (A_e.out.up bf); have Ox_f := Lib.hid (Ox_e.out.up bf); have BW_f := Lib.hid (bon BW_e.out bf); obtain ⟨u0, u1, u2⟩ := A_f.out.cells; obtain ⟨v0, v1, v2⟩ := Ox_f.out.cells; clear bf)
                  go_ret
                  exact ⟨rfl, BW_f.out⟩
end Go.Proofs.Ytlmdijijlbmddaa.turnAxes

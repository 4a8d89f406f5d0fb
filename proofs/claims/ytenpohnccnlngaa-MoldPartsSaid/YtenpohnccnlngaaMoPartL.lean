/-
  The walk of the statement MoldParts.
-/
import Derived.Test.YtenpohnccnlngaaMoPartM
import Derived.Test.YtenpohnccnlngaaNmKit
import Derived.Test.YtenpohnccnlngaaArOpen
import Derived.Deep.CutBlock
import Derived.Deep.DeepCutAuto
namespace Go.Proofs.Ytenpohnccnlngaa.moldParts
open Go.RowKit Go.Proofs.Ytenpohnccnlngaa.arr Go.Proofs.Ytenpohnccnlngaa.mo Go.Proofs.Ytenpohnccnlngaa.tu

theorem own_from {W : World} {B n c : Nat} {t : TypeId} {A : Option Addr} {xs : List Value} (h : W.ownsRow B t 1 (.slice A n c) n xs) (hn : 0 < n) : ∃ g, A = some ⟨g, 0, none⟩ := by
  rcases h.2 with ⟨_, h0⟩ | ⟨g, cap, cur, e, _⟩
  · omega
  · injection e with e1 e2 e3
    exact ⟨g, e1⟩
theorem vec_fine (l : List Int) (hl : l.length ≤ 100000) (hf : ∀ z ∈ l, -9223372036854775808 ≤ z ∧ z ≤ 9223372036854775807) : (vecA l).sh.length ≤ 9223372036854775807 ∧ (vecA l).el.length ≤ 9223372036854775807 ∧ Fine (vecA l) := ⟨show 1 ≤ _ by omega, show l.length ≤ _ by omega, hf⟩
theorem row_fine (d P : Nat) (l : List Int) (hl : l.length ≤ 100000) (hf : ∀ z ∈ l, -9223372036854775808 ≤ z ∧ z ≤ 9223372036854775807) : (rowA d P l).sh.length ≤ 9223372036854775807 ∧ (rowA d P l).el.length ≤ 9223372036854775807 ∧ Fine (rowA d P l) := ⟨show 2 ≤ _ by omega, show l.length ≤ _ by omega, hf⟩
theorem rows_mem {P Q d : Nat} {l m : List Int} {z : Int} (h : z ∈ rowsL P Q d l m) : z = 0 ∨ z ∈ l ∨ z ∈ m := by
  obtain ⟨i, _, rfl⟩ := List.mem_map.1 h
  have hg : ∀ (k : List Int) (j : Nat), k.getD j 0 = 0 ∨ k.getD j 0 ∈ k := fun k j => by
    rw [List.getD_eq_getElem?_getD]
    cases e : k[j]? with
    | none => exact .inl rfl
    | some x => exact .inr (List.mem_of_getElem? e)
  show (if _ then _ else _) = (0 : Int) ∨ _
  split
  · exact (hg l _).imp id .inl
  · exact (hg m _).imp id .inr
set_option maxRecDepth 100000 in
set_option maxHeartbeats 16000000 in
theorem walk (A B : Option Addr) (c d : Nat) (l m : List Int) (n r : Int) (w : World) (hl : IArg w A c l) (hm : IArg w B d m) (_hn0 : -9223372036854775808 ≤ n) (_hn1 : n ≤ 9223372036854775807) (hr0 : 0 ≤ r) (hr1 : r ≤ 255) :
    Calls Try.prog 4 #[.slice A l.length c, .slice B m.length d, .int .i64 n, .int .u8 r] w fun e w' => e = .returned (.bool true) ∧ Below w.heap.size w w' := by
  have hbig := hl.cap
  have hbig1 := hl.big
  have hbig2 := hm.cap
  have hbig3 := hm.big
  by_cases h1 : 2000 < l.length
  · have d1 : (2000 : Int) < (l.length : Int) := by omega
    generalize l.length = P at *
    generalize m.length = Q at *
    clear hl hm h1
    go_enter Try.func4, Try.ntmps4
    go_wp2_with (go_at_call 30; refine (l13alive _).mono ?_; rintro e w1 ⟨rfl, b1⟩; have B1 := Lib.hid b1; clear b1)
    go_ret
    exact ⟨rfl, B1.out⟩
  have d1 : ¬ (2000 : Int) < (l.length : Int) := by omega
  by_cases h2 : 2000 < m.length
  · have d2 : (2000 : Int) < (m.length : Int) := by omega
    generalize l.length = P at *
    generalize m.length = Q at *
    clear hl hm h1 h2
    go_enter Try.func4, Try.ntmps4
    go_wp2_with (go_at_call 30; refine (l13alive _).mono ?_; rintro e w1 ⟨rfl, b1⟩; have B1 := Lib.hid b1; clear b1)
    go_ret
    exact ⟨rfl, B1.out⟩
  have d2 : ¬ (2000 : Int) < (m.length : Int) := by omega
  have hfl := hl.fine
  have hfm := hm.fine
  have hLR := fun W (hb : Below w.heap.size w W) => (hl.reads.below hb).more hb.size
  have hMR := fun W (hb : Below w.heap.size w W) => (hm.reads.below hb).more hb.size
  -- the number of what is taken
  obtain ⟨kk, hkk⟩ : ∃ x, n.tmod ((l.length : Int) + 1) = x := ⟨_, rfl⟩
  have hka : kk.natAbs ≤ l.length := by
    have h3 : (n.tmod ((l.length : Int) + 1)).natAbs = n.natAbs % ((l.length : Int) + 1).natAbs := Int.natAbs_tmod _ _
    have h4 : ((l.length : Int) + 1).natAbs = l.length + 1 := by omega
    have h5 := Nat.mod_lt n.natAbs (show 0 < l.length + 1 by omega)
    rw [hkk, h4] at h3
    omega
  obtain ⟨ek1, ek2⟩ := tkL_ok l (by omega) kk hka
  obtain ⟨ed1, ed2⟩ := dpL_ok l (by omega) kk hka
  have hkl := tkL_len l kk
  have hdl := dpL_len l kk
  obtain ⟨ec1, ec2⟩ := cat_vecA (tkL l kk) (dpL l kk) (by omega) (by omega)
  obtain ⟨ee1, ee2⟩ := cat_vecA (dpL l kk) (tkL l kk) (by omega) (by omega)
  have hpb := parts_back l kk
  obtain ⟨XA, hXA⟩ : ∃ X, vecA l = X := ⟨_, rfl⟩
  obtain ⟨XK, hXK⟩ : ∃ X, vecA (tkL l kk) = X := ⟨_, rfl⟩
  obtain ⟨XD, hXD⟩ : ∃ X, vecA (dpL l kk) = X := ⟨_, rfl⟩
  obtain ⟨XC, hXC⟩ : ∃ X, vecA (tkL l kk ++ dpL l kk) = X := ⟨_, rfl⟩
  obtain ⟨XE, hXE⟩ : ∃ X, vecA (dpL l kk ++ tkL l kk) = X := ⟨_, rfl⟩
  have hCA : ¬ kk < 0 → XC = XA := fun h => by rw [if_neg h] at hpb; rw [← hXC, ← hXA, hpb]
  have hEA : kk < 0 → XE = XA := fun h => by rw [if_pos h] at hpb; rw [← hXE, ← hXA, hpb]
  have HF_XA : Hid (XA.sh.length ≤ 9223372036854775807 ∧ XA.el.length ≤ 9223372036854775807 ∧ Fine XA) := Lib.hid (hXA ▸ vec_fine l (by omega) hfl)
  have HF_XK : Hid (XK.sh.length ≤ 9223372036854775807 ∧ XK.el.length ≤ 9223372036854775807 ∧ Fine XK) := Lib.hid (hXK ▸ vec_fine _ (by omega) (fun z hz => hfl z (tkL_mem hz)))
  have HF_XD : Hid (XD.sh.length ≤ 9223372036854775807 ∧ XD.el.length ≤ 9223372036854775807 ∧ Fine XD) := Lib.hid (hXD ▸ vec_fine _ (by omega) (fun z hz => hfl z (dpL_mem hz)))
  have HF_XC : Hid (XC.sh.length ≤ 9223372036854775807 ∧ XC.el.length ≤ 9223372036854775807 ∧ Fine XC) := Lib.hid (hXC ▸ vec_fine _ (by rw [List.length_append]; omega) (fun z hz => by
    rcases List.mem_append.1 hz with h | h
    · exact hfl z (tkL_mem h)
    · exact hfl z (dpL_mem h)))
  rw [hXA, hXK] at ek2
  rw [hXA, hXD] at ed2
  rw [hXA] at ek1 ed1
  rw [hXK, hXD] at ec1 ec2 ee1 ee2
  rw [hXC] at ec2
  rw [hXE] at ee2
  have HVL : Hid (∀ W, Below w.heap.size w W → Calls Try.prog 18 #[.slice A l.length c] W (GiveO XA W)) := Lib.hid (fun W hb => hXA ▸ vec_lit l (by omega) A l.length c W rfl (hLR W hb))
  have HTK : Hid (∀ p q W, AEl W ⟨1, [], [kk]⟩ p → AEl W XA q → Calls Try.prog 21 #[.agg (arC ⟨1, [], [kk]⟩ p), .agg (arC XA q)] W (GiveE XK 0 W)) := Lib.hid (fun p q W h1 h2 => by
    have h := motake_any ⟨1, [], [kk]⟩ XA p q W h1 h2
    rwa [ek1, ek2] at h)
  have HDP : Hid (∀ p q W, AEl W ⟨1, [], [kk]⟩ p → AEl W XA q → Calls Try.prog 22 #[.agg (arC ⟨1, [], [kk]⟩ p), .agg (arC XA q)] W (GiveE XD 0 W)) := Lib.hid (fun p q W h1 h2 => by
    have h := modrop_any ⟨1, [], [kk]⟩ XA p q W h1 h2
    rwa [ed1, ed2] at h)
  have HC1 : Hid (∀ p q W, AEl W XK p → AEl W XD q → Cap XK p → Cap XD q → Calls Try.prog 23 #[.agg (arC XK p), .agg (arC XD q)] W (GiveE XC 0 W)) := Lib.hid (fun p q W h1 h2 c1 c2 => by
    have h := mocat_any XK XD p q W h1 h2 c1 c2
    rwa [ec1, ec2] at h)
  have HC2 : Hid (∀ p q W, AEl W XD p → AEl W XK q → Cap XD p → Cap XK q → Calls Try.prog 23 #[.agg (arC XD p), .agg (arC XK q)] W (GiveE XE 0 W)) := Lib.hid (fun p q W h1 h2 c1 c2 => by
    have h := mocat_any XD XK p q W h1 h2 c1 c2
    rwa [ee1, ee2] at h)
  -- the rows
  obtain ⟨D, hD⟩ : ∃ D : Nat, 1 + r % 4 = (D : Int) := ⟨(1 + r % 4).toNat, by omega⟩
  have hD1 : 1 ≤ D ∧ D ≤ 4 := by
    omega
  obtain ⟨hD1, hD4⟩ := hD1
  have hPd : (l.length : Int).tdiv (D : Int) = ((l.length / D : Nat) : Int) := (Int.ofNat_tdiv l.length D).symm
  have hQd : (m.length : Int).tdiv (D : Int) = ((m.length / D : Nat) : Int) := (Int.ofNat_tdiv m.length D).symm
  have hP1 := Nat.div_mul_le_self l.length D
  have hQ1 := Nat.div_mul_le_self m.length D
  have hP2 := Nat.div_le_self l.length D
  have hQ2 := Nat.div_le_self m.length D
  obtain ⟨P, hP⟩ : ∃ P, l.length / D = P := ⟨_, rfl⟩
  obtain ⟨Q, hQ⟩ : ∃ Q, m.length / D = Q := ⟨_, rfl⟩
  rw [hP] at hPd hP1 hP2
  rw [hQ] at hQd hQ1 hQ2
  obtain ⟨PD, hPD⟩ : ∃ x, P * D = x := ⟨_, rfl⟩
  obtain ⟨QD, hQD⟩ : ∃ x, Q * D = x := ⟨_, rfl⟩
  rw [hPD] at hP1
  rw [hQD] at hQ1
  obtain ⟨MP, hMP⟩ : ∃ x : Nat, max (1 : Int) (P : Int) = (x : Int) := ⟨max 1 P, by omega⟩
  obtain ⟨MQ, hMQ⟩ : ∃ x : Nat, max (1 : Int) (Q : Int) = (x : Int) := ⟨max 1 Q, by omega⟩
  have hMP0 : 0 < MP ∧ MP ≤ 2001 := by omega
  have hMQ0 : 0 < MQ ∧ MQ ≤ 2001 := by omega
  have hpdm : (P : Int) * (D : Int) = (PD : Int) := by rw [← hPD]; exact (Int.natCast_mul P D).symm
  have hqdm : (Q : Int) * (D : Int) = (QD : Int) := by rw [← hQD]; exact (Int.natCast_mul Q D).symm
  have hlt : (l.take PD).length = PD := by rw [List.length_take]; omega
  have hmt : (m.take QD).length = QD := by rw [List.length_take]; omega
  obtain ⟨XP, hXP⟩ : ∃ X, (⟨1, [((PD / MP : Nat) : Int), (MP : Int)], l.take PD⟩ : AV) = X := ⟨_, rfl⟩
  obtain ⟨XQ, hXQ⟩ : ∃ X, (⟨1, [((QD / MQ : Nat) : Int), (MQ : Int)], m.take QD⟩ : AV) = X := ⟨_, rfl⟩
  have hft : ∀ z ∈ l.take PD, -9223372036854775808 ≤ z ∧ z ≤ 9223372036854775807 := fun z hz => hfl z (List.mem_of_mem_take hz)
  have hfu : ∀ z ∈ m.take QD, -9223372036854775808 ≤ z ∧ z ≤ 9223372036854775807 := fun z hz => hfm z (List.mem_of_mem_take hz)
  have HF_XP : Hid (XP.sh.length ≤ 9223372036854775807 ∧ XP.el.length ≤ 9223372036854775807 ∧ Fine XP) := Lib.hid (hXP ▸ ⟨show 2 ≤ _ by omega, show (l.take PD).length ≤ _ by omega, hft⟩)
  have HF_XQ : Hid (XQ.sh.length ≤ 9223372036854775807 ∧ XQ.el.length ≤ 9223372036854775807 ∧ Fine XQ) := Lib.hid (hXQ ▸ ⟨show 2 ≤ _ by omega, show (m.take QD).length ≤ _ by omega, hfu⟩)
  have hXPl : XP.el.length = PD := by rw [← hXP]; exact hlt
  have hXQl : XQ.el.length = QD := by rw [← hXQ]; exact hmt
  have HMP : Hid (∀ w0 W, Below w.heap.size w w0 → Below w0.heap.size w0 W → Calls Try.prog 19 #[.int .i64 (MP : Int), .slice A PD c] W fun e w' => ∃ r : AP, e = .returned (.agg (arC XP r)) ∧ AHal w0 w' XP r ∧ Below W.heap.size W w') := Lib.hid (fun w0 W hb0 hb => by
    have h := mat13h (l.take PD) MP hMP0.1 (by omega) (by omega) A PD c w0 W hlt hb (reads_less (hLR w0 hb0) (by omega))
    rwa [hlt, hXP] at h)
  have HMQ : Hid (∀ w0 W, Below w.heap.size w w0 → Below w0.heap.size w0 W → Calls Try.prog 19 #[.int .i64 (MQ : Int), .slice B QD d] W fun e w' => ∃ r : AP, e = .returned (.agg (arC XQ r)) ∧ AHal w0 w' XQ r ∧ Below W.heap.size W w') := Lib.hid (fun w0 W hb0 hb => by
    have h := mat13h (m.take QD) MQ hMQ0.1 (by omega) (by omega) B QD d w0 W hmt hb (reads_less (hMR w0 hb0) (by omega))
    rwa [hmt, hXQ] at h)
  have HSP : Hid (∀ W, (Instr.sliceAt 23 (.slice A l.length c) none (some (.int .i64 (PD : Int))) none).run Try.prog W = .ok (.slice A PD c) W) := Lib.hid (mo_slice A l.length c PD (by omega) hbig)
  have HSQ : Hid (∀ W, (Instr.sliceAt 23 (.slice B m.length d) none (some (.int .i64 (QD : Int))) none).run Try.prog W = .ok (.slice B QD d) W) := Lib.hid (mo_slice B m.length d QD (by omega) hbig2)
  -- where both have elements
  have hrows : 0 < PD → 0 < QD → MP = P ∧ MQ = Q ∧ XP = rowA D P (l.take PD) ∧ XQ = rowA D Q (m.take QD) ∧ D * (P + Q) ≤ 4096 ∧ 0 < P ∧ 0 < Q := fun hp hq => by
    have p0 : 0 < P := by
      rcases Nat.eq_zero_or_pos P with h | h
      · rw [h, Nat.zero_mul] at hPD; omega
      · exact h
    have q0 : 0 < Q := by
      rcases Nat.eq_zero_or_pos Q with h | h
      · rw [h, Nat.zero_mul] at hQD; omega
      · exact h
    have e1 : MP = P := by omega
    have e2 : MQ = Q := by omega
    refine ⟨e1, e2, ?_, ?_, ?_, p0, q0⟩
    · rw [← hXP, e1, ← hPD, Nat.mul_comm, Nat.mul_div_cancel _ p0]; rfl
    · rw [← hXQ, e2, ← hQD, Nat.mul_comm, Nat.mul_div_cancel _ q0]; rfl
    · rw [Nat.mul_add, Nat.mul_comm D P, Nat.mul_comm D Q, hPD, hQD]; omega
  have HROWS := Lib.hid hrows
  have HLT := Lib.hid (And.intro hlt hmt)
  have HPD := Lib.hid (And.intro hPD hQD)
  have HFT := Lib.hid (And.intro hft hfu)
  have BW_wa0 := Lib.hid (Below.refl w.heap.size w)
  have HCA := Lib.hid hCA
  have HEA := Lib.hid hEA
  have HARI := Lib.hid (And.intro hPd (And.intro hQd (And.intro hpdm hqdm)))
  clear hfl hfm hLR hMR ek1 ek2 ed1 ed2 ec1 ec2 ee1 ee2 hpb hXA hXK hXD hXC hXE hCA hEA hrows hlt hmt hft hfu hXP hXQ hPd hQd hpdm hqdm hl hm hP hQ hPD hQD hkl hdl
  clear h1 h2
  go_enter Try.func4, Try.ntmps4
  go_upto_region 4 with (go_at_call 30; refine (l13alive _).mono ?_; rintro e wa ⟨rfl, b1⟩; have BW_wa := Lib.hid b1; clear b1)
  have HB_wa : Hid (Bxs wa []) := Lib.hid (Bxs.nil _)
  clear BW_wa0
  have HUX : BxU wa (lookU [(1, xo wa XA)]) := lookU_two (by
    intro x hx
    simp only [List.mem_cons, List.not_mem_nil, or_false] at hx
    rcases hx with rfl <;> first | exact xo_stk _ _ | exact slo_stk _ _ _ | exact sio_stk _ _ _ | exact xh_stk _ _ | exact xto_stk _ _ _)
  refine wp_region_offT_on (BxS wa 2 3 10 XA) (bxR 2 [1] (lookU [(1, xo wa XA)]) [.slice A l.length c, undef, undef, undef]) (by kernel_rfl) 178 rfl (by kernel_rfl) ⟨Below.refl _ _, fun e => (by cases e), fun e => (by cases e)⟩ ?_ ?_
  · intro i hi
    have hi2 : i < 4 := hi
    clear hi
    rcases i with _ | i
    · refine bx_value HUX rfl (by decide) (by decide) (by decide) 41 rfl (by decide) (.slice A l.length c) rfl ?_
      intro a8 w8 hb8 ho hn
      have o0 : a8.tmps[0]? = some _ := (ho 0 (by kernel_rfl)).trans rfl
      clear ho hn
      refine ⟨wanted_free rfl, ?_⟩
      go_simp
    rcases i with _ | i
    · refine bx_call HUX 18 rfl (by decide) (by decide) (by decide) 42 rfl (by decide) ?_
      intro a8 w8 hb8 ho hn
      obtain ⟨v41, n41, hq41⟩ := hn 0 41 (by kernel_rfl) rfl
      obtain rfl := hq41.1 (by decide) (by decide)
      clear ho hn
      refine ⟨wanted_free rfl, ?_⟩
      refine ⟨#[.slice A l.length c], (by go_simp), (HVL.out w8 (bon BW_wa.out hb8)).mono ?_⟩
      rintro e wz ⟨p_, rfl, o, b⟩
      exact ⟨_, rfl, b, p_, rfl, o.mono hb8.size⟩
    rcases i with _ | i
    · refine bx_alloc HUX rfl (by decide) (by decide) rfl (.int .i64 0) (.slice none 0 0) (.slice none 0 0) ?_
      intro a8 w8 ho
      have o177 : a8.tmps[177]? = some _ := (ho 177 (by kernel_rfl)).trans rfl
      have hsz : 177 < a8.tmps.size := (Array.getElem?_eq_some_iff.1 o177).1
      refine ⟨by omega, wanted_free rfl, ?_⟩
      go_simp
    rcases i with _ | i
    · refine bx_store HUX rfl rfl (by decide) (by decide) rfl (by kernel_rfl) rfl ?_
      intro a8 w8 g u0 u1 u2 hg n10 hn
      obtain ⟨v42, n42, hq42⟩ := hn 1 42 (by kernel_rfl) rfl
      have hv42 : xo wa XA v42 w8 := hq42.2 (by decide)
      clear hn
      refine ⟨wanted_free rfl, ?_⟩
      obtain ⟨r, rfl, o⟩ := hv42
      have x0 := hg.cell 0
      have x1 := hg.cell 1
      have x2 := hg.cell 2
      have f0 := hg.frozen 0
      have f1 := hg.frozen 1
      have f2 := hg.frozen 2
      refine ⟨r, o, ?_⟩
      rw [show arC XA r = #[.int .i64 XA.kind, .slice r.A0 XA.sh.length r.c0, .slice r.A1 XA.el.length r.c1] from rfl] at n42
      clear hg o
      go_simp
    omega
  intro dn fv wb1 hS5 hR5 hall
  obtain ⟨g1, e8, hg8, _, hfin⟩ := hS5.h (hall 2 (by decide))
  obtain ⟨r1, hb8, ho8⟩ := hfin (hall 3 (by decide))
  have hbw := hS5.b
  clear hS5 hR5 hall hfin
  simp only [putAll, List.foldl_cons, List.foldl_nil, Act.put, List.setIfInBounds_toArray, List.set_cons_succ, List.set_cons_zero, List.getElem?_toArray, List.getElem?_cons_succ, List.getElem?_cons_zero, Option.some.injEq] at e8 ⊢
  rw [e8]
  have HB_wb1 : Hid (Bxs wb1 [(g1, XA, r1)]) := Lib.hid (Bxs.add (HB_wa.out.up hbw) ⟨hb8, ho8.el HF_XA.out.1 HF_XA.out.2.1 HF_XA.out.2.2, Cap.of ho8⟩)
  have BW_wb1 := Lib.hid (bon BW_wa.out hbw)
  generalize fv 41 = u41
  generalize fv 42 = u42
  clear hb8 ho8 hbw e8 hg8 HUX HB_wa BW_wa
  go_upto_region 6 with (fail)
  have HUX : BxU wb1 (lookU [(1, xo wb1 ⟨1, [], [kk]⟩), (3, xto wb1 XK 0), (4, xto wb1 XK 0), (5, xo wb1 XK)]) := lookU_two (by
    intro x hx
    simp only [List.mem_cons, List.not_mem_nil, or_false] at hx
    rcases hx with rfl | rfl | rfl | rfl <;> first | exact xo_stk _ _ | exact slo_stk _ _ _ | exact sio_stk _ _ _ | exact xh_stk _ _ | exact xto_stk _ _ _)
  refine wp_region_doneT_on (BxS wb1 7 8 12 XK) (bxR 7 [1, 3, 4, 5] (lookU [(1, xo wb1 ⟨1, [], [kk]⟩), (3, xto wb1 XK 0), (4, xto wb1 XK 0), (5, xo wb1 XK)]) [.int .i64 kk, undef, .agg #[.int .i64 XA.kind, .slice r1.A0 XA.sh.length r1.c0, .slice r1.A1 XA.el.length r1.c1], undef, undef, undef, .int .i64 0, undef, undef, .int .i64 0]) (by kernel_rfl) 178 rfl (by kernel_rfl) ⟨(Below.refl _ _).drew, fun e => (by cases e), fun e => (by cases e)⟩ ?_ ?_
  · intro i hi
    have hi2 : i < 10 := hi
    clear hi
    rcases i with _ | i
    · refine bx_value HUX rfl (by decide) (by decide) (by decide) 49 rfl (by decide) (.int .i64 kk) rfl ?_
      intro a8 w8 hb8 ho hn
      have o11 : a8.tmps[11]? = some _ := (ho 11 (by kernel_rfl)).trans rfl
      clear ho hn
      refine ⟨wanted_free rfl, ?_⟩
      go_simp
    rcases i with _ | i
    · refine bx_call HUX 16 rfl (by decide) (by decide) (by decide) 50 rfl (by decide) ?_
      intro a8 w8 hb8 ho hn
      obtain ⟨v49, n49, hq49⟩ := hn 0 49 (by kernel_rfl) rfl
      obtain rfl := hq49.1 (by decide) (by decide)
      clear ho hn
      refine ⟨wanted_free rfl, ?_⟩
      refine ⟨#[.int .i64 kk], (by go_simp), (sca_lit kk w8).mono ?_⟩
      rintro e wz ⟨p_, rfl, o, b⟩
      exact ⟨_, rfl, b, p_, rfl, o.mono hb8.size⟩
    rcases i with _ | i
    · refine bx_value HUX rfl (by decide) (by decide) (by decide) 51 rfl (by decide) (.agg #[.int .i64 XA.kind, .slice r1.A0 XA.sh.length r1.c0, .slice r1.A1 XA.el.length r1.c1]) rfl ?_
      intro a8 w8 hb8 ho hn
      have o10 : a8.tmps[10]? = some _ := (ho 10 (by kernel_rfl)).trans rfl
      clear ho hn
      refine ⟨wanted_free rfl, ?_⟩
      obtain ⟨x0, x1, x2⟩ := (((HB_wb1.out.up hb8) 0 _ _ _ rfl)).cells
      go_simp
    rcases i with _ | i
    · refine bx_call HUX 21 rfl (by decide) (by decide) (by decide) 52 rfl (by decide) ?_
      intro a8 w8 hb8 ho hn
      obtain ⟨v50, n50, hq50⟩ := hn 1 50 (by kernel_rfl) rfl
      have hv50 : xo wb1 ⟨1, [], [kk]⟩ v50 w8 := hq50.2 (by decide)
      obtain ⟨v51, n51, hq51⟩ := hn 2 51 (by kernel_rfl) rfl
      obtain rfl := hq51.1 (by decide) (by decide)
      clear ho hn
      refine ⟨wanted_free rfl, ?_⟩
      obtain ⟨q50_, rfl, o50_⟩ := hv50
      refine ⟨#[.agg (arC ⟨1, [], [kk]⟩ q50_), .agg #[.int .i64 XA.kind, .slice r1.A0 XA.sh.length r1.c0, .slice r1.A1 XA.el.length r1.c1]], (by go_simp), (HTK.out q50_ r1 w8 (o50_.el (by simp) (by simp) (fun z hz => by rw [List.mem_singleton] at hz; omega)) ((HB_wb1.out.up hb8) 0 _ _ _ rfl).e).mono ?_⟩
      rintro e wz ⟨r, rfl, o9, b9⟩
      exact ⟨_, rfl, b9, r, rfl, o9.mono hb8.size⟩
    rcases i with _ | i
    · refine bx_make HUX rfl (by decide) (by decide) (by decide) 48 rfl (by decide) ?_
      intro a8 w8 hb8 ho hn
      obtain ⟨v52, n52, hq52⟩ := hn 3 52 (by kernel_rfl) rfl
      have hv52 : xto wb1 XK 0 v52 w8 := hq52.2 (by decide)
      clear ho hn
      refine ⟨wanted_free rfl, ?_⟩
      exact ⟨v52, w8, (by go_simp), Below.refl _ _, hv52⟩
    rcases i with _ | i
    · refine bx_make HUX rfl (by decide) (by decide) (by decide) 53 rfl (by decide) ?_
      intro a8 w8 hb8 ho hn
      obtain ⟨v48, n48, hq48⟩ := hn 4 48 (by kernel_rfl) rfl
      have hv48 : xto wb1 XK 0 v48 w8 := hq48.2 (by decide)
      clear ho hn
      refine ⟨wanted_free rfl, ?_⟩
      obtain ⟨p_, rfl, o⟩ := hv48
      exact ⟨.agg (arC XK p_), w8, (by go_simp), Below.refl _ _, p_, rfl, o⟩
    rcases i with _ | i
    · refine bx_value HUX rfl (by decide) (by decide) (by decide) 54 rfl (by decide) (.int .i64 0) rfl ?_
      intro a8 w8 hb8 ho hn
      obtain ⟨v48, n48, hq48⟩ := hn 4 48 (by kernel_rfl) rfl
      have hv48 : xto wb1 XK 0 v48 w8 := hq48.2 (by decide)
      clear ho hn
      refine ⟨wanted_free rfl, ?_⟩
      obtain ⟨p_, rfl, o⟩ := hv48
      go_simp
    rcases i with _ | i
    · refine bx_alloc HUX rfl (by decide) (by decide) rfl (.int .i64 0) (.slice none 0 0) (.slice none 0 0) ?_
      intro a8 w8 ho
      have o177 : a8.tmps[177]? = some _ := (ho 177 (by kernel_rfl)).trans rfl
      have hsz : 177 < a8.tmps.size := (Array.getElem?_eq_some_iff.1 o177).1
      refine ⟨by omega, wanted_free rfl, ?_⟩
      go_simp
    rcases i with _ | i
    · refine bx_store HUX rfl rfl (by decide) (by decide) rfl (by kernel_rfl) rfl ?_
      intro a8 w8 g u0 u1 u2 hg n12 hn
      obtain ⟨v53, n53, hq53⟩ := hn 5 53 (by kernel_rfl) rfl
      have hv53 : xo wb1 XK v53 w8 := hq53.2 (by decide)
      clear hn
      refine ⟨wanted_free rfl, ?_⟩
      obtain ⟨r, rfl, o⟩ := hv53
      have x0 := hg.cell 0
      have x1 := hg.cell 1
      have x2 := hg.cell 2
      have f0 := hg.frozen 0
      have f1 := hg.frozen 1
      have f2 := hg.frozen 2
      refine ⟨r, o, ?_⟩
      rw [show arC XK r = #[.int .i64 XK.kind, .slice r.A0 XK.sh.length r.c0, .slice r.A1 XK.el.length r.c1] from rfl] at n53
      clear hg o
      go_simp
    rcases i with _ | i
    · refine bx_value HUX rfl (by decide) (by decide) (by decide) 13 rfl (by decide) (.int .i64 0) rfl ?_
      intro a8 w8 hb8 ho hn
      obtain ⟨v54, n54, hq54⟩ := hn 6 54 (by kernel_rfl) rfl
      obtain rfl := hq54.1 (by decide) (by decide)
      clear ho hn
      refine ⟨wanted_free rfl, ?_⟩
      go_simp
    omega
  intro dn fv wb2 hS5 hR5 hall
  obtain ⟨g2, e8, hg8, _, hfin⟩ := hS5.h (hall 7 (by decide))
  obtain ⟨r2, hb8, ho8⟩ := hfin (hall 8 (by decide))
  have hbw := hS5.b
  have h48 : fv 13 = .int .i64 0 := (hR5 9 13 rfl).1 (by decide) (by decide)
  clear hS5 hR5 hall hfin
  simp only [putAll, List.foldl_cons, List.foldl_nil, Act.put, List.setIfInBounds_toArray, List.set_cons_succ, List.set_cons_zero, List.getElem?_toArray, List.getElem?_cons_succ, List.getElem?_cons_zero, Option.some.injEq] at e8 ⊢
  rw [e8, h48]
  have HB_wb2 : Hid (Bxs wb2 [(g1, XA, r1), (g2, XK, r2)]) := Lib.hid (Bxs.add (HB_wb1.out.up hbw) ⟨hb8, ho8.el HF_XK.out.1 HF_XK.out.2.1 HF_XK.out.2.2, Cap.of ho8⟩)
  have BW_wb2 := Lib.hid (bon BW_wb1.out hbw)
  generalize fv 49 = u49
  generalize fv 50 = u50
  generalize fv 51 = u51
  generalize fv 52 = u52
  generalize fv 48 = u48
  generalize fv 53 = u53
  generalize fv 54 = u54
  clear hb8 ho8 hbw e8 h48 hg8 HUX HB_wb1 BW_wb1
  go_upto_region 7 with (fail)
  have HUX : BxU wb2 (lookU [(1, xo wb2 ⟨1, [], [kk]⟩), (3, xto wb2 XD 0), (4, xto wb2 XD 0), (5, xo wb2 XD)]) := lookU_two (by
    intro x hx
    simp only [List.mem_cons, List.not_mem_nil, or_false] at hx
    rcases hx with rfl | rfl | rfl | rfl <;> first | exact xo_stk _ _ | exact slo_stk _ _ _ | exact sio_stk _ _ _ | exact xh_stk _ _ | exact xto_stk _ _ _)
  refine wp_region_doneT_on (BxS wb2 7 8 14 XD) (bxR 7 [1, 3, 4, 5] (lookU [(1, xo wb2 ⟨1, [], [kk]⟩), (3, xto wb2 XD 0), (4, xto wb2 XD 0), (5, xo wb2 XD)]) [.int .i64 kk, undef, .agg #[.int .i64 XA.kind, .slice r1.A0 XA.sh.length r1.c0, .slice r1.A1 XA.el.length r1.c1], undef, undef, undef, .int .i64 0, undef, undef, .int .i64 0]) (by kernel_rfl) 178 rfl (by kernel_rfl) ⟨(Below.refl _ _).drew, fun e => (by cases e), fun e => (by cases e)⟩ ?_ ?_
  · intro i hi
    have hi2 : i < 10 := hi
    clear hi
    rcases i with _ | i
    · refine bx_value HUX rfl (by decide) (by decide) (by decide) 56 rfl (by decide) (.int .i64 kk) rfl ?_
      intro a8 w8 hb8 ho hn
      have o11 : a8.tmps[11]? = some _ := (ho 11 (by kernel_rfl)).trans rfl
      clear ho hn
      refine ⟨wanted_free rfl, ?_⟩
      go_simp
    rcases i with _ | i
    · refine bx_call HUX 16 rfl (by decide) (by decide) (by decide) 57 rfl (by decide) ?_
      intro a8 w8 hb8 ho hn
      obtain ⟨v56, n56, hq56⟩ := hn 0 56 (by kernel_rfl) rfl
      obtain rfl := hq56.1 (by decide) (by decide)
      clear ho hn
      refine ⟨wanted_free rfl, ?_⟩
      refine ⟨#[.int .i64 kk], (by go_simp), (sca_lit kk w8).mono ?_⟩
      rintro e wz ⟨p_, rfl, o, b⟩
      exact ⟨_, rfl, b, p_, rfl, o.mono hb8.size⟩
    rcases i with _ | i
    · refine bx_value HUX rfl (by decide) (by decide) (by decide) 58 rfl (by decide) (.agg #[.int .i64 XA.kind, .slice r1.A0 XA.sh.length r1.c0, .slice r1.A1 XA.el.length r1.c1]) rfl ?_
      intro a8 w8 hb8 ho hn
      have o10 : a8.tmps[10]? = some _ := (ho 10 (by kernel_rfl)).trans rfl
      clear ho hn
      refine ⟨wanted_free rfl, ?_⟩
      obtain ⟨x0, x1, x2⟩ := (((HB_wb2.out.up hb8) 0 _ _ _ rfl)).cells
      go_simp
    rcases i with _ | i
    · refine bx_call HUX 22 rfl (by decide) (by decide) (by decide) 59 rfl (by decide) ?_
      intro a8 w8 hb8 ho hn
      obtain ⟨v57, n57, hq57⟩ := hn 1 57 (by kernel_rfl) rfl
      have hv57 : xo wb2 ⟨1, [], [kk]⟩ v57 w8 := hq57.2 (by decide)
      obtain ⟨v58, n58, hq58⟩ := hn 2 58 (by kernel_rfl) rfl
      obtain rfl := hq58.1 (by decide) (by decide)
      clear ho hn
      refine ⟨wanted_free rfl, ?_⟩
      obtain ⟨q57_, rfl, o57_⟩ := hv57
      refine ⟨#[.agg (arC ⟨1, [], [kk]⟩ q57_), .agg #[.int .i64 XA.kind, .slice r1.A0 XA.sh.length r1.c0, .slice r1.A1 XA.el.length r1.c1]], (by go_simp), (HDP.out q57_ r1 w8 (o57_.el (by simp) (by simp) (fun z hz => by rw [List.mem_singleton] at hz; omega)) ((HB_wb2.out.up hb8) 0 _ _ _ rfl).e).mono ?_⟩
      rintro e wz ⟨r, rfl, o9, b9⟩
      exact ⟨_, rfl, b9, r, rfl, o9.mono hb8.size⟩
    rcases i with _ | i
    · refine bx_make HUX rfl (by decide) (by decide) (by decide) 55 rfl (by decide) ?_
      intro a8 w8 hb8 ho hn
      obtain ⟨v59, n59, hq59⟩ := hn 3 59 (by kernel_rfl) rfl
      have hv59 : xto wb2 XD 0 v59 w8 := hq59.2 (by decide)
      clear ho hn
      refine ⟨wanted_free rfl, ?_⟩
      exact ⟨v59, w8, (by go_simp), Below.refl _ _, hv59⟩
    rcases i with _ | i
    · refine bx_make HUX rfl (by decide) (by decide) (by decide) 60 rfl (by decide) ?_
      intro a8 w8 hb8 ho hn
      obtain ⟨v55, n55, hq55⟩ := hn 4 55 (by kernel_rfl) rfl
      have hv55 : xto wb2 XD 0 v55 w8 := hq55.2 (by decide)
      clear ho hn
      refine ⟨wanted_free rfl, ?_⟩
      obtain ⟨p_, rfl, o⟩ := hv55
      exact ⟨.agg (arC XD p_), w8, (by go_simp), Below.refl _ _, p_, rfl, o⟩
    rcases i with _ | i
    · refine bx_value HUX rfl (by decide) (by decide) (by decide) 61 rfl (by decide) (.int .i64 0) rfl ?_
      intro a8 w8 hb8 ho hn
      obtain ⟨v55, n55, hq55⟩ := hn 4 55 (by kernel_rfl) rfl
      have hv55 : xto wb2 XD 0 v55 w8 := hq55.2 (by decide)
      clear ho hn
      refine ⟨wanted_free rfl, ?_⟩
      obtain ⟨p_, rfl, o⟩ := hv55
      go_simp
    rcases i with _ | i
    · refine bx_alloc HUX rfl (by decide) (by decide) rfl (.int .i64 0) (.slice none 0 0) (.slice none 0 0) ?_
      intro a8 w8 ho
      have o177 : a8.tmps[177]? = some _ := (ho 177 (by kernel_rfl)).trans rfl
      have hsz : 177 < a8.tmps.size := (Array.getElem?_eq_some_iff.1 o177).1
      refine ⟨by omega, wanted_free rfl, ?_⟩
      go_simp
    rcases i with _ | i
    · refine bx_store HUX rfl rfl (by decide) (by decide) rfl (by kernel_rfl) rfl ?_
      intro a8 w8 g u0 u1 u2 hg n14 hn
      obtain ⟨v60, n60, hq60⟩ := hn 5 60 (by kernel_rfl) rfl
      have hv60 : xo wb2 XD v60 w8 := hq60.2 (by decide)
      clear hn
      refine ⟨wanted_free rfl, ?_⟩
      obtain ⟨r, rfl, o⟩ := hv60
      have x0 := hg.cell 0
      have x1 := hg.cell 1
      have x2 := hg.cell 2
      have f0 := hg.frozen 0
      have f1 := hg.frozen 1
      have f2 := hg.frozen 2
      refine ⟨r, o, ?_⟩
      rw [show arC XD r = #[.int .i64 XD.kind, .slice r.A0 XD.sh.length r.c0, .slice r.A1 XD.el.length r.c1] from rfl] at n60
      clear hg o
      go_simp
    rcases i with _ | i
    · refine bx_value HUX rfl (by decide) (by decide) (by decide) 15 rfl (by decide) (.int .i64 0) rfl ?_
      intro a8 w8 hb8 ho hn
      obtain ⟨v61, n61, hq61⟩ := hn 6 61 (by kernel_rfl) rfl
      obtain rfl := hq61.1 (by decide) (by decide)
      clear ho hn
      refine ⟨wanted_free rfl, ?_⟩
      go_simp
    omega
  intro dn fv wb3 hS5 hR5 hall
  obtain ⟨g3, e8, hg8, _, hfin⟩ := hS5.h (hall 7 (by decide))
  obtain ⟨r3, hb8, ho8⟩ := hfin (hall 8 (by decide))
  have hbw := hS5.b
  have h48 : fv 15 = .int .i64 0 := (hR5 9 15 rfl).1 (by decide) (by decide)
  clear hS5 hR5 hall hfin
  simp only [putAll, List.foldl_cons, List.foldl_nil, Act.put, List.setIfInBounds_toArray, List.set_cons_succ, List.set_cons_zero, List.getElem?_toArray, List.getElem?_cons_succ, List.getElem?_cons_zero, Option.some.injEq] at e8 ⊢
  rw [e8, h48]
  have HB_wb3 : Hid (Bxs wb3 [(g1, XA, r1), (g2, XK, r2), (g3, XD, r3)]) := Lib.hid (Bxs.add (HB_wb2.out.up hbw) ⟨hb8, ho8.el HF_XD.out.1 HF_XD.out.2.1 HF_XD.out.2.2, Cap.of ho8⟩)
  have BW_wb3 := Lib.hid (bon BW_wb2.out hbw)
  generalize fv 56 = u56
  generalize fv 57 = u57
  generalize fv 58 = u58
  generalize fv 59 = u59
  generalize fv 55 = u55
  generalize fv 60 = u60
  generalize fv 61 = u61
  clear hb8 ho8 hbw e8 h48 hg8 HUX HB_wb2 BW_wb2
  have HB7 := HB_wb3
  have BW7 := BW_wb3
  go_upto_region 8 with (fail)
  have HUX : BxU wb3 (lookU [(2, xto wb3 XC 0), (3, xto wb3 XC 0), (4, xo wb3 XC)]) := lookU_two (by
    intro x hx
    simp only [List.mem_cons, List.not_mem_nil, or_false] at hx
    rcases hx with rfl | rfl | rfl <;> first | exact xo_stk _ _ | exact slo_stk _ _ _ | exact sio_stk _ _ _ | exact xh_stk _ _ | exact xto_stk _ _ _)
  refine wp_region_offT_on (BxS wb3 6 7 16 XC) (bxR 6 [2, 3, 4] (lookU [(2, xto wb3 XC 0), (3, xto wb3 XC 0), (4, xo wb3 XC)]) [.agg #[.int .i64 XK.kind, .slice r2.A0 XK.sh.length r2.c0, .slice r2.A1 XK.el.length r2.c1], .agg #[.int .i64 XD.kind, .slice r3.A0 XD.sh.length r3.c0, .slice r3.A1 XD.el.length r3.c1], undef, undef, undef, .int .i64 0, undef, undef, .int .i64 0]) (by kernel_rfl) 178 rfl (by kernel_rfl) ⟨Below.refl _ _, fun e => (by cases e), fun e => (by cases e)⟩ ?_ ?_
  · intro i hi
    have hi2 : i < 9 := hi
    clear hi
    rcases i with _ | i
    · refine bx_value HUX rfl (by decide) (by decide) (by decide) 63 rfl (by decide) (.agg #[.int .i64 XK.kind, .slice r2.A0 XK.sh.length r2.c0, .slice r2.A1 XK.el.length r2.c1]) rfl ?_
      intro a8 w8 hb8 ho hn
      have o12 : a8.tmps[12]? = some _ := (ho 12 (by kernel_rfl)).trans rfl
      clear ho hn
      refine ⟨wanted_free rfl, ?_⟩
      obtain ⟨x0, x1, x2⟩ := (((HB_wb3.out.up hb8) 1 _ _ _ rfl)).cells
      go_simp
    rcases i with _ | i
    · refine bx_value HUX rfl (by decide) (by decide) (by decide) 64 rfl (by decide) (.agg #[.int .i64 XD.kind, .slice r3.A0 XD.sh.length r3.c0, .slice r3.A1 XD.el.length r3.c1]) rfl ?_
      intro a8 w8 hb8 ho hn
      have o14 : a8.tmps[14]? = some _ := (ho 14 (by kernel_rfl)).trans rfl
      clear ho hn
      refine ⟨wanted_free rfl, ?_⟩
      obtain ⟨x0, x1, x2⟩ := (((HB_wb3.out.up hb8) 2 _ _ _ rfl)).cells
      go_simp
    rcases i with _ | i
    · refine bx_call HUX 23 rfl (by decide) (by decide) (by decide) 65 rfl (by decide) ?_
      intro a8 w8 hb8 ho hn
      obtain ⟨v63, n63, hq63⟩ := hn 0 63 (by kernel_rfl) rfl
      obtain rfl := hq63.1 (by decide) (by decide)
      obtain ⟨v64, n64, hq64⟩ := hn 1 64 (by kernel_rfl) rfl
      obtain rfl := hq64.1 (by decide) (by decide)
      clear ho hn
      refine ⟨wanted_free rfl, ?_⟩
      refine ⟨#[.agg #[.int .i64 XK.kind, .slice r2.A0 XK.sh.length r2.c0, .slice r2.A1 XK.el.length r2.c1], .agg #[.int .i64 XD.kind, .slice r3.A0 XD.sh.length r3.c0, .slice r3.A1 XD.el.length r3.c1]], (by go_simp), (HC1.out r2 r3 w8 ((HB_wb3.out.up hb8) 1 _ _ _ rfl).e ((HB_wb3.out.up hb8) 2 _ _ _ rfl).e ((HB_wb3.out.up hb8) 1 _ _ _ rfl).c ((HB_wb3.out.up hb8) 2 _ _ _ rfl).c).mono ?_⟩
      rintro e wz ⟨r, rfl, o9, b9⟩
      exact ⟨_, rfl, b9, r, rfl, o9.mono hb8.size⟩
    rcases i with _ | i
    · refine bx_make HUX rfl (by decide) (by decide) (by decide) 62 rfl (by decide) ?_
      intro a8 w8 hb8 ho hn
      obtain ⟨v65, n65, hq65⟩ := hn 2 65 (by kernel_rfl) rfl
      have hv65 : xto wb3 XC 0 v65 w8 := hq65.2 (by decide)
      clear ho hn
      refine ⟨wanted_free rfl, ?_⟩
      exact ⟨v65, w8, (by go_simp), Below.refl _ _, hv65⟩
    rcases i with _ | i
    · refine bx_make HUX rfl (by decide) (by decide) (by decide) 66 rfl (by decide) ?_
      intro a8 w8 hb8 ho hn
      obtain ⟨v62, n62, hq62⟩ := hn 3 62 (by kernel_rfl) rfl
      have hv62 : xto wb3 XC 0 v62 w8 := hq62.2 (by decide)
      clear ho hn
      refine ⟨wanted_free rfl, ?_⟩
      obtain ⟨p_, rfl, o⟩ := hv62
      exact ⟨.agg (arC XC p_), w8, (by go_simp), Below.refl _ _, p_, rfl, o⟩
    rcases i with _ | i
    · refine bx_value HUX rfl (by decide) (by decide) (by decide) 67 rfl (by decide) (.int .i64 0) rfl ?_
      intro a8 w8 hb8 ho hn
      obtain ⟨v62, n62, hq62⟩ := hn 3 62 (by kernel_rfl) rfl
      have hv62 : xto wb3 XC 0 v62 w8 := hq62.2 (by decide)
      clear ho hn
      refine ⟨wanted_free rfl, ?_⟩
      obtain ⟨p_, rfl, o⟩ := hv62
      go_simp
    rcases i with _ | i
    · refine bx_alloc HUX rfl (by decide) (by decide) rfl (.int .i64 0) (.slice none 0 0) (.slice none 0 0) ?_
      intro a8 w8 ho
      have o177 : a8.tmps[177]? = some _ := (ho 177 (by kernel_rfl)).trans rfl
      have hsz : 177 < a8.tmps.size := (Array.getElem?_eq_some_iff.1 o177).1
      refine ⟨by omega, wanted_free rfl, ?_⟩
      go_simp
    rcases i with _ | i
    · refine bx_store HUX rfl rfl (by decide) (by decide) rfl (by kernel_rfl) rfl ?_
      intro a8 w8 g u0 u1 u2 hg n16 hn
      obtain ⟨v66, n66, hq66⟩ := hn 4 66 (by kernel_rfl) rfl
      have hv66 : xo wb3 XC v66 w8 := hq66.2 (by decide)
      clear hn
      refine ⟨wanted_free rfl, ?_⟩
      obtain ⟨r, rfl, o⟩ := hv66
      have x0 := hg.cell 0
      have x1 := hg.cell 1
      have x2 := hg.cell 2
      have f0 := hg.frozen 0
      have f1 := hg.frozen 1
      have f2 := hg.frozen 2
      refine ⟨r, o, ?_⟩
      rw [show arC XC r = #[.int .i64 XC.kind, .slice r.A0 XC.sh.length r.c0, .slice r.A1 XC.el.length r.c1] from rfl] at n66
      clear hg o
      go_simp
    rcases i with _ | i
    · refine bx_value HUX rfl (by decide) (by decide) (by decide) 17 rfl (by decide) (.int .i64 0) rfl ?_
      intro a8 w8 hb8 ho hn
      obtain ⟨v67, n67, hq67⟩ := hn 5 67 (by kernel_rfl) rfl
      obtain rfl := hq67.1 (by decide) (by decide)
      clear ho hn
      refine ⟨wanted_free rfl, ?_⟩
      go_simp
    omega
  intro dn fv wb4 hS5 hR5 hall
  obtain ⟨g4, e8, hg8, _, hfin⟩ := hS5.h (hall 6 (by decide))
  obtain ⟨r4, hb8, ho8⟩ := hfin (hall 7 (by decide))
  have hbw := hS5.b
  have h48 : fv 17 = .int .i64 0 := (hR5 8 17 rfl).1 (by decide) (by decide)
  clear hS5 hR5 hall hfin
  simp only [putAll, List.foldl_cons, List.foldl_nil, Act.put, List.setIfInBounds_toArray, List.set_cons_succ, List.set_cons_zero, List.getElem?_toArray, List.getElem?_cons_succ, List.getElem?_cons_zero, Option.some.injEq] at e8 ⊢
  rw [e8, h48]
  have HB_wb4 : Hid (Bxs wb4 [(g1, XA, r1), (g2, XK, r2), (g3, XD, r3), (g4, XC, r4)]) := Lib.hid (Bxs.add (HB_wb3.out.up hbw) ⟨hb8, ho8.el HF_XC.out.1 HF_XC.out.2.1 HF_XC.out.2.2, Cap.of ho8⟩)
  have BW_wb4 := Lib.hid (bon BW_wb3.out hbw)
  generalize fv 63 = u63
  generalize fv 64 = u64
  generalize fv 65 = u65
  generalize fv 62 = u62
  generalize fv 66 = u66
  generalize fv 67 = u67
  have HBW8 := Lib.hid hbw
  have HG8 := Lib.hid hg8
  clear hb8 ho8 hbw e8 h48 hg8 HUX
  go_upto_if 69 with (fail)
  go_cut [17] (fun e wx => e = .int .i64 0 ∧ ∃ rz : AP, Hid (Bxs wx [(g1, XA, r1), (g2, XK, r2), (g3, XD, r3), (g4, XA, rz)]) ∧ Below w.heap.size w wx)
  case first =>
    by_cases hk0 : kk < 0
    · have HE1 := Lib.hid (HEA.out (by omega))
      obtain ⟨x0, x1, x2⟩ := (HB_wb4.out 2 _ _ _ rfl).cells
      obtain ⟨y0, y1, y2⟩ := (HB_wb4.out 1 _ _ _ rfl).cells
      go_wp2_with (go_at_call 23; (refine (HC2.out r3 r2 _ (HB_wb4.out 2 _ _ _ rfl).e (HB_wb4.out 1 _ _ _ rfl).e (HB_wb4.out 2 _ _ _ rfl).c (HB_wb4.out 1 _ _ _ rfl).c).mono ?_); rintro e wz ⟨rz, he, oz, bz⟩; obtain rfl : e = .returned (.tuple #[.agg #[.int .i64 XE.kind, .slice rz.A0 XE.sh.length rz.c0, .slice rz.A1 XE.el.length rz.c1], .int .i64 0]) := he; have OZ := Lib.hid oz; have BZ := Lib.hid bz; have KZ := Lib.hid (blk_up (HB_wb4.out 3 _ _ _ rfl).k bz); obtain ⟨z0, z1, z2⟩ := ((HB_wb4.out 3 _ _ _ rfl).up bz).cells; have f0 := KZ.out.frozen 0; have f1 := KZ.out.frozen 1; have f2 := KZ.out.frozen 2; clear oz bz)
      go_meet
      have hE := HE1.out
      subst hE
      have hk := arkeep_three wz g4 (.int .i64 XE.kind) (.slice rz.A0 XE.sh.length rz.c0) (.slice rz.A1 XE.el.length rz.c1)
      have hbz : Below wb3.heap.size wb3 wz := HBW8.out.trans (BZ.out.mono HBW8.out.size)
      have hbf : Below wb3.heap.size wb3 (((wz.setCell ⟨g4, 0, none⟩ (.int .i64 XE.kind)).setCell ⟨g4, 1, none⟩ (.slice rz.A0 XE.sh.length rz.c0)).setCell ⟨g4, 2, none⟩ (.slice rz.A1 XE.el.length rz.c1)) := hbz.trans (hk.below hbz.size (fun i hi e => by have := HG8.out; omega))
      refine ⟨rfl, rz, Lib.hid (Bxs.add (HB_wb3.out.up hbf) ⟨arblk_three _ _ _ KZ.out, (bx_own KZ.out OZ.out).el HF_XA.out.1 HF_XA.out.2.1 HF_XA.out.2.2, Cap.of OZ.out⟩), bon BW_wb3.out hbf⟩
    · have HE1 := Lib.hid (HCA.out (by omega))
      go_wp2
      go_meet
      have hE := HE1.out
      subst hE
      exact ⟨rfl, r4, HB_wb4, BW_wb4.out⟩
  case rest =>
    obtain ⟨rfl, rz, HB_wc, hbc⟩ := hcut
    have BW_wc := Lib.hid hbc
    clear HB_wb3 BW_wb3 HB_wb4 BW_wb4 HG8 HBW8 hbc HC1 HC2 HTK HDP HVL HCA HEA HF_XK HF_XD HF_XC
    obtain ⟨x0, x1, x2⟩ := (HB_wc.out 3 _ _ _ rfl).cells
    obtain ⟨y0, y1, y2⟩ := (HB_wc.out 0 _ _ _ rfl).cells
    go_upto_region 14 with (go_at_call 20; refine (l13is_yes XA rz r1 _ (HB_wc.out 3 _ _ _ rfl).e (HB_wc.out 0 _ _ _ rfl).e).mono ?_; rintro e wd ⟨rfl, bd⟩; have HB_wd := Lib.hid (HB_wc.out.up bd); have BW_wd := Lib.hid (bon BW_wc.out bd); clear bd)
    clear x0 x1 x2 y0 y1 y2 HB_wc BW_wc
    obtain ⟨hPd, hQd, hpdm, hqdm⟩ := HARI.out
    have HUX : BxU wd (lookU [(13, xh wd XP)]) := lookU_two (by
      intro x hx
      simp only [List.mem_cons, List.not_mem_nil, or_false] at hx
      rcases hx with rfl <;> first | exact xo_stk _ _ | exact slo_stk _ _ _ | exact sio_stk _ _ _ | exact xh_stk _ _ | exact xto_stk _ _ _)
    refine wp_region_doneT_on (ByS wd 14 15 19 XP) (bxR 14 [13] (lookU [(13, xh wd XP)]) [.slice A l.length c, .int .i64 (l.length : Int), .int .i64 (D : Int), .int .i64 (P : Int), .int .i64 (MP : Int), .slice A l.length c, .slice A l.length c, .int .i64 (l.length : Int), .int .i64 (D : Int), .int .i64 (P : Int), .int .i64 (D : Int), .int .i64 (PD : Int), .slice A PD c, undef, undef, undef]) (by kernel_rfl) 178 rfl (by kernel_rfl) ⟨(Below.refl _ _).drew, fun e => (by cases e), fun e => (by cases e)⟩ ?_ ?_
    · intro i hi
      have hi2 : i < 16 := hi
      clear hi
      rcases i with _ | i
      · refine by_value HUX rfl (by decide) (by decide) (by decide) 93 rfl (by decide) (.slice A l.length c) rfl ?_
        intro a8 w8 hb8 ho hn
        have o0 : a8.tmps[0]? = some _ := (ho 0 (by kernel_rfl)).trans rfl
        clear ho hn
        refine ⟨wanted_free rfl, ?_⟩
        go_simp
      rcases i with _ | i
      · refine by_value HUX rfl (by decide) (by decide) (by decide) 94 rfl (by decide) (.int .i64 (l.length : Int)) rfl ?_
        intro a8 w8 hb8 ho hn
        obtain ⟨v93, n93, hq93⟩ := hn 0 93 (by kernel_rfl) rfl
        obtain rfl := hq93.1 (by decide) (by decide)
        clear ho hn
        refine ⟨wanted_free rfl, ?_⟩
        go_simp
      rcases i with _ | i
      · refine by_value HUX rfl (by decide) (by decide) (by decide) 95 rfl (by decide) (.int .i64 (D : Int)) rfl ?_
        intro a8 w8 hb8 ho hn
        have o18 : a8.tmps[18]? = some _ := (ho 18 (by kernel_rfl)).trans rfl
        clear ho hn
        refine ⟨wanted_free rfl, ?_⟩
        go_simp
      rcases i with _ | i
      · refine by_value HUX rfl (by decide) (by decide) (by decide) 96 rfl (by decide) (.int .i64 (P : Int)) rfl ?_
        intro a8 w8 hb8 ho hn
        obtain ⟨v94, n94, hq94⟩ := hn 1 94 (by kernel_rfl) rfl
        obtain rfl := hq94.1 (by decide) (by decide)
        obtain ⟨v95, n95, hq95⟩ := hn 2 95 (by kernel_rfl) rfl
        obtain rfl := hq95.1 (by decide) (by decide)
        clear ho hn
        refine ⟨wanted_free rfl, ?_⟩
        have wq : IntKind.i64.wrap (P : Int) = (P : Int) := by rw [IntKind.wrap_i64]; omega
        have dz : ¬ D = 0 := by omega
        go_simp
      rcases i with _ | i
      · refine by_value HUX rfl (by decide) (by decide) (by decide) 97 rfl (by decide) (.int .i64 (MP : Int)) rfl ?_
        intro a8 w8 hb8 ho hn
        obtain ⟨v96, n96, hq96⟩ := hn 3 96 (by kernel_rfl) rfl
        obtain rfl := hq96.1 (by decide) (by decide)
        clear ho hn
        refine ⟨wanted_free rfl, ?_⟩
        go_simp
      rcases i with _ | i
      · refine by_value HUX rfl (by decide) (by decide) (by decide) 98 rfl (by decide) (.slice A l.length c) rfl ?_
        intro a8 w8 hb8 ho hn
        have o0 : a8.tmps[0]? = some _ := (ho 0 (by kernel_rfl)).trans rfl
        clear ho hn
        refine ⟨wanted_free rfl, ?_⟩
        go_simp
      rcases i with _ | i
      · refine by_value HUX rfl (by decide) (by decide) (by decide) 99 rfl (by decide) (.slice A l.length c) rfl ?_
        intro a8 w8 hb8 ho hn
        have o0 : a8.tmps[0]? = some _ := (ho 0 (by kernel_rfl)).trans rfl
        clear ho hn
        refine ⟨wanted_free rfl, ?_⟩
        go_simp
      rcases i with _ | i
      · refine by_value HUX rfl (by decide) (by decide) (by decide) 100 rfl (by decide) (.int .i64 (l.length : Int)) rfl ?_
        intro a8 w8 hb8 ho hn
        obtain ⟨v99, n99, hq99⟩ := hn 6 99 (by kernel_rfl) rfl
        obtain rfl := hq99.1 (by decide) (by decide)
        clear ho hn
        refine ⟨wanted_free rfl, ?_⟩
        go_simp
      rcases i with _ | i
      · refine by_value HUX rfl (by decide) (by decide) (by decide) 101 rfl (by decide) (.int .i64 (D : Int)) rfl ?_
        intro a8 w8 hb8 ho hn
        have o18 : a8.tmps[18]? = some _ := (ho 18 (by kernel_rfl)).trans rfl
        clear ho hn
        refine ⟨wanted_free rfl, ?_⟩
        go_simp
      rcases i with _ | i
      · refine by_value HUX rfl (by decide) (by decide) (by decide) 102 rfl (by decide) (.int .i64 (P : Int)) rfl ?_
        intro a8 w8 hb8 ho hn
        obtain ⟨v100, n100, hq100⟩ := hn 7 100 (by kernel_rfl) rfl
        obtain rfl := hq100.1 (by decide) (by decide)
        obtain ⟨v101, n101, hq101⟩ := hn 8 101 (by kernel_rfl) rfl
        obtain rfl := hq101.1 (by decide) (by decide)
        clear ho hn
        refine ⟨wanted_free rfl, ?_⟩
        have wq : IntKind.i64.wrap (P : Int) = (P : Int) := by rw [IntKind.wrap_i64]; omega
        have dz : ¬ D = 0 := by omega
        go_simp
      rcases i with _ | i
      · refine by_value HUX rfl (by decide) (by decide) (by decide) 103 rfl (by decide) (.int .i64 (D : Int)) rfl ?_
        intro a8 w8 hb8 ho hn
        have o18 : a8.tmps[18]? = some _ := (ho 18 (by kernel_rfl)).trans rfl
        clear ho hn
        refine ⟨wanted_free rfl, ?_⟩
        go_simp
      rcases i with _ | i
      · refine by_value HUX rfl (by decide) (by decide) (by decide) 104 rfl (by decide) (.int .i64 (PD : Int)) rfl ?_
        intro a8 w8 hb8 ho hn
        obtain ⟨v102, n102, hq102⟩ := hn 9 102 (by kernel_rfl) rfl
        obtain rfl := hq102.1 (by decide) (by decide)
        obtain ⟨v103, n103, hq103⟩ := hn 10 103 (by kernel_rfl) rfl
        obtain rfl := hq103.1 (by decide) (by decide)
        clear ho hn
        refine ⟨wanted_free rfl, ?_⟩
        have wq : IntKind.i64.wrap (PD : Int) = (PD : Int) := by rw [IntKind.wrap_i64]; omega
        go_simp
      rcases i with _ | i
      · refine by_value HUX rfl (by decide) (by decide) (by decide) 105 rfl (by decide) (.slice A PD c) rfl ?_
        intro a8 w8 hb8 ho hn
        obtain ⟨v98, n98, hq98⟩ := hn 5 98 (by kernel_rfl) rfl
        obtain rfl := hq98.1 (by decide) (by decide)
        obtain ⟨v104, n104, hq104⟩ := hn 11 104 (by kernel_rfl) rfl
        obtain rfl := hq104.1 (by decide) (by decide)
        clear ho hn
        refine ⟨wanted_free rfl, ?_⟩
        have hsl := HSP.out
        go_simp
      rcases i with _ | i
      · refine by_call HUX 19 rfl (by decide) (by decide) (by decide) 106 rfl (by decide) ?_
        intro a8 w8 hb8 ho hn
        obtain ⟨v97, n97, hq97⟩ := hn 4 97 (by kernel_rfl) rfl
        obtain rfl := hq97.1 (by decide) (by decide)
        obtain ⟨v105, n105, hq105⟩ := hn 12 105 (by kernel_rfl) rfl
        obtain rfl := hq105.1 (by decide) (by decide)
        clear ho hn
        refine ⟨wanted_free rfl, ?_⟩
        refine ⟨#[.int .i64 (MP : Int), .slice A PD c], (by go_simp), (HMP.out wd w8 BW_wd.out hb8).mono ?_⟩
        rintro e wz ⟨p_, rfl, o, b⟩
        exact ⟨_, rfl, b, p_, rfl, o⟩
      rcases i with _ | i
      · refine by_alloc HUX rfl (by decide) (by decide) rfl (.int .i64 0) (.slice none 0 0) (.slice none 0 0) ?_
        intro a8 w8 ho
        have o177 : a8.tmps[177]? = some _ := (ho 177 (by kernel_rfl)).trans rfl
        have hsz : 177 < a8.tmps.size := (Array.getElem?_eq_some_iff.1 o177).1
        refine ⟨by omega, wanted_free rfl, ?_⟩
        go_simp
      rcases i with _ | i
      · refine by_store HUX rfl rfl (by decide) (by decide) rfl (by kernel_rfl) rfl ?_
        intro a8 w8 g u0 u1 u2 hg n19 hn
        obtain ⟨v106, n106, hq106⟩ := hn 13 106 (by kernel_rfl) rfl
        have hv106 : xh wd XP v106 w8 := hq106.2 (by decide)
        clear hn
        refine ⟨wanted_free rfl, ?_⟩
        obtain ⟨r, rfl, o⟩ := hv106
        have x0 := hg.cell 0
        have x1 := hg.cell 1
        have x2 := hg.cell 2
        have f0 := hg.frozen 0
        have f1 := hg.frozen 1
        have f2 := hg.frozen 2
        refine ⟨r, o, ?_⟩
        rw [show arC XP r = #[.int .i64 XP.kind, .slice r.A0 XP.sh.length r.c0, .slice r.A1 XP.el.length r.c1] from rfl] at n106
        clear hg o
        go_simp
      omega
    intro dn fv wb5 hS5 hR5 hall
    obtain ⟨g5, e8, hg8, _, hfin⟩ := hS5.h (hall 14 (by decide))
    obtain ⟨r5, hb8, ho8⟩ := hfin (hall 15 (by decide))
    have hbw := hS5.b
    clear hS5 hR5 hall hfin
    simp only [putAll, List.foldl_cons, List.foldl_nil, Act.put, List.setIfInBounds_toArray, List.set_cons_succ, List.set_cons_zero, List.getElem?_toArray, List.getElem?_cons_succ, List.getElem?_cons_zero, Option.some.injEq] at e8 ⊢
    rw [e8]
    have HB_wb5 : Hid (Bxs wb5 [(g1, XA, r1), (g2, XK, r2), (g3, XD, r3), (g4, XA, rz), (g5, XP, r5)]) := Lib.hid (Bxs.add (HB_wd.out.up hbw) ⟨hb8, ho8.el hbw HF_XP.out.1 HF_XP.out.2.1 HF_XP.out.2.2, AHal.cap ho8⟩)
    have BW_wb5 := Lib.hid (bon BW_wd.out hbw)
    generalize fv 93 = u93
    generalize fv 94 = u94
    generalize fv 95 = u95
    generalize fv 96 = u96
    generalize fv 97 = u97
    generalize fv 98 = u98
    generalize fv 99 = u99
    generalize fv 100 = u100
    generalize fv 101 = u101
    generalize fv 102 = u102
    generalize fv 103 = u103
    generalize fv 104 = u104
    generalize fv 105 = u105
    generalize fv 106 = u106
    have SHP := Lib.hid ho8.o0
    clear hb8 ho8 hbw e8 hg8 HUX HB_wd BW_wd
    go_upto_region 15 with (fail)
    have HUX : BxU wb5 (lookU [(13, xh wb5 XQ)]) := lookU_two (by
      intro x hx
      simp only [List.mem_cons, List.not_mem_nil, or_false] at hx
      rcases hx with rfl <;> first | exact xo_stk _ _ | exact slo_stk _ _ _ | exact sio_stk _ _ _ | exact xh_stk _ _ | exact xto_stk _ _ _)
    refine wp_region_doneT_on (ByS wb5 14 15 20 XQ) (bxR 14 [13] (lookU [(13, xh wb5 XQ)]) [.slice B m.length d, .int .i64 (m.length : Int), .int .i64 (D : Int), .int .i64 (Q : Int), .int .i64 (MQ : Int), .slice B m.length d, .slice B m.length d, .int .i64 (m.length : Int), .int .i64 (D : Int), .int .i64 (Q : Int), .int .i64 (D : Int), .int .i64 (QD : Int), .slice B QD d, undef, undef, undef]) (by kernel_rfl) 178 rfl (by kernel_rfl) ⟨(Below.refl _ _).drew, fun e => (by cases e), fun e => (by cases e)⟩ ?_ ?_
    · intro i hi
      have hi2 : i < 16 := hi
      clear hi
      rcases i with _ | i
      · refine by_value HUX rfl (by decide) (by decide) (by decide) 107 rfl (by decide) (.slice B m.length d) rfl ?_
        intro a8 w8 hb8 ho hn
        have o1 : a8.tmps[1]? = some _ := (ho 1 (by kernel_rfl)).trans rfl
        clear ho hn
        refine ⟨wanted_free rfl, ?_⟩
        go_simp
      rcases i with _ | i
      · refine by_value HUX rfl (by decide) (by decide) (by decide) 108 rfl (by decide) (.int .i64 (m.length : Int)) rfl ?_
        intro a8 w8 hb8 ho hn
        obtain ⟨v107, n107, hq107⟩ := hn 0 107 (by kernel_rfl) rfl
        obtain rfl := hq107.1 (by decide) (by decide)
        clear ho hn
        refine ⟨wanted_free rfl, ?_⟩
        go_simp
      rcases i with _ | i
      · refine by_value HUX rfl (by decide) (by decide) (by decide) 109 rfl (by decide) (.int .i64 (D : Int)) rfl ?_
        intro a8 w8 hb8 ho hn
        have o18 : a8.tmps[18]? = some _ := (ho 18 (by kernel_rfl)).trans rfl
        clear ho hn
        refine ⟨wanted_free rfl, ?_⟩
        go_simp
      rcases i with _ | i
      · refine by_value HUX rfl (by decide) (by decide) (by decide) 110 rfl (by decide) (.int .i64 (Q : Int)) rfl ?_
        intro a8 w8 hb8 ho hn
        obtain ⟨v108, n108, hq108⟩ := hn 1 108 (by kernel_rfl) rfl
        obtain rfl := hq108.1 (by decide) (by decide)
        obtain ⟨v109, n109, hq109⟩ := hn 2 109 (by kernel_rfl) rfl
        obtain rfl := hq109.1 (by decide) (by decide)
        clear ho hn
        refine ⟨wanted_free rfl, ?_⟩
        have wq : IntKind.i64.wrap (Q : Int) = (Q : Int) := by rw [IntKind.wrap_i64]; omega
        have dz : ¬ D = 0 := by omega
        go_simp
      rcases i with _ | i
      · refine by_value HUX rfl (by decide) (by decide) (by decide) 111 rfl (by decide) (.int .i64 (MQ : Int)) rfl ?_
        intro a8 w8 hb8 ho hn
        obtain ⟨v110, n110, hq110⟩ := hn 3 110 (by kernel_rfl) rfl
        obtain rfl := hq110.1 (by decide) (by decide)
        clear ho hn
        refine ⟨wanted_free rfl, ?_⟩
        go_simp
      rcases i with _ | i
      · refine by_value HUX rfl (by decide) (by decide) (by decide) 112 rfl (by decide) (.slice B m.length d) rfl ?_
        intro a8 w8 hb8 ho hn
        have o1 : a8.tmps[1]? = some _ := (ho 1 (by kernel_rfl)).trans rfl
        clear ho hn
        refine ⟨wanted_free rfl, ?_⟩
        go_simp
      rcases i with _ | i
      · refine by_value HUX rfl (by decide) (by decide) (by decide) 113 rfl (by decide) (.slice B m.length d) rfl ?_
        intro a8 w8 hb8 ho hn
        have o1 : a8.tmps[1]? = some _ := (ho 1 (by kernel_rfl)).trans rfl
        clear ho hn
        refine ⟨wanted_free rfl, ?_⟩
        go_simp
      rcases i with _ | i
      · refine by_value HUX rfl (by decide) (by decide) (by decide) 114 rfl (by decide) (.int .i64 (m.length : Int)) rfl ?_
        intro a8 w8 hb8 ho hn
        obtain ⟨v113, n113, hq113⟩ := hn 6 113 (by kernel_rfl) rfl
        obtain rfl := hq113.1 (by decide) (by decide)
        clear ho hn
        refine ⟨wanted_free rfl, ?_⟩
        go_simp
      rcases i with _ | i
      · refine by_value HUX rfl (by decide) (by decide) (by decide) 115 rfl (by decide) (.int .i64 (D : Int)) rfl ?_
        intro a8 w8 hb8 ho hn
        have o18 : a8.tmps[18]? = some _ := (ho 18 (by kernel_rfl)).trans rfl
        clear ho hn
        refine ⟨wanted_free rfl, ?_⟩
        go_simp
      rcases i with _ | i
      · refine by_value HUX rfl (by decide) (by decide) (by decide) 116 rfl (by decide) (.int .i64 (Q : Int)) rfl ?_
        intro a8 w8 hb8 ho hn
        obtain ⟨v114, n114, hq114⟩ := hn 7 114 (by kernel_rfl) rfl
        obtain rfl := hq114.1 (by decide) (by decide)
        obtain ⟨v115, n115, hq115⟩ := hn 8 115 (by kernel_rfl) rfl
        obtain rfl := hq115.1 (by decide) (by decide)
        clear ho hn
        refine ⟨wanted_free rfl, ?_⟩
        have wq : IntKind.i64.wrap (Q : Int) = (Q : Int) := by rw [IntKind.wrap_i64]; omega
        have dz : ¬ D = 0 := by omega
        go_simp
      rcases i with _ | i
      · refine by_value HUX rfl (by decide) (by decide) (by decide) 117 rfl (by decide) (.int .i64 (D : Int)) rfl ?_
        intro a8 w8 hb8 ho hn
        have o18 : a8.tmps[18]? = some _ := (ho 18 (by kernel_rfl)).trans rfl
        clear ho hn
        refine ⟨wanted_free rfl, ?_⟩
        go_simp
      rcases i with _ | i
      · refine by_value HUX rfl (by decide) (by decide) (by decide) 118 rfl (by decide) (.int .i64 (QD : Int)) rfl ?_
        intro a8 w8 hb8 ho hn
        obtain ⟨v116, n116, hq116⟩ := hn 9 116 (by kernel_rfl) rfl
        obtain rfl := hq116.1 (by decide) (by decide)
        obtain ⟨v117, n117, hq117⟩ := hn 10 117 (by kernel_rfl) rfl
        obtain rfl := hq117.1 (by decide) (by decide)
        clear ho hn
        refine ⟨wanted_free rfl, ?_⟩
        have wq : IntKind.i64.wrap (QD : Int) = (QD : Int) := by rw [IntKind.wrap_i64]; omega
        go_simp
      rcases i with _ | i
      · refine by_value HUX rfl (by decide) (by decide) (by decide) 119 rfl (by decide) (.slice B QD d) rfl ?_
        intro a8 w8 hb8 ho hn
        obtain ⟨v112, n112, hq112⟩ := hn 5 112 (by kernel_rfl) rfl
        obtain rfl := hq112.1 (by decide) (by decide)
        obtain ⟨v118, n118, hq118⟩ := hn 11 118 (by kernel_rfl) rfl
        obtain rfl := hq118.1 (by decide) (by decide)
        clear ho hn
        refine ⟨wanted_free rfl, ?_⟩
        have hsl := HSQ.out
        go_simp
      rcases i with _ | i
      · refine by_call HUX 19 rfl (by decide) (by decide) (by decide) 120 rfl (by decide) ?_
        intro a8 w8 hb8 ho hn
        obtain ⟨v111, n111, hq111⟩ := hn 4 111 (by kernel_rfl) rfl
        obtain rfl := hq111.1 (by decide) (by decide)
        obtain ⟨v119, n119, hq119⟩ := hn 12 119 (by kernel_rfl) rfl
        obtain rfl := hq119.1 (by decide) (by decide)
        clear ho hn
        refine ⟨wanted_free rfl, ?_⟩
        refine ⟨#[.int .i64 (MQ : Int), .slice B QD d], (by go_simp), (HMQ.out wb5 w8 BW_wb5.out hb8).mono ?_⟩
        rintro e wz ⟨p_, rfl, o, b⟩
        exact ⟨_, rfl, b, p_, rfl, o⟩
      rcases i with _ | i
      · refine by_alloc HUX rfl (by decide) (by decide) rfl (.int .i64 0) (.slice none 0 0) (.slice none 0 0) ?_
        intro a8 w8 ho
        have o177 : a8.tmps[177]? = some _ := (ho 177 (by kernel_rfl)).trans rfl
        have hsz : 177 < a8.tmps.size := (Array.getElem?_eq_some_iff.1 o177).1
        refine ⟨by omega, wanted_free rfl, ?_⟩
        go_simp
      rcases i with _ | i
      · refine by_store HUX rfl rfl (by decide) (by decide) rfl (by kernel_rfl) rfl ?_
        intro a8 w8 g u0 u1 u2 hg n20 hn
        obtain ⟨v120, n120, hq120⟩ := hn 13 120 (by kernel_rfl) rfl
        have hv120 : xh wb5 XQ v120 w8 := hq120.2 (by decide)
        clear hn
        refine ⟨wanted_free rfl, ?_⟩
        obtain ⟨r, rfl, o⟩ := hv120
        have x0 := hg.cell 0
        have x1 := hg.cell 1
        have x2 := hg.cell 2
        have f0 := hg.frozen 0
        have f1 := hg.frozen 1
        have f2 := hg.frozen 2
        refine ⟨r, o, ?_⟩
        rw [show arC XQ r = #[.int .i64 XQ.kind, .slice r.A0 XQ.sh.length r.c0, .slice r.A1 XQ.el.length r.c1] from rfl] at n120
        clear hg o
        go_simp
      omega
    intro dn fv wb6 hS5 hR5 hall
    obtain ⟨g6, e8, hg8, _, hfin⟩ := hS5.h (hall 14 (by decide))
    obtain ⟨r6, hb8, ho8⟩ := hfin (hall 15 (by decide))
    have hbw := hS5.b
    clear hS5 hR5 hall hfin
    simp only [putAll, List.foldl_cons, List.foldl_nil, Act.put, List.setIfInBounds_toArray, List.set_cons_succ, List.set_cons_zero, List.getElem?_toArray, List.getElem?_cons_succ, List.getElem?_cons_zero, Option.some.injEq] at e8 ⊢
    rw [e8]
    have HB_wb6 : Hid (Bxs wb6 [(g1, XA, r1), (g2, XK, r2), (g3, XD, r3), (g4, XA, rz), (g5, XP, r5), (g6, XQ, r6)]) := Lib.hid (Bxs.add (HB_wb5.out.up hbw) ⟨hb8, ho8.el hbw HF_XQ.out.1 HF_XQ.out.2.1 HF_XQ.out.2.2, AHal.cap ho8⟩)
    have BW_wb6 := Lib.hid (bon BW_wb5.out hbw)
    generalize fv 107 = u107
    generalize fv 108 = u108
    generalize fv 109 = u109
    generalize fv 110 = u110
    generalize fv 111 = u111
    generalize fv 112 = u112
    generalize fv 113 = u113
    generalize fv 114 = u114
    generalize fv 115 = u115
    generalize fv 116 = u116
    generalize fv 117 = u117
    generalize fv 118 = u118
    generalize fv 119 = u119
    generalize fv 120 = u120
    have SHQ := Lib.hid ho8.o0
    clear hb8 ho8 hbw e8 hg8 HUX HB_wb5 BW_wb5
    have bp := (HB_wb6.out 4 _ _ _ rfl).cells
    have bq := (HB_wb6.out 5 _ _ _ rfl).cells
    obtain ⟨x0, x1, x2⟩ := bp
    obtain ⟨y0, y1, y2⟩ := bq
    rw [hXPl] at x2
    rw [hXQl] at y2
    by_cases hp0 : PD = 0
    · have q1 : ((PD : Int) == 0) = true := beq_iff_eq.2 (by omega)
      go_wp2
      go_ret
      exact ⟨rfl, BW_wb6.out⟩
    have q1 : ((PD : Int) == 0) = false := beq_eq_false_iff_ne.2 (by omega)
    by_cases hq0 : QD = 0
    · have q2 : ((QD : Int) == 0) = true := beq_iff_eq.2 (by omega)
      go_wp2
      go_ret
      exact ⟨rfl, BW_wb6.out⟩
    have q2 : ((QD : Int) == 0) = false := beq_eq_false_iff_ne.2 (by omega)
    go_upto_region 18 with (fail)
    obtain ⟨e1, e2, e3, e4, e5, p0, q0⟩ := HROWS.out (by omega) (by omega)
    obtain ⟨hlt, hmt⟩ := HLT.out
    obtain ⟨hPDm, hQDm⟩ := HPD.out
    have hL1 : (l.take PD).length = D * P := by rw [hlt, ← hPDm, Nat.mul_comm]
    have hM1 : (m.take QD).length = D * Q := by rw [hmt, ← hQDm, Nat.mul_comm]
    obtain ⟨ca1, ca2⟩ := cat_rows (l := l.take PD) (m := m.take QD) (d := D) (by omega) p0 q0 (show P + Q ≤ 4096 by omega) e5 hL1 hM1
    obtain ⟨ct1, ct2⟩ := take_rows (Q := Q) (m := m.take QD) (show D ≤ 4096 by omega) p0 (show P + Q ≤ 4096 by omega) e5 hL1
    obtain ⟨cd1, cd2⟩ := drop_rows (P := P) (l := l.take PD) (show D ≤ 4096 by omega) q0 (show P + Q ≤ 4096 by omega) e5 hM1
    rw [← e3, ← e4] at ca1 ca2
    rw [← e3] at ct2
    rw [← e4] at cd2
    obtain ⟨XW, hXW⟩ : ∃ X, rowA D (P + Q) (rowsL P Q D (l.take PD) (m.take QD)) = X := ⟨_, rfl⟩
    rw [hXW] at ca2 ct1 ct2 cd1 cd2
    have HF_XW : Hid (XW.sh.length ≤ 9223372036854775807 ∧ XW.el.length ≤ 9223372036854775807 ∧ Fine XW) := Lib.hid (hXW ▸ row_fine _ _ _ (by rw [rows_len]; omega) (fun z hz => by
      rcases rows_mem hz with h | h | h
      · omega
      · exact HFT.out.1 z h
      · exact HFT.out.2 z h))
    have HCW : Hid (∀ p q W, AEl W XP p → AEl W XQ q → Cap XP p → Cap XQ q → Calls Try.prog 23 #[.agg (arC XP p), .agg (arC XQ q)] W (GiveE XW 0 W)) := Lib.hid (fun p q W h1 h2 c1 c2 => by
      have h := mocat_any XP XQ p q W h1 h2 c1 c2
      rwa [ca1, ca2] at h)
    have HTW : Hid (∀ p q W, AEl W (vecA [(D : Int), (P : Int)]) p → AEl W XW q → Calls Try.prog 21 #[.agg (arC (vecA [(D : Int), (P : Int)]) p), .agg (arC XW q)] W (GiveE XP 0 W)) := Lib.hid (fun p q W h1 h2 => by
      have h := motake_any _ XW p q W h1 h2
      rwa [ct1, ct2] at h)
    have HDW : Hid (∀ p q W, AEl W (vecA [0, (P : Int)]) p → AEl W XW q → Calls Try.prog 22 #[.agg (arC (vecA [0, (P : Int)]) p), .agg (arC XW q)] W (GiveE XQ 0 W)) := Lib.hid (fun p q W h1 h2 => by
      have h := modrop_any _ XW p q W h1 h2
      rwa [cd1, cd2] at h)
    have hsh2 : XP.sh.length = 2 := by rw [e3]; rfl
    have hsh3 : XP.sh = [(D : Int), (P : Int)] := by rw [e3]; rfl
    obtain ⟨gs, hgs⟩ := own_from SHP.out (show 0 < XP.sh.length by rw [hsh2]; decide)
    have HSC : Hid (∀ W, Below wb6.heap.size wb6 W → W.cell? ⟨gs, 1, none⟩ = some (.int .i64 (P : Int))) := Lib.hid (fun W hb => by
      have h := ((HB_wb6.out.up hb) 4 _ _ _ rfl).e.r0
      rw [hgs, hsh3] at h
      obtain ⟨ad, e, _, hc⟩ := h.2 (by simp)
      injection e with e
      subst e
      exact hc 1 (.int .i64 (P : Int)) rfl)
    have HGS := Lib.hid hgs
    clear x0 x1 x2 y0 y1 y2 ca1 ca2 ct1 ct2 cd1 cd2 hXW e3 e4 hL1 hM1 hlt hmt hPDm hQDm HROWS HLT HPD HMP HMQ HSP HSQ hgs hsh3 SHP SHQ hXPl hXQl
    have HUX : BxU wb6 (lookU [(2, xto wb6 XW 0), (3, xto wb6 XW 0), (4, xo wb6 XW)]) := lookU_two (by
      intro x hx
      simp only [List.mem_cons, List.not_mem_nil, or_false] at hx
      rcases hx with rfl | rfl | rfl <;> first | exact xo_stk _ _ | exact slo_stk _ _ _ | exact sio_stk _ _ _ | exact xh_stk _ _ | exact xto_stk _ _ _)
    refine wp_region_offT_on (BxS wb6 6 7 21 XW) (bxR 6 [2, 3, 4] (lookU [(2, xto wb6 XW 0), (3, xto wb6 XW 0), (4, xo wb6 XW)]) [.agg #[.int .i64 XP.kind, .slice r5.A0 XP.sh.length r5.c0, .slice r5.A1 XP.el.length r5.c1], .agg #[.int .i64 XQ.kind, .slice r6.A0 XQ.sh.length r6.c0, .slice r6.A1 XQ.el.length r6.c1], undef, undef, undef, .int .i64 0, undef, undef, .int .i64 0]) (by kernel_rfl) 178 rfl (by kernel_rfl) ⟨Below.refl _ _, fun e => (by cases e), fun e => (by cases e)⟩ ?_ ?_
    · intro i hi
      have hi2 : i < 9 := hi
      clear hi
      rcases i with _ | i
      · refine bx_value HUX rfl (by decide) (by decide) (by decide) 133 rfl (by decide) (.agg #[.int .i64 XP.kind, .slice r5.A0 XP.sh.length r5.c0, .slice r5.A1 XP.el.length r5.c1]) rfl ?_
        intro a8 w8 hb8 ho hn
        have o19 : a8.tmps[19]? = some _ := (ho 19 (by kernel_rfl)).trans rfl
        clear ho hn
        refine ⟨wanted_free rfl, ?_⟩
        obtain ⟨x0, x1, x2⟩ := (((HB_wb6.out.up hb8) 4 _ _ _ rfl)).cells
        go_simp
      rcases i with _ | i
      · refine bx_value HUX rfl (by decide) (by decide) (by decide) 134 rfl (by decide) (.agg #[.int .i64 XQ.kind, .slice r6.A0 XQ.sh.length r6.c0, .slice r6.A1 XQ.el.length r6.c1]) rfl ?_
        intro a8 w8 hb8 ho hn
        have o20 : a8.tmps[20]? = some _ := (ho 20 (by kernel_rfl)).trans rfl
        clear ho hn
        refine ⟨wanted_free rfl, ?_⟩
        obtain ⟨x0, x1, x2⟩ := (((HB_wb6.out.up hb8) 5 _ _ _ rfl)).cells
        go_simp
      rcases i with _ | i
      · refine bx_call HUX 23 rfl (by decide) (by decide) (by decide) 135 rfl (by decide) ?_
        intro a8 w8 hb8 ho hn
        obtain ⟨v133, n133, hq133⟩ := hn 0 133 (by kernel_rfl) rfl
        obtain rfl := hq133.1 (by decide) (by decide)
        obtain ⟨v134, n134, hq134⟩ := hn 1 134 (by kernel_rfl) rfl
        obtain rfl := hq134.1 (by decide) (by decide)
        clear ho hn
        refine ⟨wanted_free rfl, ?_⟩
        refine ⟨#[.agg #[.int .i64 XP.kind, .slice r5.A0 XP.sh.length r5.c0, .slice r5.A1 XP.el.length r5.c1], .agg #[.int .i64 XQ.kind, .slice r6.A0 XQ.sh.length r6.c0, .slice r6.A1 XQ.el.length r6.c1]], (by go_simp), (HCW.out r5 r6 w8 ((HB_wb6.out.up hb8) 4 _ _ _ rfl).e ((HB_wb6.out.up hb8) 5 _ _ _ rfl).e ((HB_wb6.out.up hb8) 4 _ _ _ rfl).c ((HB_wb6.out.up hb8) 5 _ _ _ rfl).c).mono ?_⟩
        rintro e wz ⟨r, rfl, o9, b9⟩
        exact ⟨_, rfl, b9, r, rfl, o9.mono hb8.size⟩
      rcases i with _ | i
      · refine bx_make HUX rfl (by decide) (by decide) (by decide) 132 rfl (by decide) ?_
        intro a8 w8 hb8 ho hn
        obtain ⟨v135, n135, hq135⟩ := hn 2 135 (by kernel_rfl) rfl
        have hv135 : xto wb6 XW 0 v135 w8 := hq135.2 (by decide)
        clear ho hn
        refine ⟨wanted_free rfl, ?_⟩
        exact ⟨v135, w8, (by go_simp), Below.refl _ _, hv135⟩
      rcases i with _ | i
      · refine bx_make HUX rfl (by decide) (by decide) (by decide) 136 rfl (by decide) ?_
        intro a8 w8 hb8 ho hn
        obtain ⟨v132, n132, hq132⟩ := hn 3 132 (by kernel_rfl) rfl
        have hv132 : xto wb6 XW 0 v132 w8 := hq132.2 (by decide)
        clear ho hn
        refine ⟨wanted_free rfl, ?_⟩
        obtain ⟨p_, rfl, o⟩ := hv132
        exact ⟨.agg (arC XW p_), w8, (by go_simp), Below.refl _ _, p_, rfl, o⟩
      rcases i with _ | i
      · refine bx_value HUX rfl (by decide) (by decide) (by decide) 137 rfl (by decide) (.int .i64 0) rfl ?_
        intro a8 w8 hb8 ho hn
        obtain ⟨v132, n132, hq132⟩ := hn 3 132 (by kernel_rfl) rfl
        have hv132 : xto wb6 XW 0 v132 w8 := hq132.2 (by decide)
        clear ho hn
        refine ⟨wanted_free rfl, ?_⟩
        obtain ⟨p_, rfl, o⟩ := hv132
        go_simp
      rcases i with _ | i
      · refine bx_alloc HUX rfl (by decide) (by decide) rfl (.int .i64 0) (.slice none 0 0) (.slice none 0 0) ?_
        intro a8 w8 ho
        have o177 : a8.tmps[177]? = some _ := (ho 177 (by kernel_rfl)).trans rfl
        have hsz : 177 < a8.tmps.size := (Array.getElem?_eq_some_iff.1 o177).1
        refine ⟨by omega, wanted_free rfl, ?_⟩
        go_simp
      rcases i with _ | i
      · refine bx_store HUX rfl rfl (by decide) (by decide) rfl (by kernel_rfl) rfl ?_
        intro a8 w8 g u0 u1 u2 hg n21 hn
        obtain ⟨v136, n136, hq136⟩ := hn 4 136 (by kernel_rfl) rfl
        have hv136 : xo wb6 XW v136 w8 := hq136.2 (by decide)
        clear hn
        refine ⟨wanted_free rfl, ?_⟩
        obtain ⟨r, rfl, o⟩ := hv136
        have x0 := hg.cell 0
        have x1 := hg.cell 1
        have x2 := hg.cell 2
        have f0 := hg.frozen 0
        have f1 := hg.frozen 1
        have f2 := hg.frozen 2
        refine ⟨r, o, ?_⟩
        rw [show arC XW r = #[.int .i64 XW.kind, .slice r.A0 XW.sh.length r.c0, .slice r.A1 XW.el.length r.c1] from rfl] at n136
        clear hg o
        go_simp
      rcases i with _ | i
      · refine bx_value HUX rfl (by decide) (by decide) (by decide) 22 rfl (by decide) (.int .i64 0) rfl ?_
        intro a8 w8 hb8 ho hn
        obtain ⟨v137, n137, hq137⟩ := hn 5 137 (by kernel_rfl) rfl
        obtain rfl := hq137.1 (by decide) (by decide)
        clear ho hn
        refine ⟨wanted_free rfl, ?_⟩
        go_simp
      omega
    intro dn fv wb7 hS5 hR5 hall
    obtain ⟨g7, e8, hg8, _, hfin⟩ := hS5.h (hall 6 (by decide))
    obtain ⟨r7, hb8, ho8⟩ := hfin (hall 7 (by decide))
    have hbw := hS5.b
    have h48 : fv 22 = .int .i64 0 := (hR5 8 22 rfl).1 (by decide) (by decide)
    clear hS5 hR5 hall hfin
    simp only [putAll, List.foldl_cons, List.foldl_nil, Act.put, List.setIfInBounds_toArray, List.set_cons_succ, List.set_cons_zero, List.getElem?_toArray, List.getElem?_cons_succ, List.getElem?_cons_zero, Option.some.injEq] at e8 ⊢
    rw [e8, h48]
    have HB_wb7 : Hid (Bxs wb7 [(g1, XA, r1), (g2, XK, r2), (g3, XD, r3), (g4, XA, rz), (g5, XP, r5), (g6, XQ, r6), (g7, XW, r7)]) := Lib.hid (Bxs.add (HB_wb6.out.up hbw) ⟨hb8, ho8.el HF_XW.out.1 HF_XW.out.2.1 HF_XW.out.2.2, Cap.of ho8⟩)
    have BW_wb7 := Lib.hid (bon BW_wb6.out hbw)
    generalize fv 133 = u133
    generalize fv 134 = u134
    generalize fv 135 = u135
    generalize fv 132 = u132
    generalize fv 136 = u136
    generalize fv 137 = u137
    have BV_wb7 : Hid (Below wb6.heap.size wb6 wb7) := Lib.hid (hbw)
    clear hb8 ho8 hbw e8 h48 hg8 HUX HB_wb6 BW_wb6
    go_upto_region 19 with (fail)
    have HUX : BxU wb7 (lookU [(5, slo wb7 2 #[.int .i64 (D : Int), .int .i64 (P : Int)]), (6, xo wb7 (vecA [(D : Int), (P : Int)])), (8, xto wb7 XP 0), (9, xto wb7 XP 0), (10, xo wb7 XP)]) := lookU_two (by
      intro x hx
      simp only [List.mem_cons, List.not_mem_nil, or_false] at hx
      rcases hx with rfl | rfl | rfl | rfl | rfl <;> first | exact xo_stk _ _ | exact slo_stk _ _ _ | exact sio_stk _ _ _ | exact xh_stk _ _ | exact xto_stk _ _ _)
    refine wp_region_doneT_on (BxS wb7 12 13 23 XP) (bxR 12 [5, 6, 8, 9, 10] (lookU [(5, slo wb7 2 #[.int .i64 (D : Int), .int .i64 (P : Int)]), (6, xo wb7 (vecA [(D : Int), (P : Int)])), (8, xto wb7 XP 0), (9, xto wb7 XP 0), (10, xo wb7 XP)]) [.int .i64 (D : Int), .pointer (some ⟨g5, 1, none⟩), .slice (some ⟨gs, 0, none⟩) 2 r5.c0, .pointer (some ⟨gs, 1, none⟩), .int .i64 (P : Int), undef, undef, .agg #[.int .i64 XW.kind, .slice r7.A0 XW.sh.length r7.c0, .slice r7.A1 XW.el.length r7.c1], undef, undef, undef, .int .i64 0, undef, undef, .int .i64 0]) (by kernel_rfl) 178 rfl (by kernel_rfl) ⟨(Below.refl _ _).drew, fun e => (by cases e), fun e => (by cases e)⟩ ?_ ?_
    · intro i hi
      have hi2 : i < 15 := hi
      clear hi
      rcases i with _ | i
      · refine bx_value HUX rfl (by decide) (by decide) (by decide) 139 rfl (by decide) (.int .i64 (D : Int)) rfl ?_
        intro a8 w8 hb8 ho hn
        have o18 : a8.tmps[18]? = some _ := (ho 18 (by kernel_rfl)).trans rfl
        clear ho hn
        refine ⟨wanted_free rfl, ?_⟩
        go_simp
      rcases i with _ | i
      · refine bx_value HUX rfl (by decide) (by decide) (by decide) 140 rfl (by decide) (.pointer (some ⟨g5, 1, none⟩)) rfl ?_
        intro a8 w8 hb8 ho hn
        have o19 : a8.tmps[19]? = some _ := (ho 19 (by kernel_rfl)).trans rfl
        clear ho hn
        refine ⟨wanted_free rfl, ?_⟩
        go_simp
      rcases i with _ | i
      · refine bx_value HUX rfl (by decide) (by decide) (by decide) 141 rfl (by decide) (.slice (some ⟨gs, 0, none⟩) 2 r5.c0) rfl ?_
        intro a8 w8 hb8 ho hn
        obtain ⟨v140, n140, hq140⟩ := hn 1 140 (by kernel_rfl) rfl
        obtain rfl := hq140.1 (by decide) (by decide)
        clear ho hn
        refine ⟨wanted_free rfl, ?_⟩
        have x := (((HB_wb7.out.up hb8) 4 _ _ _ rfl)).cells.2.1
        rw [HGS.out, hsh2] at x
        go_simp
      rcases i with _ | i
      · refine bx_value HUX rfl (by decide) (by decide) (by decide) 142 rfl (by decide) (.pointer (some ⟨gs, 1, none⟩)) rfl ?_
        intro a8 w8 hb8 ho hn
        obtain ⟨v141, n141, hq141⟩ := hn 2 141 (by kernel_rfl) rfl
        obtain rfl := hq141.1 (by decide) (by decide)
        clear ho hn
        refine ⟨wanted_free rfl, ?_⟩
        go_simp
      rcases i with _ | i
      · refine bx_value HUX rfl (by decide) (by decide) (by decide) 143 rfl (by decide) (.int .i64 (P : Int)) rfl ?_
        intro a8 w8 hb8 ho hn
        obtain ⟨v142, n142, hq142⟩ := hn 3 142 (by kernel_rfl) rfl
        obtain rfl := hq142.1 (by decide) (by decide)
        clear ho hn
        refine ⟨wanted_free rfl, ?_⟩
        have x := HSC.out w8 (bon BV_wb7.out hb8)
        go_simp
      rcases i with _ | i
      · refine bx_make HUX rfl (by decide) (by decide) (by decide) 144 rfl (by decide) ?_
        intro a8 w8 hb8 ho hn
        obtain ⟨v139, n139, hq139⟩ := hn 0 139 (by kernel_rfl) rfl
        obtain rfl := hq139.1 (by decide) (by decide)
        obtain ⟨v143, n143, hq143⟩ := hn 4 143 (by kernel_rfl) rfl
        obtain rfl := hq143.1 (by decide) (by decide)
        clear ho hn
        refine ⟨wanted_free rfl, ?_⟩
        exact ⟨.slice (some ⟨w8.heap.size, 0, none⟩) 2 2, w8.alloc (.cells #[.int .i64 (D : Int), .int .i64 (P : Int)] 2), (by go_simp), albel _ _, w8.heap.size, rfl, hb8.size, Blk.new w8 _ _⟩
      rcases i with _ | i
      · refine bx_call HUX 18 rfl (by decide) (by decide) (by decide) 145 rfl (by decide) ?_
        intro a8 w8 hb8 ho hn
        obtain ⟨v144, n144, hq144⟩ := hn 5 144 (by kernel_rfl) rfl
        have hv144 : slo wb7 2 #[.int .i64 (D : Int), .int .i64 (P : Int)] v144 w8 := hq144.2 (by decide)
        clear ho hn
        refine ⟨wanted_free rfl, ?_⟩
        obtain ⟨g, rfl, _, hg⟩ := hv144
        refine ⟨#[.slice (some ⟨g, 0, none⟩) 2 2], (by go_simp), (vec_lit [(D : Int), (P : Int)] (by simp) _ 2 2 w8 rfl (reads_blk hg rfl)).mono ?_⟩
        rintro e wz ⟨p_, rfl, o, b⟩
        exact ⟨_, rfl, b, p_, rfl, o.mono hb8.size⟩
      rcases i with _ | i
      · refine bx_value HUX rfl (by decide) (by decide) (by decide) 146 rfl (by decide) (.agg #[.int .i64 XW.kind, .slice r7.A0 XW.sh.length r7.c0, .slice r7.A1 XW.el.length r7.c1]) rfl ?_
        intro a8 w8 hb8 ho hn
        have o21 : a8.tmps[21]? = some _ := (ho 21 (by kernel_rfl)).trans rfl
        clear ho hn
        refine ⟨wanted_free rfl, ?_⟩
        obtain ⟨x0, x1, x2⟩ := (((HB_wb7.out.up hb8) 6 _ _ _ rfl)).cells
        go_simp
      rcases i with _ | i
      · refine bx_call HUX 21 rfl (by decide) (by decide) (by decide) 147 rfl (by decide) ?_
        intro a8 w8 hb8 ho hn
        obtain ⟨v145, n145, hq145⟩ := hn 6 145 (by kernel_rfl) rfl
        have hv145 : xo wb7 (vecA [(D : Int), (P : Int)]) v145 w8 := hq145.2 (by decide)
        obtain ⟨v146, n146, hq146⟩ := hn 7 146 (by kernel_rfl) rfl
        obtain rfl := hq146.1 (by decide) (by decide)
        clear ho hn
        refine ⟨wanted_free rfl, ?_⟩
        obtain ⟨q145_, rfl, o145_⟩ := hv145
        refine ⟨#[.agg (arC (vecA [(D : Int), (P : Int)]) q145_), .agg #[.int .i64 XW.kind, .slice r7.A0 XW.sh.length r7.c0, .slice r7.A1 XW.el.length r7.c1]], (by go_simp), (HTW.out q145_ r7 w8 (o145_.el (by simp [vecA]) (by simp [vecA]) (fun z hz => (List.mem_cons.1 hz).elim (fun h => by omega) (fun h => by rw [List.mem_singleton] at h; omega))) ((HB_wb7.out.up hb8) 6 _ _ _ rfl).e).mono ?_⟩
        rintro e wz ⟨r, rfl, o9, b9⟩
        exact ⟨_, rfl, b9, r, rfl, o9.mono hb8.size⟩
      rcases i with _ | i
      · refine bx_make HUX rfl (by decide) (by decide) (by decide) 138 rfl (by decide) ?_
        intro a8 w8 hb8 ho hn
        obtain ⟨v147, n147, hq147⟩ := hn 8 147 (by kernel_rfl) rfl
        have hv147 : xto wb7 XP 0 v147 w8 := hq147.2 (by decide)
        clear ho hn
        refine ⟨wanted_free rfl, ?_⟩
        exact ⟨v147, w8, (by go_simp), Below.refl _ _, hv147⟩
      rcases i with _ | i
      · refine bx_make HUX rfl (by decide) (by decide) (by decide) 148 rfl (by decide) ?_
        intro a8 w8 hb8 ho hn
        obtain ⟨v138, n138, hq138⟩ := hn 9 138 (by kernel_rfl) rfl
        have hv138 : xto wb7 XP 0 v138 w8 := hq138.2 (by decide)
        clear ho hn
        refine ⟨wanted_free rfl, ?_⟩
        obtain ⟨p_, rfl, o⟩ := hv138
        exact ⟨.agg (arC XP p_), w8, (by go_simp), Below.refl _ _, p_, rfl, o⟩
      rcases i with _ | i
      · refine bx_value HUX rfl (by decide) (by decide) (by decide) 149 rfl (by decide) (.int .i64 0) rfl ?_
        intro a8 w8 hb8 ho hn
        obtain ⟨v138, n138, hq138⟩ := hn 9 138 (by kernel_rfl) rfl
        have hv138 : xto wb7 XP 0 v138 w8 := hq138.2 (by decide)
        clear ho hn
        refine ⟨wanted_free rfl, ?_⟩
        obtain ⟨p_, rfl, o⟩ := hv138
        go_simp
      rcases i with _ | i
      · refine bx_alloc HUX rfl (by decide) (by decide) rfl (.int .i64 0) (.slice none 0 0) (.slice none 0 0) ?_
        intro a8 w8 ho
        have o177 : a8.tmps[177]? = some _ := (ho 177 (by kernel_rfl)).trans rfl
        have hsz : 177 < a8.tmps.size := (Array.getElem?_eq_some_iff.1 o177).1
        refine ⟨by omega, wanted_free rfl, ?_⟩
        go_simp
      rcases i with _ | i
      · refine bx_store HUX rfl rfl (by decide) (by decide) rfl (by kernel_rfl) rfl ?_
        intro a8 w8 g u0 u1 u2 hg n23 hn
        obtain ⟨v148, n148, hq148⟩ := hn 10 148 (by kernel_rfl) rfl
        have hv148 : xo wb7 XP v148 w8 := hq148.2 (by decide)
        clear hn
        refine ⟨wanted_free rfl, ?_⟩
        obtain ⟨r, rfl, o⟩ := hv148
        have x0 := hg.cell 0
        have x1 := hg.cell 1
        have x2 := hg.cell 2
        have f0 := hg.frozen 0
        have f1 := hg.frozen 1
        have f2 := hg.frozen 2
        refine ⟨r, o, ?_⟩
        rw [show arC XP r = #[.int .i64 XP.kind, .slice r.A0 XP.sh.length r.c0, .slice r.A1 XP.el.length r.c1] from rfl] at n148
        clear hg o
        go_simp
      rcases i with _ | i
      · refine bx_value HUX rfl (by decide) (by decide) (by decide) 24 rfl (by decide) (.int .i64 0) rfl ?_
        intro a8 w8 hb8 ho hn
        obtain ⟨v149, n149, hq149⟩ := hn 11 149 (by kernel_rfl) rfl
        obtain rfl := hq149.1 (by decide) (by decide)
        clear ho hn
        refine ⟨wanted_free rfl, ?_⟩
        go_simp
      omega
    intro dn fv wb8 hS5 hR5 hall
    obtain ⟨g8, e8, hg8, _, hfin⟩ := hS5.h (hall 12 (by decide))
    obtain ⟨r8, hb8, ho8⟩ := hfin (hall 13 (by decide))
    have hbw := hS5.b
    have h48 : fv 24 = .int .i64 0 := (hR5 14 24 rfl).1 (by decide) (by decide)
    clear hS5 hR5 hall hfin
    simp only [putAll, List.foldl_cons, List.foldl_nil, Act.put, List.setIfInBounds_toArray, List.set_cons_succ, List.set_cons_zero, List.getElem?_toArray, List.getElem?_cons_succ, List.getElem?_cons_zero, Option.some.injEq] at e8 ⊢
    rw [e8, h48]
    have HB_wb8 : Hid (Bxs wb8 [(g1, XA, r1), (g2, XK, r2), (g3, XD, r3), (g4, XA, rz), (g5, XP, r5), (g6, XQ, r6), (g7, XW, r7), (g8, XP, r8)]) := Lib.hid (Bxs.add (HB_wb7.out.up hbw) ⟨hb8, ho8.el HF_XP.out.1 HF_XP.out.2.1 HF_XP.out.2.2, Cap.of ho8⟩)
    have BW_wb8 := Lib.hid (bon BW_wb7.out hbw)
    generalize fv 139 = u139
    generalize fv 140 = u140
    generalize fv 141 = u141
    generalize fv 142 = u142
    generalize fv 143 = u143
    generalize fv 144 = u144
    generalize fv 145 = u145
    generalize fv 146 = u146
    generalize fv 147 = u147
    generalize fv 138 = u138
    generalize fv 148 = u148
    generalize fv 149 = u149
    have BV_wb8 : Hid (Below wb6.heap.size wb6 wb8) := Lib.hid (bon BV_wb7.out hbw)
    clear hb8 ho8 hbw e8 h48 hg8 HUX HB_wb7 BW_wb7
    go_upto_region 20 with (fail)
    have HUX : BxU wb8 (lookU [(4, slo wb8 2 #[.int .i64 0, .int .i64 (P : Int)]), (5, xo wb8 (vecA [0, (P : Int)])), (7, xto wb8 XQ 0), (8, xto wb8 XQ 0), (9, xo wb8 XQ)]) := lookU_two (by
      intro x hx
      simp only [List.mem_cons, List.not_mem_nil, or_false] at hx
      rcases hx with rfl | rfl | rfl | rfl | rfl <;> first | exact xo_stk _ _ | exact slo_stk _ _ _ | exact sio_stk _ _ _ | exact xh_stk _ _ | exact xto_stk _ _ _)
    refine wp_region_doneT_on (BxS wb8 11 12 25 XQ) (bxR 11 [4, 5, 7, 8, 9] (lookU [(4, slo wb8 2 #[.int .i64 0, .int .i64 (P : Int)]), (5, xo wb8 (vecA [0, (P : Int)])), (7, xto wb8 XQ 0), (8, xto wb8 XQ 0), (9, xo wb8 XQ)]) [.pointer (some ⟨g5, 1, none⟩), .slice (some ⟨gs, 0, none⟩) 2 r5.c0, .pointer (some ⟨gs, 1, none⟩), .int .i64 (P : Int), undef, undef, .agg #[.int .i64 XW.kind, .slice r7.A0 XW.sh.length r7.c0, .slice r7.A1 XW.el.length r7.c1], undef, undef, undef, .int .i64 0, undef, undef, .int .i64 0]) (by kernel_rfl) 178 rfl (by kernel_rfl) ⟨(Below.refl _ _).drew, fun e => (by cases e), fun e => (by cases e)⟩ ?_ ?_
    · intro i hi
      have hi2 : i < 14 := hi
      clear hi
      rcases i with _ | i
      · refine bx_value HUX rfl (by decide) (by decide) (by decide) 151 rfl (by decide) (.pointer (some ⟨g5, 1, none⟩)) rfl ?_
        intro a8 w8 hb8 ho hn
        have o19 : a8.tmps[19]? = some _ := (ho 19 (by kernel_rfl)).trans rfl
        clear ho hn
        refine ⟨wanted_free rfl, ?_⟩
        go_simp
      rcases i with _ | i
      · refine bx_value HUX rfl (by decide) (by decide) (by decide) 152 rfl (by decide) (.slice (some ⟨gs, 0, none⟩) 2 r5.c0) rfl ?_
        intro a8 w8 hb8 ho hn
        obtain ⟨v151, n151, hq151⟩ := hn 0 151 (by kernel_rfl) rfl
        obtain rfl := hq151.1 (by decide) (by decide)
        clear ho hn
        refine ⟨wanted_free rfl, ?_⟩
        have x := (((HB_wb8.out.up hb8) 4 _ _ _ rfl)).cells.2.1
        rw [HGS.out, hsh2] at x
        go_simp
      rcases i with _ | i
      · refine bx_value HUX rfl (by decide) (by decide) (by decide) 153 rfl (by decide) (.pointer (some ⟨gs, 1, none⟩)) rfl ?_
        intro a8 w8 hb8 ho hn
        obtain ⟨v152, n152, hq152⟩ := hn 1 152 (by kernel_rfl) rfl
        obtain rfl := hq152.1 (by decide) (by decide)
        clear ho hn
        refine ⟨wanted_free rfl, ?_⟩
        go_simp
      rcases i with _ | i
      · refine bx_value HUX rfl (by decide) (by decide) (by decide) 154 rfl (by decide) (.int .i64 (P : Int)) rfl ?_
        intro a8 w8 hb8 ho hn
        obtain ⟨v153, n153, hq153⟩ := hn 2 153 (by kernel_rfl) rfl
        obtain rfl := hq153.1 (by decide) (by decide)
        clear ho hn
        refine ⟨wanted_free rfl, ?_⟩
        have x := HSC.out w8 (bon BV_wb8.out hb8)
        go_simp
      rcases i with _ | i
      · refine bx_make HUX rfl (by decide) (by decide) (by decide) 155 rfl (by decide) ?_
        intro a8 w8 hb8 ho hn
        obtain ⟨v154, n154, hq154⟩ := hn 3 154 (by kernel_rfl) rfl
        obtain rfl := hq154.1 (by decide) (by decide)
        clear ho hn
        refine ⟨wanted_free rfl, ?_⟩
        exact ⟨.slice (some ⟨w8.heap.size, 0, none⟩) 2 2, w8.alloc (.cells #[.int .i64 0, .int .i64 (P : Int)] 2), (by go_simp), albel _ _, w8.heap.size, rfl, hb8.size, Blk.new w8 _ _⟩
      rcases i with _ | i
      · refine bx_call HUX 18 rfl (by decide) (by decide) (by decide) 156 rfl (by decide) ?_
        intro a8 w8 hb8 ho hn
        obtain ⟨v155, n155, hq155⟩ := hn 4 155 (by kernel_rfl) rfl
        have hv155 : slo wb8 2 #[.int .i64 0, .int .i64 (P : Int)] v155 w8 := hq155.2 (by decide)
        clear ho hn
        refine ⟨wanted_free rfl, ?_⟩
        obtain ⟨g, rfl, _, hg⟩ := hv155
        refine ⟨#[.slice (some ⟨g, 0, none⟩) 2 2], (by go_simp), (vec_lit [0, (P : Int)] (by simp) _ 2 2 w8 rfl (reads_blk hg rfl)).mono ?_⟩
        rintro e wz ⟨p_, rfl, o, b⟩
        exact ⟨_, rfl, b, p_, rfl, o.mono hb8.size⟩
      rcases i with _ | i
      · refine bx_value HUX rfl (by decide) (by decide) (by decide) 157 rfl (by decide) (.agg #[.int .i64 XW.kind, .slice r7.A0 XW.sh.length r7.c0, .slice r7.A1 XW.el.length r7.c1]) rfl ?_
        intro a8 w8 hb8 ho hn
        have o21 : a8.tmps[21]? = some _ := (ho 21 (by kernel_rfl)).trans rfl
        clear ho hn
        refine ⟨wanted_free rfl, ?_⟩
        obtain ⟨x0, x1, x2⟩ := (((HB_wb8.out.up hb8) 6 _ _ _ rfl)).cells
        go_simp
      rcases i with _ | i
      · refine bx_call HUX 22 rfl (by decide) (by decide) (by decide) 158 rfl (by decide) ?_
        intro a8 w8 hb8 ho hn
        obtain ⟨v156, n156, hq156⟩ := hn 5 156 (by kernel_rfl) rfl
        have hv156 : xo wb8 (vecA [0, (P : Int)]) v156 w8 := hq156.2 (by decide)
        obtain ⟨v157, n157, hq157⟩ := hn 6 157 (by kernel_rfl) rfl
        obtain rfl := hq157.1 (by decide) (by decide)
        clear ho hn
        refine ⟨wanted_free rfl, ?_⟩
        obtain ⟨q156_, rfl, o156_⟩ := hv156
        refine ⟨#[.agg (arC (vecA [0, (P : Int)]) q156_), .agg #[.int .i64 XW.kind, .slice r7.A0 XW.sh.length r7.c0, .slice r7.A1 XW.el.length r7.c1]], (by go_simp), (HDW.out q156_ r7 w8 (o156_.el (by simp [vecA]) (by simp [vecA]) (fun z hz => (List.mem_cons.1 hz).elim (fun h => by omega) (fun h => by rw [List.mem_singleton] at h; omega))) ((HB_wb8.out.up hb8) 6 _ _ _ rfl).e).mono ?_⟩
        rintro e wz ⟨r, rfl, o9, b9⟩
        exact ⟨_, rfl, b9, r, rfl, o9.mono hb8.size⟩
      rcases i with _ | i
      · refine bx_make HUX rfl (by decide) (by decide) (by decide) 150 rfl (by decide) ?_
        intro a8 w8 hb8 ho hn
        obtain ⟨v158, n158, hq158⟩ := hn 7 158 (by kernel_rfl) rfl
        have hv158 : xto wb8 XQ 0 v158 w8 := hq158.2 (by decide)
        clear ho hn
        refine ⟨wanted_free rfl, ?_⟩
        exact ⟨v158, w8, (by go_simp), Below.refl _ _, hv158⟩
      rcases i with _ | i
      · refine bx_make HUX rfl (by decide) (by decide) (by decide) 159 rfl (by decide) ?_
        intro a8 w8 hb8 ho hn
        obtain ⟨v150, n150, hq150⟩ := hn 8 150 (by kernel_rfl) rfl
        have hv150 : xto wb8 XQ 0 v150 w8 := hq150.2 (by decide)
        clear ho hn
        refine ⟨wanted_free rfl, ?_⟩
        obtain ⟨p_, rfl, o⟩ := hv150
        exact ⟨.agg (arC XQ p_), w8, (by go_simp), Below.refl _ _, p_, rfl, o⟩
      rcases i with _ | i
      · refine bx_value HUX rfl (by decide) (by decide) (by decide) 160 rfl (by decide) (.int .i64 0) rfl ?_
        intro a8 w8 hb8 ho hn
        obtain ⟨v150, n150, hq150⟩ := hn 8 150 (by kernel_rfl) rfl
        have hv150 : xto wb8 XQ 0 v150 w8 := hq150.2 (by decide)
        clear ho hn
        refine ⟨wanted_free rfl, ?_⟩
        obtain ⟨p_, rfl, o⟩ := hv150
        go_simp
      rcases i with _ | i
      · refine bx_alloc HUX rfl (by decide) (by decide) rfl (.int .i64 0) (.slice none 0 0) (.slice none 0 0) ?_
        intro a8 w8 ho
        have o177 : a8.tmps[177]? = some _ := (ho 177 (by kernel_rfl)).trans rfl
        have hsz : 177 < a8.tmps.size := (Array.getElem?_eq_some_iff.1 o177).1
        refine ⟨by omega, wanted_free rfl, ?_⟩
        go_simp
      rcases i with _ | i
      · refine bx_store HUX rfl rfl (by decide) (by decide) rfl (by kernel_rfl) rfl ?_
        intro a8 w8 g u0 u1 u2 hg n25 hn
        obtain ⟨v159, n159, hq159⟩ := hn 9 159 (by kernel_rfl) rfl
        have hv159 : xo wb8 XQ v159 w8 := hq159.2 (by decide)
        clear hn
        refine ⟨wanted_free rfl, ?_⟩
        obtain ⟨r, rfl, o⟩ := hv159
        have x0 := hg.cell 0
        have x1 := hg.cell 1
        have x2 := hg.cell 2
        have f0 := hg.frozen 0
        have f1 := hg.frozen 1
        have f2 := hg.frozen 2
        refine ⟨r, o, ?_⟩
        rw [show arC XQ r = #[.int .i64 XQ.kind, .slice r.A0 XQ.sh.length r.c0, .slice r.A1 XQ.el.length r.c1] from rfl] at n159
        clear hg o
        go_simp
      rcases i with _ | i
      · refine bx_value HUX rfl (by decide) (by decide) (by decide) 26 rfl (by decide) (.int .i64 0) rfl ?_
        intro a8 w8 hb8 ho hn
        obtain ⟨v160, n160, hq160⟩ := hn 10 160 (by kernel_rfl) rfl
        obtain rfl := hq160.1 (by decide) (by decide)
        clear ho hn
        refine ⟨wanted_free rfl, ?_⟩
        go_simp
      omega
    intro dn fv wb9 hS5 hR5 hall
    obtain ⟨g9, e8, hg8, _, hfin⟩ := hS5.h (hall 11 (by decide))
    obtain ⟨r9, hb8, ho8⟩ := hfin (hall 12 (by decide))
    have hbw := hS5.b
    have h48 : fv 26 = .int .i64 0 := (hR5 13 26 rfl).1 (by decide) (by decide)
    clear hS5 hR5 hall hfin
    simp only [putAll, List.foldl_cons, List.foldl_nil, Act.put, List.setIfInBounds_toArray, List.set_cons_succ, List.set_cons_zero, List.getElem?_toArray, List.getElem?_cons_succ, List.getElem?_cons_zero, Option.some.injEq] at e8 ⊢
    rw [e8, h48]
    have HB_wb9 : Hid (Bxs wb9 [(g1, XA, r1), (g2, XK, r2), (g3, XD, r3), (g4, XA, rz), (g5, XP, r5), (g6, XQ, r6), (g7, XW, r7), (g8, XP, r8), (g9, XQ, r9)]) := Lib.hid (Bxs.add (HB_wb8.out.up hbw) ⟨hb8, ho8.el HF_XQ.out.1 HF_XQ.out.2.1 HF_XQ.out.2.2, Cap.of ho8⟩)
    have BW_wb9 := Lib.hid (bon BW_wb8.out hbw)
    generalize fv 151 = u151
    generalize fv 152 = u152
    generalize fv 153 = u153
    generalize fv 154 = u154
    generalize fv 155 = u155
    generalize fv 156 = u156
    generalize fv 157 = u157
    generalize fv 158 = u158
    generalize fv 150 = u150
    generalize fv 159 = u159
    generalize fv 160 = u160
    have BV_wb9 : Hid (Below wb6.heap.size wb6 wb9) := Lib.hid (bon BV_wb8.out hbw)
    clear hb8 ho8 hbw e8 h48 hg8 HUX HB_wb8 BW_wb8
    clear hsh2 HGS HSC
    obtain ⟨x0, x1, x2⟩ := (HB_wb9.out 7 _ _ _ rfl).cells
    obtain ⟨y0, y1, y2⟩ := (HB_wb9.out 4 _ _ _ rfl).cells
    obtain ⟨z0, z1, z2⟩ := (HB_wb9.out 8 _ _ _ rfl).cells
    obtain ⟨t0, t1, t2⟩ := (HB_wb9.out 5 _ _ _ rfl).cells
    go_wp2_with (first
      | (go_at_call 20; (have l0 := Z1.out; clear l0); refine (l13is_yes XQ r9 r6 _ (HB_z1.out 8 _ _ _ rfl).e (HB_z1.out 5 _ _ _ rfl).e).mono ?_; rintro e z2 ⟨rfl, b2⟩; have BW_z2 := Lib.hid (bon BW_z1.out b2); clear b2)
      | (go_at_call 20; refine (l13is_yes XP r8 r5 _ (HB_wb9.out 7 _ _ _ rfl).e (HB_wb9.out 4 _ _ _ rfl).e).mono ?_; rintro e z1 ⟨rfl, b1⟩; have Z1 : Hid (0 = 0) := Lib.hid rfl; have HB_z1 := Lib.hid (HB_wb9.out.up b1); have BW_z1 := Lib.hid (bon BW_wb9.out b1); clear b1; obtain ⟨z0, z1, z2⟩ := (HB_z1.out 8 _ _ _ rfl).cells; obtain ⟨t0, t1, t2⟩ := (HB_z1.out 5 _ _ _ rfl).cells))
    go_ret
    exact ⟨rfl, BW_z2.out⟩
end Go.Proofs.Ytenpohnccnlngaa.moldParts

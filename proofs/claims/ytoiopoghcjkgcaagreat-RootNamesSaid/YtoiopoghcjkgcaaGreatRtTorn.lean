/-
  Layer 6 without any program: a disk of two sectors on which roots are saved; what a torn sector may be.
  The first examples of layer 6's chapter hold: 'alive' answers true, and what lay there lies.
  Layer 6 without any program: what a crash in a Save leaves of its sector.
-/
import Derived.Test.YtoiopoghcjkgcaaGreatRtLaw
namespace Go.Proofs.YtoiopoghcjkgcaaGreat.root
open Go.RowKit Go.Proofs.YtoiopoghcjkgcaaGreat.crc

def zsec : List UInt8 := List.replicate 128 0
/-- A disk of two sectors, up, on which nothing waits. -/
def cl (b0 b1 : List UInt8) (m : Int) : RSt := ⟨[b0, b1], [[], []], 0, [], 0, 0, m, false⟩
theorem cl_new : newSt 2 = cl zsec zsec 0 := rfl
theorem cl_err (b0 b1 : List UInt8) (m : Int) (k : Nat) (hk : k < 2) : readErr3 (cl b0 b1 m) (k : Int) = 0 := by
  unfold readErr3 has3 cl
  simp
  omega
theorem cl_out0 (b0 b1 : List UInt8) (m : Int) : readOut3 (cl b0 b1 m) ((0 : Nat) : Int) = b0 := by
  unfold readOut3
  rw [cl_err b0 b1 m 0 (by omega)]
  rfl
theorem cl_out1 (b0 b1 : List UInt8) (m : Int) : readOut3 (cl b0 b1 m) ((1 : Nat) : Int) = b1 := by
  unfold readOut3
  rw [cl_err b0 b1 m 1 (by omega)]
  rfl
theorem cl_bothE (b0 b1 : List UInt8) (m : Int) : bothE (fun k => readErr3 (cl b0 b1 m) (k : Int)) = 0 := by
  unfold bothE
  simp only [cl_err b0 b1 m 0 (by omega), cl_err b0 b1 m 1 (by omega)]
  rfl
/-- The root of what two slots hold. -/
def rootOf (b0 b1 : List UInt8) : RV :=
  if countsR 0 b0 = true then (if countsR 1 b1 = true ∧ (candR b0).n < (candR b1).n then candR b1 else candR b0) else if countsR 1 b1 = true then candR b1 else noR
theorem cl_load (b0 b1 : List UInt8) (m : Int) : (bothL (fun k => readErr3 (cl b0 b1 m) (k : Int)) (fun k => readOut3 (cl b0 b1 m) (k : Int))).headD noR = rootOf b0 b1 := by
  unfold bothL
  rw [if_pos (cl_bothE b0 b1 m)]
  have hc : cntL (fun k => readOut3 (cl b0 b1 m) (k : Int)) 2 = (if countsR 0 b0 = true then [candR b0] else []) ++ (if countsR 1 b1 = true then [candR b1] else []) := by
    unfold cntL cntL cntL
    simp only [cl_out0, cl_out1, List.nil_append]
  rw [hc]
  unfold rootOf
  cases h0 : countsR 0 b0 <;> cases h1 : countsR 1 b1
  · rfl
  · rfl
  · rfl
  · show (sortR [candR b0, candR b1]).headD noR = _
    rw [sortR_two]
    simp only [if_true, true_and]
    split <;> rfl
theorem cl_save0 (b0 b1 : List UInt8) (m : Int) (r : RV) (hok : okR r = true) (hp : r.n % 2 = 0) : saveE (cl b0 b1 m) r = 0 ∧ saveS (cl b0 b1 m) r = cl (sectR r) b1 (m + 1) := by
  have hl := sectR_length r
  have ht : takes3 (cl b0 b1 m) ((0 : Nat) : Int) (sectR r).length = true := by
    unfold takes3 has3 cl
    rw [hl]
    rfl
  have hw : writeErr (cl b0 b1 m) ((0 : Nat) : Int) (sectR r) = 0 := by
    unfold writeErr
    rw [ht]
    rfl
  have hk : writeK (cl b0 b1 m) ((0 : Nat) : Int) (sectR r) = ⟨[b0, b1], [sectR r, []], 0, [], 0, 0, m + 1, false⟩ := by
    unfold writeK
    rw [ht]
    rfl
  have hne : 0 < (sectR r).length := by omega
  unfold saveE saveS
  rw [hok, hp, if_pos rfl, if_pos rfl, if_pos hw, if_pos hw, hk]
  refine ⟨rfl, ?_⟩
  unfold flushK mixL cl
  simp [hne, List.range_succ]
theorem cl_save1 (b0 b1 : List UInt8) (m : Int) (r : RV) (hok : okR r = true) (hp : r.n % 2 = 1) : saveE (cl b0 b1 m) r = 0 ∧ saveS (cl b0 b1 m) r = cl b0 (sectR r) (m + 1) := by
  have hl := sectR_length r
  have ht : takes3 (cl b0 b1 m) ((1 : Nat) : Int) (sectR r).length = true := by
    unfold takes3 has3 cl
    rw [hl]
    rfl
  have hw : writeErr (cl b0 b1 m) ((1 : Nat) : Int) (sectR r) = 0 := by
    unfold writeErr
    rw [ht]
    rfl
  have hk : writeK (cl b0 b1 m) ((1 : Nat) : Int) (sectR r) = ⟨[b0, b1], [[], sectR r], 0, [], 0, 0, m + 1, false⟩ := by
    unfold writeK
    rw [ht]
    rfl
  have hne : 0 < (sectR r).length := by omega
  unfold saveE saveS
  rw [hok, hp, if_pos rfl, if_pos rfl, if_pos hw, if_pos hw, hk]
  refine ⟨rfl, ?_⟩
  unfold flushK mixL cl
  simp [hne, List.range_succ]

theorem counts_sect {r : RV} (hok : okR r = true) (hf : r.Fine) (k : Nat) : countsR k (sectR r) = decide (r.n % 2 = k) ∧ candR (sectR r) = r := by
  obtain ⟨h1, h2⟩ := good_sect hok hf
  refine ⟨?_, h2⟩
  unfold countsR
  rw [h1, h2, Bool.true_and]
theorem zsec_bad : goodR zsec = false := by decide +kernel
theorem counts_bad {l : List UInt8} (h : goodR l = false) (k : Nat) : countsR k l = false := by
  unfold countsR
  rw [h]
  rfl

/-- A slot on which the i-th root was saved (of none: as it is made). -/
def slC (f : Nat → RV) (i : Nat) : List UInt8 := if i = 0 then zsec else sectR (f i)
/-- The disk once i roots are saved. -/
def cs (f : Nat → RV) (i : Nat) (m : Int) : RSt := if i % 2 = 0 then cl (slC f i) (slC f (i - 1)) m else cl (slC f (i - 1)) (slC f i) m
def wasR (f : Nat → RV) (i : Nat) : RV := if i = 0 then noR else f i
/-- Roots whose numbers rise. -/
structure Rise (f : Nat → RV) (n : Nat) : Prop where
  no : ∀ j, 1 ≤ j → j ≤ n → (f j).n = j
  ok : ∀ j, 1 ≤ j → j ≤ n → okR (f j) = true
  fine : ∀ j, 1 ≤ j → j ≤ n → (f j).Fine
theorem Rise.less {f : Nat → RV} {n m : Nat} (h : Rise f n) (hm : m ≤ n) : Rise f m := ⟨fun j h1 h2 => h.no j h1 (by omega), fun j h1 h2 => h.ok j h1 (by omega), fun j h1 h2 => h.fine j h1 (by omega)⟩

theorem rootOf_other {b0 b1 : List UInt8} {f : Nat → RV} {i : Nat} (hr : Rise f i) (hp : i % 2 = 0 → b0 = slC f i ∧ (goodR b1 = false ∨ b1 = slC f (i - 1))) (hq : i % 2 = 1 → b1 = slC f i ∧ (goodR b0 = false ∨ b0 = slC f (i - 1))) : rootOf b0 b1 = wasR f i := by
  have hz : goodR (slC f 0) = false := zsec_bad
  have hs : ∀ j k, 1 ≤ j → j ≤ i → countsR k (slC f j) = decide (j % 2 = k) ∧ candR (slC f j) = f j := fun j k h1 h2 => by
    have h := counts_sect (hr.ok j h1 h2) (hr.fine j h1 h2) k
    rw [hr.no j h1 h2] at h
    unfold slC
    rw [if_neg (by omega)]
    exact h
  rcases Nat.mod_two_eq_zero_or_one i with h | h
  · obtain ⟨rfl, h1⟩ := hp h
    rcases Nat.eq_zero_or_pos i with h0 | h0
    · subst h0
      have hb1 : goodR b1 = false := by
        rcases h1 with h1 | h1
        · exact h1
        · rw [h1]; exact hz
      unfold rootOf wasR
      rw [counts_bad hz, counts_bad hb1]
      rfl
    · obtain ⟨c0, d0⟩ := hs i 0 h0 (Nat.le_refl _)
      rw [h] at c0
      have hc0 : countsR 0 (slC f i) = true := by rw [c0]; rfl
      unfold rootOf wasR
      rw [if_pos hc0, if_neg (show i ≠ 0 by omega), d0]
      rw [if_neg]
      rintro ⟨e1, e2⟩
      rcases h1 with h1 | h1
      · rw [counts_bad h1] at e1; cases e1
      · subst h1
        obtain ⟨_, d1⟩ := hs (i - 1) 1 (by omega) (by omega)
        rw [d1, hr.no i h0 (Nat.le_refl _), hr.no (i - 1) (by omega) (by omega)] at e2
        omega
  · obtain ⟨rfl, h1⟩ := hq h
    obtain ⟨c0, d0⟩ := hs i 1 (by omega) (Nat.le_refl _)
    rw [h] at c0
    have hc0 : countsR 1 (slC f i) = true := by rw [c0]; rfl
    have hn : wasR f i = f i := by unfold wasR; rw [if_neg (show i ≠ 0 by omega)]
    rw [hn]
    have hlt : ∀ j, 1 ≤ j → j ≤ i → (f j).n = j := hr.no
    unfold rootOf
    rw [hc0, d0]
    rcases h1 with h1 | h1
    · rw [counts_bad h1]; rfl
    · subst h1
      rcases Nat.eq_zero_or_pos (i - 1) with h0 | h0
      · rw [h0, counts_bad hz]; rfl
      · obtain ⟨c1, d1⟩ := hs (i - 1) 0 h0 (by omega)
        have hc1 : countsR 0 (slC f (i - 1)) = true := by rw [c1]; exact decide_eq_true (by omega)
        rw [if_pos hc1, if_pos ⟨rfl, by rw [d1, hlt (i - 1) h0 (by omega), hlt i (by omega) (Nat.le_refl _)]; omega⟩]

theorem cs_save {f : Nat → RV} {i : Nat} (m : Int) (hr : Rise f (i + 1)) : saveE (cs f i m) (f (i + 1)) = 0 ∧ saveS (cs f i m) (f (i + 1)) = cs f (i + 1) (m + 1) := by
  have hok := hr.ok (i + 1) (by omega) (Nat.le_refl _)
  have hn := hr.no (i + 1) (by omega) (Nat.le_refl _)
  have hs : slC f (i + 1) = sectR (f (i + 1)) := by unfold slC; rw [if_neg (by omega)]
  unfold cs
  rcases Nat.mod_two_eq_zero_or_one i with h | h
  · rw [if_pos h, if_neg (show ¬ (i + 1) % 2 = 0 by omega), hs, show i + 1 - 1 = i by omega]
    exact cl_save1 _ _ m _ hok (by rw [hn]; omega)
  · rw [if_neg (show ¬ i % 2 = 0 by omega), if_pos (show (i + 1) % 2 = 0 by omega), hs, show i + 1 - 1 = i by omega]
    exact cl_save0 _ _ m _ hok (by rw [hn]; omega)
theorem cs_bothE (f : Nat → RV) (i : Nat) (m : Int) : bothE (fun k => readErr3 (cs f i m) (k : Int)) = 0 := by
  unfold cs
  split <;> exact cl_bothE _ _ m
theorem cs_load {f : Nat → RV} {i : Nat} (m : Int) (hr : Rise f i) : (bothL (fun k => readErr3 (cs f i m) (k : Int)) (fun k => readOut3 (cs f i m) (k : Int))).headD noR = wasR f i := by
  unfold cs
  split
  · rw [cl_load]
    exact rootOf_other hr (fun _ => ⟨rfl, .inr rfl⟩) (fun h => by omega)
  · rw [cl_load]
    exact rootOf_other hr (fun h => by omega) (fun _ => ⟨rfl, .inr rfl⟩)
theorem cs_zero (f : Nat → RV) : newSt 2 = cs f 0 0 := rfl
theorem cs_few (f : Nat → RV) (i : Nat) {m : Int} (h : m < 9223372036854775807) : Few (cs f i m) := ⟨by unfold cs cl; split <;> exact h⟩

end Go.Proofs.YtoiopoghcjkgcaaGreat.root

namespace Go.Proofs.YtoiopoghcjkgcaaGreat.root
open Go.RowKit Go.Proofs.YtoiopoghcjkgcaaGreat.crc

theorem lis {N : Nat} {w0 w : World} {d : DAt} {f : Nat → RV} {i : Nat} {m : Int} {r : RV} {v : Value} (L : Lives N w0 w d (cs f i m)) (hr : Rise f i) (hw : wasR f i = r) (hv : rtv r = v) :
    Calls Tryz.prog 18 #[.pointer (some ⟨d.b, 0, none⟩), v] w fun e w' => e = .returned (.bool true) ∧ Lives N w0 w' d (cs f i m) := by
  subst hv
  obtain ⟨kv, h⟩ := L.dk
  refine (ris_any (slots_dk h) (cs_bothE f i m) ((cs_load m hr).trans hw)).mono ?_
  rintro e w' ⟨rfl, hb⟩
  exact ⟨rfl, L.next L.lt hb⟩
theorem lsv {N : Nat} {w0 w : World} {d : DAt} {f : Nat → RV} {i : Nat} {m : Int} {r : RV} {v : Value} (L : Lives N w0 w d (cs f i m)) (hr : Rise f (i + 1)) (hm : m < 9223372036854775807) (hw : f (i + 1) = r) (hv : rtv r = v) :
    Calls Tryz.prog 12 #[.pointer (some ⟨d.b, 0, none⟩), v] w fun e w' => e = .returned (.int .i64 0) ∧ Lives N w0 w' d (cs f (i + 1) (m + 1)) := by
  subst hv hw
  obtain ⟨h1, h2⟩ := cs_save m hr
  refine (lsave (f (i + 1)) (hr.fine (i + 1) (by omega) (Nat.le_refl _)) L (cs_few f i hm) h1 h2).mono ?_
  rintro e w' ⟨rfl, hl, _⟩
  exact ⟨rfl, hl⟩

def f2 (j : Nat) : RV := if j = 1 then ⟨1, 7, 9⟩ else ⟨2, 8, 0⟩
theorem f2_rise : Rise f2 2 := by
  refine ⟨fun j h1 h2 => ?_, fun j h1 h2 => ?_, fun j h1 h2 => ?_⟩
  all_goals
    have : j = 1 ∨ j = 2 := by omega
    rcases this with rfl | rfl
  · rfl
  · rfl
  · rfl
  · rfl
  · exact ⟨by decide, by unfold i64ok; decide, by decide⟩
  · exact ⟨by decide, by unfold i64ok; decide, by decide⟩

set_option maxRecDepth 100000 in
set_option maxHeartbeats 4000000 in
theorem ralive_any (w : World) : Calls Tryz.prog 19 #[] w fun e w' => e = .returned (.bool true) ∧ Below w.heap.size w w' := by
  have HN := Lib.hid (lnew (N := w.heap.size) (w0 := w) (w := w) 2 (Nat.le_refl _) (Below.refl _ _) (by omega) (by omega) (cs_zero f2))
  have v0 : rtv noR = .agg #[.int .u64 0, .int .i64 0, .int .u32 0] := rfl
  have v1 : rtv (⟨1, 7, 9⟩ : RV) = .agg #[.int .u64 1, .int .i64 7, .int .u32 9] := rfl
  have v2 : rtv (⟨2, 8, 0⟩ : RV) = .agg #[.int .u64 2, .int .i64 8, .int .u32 0] := rfl
  have V0 := Lib.hid v0
  have V1 := Lib.hid v1
  have V2 := Lib.hid v2
  have RI := Lib.hid f2_rise
  have A2 : Hid (∀ W, Calls Tryz.prog 49 #[.int .u64 2] W fun e w' => e = .returned (.int .i64 2) ∧ W = w') := Lib.hid (fun W => rarea_any 2 W (by omega))
  have A3 : Hid (∀ W, Calls Tryz.prog 49 #[.int .u64 3] W fun e w' => e = .returned (.int .i64 26) ∧ W = w') := Lib.hid (fun W => rarea_any 3 W (by omega))
  clear v0 v1 v2
  go_enter Tryz.func19, Tryz.ntmps19
  go_wp2_with (first
    | (go_at_call 7; refine HN.out.mono ?_; rintro e w1 ⟨d, rfl, l1, _⟩; have L1 := Lib.hid l1; clear l1)
    | (go_at_call 18; (have l0 := L4.out; clear l0); (with_reducible refine (lis L4.out RI.out (show wasR f2 2 = ⟨2, 8, 0⟩ from rfl) V2.out).mono ?_); rintro e w5 ⟨rfl, l5⟩; have L5 := Lib.hid l5; clear l5)
    | (go_at_call 12; (have l0 := L3.out; clear l0); (with_reducible refine (lsv L3.out RI.out (by omega) (show f2 2 = ⟨2, 8, 0⟩ from rfl) V2.out).mono ?_); rintro e w4 ⟨rfl, l4⟩; have L4 := Lib.hid l4; clear l4)
    | (go_at_call 12; (have l0 := L2.out; clear l0); (with_reducible refine (lsv L2.out (RI.out.less (by omega)) (by omega) (show f2 1 = ⟨1, 7, 9⟩ from rfl) V1.out).mono ?_); rintro e w3 ⟨rfl, l3⟩; have L3 := Lib.hid l3; clear l3)
    | (go_at_call 18; (have l0 := L1.out; clear l0); (with_reducible refine (lis L1.out (RI.out.less (by omega)) (show wasR f2 0 = noR from rfl) V0.out).mono ?_); rintro e w2 ⟨rfl, l2⟩; have L2 := Lib.hid l2; clear l2)
    | (go_at_call 49; (with_reducible refine (A2.out _).mono ?_); rintro e _ ⟨rfl, rfl⟩)
    | (go_at_call 49; (with_reducible refine (A3.out _).mono ?_); rintro e _ ⟨rfl, rfl⟩))
  go_ret
  exact ⟨rfl, L5.out.below⟩

end Go.Proofs.YtoiopoghcjkgcaaGreat.root

namespace Go.Proofs.YtoiopoghcjkgcaaGreat.root
open Go.RowKit Go.Proofs.YtoiopoghcjkgcaaGreat.crc

theorem be8_last (n : Nat) : (be 8 n)[7]? = some (lowByte n 0) := rfl
theorem sect_end (r : RV) : (sectR r)[11]? = some (lowByte r.n 0) ∧ (sectR r)[127]? = some (lowByte r.n 0) := by
  constructor
  · have e : sectR r = [81, 82, 1, 0] ++ (be 8 r.n ++ (be 4 r.len.toNat ++ (be 4 r.sm ++ (List.replicate 96 0 ++ (four (sum (bitsB (headR r))) ++ be 8 r.n))))) := by
      show (headR r ++ four _) ++ be 8 r.n = _
      conv => lhs; arg 1; arg 1; unfold headR
      simp only [List.append_assoc]
    rw [e, List.getElem?_append_right (by decide), List.getElem?_append_left (by rw [be_length]; decide)]
    exact be8_last r.n
  · unfold sectR
    rw [List.getElem?_append_right (by rw [bodyR_length]; omega), bodyR_length]
    exact be8_last r.n
theorem low_zero {n k : Nat} (h : n < 256) : lowByte n (k + 1) = 0 := by
  apply UInt8.toNat_inj.1
  rw [lowByte_toNat, Nat.div_eq_of_lt (by
    calc n < 256 := h
      _ = 256 ^ 1 := rfl
      _ ≤ 256 ^ (k + 1) := Nat.pow_le_pow_right (by omega) (by omega))]
  rfl
theorem sect_front (r : RV) (h : r.n < 256) : (sectR r).take 11 = [81, 82, 1, 0, 0, 0, 0, 0, 0, 0, 0] := by
  have e : sectR r = [81, 82, 1, 0] ++ (be 8 r.n ++ (be 4 r.len.toNat ++ (be 4 r.sm ++ (List.replicate 96 0 ++ (four (sum (bitsB (headR r))) ++ be 8 r.n))))) := by
    show (headR r ++ four _) ++ be 8 r.n = _
    conv => lhs; arg 1; arg 1; unfold headR
    simp only [List.append_assoc]
  have hb : be 8 r.n = [0, 0, 0, 0, 0, 0, 0, lowByte r.n 0] := by
    have e2 : be 8 r.n = [lowByte r.n 7, lowByte r.n 6, lowByte r.n 5, lowByte r.n 4, lowByte r.n 3, lowByte r.n 2, lowByte r.n 1, lowByte r.n 0] := rfl
    rw [e2, low_zero h, low_zero h, low_zero h, low_zero h, low_zero h, low_zero h, low_zero h]
  rw [e, hb]
  rfl
theorem zsec_length : zsec.length = 128 := List.length_replicate
theorem slC_length (f : Nat → RV) (i : Nat) : (slC f i).length = 128 := by
  unfold slC
  split
  · exact zsec_length
  · exact sectR_length _

theorem torn_or {f : Nat → RV} {i j : Nat} (r : RV) (hn : r.n = i + 1) (hi : i + 1 < 256) (hr : Rise f i) (hj : j < 128) :
    (sectR r).take j ++ (slC f (i - 1)).drop j = slC f (i - 1) ∨ goodR ((sectR r).take j ++ (slC f (i - 1)).drop j) = false := by
  have hx := sectR_length r
  have hy := slC_length f (i - 1)
  obtain ⟨M, hM⟩ : ∃ M, (sectR r).take j ++ (slC f (i - 1)).drop j = M := ⟨_, rfl⟩
  rw [hM]
  cases hg : goodR M
  · exact .inr rfl
  · refine .inl ?_
    obtain ⟨g1, g2, g3⟩ := good_of hg
    have hjl : ((sectR r).take j).length = j := by rw [List.length_take]; omega
    have ht : M[127]? = (slC f (i - 1))[127]? := by
      rw [← hM, List.getElem?_append_right (by omega), hjl, List.getElem?_drop]
      congr 1
      omega
    obtain ⟨s1, s2⟩ := sect_end (candR M)
    rw [g3] at s1 s2
    by_cases h11 : 12 ≤ j
    · exfalso
      have hh : M[11]? = (sectR r)[11]? := by
        rw [← hM, List.getElem?_append_left (by omega), List.getElem?_take_of_lt (by omega)]
      rw [(sect_end r).1, s1] at hh
      injection hh with hh
      rw [s2, hh, hn] at ht
      unfold slC at ht
      split at ht
      · have hz : zsec[127]? = some 0 := rfl
        rw [hz] at ht
        injection ht with ht
        have := congrArg UInt8.toNat ht
        rw [lowByte_toNat] at this
        simp at this
        omega
      · rename_i h0
        rw [(sect_end (f (i - 1))).2, hr.no (i - 1) (by omega) (by omega)] at ht
        injection ht with ht
        have := congrArg UInt8.toNat ht
        rw [lowByte_toNat, lowByte_toNat] at this
        simp at this
        omega
    · by_cases h0 : i - 1 = 0
      · exfalso
        have hz : slC f (i - 1) = zsec := by unfold slC; rw [if_pos h0]
        have hd : M.drop 120 = List.replicate 8 0 := by
          rw [← hM, List.drop_append, List.drop_eq_nil_of_le (by omega), hjl, List.nil_append, List.drop_drop, hz, show j + (120 - j) = 120 by omega]
          rfl
        have hn8 := good_tail hg
        rw [hd] at hn8
        have hnum := congrArg num hn8
        rw [num_be, Nat.mod_eq_of_lt (candR_fine M).n] at hnum
        have hz0 : num (List.replicate 8 0) = 0 := rfl
        rw [hz0] at hnum
        have := (okR_iff.1 g2).1
        omega
      · have hs : slC f (i - 1) = sectR (f (i - 1)) := by unfold slC; rw [if_neg h0]
        have hf1 := sect_front r (by omega)
        have hf2 := sect_front (f (i - 1)) (by rw [hr.no (i - 1) (by omega) (by omega)]; omega)
        have htk : (sectR r).take j = (slC f (i - 1)).take j := by
          rw [hs]
          have e1 : (sectR r).take j = ((sectR r).take 11).take j := by rw [List.take_take, Nat.min_eq_left (by omega)]
          have e2 : (sectR (f (i - 1))).take j = ((sectR (f (i - 1))).take 11).take j := by rw [List.take_take, Nat.min_eq_left (by omega)]
          rw [e1, e2, hf1, hf2]
        rw [← hM, htk, List.take_append_drop]

/-- A disk on which a Save goes down, booted. -/
theorem cl_crash0 (b0 b1 : List UInt8) (m : Int) (kp : List Int) (tn a : Int) (r : RV) (hok : okR r = true) (hp : r.n % 2 = 0) :
    saveE (armSt3 (cl b0 b1 m) ⟨1, kp, tn, a⟩) r = 31 ∧ bootSt (saveS (armSt3 (cl b0 b1 m) ⟨1, kp, tn, a⟩) r) = cl (cutAt (stayN ⟨0, kp, tn, a⟩ 0) (sectR r) b0) b1 (m + 1) := by
  have hl := sectR_length r
  have ha : armSt3 (cl b0 b1 m) ⟨1, kp, tn, a⟩ = ⟨[b0, b1], [[], []], 1, kp, tn, a, m, false⟩ := rfl
  rw [ha]
  have ht : takes3 ⟨[b0, b1], [[], []], 1, kp, tn, a, m, false⟩ ((0 : Nat) : Int) (sectR r).length = true := by
    unfold takes3 has3
    rw [hl]
    rfl
  have hw : writeErr ⟨[b0, b1], [[], []], 1, kp, tn, a, m, false⟩ ((0 : Nat) : Int) (sectR r) = 31 := by
    unfold writeErr
    rw [ht]
    rfl
  have hne : 0 < (sectR r).length := by omega
  have hk : writeK ⟨[b0, b1], [[], []], 1, kp, tn, a, m, false⟩ ((0 : Nat) : Int) (sectR r) = ⟨[cutAt (stayN ⟨0, kp, tn, a⟩ 0) (sectR r) b0, b1], [[], []], 0, [], 0, 0, m + 1, true⟩ := by
    unfold writeK
    rw [ht]
    show fellK ⟨[b0, b1], [sectR r, []], 0, kp, tn, a, m + 1, false⟩ ⟨0, kp, tn, a⟩ = _
    unfold fellK mixL
    simp [hne, List.range_succ]
  unfold saveE saveS
  rw [hok, hp, if_pos rfl, if_pos rfl, hw, if_neg (by decide), if_neg (by decide), hk]
  exact ⟨rfl, rfl⟩
theorem cl_crash1 (b0 b1 : List UInt8) (m : Int) (kp : List Int) (tn a : Int) (r : RV) (hok : okR r = true) (hp : r.n % 2 = 1) :
    saveE (armSt3 (cl b0 b1 m) ⟨1, kp, tn, a⟩) r = 31 ∧ bootSt (saveS (armSt3 (cl b0 b1 m) ⟨1, kp, tn, a⟩) r) = cl b0 (cutAt (stayN ⟨0, kp, tn, a⟩ 1) (sectR r) b1) (m + 1) := by
  have hl := sectR_length r
  have ha : armSt3 (cl b0 b1 m) ⟨1, kp, tn, a⟩ = ⟨[b0, b1], [[], []], 1, kp, tn, a, m, false⟩ := rfl
  rw [ha]
  have ht : takes3 ⟨[b0, b1], [[], []], 1, kp, tn, a, m, false⟩ ((1 : Nat) : Int) (sectR r).length = true := by
    unfold takes3 has3
    rw [hl]
    rfl
  have hw : writeErr ⟨[b0, b1], [[], []], 1, kp, tn, a, m, false⟩ ((1 : Nat) : Int) (sectR r) = 31 := by
    unfold writeErr
    rw [ht]
    rfl
  have hne : 0 < (sectR r).length := by omega
  have hk : writeK ⟨[b0, b1], [[], []], 1, kp, tn, a, m, false⟩ ((1 : Nat) : Int) (sectR r) = ⟨[b0, cutAt (stayN ⟨0, kp, tn, a⟩ 1) (sectR r) b1], [[], []], 0, [], 0, 0, m + 1, true⟩ := by
    unfold writeK
    rw [ht]
    show fellK ⟨[b0, b1], [[], sectR r], 0, kp, tn, a, m + 1, false⟩ ⟨0, kp, tn, a⟩ = _
    unfold fellK mixL
    simp [hne, List.range_succ]
  unfold saveE saveS
  rw [hok, hp, if_pos rfl, if_pos rfl, hw, if_neg (by decide), if_neg (by decide), hk]
  exact ⟨rfl, rfl⟩

/-- The disk once the last Save's sector is torn: as csT, its content M. -/
def csM (f : Nat → RV) (i : Nat) (M : List UInt8) (m : Int) : RSt := if i % 2 = 0 then cl (slC f i) M m else cl M (slC f i) m
theorem csM_bothE (f : Nat → RV) (i : Nat) (M : List UInt8) (m : Int) : bothE (fun k => readErr3 (csM f i M m) (k : Int)) = 0 := by
  unfold csM
  split <;> exact cl_bothE _ _ m
theorem csM_load {f : Nat → RV} {i : Nat} {M : List UInt8} (m : Int) (hr : Rise f i) (hM : goodR M = false ∨ M = slC f (i - 1)) : (bothL (fun k => readErr3 (csM f i M m) (k : Int)) (fun k => readOut3 (csM f i M m) (k : Int))).headD noR = wasR f i := by
  unfold csM
  split
  · rw [cl_load]
    exact rootOf_other hr (fun _ => ⟨rfl, hM⟩) (fun h => by omega)
  · rw [cl_load]
    exact rootOf_other hr (fun h => by omega) (fun _ => ⟨rfl, hM⟩)
theorem csM_whole (f : Nat → RV) (i : Nat) (m : Int) : csM f i (slC f (i + 1)) m = cs f (i + 1) m := by
  unfold csM cs
  rw [show i + 1 - 1 = i by omega]
  rcases Nat.mod_two_eq_zero_or_one i with h | h
  · rw [if_pos h, if_neg (by omega)]
  · rw [if_neg (by omega), if_pos (by omega)]
theorem csM_save {f : Nat → RV} {i : Nat} {M : List UInt8} (m : Int) (hr : Rise f (i + 1)) : saveE (csM f i M m) (f (i + 1)) = 0 ∧ saveS (csM f i M m) (f (i + 1)) = cs f (i + 1) (m + 1) := by
  have hok := hr.ok (i + 1) (by omega) (Nat.le_refl _)
  have hn := hr.no (i + 1) (by omega) (Nat.le_refl _)
  have hs : slC f (i + 1) = sectR (f (i + 1)) := by unfold slC; rw [if_neg (by omega)]
  unfold cs csM
  rcases Nat.mod_two_eq_zero_or_one i with h | h
  · rw [if_pos h, if_neg (show ¬ (i + 1) % 2 = 0 by omega), hs, show i + 1 - 1 = i by omega]
    exact cl_save1 _ _ m _ hok (by rw [hn]; omega)
  · rw [if_neg (show ¬ i % 2 = 0 by omega), if_pos (show (i + 1) % 2 = 0 by omega), hs, show i + 1 - 1 = i by omega]
    exact cl_save0 _ _ m _ hok (by rw [hn]; omega)
theorem csM_few (f : Nat → RV) (i : Nat) (M : List UInt8) {m : Int} (h : m < 9223372036854775807) : Few (csM f i M m) := ⟨by unfold csM cl; split <;> exact h⟩
/-- A Save of the next root that goes down. -/
theorem cs_crash {f : Nat → RV} {i : Nat} (m : Int) (kp : List Int) (a : Int) (hr : Rise f (i + 1)) :
    saveE (armSt3 (cs f i m) ⟨1, kp, ((i + 1) % 2 : Nat), a⟩) (f (i + 1)) = 31 ∧ bootSt (saveS (armSt3 (cs f i m) ⟨1, kp, ((i + 1) % 2 : Nat), a⟩) (f (i + 1))) = csM f i (cutAt (if (((i + 1) % 2 : Nat) : Int) ∈ kp then 128 else a) (slC f (i + 1)) (slC f (i - 1))) (m + 1) := by
  have hok := hr.ok (i + 1) (by omega) (Nat.le_refl _)
  have hn := hr.no (i + 1) (by omega) (Nat.le_refl _)
  have hs : slC f (i + 1) = sectR (f (i + 1)) := by unfold slC; rw [if_neg (by omega)]
  have hst : stayN ⟨0, kp, ((i + 1) % 2 : Nat), a⟩ ((i + 1) % 2) = if (((i + 1) % 2 : Nat) : Int) ∈ kp then 128 else a := by
    unfold stayN
    simp
  rw [hs]
  rcases Nat.mod_two_eq_zero_or_one i with h | h
  · have h1 : (i + 1) % 2 = 1 := by omega
    rw [h1] at hst ⊢
    rw [← hst]
    unfold cs csM
    rw [if_pos h, if_pos h]
    exact cl_crash1 _ _ m kp _ a _ hok (by rw [hn]; exact h1)
  · have h1 : (i + 1) % 2 = 0 := by omega
    rw [h1] at hst ⊢
    rw [← hst]
    unfold cs csM
    rw [if_neg (by omega), if_neg (by omega)]
    exact cl_crash0 _ _ m kp _ a _ hok (by rw [hn]; exact h1)
theorem cut_whole {n : Int} {x y : List UInt8} (hx : x.length = 128) (hy : y.length = 128) (h : 128 ≤ n) : cutAt n x y = x := by
  unfold cutAt
  rw [List.take_of_length_le (by omega), List.drop_eq_nil_of_le (by omega), List.append_nil]

end Go.Proofs.YtoiopoghcjkgcaaGreat.root

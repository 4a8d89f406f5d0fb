/-
  The document's own answers for layer 2, the rest: a sum's bytes, what is sealed, what is opened.
-/
import Derived.Test.YtlhonndnoegmbaaRef2
import Derived.Test.YtlhonndnoegmbaaAny
namespace Go.Proofs.Ytlhonndnoegmbaa.crc
open Go.RowKit

/-- A sum's bytes, the highest one first. -/
def four (s : BitVec 32) : List UInt8 := [UInt8.ofNat (s.toNat / 16777216), UInt8.ofNat (s.toNat / 65536 % 256), UInt8.ofNat (s.toNat / 256 % 256), UInt8.ofNat (s.toNat % 256)]

theorem bv_ofNat (n : Nat) (h : n < 256) : bv (UInt8.ofNat n) = .int .u8 (n : Int) := by
  unfold bv
  rw [UInt8.toNat_ofNat', Nat.mod_eq_of_lt (by omega)]

theorem own_of_alloc (w : World) (cells : Array Value) (l : List Value) (n : Nat) (hc : cells = l.toArray) (hn : l.length = n) (hm : n ≤ maxLen) :
    (w.alloc (.cells cells 5)).ownsRow w.heap.size 5 1 (.slice (some ⟨w.heap.size, 0, none⟩) n n) n l := by
  subst hc
  exact ⟨by simpa using hn, .inr ⟨w.heap.size, n, l.toArray, rfl, Nat.le_refl _, heap_alloc_new w _, Nat.le_refl _, hm, by simpa using hn, by simp [← hn]⟩⟩

theorem r2four_any (s : BitVec 32) (w : World) : Calls Try.prog 22 #[rv s] w fun e w' => ∃ v, e = .returned v ∧ Gives w w' v (four s) := by
  have hs := s.isLt
  have h0 := bv_ofNat (s.toNat / 16777216) (by omega)
  have h1 := bv_ofNat (s.toNat / 65536 % 256) (by omega)
  have h2 := bv_ofNat (s.toNat / 256 % 256) (by omega)
  have h3 := bv_ofNat (s.toNat % 256) (by omega)
  have hm : (four s).map bv = [.int .u8 ((s.toNat : Int) / 16777216), .int .u8 ((s.toNat : Int) / 65536 % 256), .int .u8 ((s.toNat : Int) / 256 % 256), .int .u8 ((s.toNat : Int) % 256)] := by
    unfold four
    rw [List.map_cons, List.map_cons, List.map_cons, List.map_cons, h0, h1, h2, h3]
    rfl
  have HM := Lib.hid hm
  clear h0 h1 h2 h3 hm
  have hl : (four s).length = 4 := rfl
  have HL := Lib.hid hl
  clear hl
  unfold rv
  generalize hn : s.toNat = n at hs
  have HN := Lib.hid hn
  clear hn
  rw [HN.out] at HM
  go_enter Try.func22, Try.ntmps22
  go_wp2
  go_ret
  refine ⟨_, rfl, some ⟨w.heap.size, 0, none⟩, 4, rfl, ?_, (Below.refl _ _).alloc (Nat.le_refl _) _⟩
  rw [HM.out]
  exact own_of_alloc w _ _ 4 rfl rfl (by unfold maxLen; omega)

theorem four_length (s : BitVec 32) : (four s).length = 4 := rfl

set_option maxHeartbeats 1000000 in
/-- The document's Seal. -/
theorem r2seal_any (A : Option Addr) (c : Nat) (l : List UInt8) (w : World) (hr : Reads w w.heap.size 1 A l.length (l.map bv)) (hl : l.length ≤ 140737488355000) :
    Calls Try.prog 11 #[.slice A l.length c] w fun e w' => ∃ v, e = .returned v ∧ Gives w w' v (l ++ four (sum (bitsB l))) := by
  obtain ⟨i0, hi, hz0, hz1, hz2⟩ := info_parts infoU8
  have HR := Lib.hid hr
  clear hr
  go_enter Try.func11, Try.ntmps11
  go_wp2_with (at_builtin; refine wpList_append_any _ rfl _ _ 22 rfl w.heap.size 5 i0 (.int .u8 0) 1 1 Try.underlying22 hi hz0 hz1 hz2 rfl (by decide) _ 0 [] rfl (World.ownsRow_nil _ _ _ _) w.heap.size A l.length c (l.map bv) rfl HR.out (bv_one l) (by unfold maxLen; omega) (by omega) (Nat.le_refl _) ?_)
  intro v' w1 hown hgrow hat
  have hB : Below w.heap.size w w1 := (Below.refl _ w).grown hgrow (Nat.le_refl _) (by intro k hk; simp [Value.ownBlock] at hk)
  have HO := Lib.hid hown
  have HB := Lib.hid hB
  have HOF := Lib.hid (r2of_any A c l w1 ((HR.out.below hB).more hB.size) (by omega))
  have hfour := fun w2 => r2four_any (sum (bitsB l)) w2
  have HF := Lib.hid hfour
  clear hown hB hgrow hat hfour
  go_wp2_with (first
    | (go_at_call 23; refine HOF.out.mono ?_; rintro e _ ⟨rfl, rfl⟩)
    | (go_at_call 22; refine (HF.out _).mono ?_; rintro e w3 ⟨v4, rfl, A4, c4, rfl, g4, k4⟩; have G4 := Lib.hid g4; have K4 := Lib.hid k4; have ho3 := (Keep.of_below (S := fun _ => False) k4).own HO.out (fun _ _ h => h); have HO3 := Lib.hid ho3; clear g4 k4 ho3)
    | (at_builtin; refine wpList_append_any _ rfl _ _ 22 rfl w.heap.size 5 i0 (.int .u8 0) 1 1 Try.underlying22 hi hz0 hz1 hz2 rfl (by decide) _ l.length (l.map bv) rfl HO3.out _ A4 4 c4 ((four (sum (bitsB l))).map bv) rfl (Reads.of_own G4.out) (bv_one _) (by unfold maxLen; omega) (by omega) (Nat.le_trans HB.out.size K4.out.size) ?_))
  intro v9 w9 hown hgrow hat
  have hB9 : Below w.heap.size w w9 := (HB.out.trans (K4.out.mono HB.out.size)).grown hgrow (Nat.le_trans HB.out.size K4.out.size) (fun k e => (HO3.out.lt k e).1)
  rw [← List.map_append] at hown
  have hg := Gives.of (w := w) hown (by rw [List.length_append, four_length]) hB9
  have HG := Lib.hid hg
  clear hown hgrow hat hB9 hg
  go_wp2
  go_ret
  exact ⟨_, rfl, HG.out⟩

theorem r2of_cut (A : Option Addr) (c : Nat) (l : List UInt8) (m : Nat) (w : World) (hr : Reads w w.heap.size 1 A m (l.map bv)) (hm : l.length = m) (hl : m ≤ 140737488355328) :
    Calls Try.prog 23 #[.slice A m c] w fun e w' => e = .returned (rv (sum (bitsB l))) ∧ w = w' := by
  subst hm
  exact r2of_any A c l w hr hl

/-- Are bytes sealed? -/
def isSealed (l : List UInt8) : Bool := decide (4 ≤ l.length) && (four (sum (bitsB (l.take (l.length - 4)))) == l.drop (l.length - 4))
def openErr (l : List UInt8) : Int := if isSealed l then 0 else 20
def openOut (l : List UInt8) : List UInt8 := if isSealed l then l.take (l.length - 4) else []

set_option maxRecDepth 100000 in
set_option maxHeartbeats 2000000 in
theorem r2open_long (A : Option Addr) (c m : Nat) (l : List UInt8) (w : World) (hr : Reads w w.heap.size 1 A l.length (l.map bv)) (hl : l.length ≤ 140737488355000) (hc : l.length ≤ c) (hm : l.length = m + 4) :
    Calls Try.prog 10 #[.slice A l.length c] w fun e w' => ∃ v, e = .returned (.tuple #[v, .int .i64 (openErr l)]) ∧ Gives w w' v (openOut l) := by
  obtain ⟨i0, hi, hz0, hz1, hz2⟩ := info_parts infoU8
  have hn4 : (l.length : Int) - 4 = (m : Int) := by omega
  have hrt := hr.front (k := m) (by omega)
  have hrd : Reads w w.heap.size 1 (if c = m then A else A.map (·.add m)) 4 ((l.drop m).map bv) := by
    have h := hr.cut (k := m) (cap := c) (by omega) hc
    rw [Nat.mul_one, ← List.map_drop, show l.length - m = 4 from by omega] at h
    exact h
  have HR := Lib.hid hr
  have HRT := Lib.hid hrt
  have HRD := Lib.hid hrd
  clear hr hrt hrd
  go_enter Try.func10, Try.ntmps10
  go_wp2
  refine wp_region_steps_on (fun w' => Below w.heap.size w w') (fun i v w' => match i with | 7 => ∃ A4 c4, v = .slice A4 4 c4 ∧ (convert 22 9 (.slice A4 4 c4)).run Try.prog w' = .ok (.string ⟨(four (sum (bitsB (l.take m)))).toArray⟩) w' | i => v = ([.int .i64 m, .bool false, .bool false, .slice A l.length c, .int .i64 m, .slice A m c, rv (sum (bitsB (l.take m))), undef, .string ⟨(four (sum (bitsB (l.take m)))).toArray⟩, .slice A l.length c, .int .i64 m, .slice (if c = m then A else A.map (·.add m)) 4 (c - m), .string ⟨(l.drop m).toArray⟩, .bool (!(four (sum (bitsB (l.take m))) == l.drop m)), .bool (!(four (sum (bitsB (l.take m))) == l.drop m))] : List Value).getD i undef) (by kernel_rfl) 29 rfl (by kernel_rfl) (Below.refl _ _).drew ?_ ?_
  · intro i hi
    have hi2 : i < 15 := hi
    clear hi
    rcases i with _ | i
    · refine step_value (.int .i64 m) rfl ?_
      intro a8 w8 hS ho hn
      have o4 : a8.tmps[4]? = some _ := (ho 4 (by kernel_rfl)).trans rfl
      clear ho hn
      refine ⟨wanted_free rfl, ?_, rfl⟩
      go_simp
    rcases i with _ | i
    · refine step_value (.bool false) rfl ?_
      intro a8 w8 hS ho hn
      obtain ⟨_, n9, rfl⟩ := hn 0 9 (by kernel_rfl) rfl
      clear ho hn
      refine ⟨wanted_free rfl, ?_, rfl⟩
      go_simp
    rcases i with _ | i
    · refine step_value (.bool false) rfl ?_
      intro a8 w8 hS ho hn
      obtain ⟨_, n10, rfl⟩ := hn 1 10 (by kernel_rfl) rfl
      clear ho hn
      refine ⟨wanted_free rfl, ?_, rfl⟩
      go_simp
    rcases i with _ | i
    · refine step_value (.slice A l.length c) rfl ?_
      intro a8 w8 hS ho hn
      have o0 : a8.tmps[0]? = some _ := (ho 0 (by kernel_rfl)).trans rfl
      obtain ⟨_, n11, rfl⟩ := hn 2 11 (by kernel_rfl) rfl
      clear ho hn
      refine ⟨wanted_of 2 11 rfl rfl n11, ?_, rfl⟩
      go_simp
    rcases i with _ | i
    · refine step_value (.int .i64 m) rfl ?_
      intro a8 w8 hS ho hn
      have o4 : a8.tmps[4]? = some _ := (ho 4 (by kernel_rfl)).trans rfl
      obtain ⟨_, n11, rfl⟩ := hn 2 11 (by kernel_rfl) rfl
      clear ho hn
      refine ⟨wanted_of 2 11 rfl rfl n11, ?_, rfl⟩
      go_simp
    rcases i with _ | i
    · refine step_value (.slice A m c) rfl ?_
      intro a8 w8 hS ho hn
      obtain ⟨_, n12, rfl⟩ := hn 3 12 (by kernel_rfl) rfl
      obtain ⟨_, n13, rfl⟩ := hn 4 13 (by kernel_rfl) rfl
      obtain ⟨_, n11, rfl⟩ := hn 2 11 (by kernel_rfl) rfl
      clear ho hn
      refine ⟨wanted_of 2 11 rfl rfl n11, ?_, rfl⟩
      go_simp
      intro h
      omega
    rcases i with _ | i
    · refine step_call 23 #[.slice A m c] rfl ?_
      intro a8 w8 hS ho hn
      obtain ⟨_, n14, rfl⟩ := hn 5 14 (by kernel_rfl) rfl
      obtain ⟨_, n11, rfl⟩ := hn 2 11 (by kernel_rfl) rfl
      clear ho hn
      refine ⟨wanted_of 2 11 rfl rfl n11, by go_simp, ?_⟩
      refine (r2of_cut A c (l.take m) m w8 ?_ (by rw [List.length_take]; omega) (by omega)).mono ?_
      · exact ((HRT.out.below hS).more hS.size)
      rintro e w9 ⟨rfl, rfl⟩
      exact ⟨_, rfl, hS, rfl, fun _ _ _ h => h⟩
    rcases i with _ | i
    · refine step_call 22 #[rv (sum (bitsB (l.take m)))] rfl ?_
      intro a8 w8 hS ho hn
      obtain ⟨_, n15, rfl⟩ := hn 6 15 (by kernel_rfl) rfl
      obtain ⟨_, n11, rfl⟩ := hn 2 11 (by kernel_rfl) rfl
      clear ho hn
      refine ⟨wanted_of 2 11 rfl rfl n11, by go_simp, ?_⟩
      refine (r2four_any (sum (bitsB (l.take m))) w8).mono ?_
      rintro e w9 ⟨v, rfl, A4, c4, rfl, g4, k4⟩
      refine ⟨_, rfl, hS.trans (k4.mono hS.size), ⟨A4, c4, rfl, conv_reads c4 (Reads.of_own g4)⟩, fun j u hj hR => ?_⟩
      match j, hj, hR with
      | 7, hj, _ => exact absurd rfl hj
      | 0, _, h | 1, _, h | 2, _, h | 3, _, h | 4, _, h | 5, _, h | 6, _, h => exact h
      | n + 8, _, h => exact h
    rcases i with _ | i
    · refine step_value (.string ⟨(four (sum (bitsB (l.take m)))).toArray⟩) rfl ?_
      intro a8 w8 hS ho hn
      obtain ⟨_, n16, A4, c4, rfl, cv⟩ := hn 7 16 (by kernel_rfl) rfl
      obtain ⟨_, n11, rfl⟩ := hn 2 11 (by kernel_rfl) rfl
      clear ho hn
      refine ⟨wanted_of 2 11 rfl rfl n11, ?_, rfl⟩
      go_simp
    rcases i with _ | i
    · refine step_value (.slice A l.length c) rfl ?_
      intro a8 w8 hS ho hn
      have o0 : a8.tmps[0]? = some _ := (ho 0 (by kernel_rfl)).trans rfl
      obtain ⟨_, n11, rfl⟩ := hn 2 11 (by kernel_rfl) rfl
      clear ho hn
      refine ⟨wanted_of 2 11 rfl rfl n11, ?_, rfl⟩
      go_simp
    rcases i with _ | i
    · refine step_value (.int .i64 m) rfl ?_
      intro a8 w8 hS ho hn
      have o4 : a8.tmps[4]? = some _ := (ho 4 (by kernel_rfl)).trans rfl
      obtain ⟨_, n11, rfl⟩ := hn 2 11 (by kernel_rfl) rfl
      clear ho hn
      refine ⟨wanted_of 2 11 rfl rfl n11, ?_, rfl⟩
      go_simp
    rcases i with _ | i
    · refine step_value (.slice (if c = m then A else A.map (·.add m)) 4 (c - m)) rfl ?_
      intro a8 w8 hS ho hn
      obtain ⟨_, n18, rfl⟩ := hn 9 18 (by kernel_rfl) rfl
      obtain ⟨_, n19, rfl⟩ := hn 10 19 (by kernel_rfl) rfl
      obtain ⟨_, n11, rfl⟩ := hn 2 11 (by kernel_rfl) rfl
      clear ho hn
      refine ⟨wanted_of 2 11 rfl rfl n11, ?_, rfl⟩
      go_simp
      intro h
      omega
    rcases i with _ | i
    · refine step_value (.string ⟨(l.drop m).toArray⟩) rfl ?_
      intro a8 w8 hS ho hn
      obtain ⟨_, n20, rfl⟩ := hn 11 20 (by kernel_rfl) rfl
      obtain ⟨_, n11, rfl⟩ := hn 2 11 (by kernel_rfl) rfl
      clear ho hn
      refine ⟨wanted_of 2 11 rfl rfl n11, ?_, rfl⟩
      have cvd := conv_reads (c - m) (HRD.out.below hS)
      go_simp
    rcases i with _ | i
    · refine step_value (.bool (!(four (sum (bitsB (l.take m))) == l.drop m))) rfl ?_
      intro a8 w8 hS ho hn
      obtain ⟨_, n17, rfl⟩ := hn 8 17 (by kernel_rfl) rfl
      obtain ⟨_, n21, rfl⟩ := hn 12 21 (by kernel_rfl) rfl
      obtain ⟨_, n11, rfl⟩ := hn 2 11 (by kernel_rfl) rfl
      clear ho hn
      refine ⟨wanted_of 2 11 rfl rfl n11, ?_, rfl⟩
      go_simp
    rcases i with _ | i
    · refine step_value (.bool (!(four (sum (bitsB (l.take m))) == l.drop m))) rfl ?_
      intro a8 w8 hS ho hn
      obtain ⟨_, n11, rfl⟩ := hn 2 11 (by kernel_rfl) rfl
      obtain ⟨_, n22, rfl⟩ := hn 13 22 (by kernel_rfl) rfl
      clear ho hn
      refine ⟨wanted_free rfl, ?_, rfl⟩
      go_simp
    omega
  · intro f w8 hS hR
    have e23 : f 23 = .bool (!(four (sum (bitsB (l.take m))) == l.drop m)) := hR 14 23 rfl
    clear hR
    simp only [putAll, List.foldl_cons, List.foldl_nil, Act.put, List.setIfInBounds_toArray, List.set_cons_succ, List.set_cons_zero]
    rw [e23]
    have hsl : isSealed l = (four (sum (bitsB (l.take m))) == l.drop m) := by
      unfold isSealed
      rw [show l.length - 4 = m from by omega, decide_eq_true (show 4 ≤ l.length by omega), Bool.true_and]
    have hse : openErr l = if isSealed l then 0 else 20 := rfl
    have hso : openOut l = if isSealed l then l.take m else [] := by
      unfold openOut
      rw [show l.length - 4 = m from by omega]
    rw [hsl] at hse hso
    generalize (four (sum (bitsB (l.take m))) == l.drop m) = ok at hse hso ⊢
    have HSE := Lib.hid hse
    have HSO := Lib.hid hso
    have HS := Lib.hid hS
    clear hse hso hS hsl e23
    cases ok
    · rw [if_neg (by simp)] at HSE HSO
      go_wp2
      go_ret2
      refine ⟨_, by rw [HSE.out]; rfl, ?_⟩
      rw [HSO.out]
      exact ⟨none, 0, rfl, World.ownsRow_nil _ _ _ _, HS.out⟩
    · rw [if_pos rfl] at HSE HSO
      have hlt : (l.take m).length = m := by rw [List.length_take]; omega
      have HLT := Lib.hid hlt
      have hro := (HRT.out.below HS.out).more HS.out.size
      have HRO := Lib.hid hro
      clear hlt hro
      go_wp2_with (at_builtin; refine wpList_append_any _ rfl _ _ 22 rfl w.heap.size 5 i0 (.int .u8 0) 1 1 Try.underlying22 hi hz0 hz1 hz2 rfl (by decide) _ 0 [] rfl (World.ownsRow_nil _ _ _ _) _ A m c ((l.take m).map bv) rfl HRO.out (bv_one _) (by unfold maxLen; omega) (by omega) HS.out.size ?_)
      intro v' w9 hown hgrow hat
      have hB9 : Below w.heap.size w w9 := HS.out.grown hgrow HS.out.size (by intro k hk; simp [Value.ownBlock] at hk)
      rw [← List.map_take] at hown
      have hg := Gives.of (w := w) hown HLT.out hB9
      have HG := Lib.hid hg
      clear hown hgrow hat hB9 hg
      go_wp2
      go_ret2
      refine ⟨_, by rw [HSE.out]; rfl, ?_⟩
      rw [HSO.out]
      exact HG.out

set_option maxRecDepth 100000 in
set_option maxHeartbeats 2000000 in
theorem r2open_short (A : Option Addr) (c : Nat) (l : List UInt8) (w : World) (hs : l.length < 4) :
    Calls Try.prog 10 #[.slice A l.length c] w fun e w' => ∃ v, e = .returned (.tuple #[v, .int .i64 (openErr l)]) ∧ Gives w w' v (openOut l) := by
  have hlt : decide ((l.length : Int) - 4 < 0) = true := by simp; omega
  have hsl : isSealed l = false := by
    unfold isSealed
    rw [decide_eq_false (by omega), Bool.false_and]
  have hse : openErr l = 20 := by unfold openErr; rw [hsl]; rfl
  have hso : openOut l = [] := by unfold openOut; rw [hsl]; rfl
  have HSE := Lib.hid hse
  have HSO := Lib.hid hso
  clear hse hso hsl
  go_enter Try.func10, Try.ntmps10
  go_wp2
  refine wp_region_steps_on (fun w' => Below w.heap.size w w') (fun i v w' => v = ([.int .i64 ((l.length : Int) - 4), .bool true, .bool true, undef, undef, undef, undef, undef, undef, undef, undef, undef, undef, undef, .bool true] : List Value).getD i undef) (by kernel_rfl) 29 rfl (by kernel_rfl) (Below.refl _ _).drew ?_ ?_
  · intro i hi
    have hi2 : i < 15 := hi
    clear hi
    rcases i with _ | i
    · refine step_value (.int .i64 ((l.length : Int) - 4)) rfl ?_
      intro a8 w8 hS ho hn
      have o4 : a8.tmps[4]? = some _ := (ho 4 (by kernel_rfl)).trans rfl
      clear ho hn
      refine ⟨wanted_free rfl, ?_, rfl⟩
      go_simp
    rcases i with _ | i
    · refine step_value (.bool true) rfl ?_
      intro a8 w8 hS ho hn
      obtain ⟨_, n9, rfl⟩ := hn 0 9 (by kernel_rfl) rfl
      clear ho hn
      refine ⟨wanted_free rfl, ?_, rfl⟩
      go_simp
    rcases i with _ | i
    · refine step_value (.bool true) rfl ?_
      intro a8 w8 hS ho hn
      obtain ⟨_, n10, rfl⟩ := hn 1 10 (by kernel_rfl) rfl
      clear ho hn
      refine ⟨wanted_free rfl, ?_, rfl⟩
      go_simp
    rcases i with _ | i
    · refine step_skip rfl ?_
      intro a8 w8 hS ho hn
      obtain ⟨_, n11, rfl⟩ := hn 2 11 (by kernel_rfl) rfl
      exact ⟨unwanted_of 2 11 rfl rfl n11 rfl, rfl⟩
    rcases i with _ | i
    · refine step_skip rfl ?_
      intro a8 w8 hS ho hn
      obtain ⟨_, n11, rfl⟩ := hn 2 11 (by kernel_rfl) rfl
      exact ⟨unwanted_of 2 11 rfl rfl n11 rfl, rfl⟩
    rcases i with _ | i
    · refine step_skip rfl ?_
      intro a8 w8 hS ho hn
      obtain ⟨_, n11, rfl⟩ := hn 2 11 (by kernel_rfl) rfl
      exact ⟨unwanted_of 2 11 rfl rfl n11 rfl, rfl⟩
    rcases i with _ | i
    · refine step_skip rfl ?_
      intro a8 w8 hS ho hn
      obtain ⟨_, n11, rfl⟩ := hn 2 11 (by kernel_rfl) rfl
      exact ⟨unwanted_of 2 11 rfl rfl n11 rfl, rfl⟩
    rcases i with _ | i
    · refine step_skip rfl ?_
      intro a8 w8 hS ho hn
      obtain ⟨_, n11, rfl⟩ := hn 2 11 (by kernel_rfl) rfl
      exact ⟨unwanted_of 2 11 rfl rfl n11 rfl, rfl⟩
    rcases i with _ | i
    · refine step_skip rfl ?_
      intro a8 w8 hS ho hn
      obtain ⟨_, n11, rfl⟩ := hn 2 11 (by kernel_rfl) rfl
      exact ⟨unwanted_of 2 11 rfl rfl n11 rfl, rfl⟩
    rcases i with _ | i
    · refine step_skip rfl ?_
      intro a8 w8 hS ho hn
      obtain ⟨_, n11, rfl⟩ := hn 2 11 (by kernel_rfl) rfl
      exact ⟨unwanted_of 2 11 rfl rfl n11 rfl, rfl⟩
    rcases i with _ | i
    · refine step_skip rfl ?_
      intro a8 w8 hS ho hn
      obtain ⟨_, n11, rfl⟩ := hn 2 11 (by kernel_rfl) rfl
      exact ⟨unwanted_of 2 11 rfl rfl n11 rfl, rfl⟩
    rcases i with _ | i
    · refine step_skip rfl ?_
      intro a8 w8 hS ho hn
      obtain ⟨_, n11, rfl⟩ := hn 2 11 (by kernel_rfl) rfl
      exact ⟨unwanted_of 2 11 rfl rfl n11 rfl, rfl⟩
    rcases i with _ | i
    · refine step_skip rfl ?_
      intro a8 w8 hS ho hn
      obtain ⟨_, n11, rfl⟩ := hn 2 11 (by kernel_rfl) rfl
      exact ⟨unwanted_of 2 11 rfl rfl n11 rfl, rfl⟩
    rcases i with _ | i
    · refine step_skip rfl ?_
      intro a8 w8 hS ho hn
      obtain ⟨_, n11, rfl⟩ := hn 2 11 (by kernel_rfl) rfl
      exact ⟨unwanted_of 2 11 rfl rfl n11 rfl, rfl⟩
    rcases i with _ | i
    · refine step_value (.bool true) rfl ?_
      intro a8 w8 hS ho hn
      obtain ⟨_, n11, rfl⟩ := hn 2 11 (by kernel_rfl) rfl
      obtain ⟨_, n22, rfl⟩ := hn 13 22 (by kernel_rfl) rfl
      clear ho hn
      refine ⟨wanted_free rfl, ?_, rfl⟩
      go_simp
    omega
  · intro f w8 hS hR
    have e23 : f 23 = .bool true := hR 14 23 rfl
    clear hR
    simp only [putAll, List.foldl_cons, List.foldl_nil, Act.put, List.setIfInBounds_toArray, List.set_cons_succ, List.set_cons_zero]
    rw [e23]
    have HS := Lib.hid hS
    clear hS e23
    go_wp2
    go_ret2
    refine ⟨_, by rw [HSE.out]; rfl, ?_⟩
    rw [HSO.out]
    exact ⟨none, 0, rfl, World.ownsRow_nil _ _ _ _, HS.out⟩

/-- The document's Open. -/
theorem r2open_any (A : Option Addr) (c : Nat) (l : List UInt8) (w : World) (hr : Reads w w.heap.size 1 A l.length (l.map bv)) (hl : l.length ≤ 140737488355000) (hc : l.length ≤ c) :
    Calls Try.prog 10 #[.slice A l.length c] w fun e w' => ∃ v, e = .returned (.tuple #[v, .int .i64 (openErr l)]) ∧ Gives w w' v (openOut l) := by
  by_cases h : l.length < 4
  · exact r2open_short A c l w h
  · exact r2open_long A c (l.length - 4) l w hr hl hc (by omega)

end Go.Proofs.Ytlhonndnoegmbaa.crc

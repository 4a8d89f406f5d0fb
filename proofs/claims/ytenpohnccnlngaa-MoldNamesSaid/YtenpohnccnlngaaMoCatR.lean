/-
  Layer 13 (mold): extended, agree, CatWay's rule.
  Layer 13 (mold): agree.
  Layer 13 (mold): CatWay's rule.
-/
import Derived.Test.YtenpohnccnlngaaMoSrc
import Derived.ArgAppend
namespace Go.Proofs.Ytenpohnccnlngaa.mo
open Go.RowKit Go.Proofs.Ytenpohnccnlngaa.arr

/-- The shape that an array is held to have beside another one. -/
def exL (sh ot : List Int) : List Int := if sh.length = 0 ∧ 0 < ot.length then ot.take (ot.length - 1) ++ [1] else if sh.length = 0 ∨ sh.length + 1 = ot.length then sh ++ [1] else sh
theorem cells_one (W : World) (t : TypeId) (x : Value) : ∀ j u, ([x] : List Value)[j]? = some u → (W.alloc (.cells #[x] t)).cell? ((⟨W.heap.size, 0, none⟩ : Addr).add j) = some u := fun j u hu => by
  rw [Addr.add_mid, Nat.zero_add, (Blk.new W t _).cell j, List.getElem?_toArray]
  exact hu
def GiveR (l : List Int) (w : World) (e : Ending) (w' : World) : Prop := ∃ A c, e = .returned (.slice A l.length c) ∧ w'.ownsRow w.heap.size 3 1 (.slice A l.length c) l.length (l.map iv) ∧ Below w.heap.size w w'

set_option maxRecDepth 100000 in
set_option maxHeartbeats 4000000 in
theorem moext_any (A B : Option Addr) (c d : Nat) (l m : List Int) (w : World) (ha : Reads w w.heap.size 1 A l.length (l.map iv)) (hb : Reads w w.heap.size 1 B m.length (m.map iv)) (hc : l.length ≤ c) (hd : m.length ≤ d) (hl : l.length ≤ 100000) (hm : m.length ≤ 100000) (hA : A = none → c = 0) :
    Calls Try.prog 83 #[.slice A l.length c, .slice B m.length d] w (GiveR (exL l m) w) := by
  obtain ⟨i0, hi, hz0, hz1, hz2⟩ := info_parts arInfoInt
  have HA := Lib.hid ha
  have HB := Lib.hid hb
  have hE : exL l m = if l.length = 0 ∧ 0 < m.length then m.take (m.length - 1) ++ [1] else if l.length = 0 ∨ l.length + 1 = m.length then l ++ [1] else l := rfl
  obtain ⟨R, hR⟩ : ∃ R, exL l m = R := ⟨_, rfl⟩
  rw [hR] at hE
  rw [hR]
  by_cases h1 : l.length = 0 ∧ 0 < m.length
  · rw [if_pos h1] at hE
    obtain ⟨n, hn⟩ : ∃ n, m.length = n + 1 := ⟨m.length - 1, by omega⟩
    have htk : (m.take n).length = n := by rw [List.length_take]; omega
    have hRl : R.length = n + 1 := by rw [hE, hn]; simp; omega
    have hRm : R.map iv = (m.take n).map iv ++ [.int .i64 1] := by rw [hE, hn]; simp [iv]
    obtain ⟨adB, rfl⟩ : ∃ ad, B = some ad := by
      obtain ⟨ad, e, _⟩ := hb.2 (by omega)
      exact ⟨ad, e⟩
    have holds : ∀ b, some adB = some b → ∀ j u, ((m.take n).map iv)[j]? = some u → w.cell? (b.add j) = some u := fun b e j u hu => by
      injection e with e
      subst e
      obtain ⟨ad, e, _, hcl⟩ := HB.out.2 (by omega)
      injection e with e
      subst e
      refine hcl j u ?_
      rw [List.map_take] at hu
      rw [List.getElem?_take] at hu
      split at hu
      · exact hu
      · cases hu
    have HOL := Lib.hid (fun b e j u hu => (World.cell?_alloc_lt w (.cells #[.int .i64 1] 3) ((b : Addr).add j) (by
      have h := holds b e j u hu
      exact block_lt_of_cell h)).trans (holds b e j u hu))
    have h10 : l.length = 0 := h1.1
    have hn1 : ((n : Int) + 1) - 1 = (n : Int) := by omega
    have hnd : n ≤ d := by omega
    have hp : (0 : Int) < (n : Int) + 1 := by omega
    rw [h10, hn]
    have HN4 : n + 1 ≤ 100000 := by omega
    have HRL := Lib.hid hRl
    have HRM := Lib.hid hRm
    have HTK := Lib.hid htk
    clear hE h1 hR ha hb hc hd hl hm holds h10 hn hRl hRm htk
    go_enter Try.func83, Try.ntmps83
    go_wp2_with (first
      | (at_builtin; refine wpList_append_grows _ rfl _ _ 22 rfl 3 i0 (.int .i64 0) 1 8 Try.underlying22 hi hz0 hz1 hz2 rfl (by decide) (some adB) n n ((m.take n).map iv) rfl (fun e => by cases e) (by rw [List.length_map, HTK.out]; omega) HOL.out ⟨w.heap.size, 0, none⟩ 1 1 [.int .i64 1] rfl rfl (cells_one w 3 _) (by intro u hu; rw [List.mem_singleton] at hu; subst hu; rfl) (by omega) (by unfold maxLen; omega) (by omega) ?_; intro v' w2 hown hgrow))
    obtain ⟨A', c', rfl⟩ : ∃ A' c', v' = .slice A' (n + 1) c' := by
      rcases hown.2 with ⟨_, h0⟩ | ⟨g, cap, cur, e, _⟩
      · omega
      · exact ⟨_, cap, e⟩
    have hb2 : Below w.heap.size w w2 := (albel w (.cells #[.int .i64 1] 3)).grown hgrow (by simp) (fun k e => by cases e)
    go_ret
    have hrl := HRL.out
    have hrm := HRM.out
    unfold GiveR
    rw [hrl, hrm]
    exact ⟨A', c', rfl, arown_mono hown (by simp), hb2⟩
  rw [if_neg h1] at hE
  by_cases h2 : l.length = 0 ∨ l.length + 1 = m.length
  · rw [if_pos h2] at hE
    obtain ⟨n, hn⟩ : ∃ n, l.length = n := ⟨_, rfl⟩
    have hRl : R.length = n + 1 := by rw [hE]; simp; omega
    have hRm : R.map iv = l.map iv ++ [.int .i64 1] := by rw [hE]; simp [iv]
    have HLM : Hid ((l.map iv).length = n * 1) := Lib.hid (by rw [List.length_map]; omega)
    have HOL : Hid (∀ b, A = some b → ∀ j u, (l.map iv)[j]? = some u → (w.alloc (.cells #[.int .i64 1] 3)).cell? ((b : Addr).add j) = some u) := Lib.hid (fun b e j u hu => by
      have hj : j < l.length := by
        have := (List.getElem?_eq_some_iff.1 hu).1
        rwa [List.length_map] at this
      obtain ⟨ad, e2, _, hcl⟩ := HA.out.2 (by omega)
      rw [e] at e2
      injection e2 with e2
      subst e2
      have h := hcl j u hu
      exact (World.cell?_alloc_lt w (.cells #[.int .i64 1] 3) _ (block_lt_of_cell h)).trans h)
    rw [hn] at hc h1 h2 hl ⊢
    have HRL := Lib.hid hRl
    have HRM := Lib.hid hRm
    have HNO : Hid (A = none → n = 0 ∧ n = 0) := Lib.hid (fun e => by have := hA e; omega)
    have hm0 : n = 0 → m.length = 0 := fun e => by omega
    have hms : n ≠ 0 → m.length = n + 1 := fun e => by omega
    have HN4 : n + 1 ≤ 100001 := by omega
    generalize m.length = q at *
    by_cases h0 : n = 0
    · obtain rfl := hm0 h0
      subst h0
      clear hE h1 h2 hR ha hb hc hd hl hm hn hRl hRm hm0 hms
      rcases A with _ | adA
      · obtain rfl := hA rfl
        clear hA
        go_enter Try.func83, Try.ntmps83
        go_wp2_with (first
          | (at_builtin; refine wpList_append_grows _ rfl _ _ 22 rfl 3 i0 (.int .i64 0) 1 8 Try.underlying22 hi hz0 hz1 hz2 rfl (by decide) none 0 0 (l.map iv) rfl HNO.out HLM.out HOL.out ⟨w.heap.size, 0, none⟩ 1 1 [.int .i64 1] rfl rfl (cells_one w 3 _) (by intro u hu; rw [List.mem_singleton] at hu; subst hu; rfl) (by omega) (by unfold maxLen; omega) (by omega) ?_; intro v' w2 hown hgrow))
        obtain ⟨A', c', rfl⟩ : ∃ A' c', v' = .slice A' (0 + 1) c' := by
          rcases hown.2 with ⟨_, h0⟩ | ⟨g, cap, cur, e, _⟩
          · omega
          · exact ⟨_, cap, e⟩
        have hb2 : Below w.heap.size w w2 := (albel w (.cells #[.int .i64 1] 3)).grown hgrow (by simp) (fun k e => by cases e)
        go_ret
        have hrl := HRL.out
        have hrm := HRM.out
        unfold GiveR
        rw [hrl, hrm]
        exact ⟨A', c', rfl, arown_mono hown (by simp), hb2⟩
      · clear hA
        go_enter Try.func83, Try.ntmps83
        go_wp2_with (first
          | (at_builtin; refine wpList_append_grows _ rfl _ _ 22 rfl 3 i0 (.int .i64 0) 1 8 Try.underlying22 hi hz0 hz1 hz2 rfl (by decide) (some adA) 0 0 (l.map iv) rfl HNO.out HLM.out HOL.out ⟨w.heap.size, 0, none⟩ 1 1 [.int .i64 1] rfl rfl (cells_one w 3 _) (by intro u hu; rw [List.mem_singleton] at hu; subst hu; rfl) (by omega) (by unfold maxLen; omega) (by omega) ?_; intro v' w2 hown hgrow))
        obtain ⟨A', c', rfl⟩ : ∃ A' c', v' = .slice A' (0 + 1) c' := by
          rcases hown.2 with ⟨_, h0⟩ | ⟨g, cap, cur, e, _⟩
          · omega
          · exact ⟨_, cap, e⟩
        have hb2 : Below w.heap.size w w2 := (albel w (.cells #[.int .i64 1] 3)).grown hgrow (by simp) (fun k e => by cases e)
        go_ret
        have hrl := HRL.out
        have hrm := HRM.out
        unfold GiveR
        rw [hrl, hrm]
        exact ⟨A', c', rfl, arown_mono hown (by simp), hb2⟩
    · obtain rfl := hms h0
      obtain ⟨adA, rfl⟩ : ∃ ad, A = some ad := by
        obtain ⟨ad, e, _⟩ := ha.2 (by omega)
        exact ⟨ad, e⟩
      have hk0 : ((n : Int) == 0) = false := by rw [beq_eq_false_iff_ne]; omega
      clear hE h1 h2 hR ha hb hd hl hm hn hRl hRm hm0 hms hA
      go_enter Try.func83, Try.ntmps83
      go_wp2_with (first
        | (at_builtin; refine wpList_append_grows _ rfl _ _ 22 rfl 3 i0 (.int .i64 0) 1 8 Try.underlying22 hi hz0 hz1 hz2 rfl (by decide) (some adA) n n (l.map iv) rfl HNO.out HLM.out HOL.out ⟨w.heap.size, 0, none⟩ 1 1 [.int .i64 1] rfl rfl (cells_one w 3 _) (by intro u hu; rw [List.mem_singleton] at hu; subst hu; rfl) (by omega) (by unfold maxLen; omega) (by omega) ?_; intro v' w2 hown hgrow))
      obtain ⟨A', c', rfl⟩ : ∃ A' c', v' = .slice A' (n + 1) c' := by
        rcases hown.2 with ⟨_, h0⟩ | ⟨g, cap, cur, e, _⟩
        · omega
        · exact ⟨_, cap, e⟩
      have hb2 : Below w.heap.size w w2 := (albel w (.cells #[.int .i64 1] 3)).grown hgrow (by simp) (fun k e => by cases e)
      go_ret
      have hrl := HRL.out
      have hrm := HRM.out
      unfold GiveR
      rw [hrl, hrm]
      exact ⟨A', c', rfl, arown_mono hown (by simp), hb2⟩
  · rw [if_neg h2] at hE
    obtain rfl : l = R := hE.symm
    have h3 : ((l.length : Int) == 0) = false := by rw [beq_eq_false_iff_ne]; omega
    have h4 : ((l.length : Int) + 1 == (m.length : Int)) = false := by rw [beq_eq_false_iff_ne]; omega
    have h5 : decide (l.length + 1 = m.length) = false := decide_eq_false (by omega)
    have HCL := Lib.hid (arcloneI_any A l.length c l w rfl ha (by omega))
    unfold GiveR
    clear hR ha hb h1 h2 hA HA HB hE
    generalize l.length = n at *
    generalize m.length = q at *
    go_enter Try.func83, Try.ntmps83
    go_wp2_with (go_at_call 114; refine HCL.out.mono ?_; rintro e w2 ⟨A2, c2, rfl, o2, b2⟩)
    go_ret
    exact ⟨A2, c2, rfl, o2, b2⟩
end Go.Proofs.Ytenpohnccnlngaa.mo

namespace Go.Proofs.Ytenpohnccnlngaa.mo
open Go.RowKit Go.Proofs.Ytenpohnccnlngaa.arr

/-- What stands while lengths are held side by side. -/
structure AgI (w W3 : World) (b : Bool) (W : World) : Prop where
  keep : Keep (fun i => i = w.heap.size) W3 W
  x : Blk W w.heap.size 4 #[.bool b]
theorem AgI.own {w W3 W W' : World} {b : Bool} {row : Option Nat} (h : AgI w W3 b W) (hg : W.grownBy W' row) (hr : ∀ r, row = some r → W3.heap.size ≤ r ∧ ∃ o : Obj, W.heap[r]? = some o ∧ o.isCells = false) : AgI w W3 b W' :=
  ⟨h.keep.grown hg (fun g e hlt => by have := (hr g e).1; omega), mo_blk_turned h.x hg hr⟩
theorem AgI.below {w W3 W W' : World} {b : Bool} (h : AgI w W3 b W) (hb : Below W.heap.size W W') : AgI w W3 b W' :=
  ⟨h.keep.trans (Keep.of_below (S := fun _ => False) hb) (fun _ _ e => e.elim), h.x.below hb h.x.lt⟩
theorem AgI.set {w W3 W : World} {b : Bool} (h : AgI w W3 b W) (b' : Bool) : AgI w W3 b' (W.setCell ⟨w.heap.size, 0, none⟩ (.bool b')) :=
  ⟨h.keep.setCell _ _ (fun _ => rfl), h.x.set_ 0 _⟩

section
attribute [local go_sem] Oper.semAt_some
set_option maxRecDepth 100000 in
set_option maxHeartbeats 4000000 in
theorem moagree_any (A B : Option Addr) (c d n : Nat) (l m : List Int) (w : World) (hl : l.length = n) (hm : m.length = n) (ha : Reads w w.heap.size 1 A n (l.map iv)) (hb : Reads w w.heap.size 1 B n (m.map iv)) (hn : n ≤ 100000) :
    Calls Try.prog 84 #[.slice A n c, .slice B n d] w fun e w' => e = .returned (.bool (decide (l = m))) ∧ Below w.heap.size w w' := by
  obtain ⟨z, hz⟩ : ∃ z, w.heap.size = z := ⟨_, rfl⟩
  obtain ⟨W3, hW3⟩ : ∃ W3, ((w.alloc (.cells #[.bool true] 4)).alloc (.cells #[.slice A n c] 22)).alloc (.cells #[.slice B n d] 22) = W3 := ⟨_, rfl⟩
  have hb3 : Below w.heap.size w W3 := by rw [← hW3]; exact mobelow3 _ _ _
  have hs3 : W3.heap.size = z + 3 := by rw [← hW3, ← hz]; simp
  have k0 : Blk W3 z 4 #[.bool true] := by
    rw [← hW3, ← hz]
    exact ((Blk.new w _ _).alloc _).alloc _
  have k1 : Blk W3 (z + 1) 22 #[.slice A n c] := by
    have h := (Blk.new (w.alloc (.cells #[.bool true] 4)) 22 #[.slice A n c]).alloc (.cells #[.slice B n d] 22)
    rw [hW3] at h
    simpa only [World.size_alloc, hz] using h
  have k2 : Blk W3 (z + 2) 22 #[.slice B n d] := by
    have h := Blk.new ((w.alloc (.cells #[.bool true] 4)).alloc (.cells #[.slice A n c] 22)) 22 #[.slice B n d]
    rw [hW3] at h
    simpa only [World.size_alloc, hz] using h
  have HPRE : Hid (∀ W, Keep (fun i => i = w.heap.size) W3 W → Below w.heap.size w W ∧ SdPre (z + 1) (z + 2) A B c d l m W) := Lib.hid (fun W hk => by
    have hb' := hb3.trans (hk.below (B := w.heap.size) hb3.size (fun i hi e => by omega))
    refine ⟨hb', ?_, ?_, ?_, ?_⟩
    · rw [hl]; exact hk.blk k1 (by omega)
    · rw [hm]; exact hk.blk k2 (by omega)
    · rw [hl]; exact (ha.below hb').more hb'.size
    · rw [hm]; exact (hb.below hb').more hb'.size)
  have H0 : Hid (AgI w W3 true W3) := Lib.hid ⟨Keep.refl _ _, hz ▸ k0⟩
  have HS3 := Lib.hid hs3
  have HZ := Lib.hid hz
  have HB3 := Lib.hid hb3
  have hMV := side_moves 6 (z + 1) (z + 2) A B c d l m (hl.trans hm.symm) (by omega) W3
  rw [hl] at hMV
  have HW3 := Lib.hid hW3
  have HL := Lib.hid hl
  have HM := Lib.hid hm
  have hfp : Fence.wide.fn 126 := trivial
  obtain ⟨R, hR⟩ : ∃ R, decide (l = m) = R := ⟨_, rfl⟩
  rw [hR]
  have HR := Lib.hid hR
  clear hR hb3 k0 k1 k2 ha hb hW3 hs3 hz hl hm
  refine (callsIn_wide (n := 7)).1 ?_
  refine callsIn_of_wp_marks Try.func84 rfl trivial ?_
  simp only [Try.ntmps84, List.size_toArray, List.length_cons, List.length_nil, Nat.reduceAdd, Nat.reduceSub, Array.replicate_succ, Array.replicate_zero, List.push_toArray, List.append_toArray, List.nil_append, List.cons_append]
  gi_wp2
  refine wpIn_scope_wide ?_
  gi_wp2
  refine wpIn_label ?_
  gi_wp2_with (gi_at_call 126; refine (callsIn_wide.2 (moside_any _ _ _ _ _ _ _)).mono ?_; rintro e w7 ⟨rfl, hw7⟩)
  obtain rfl : W3 = w7 := by rw [← HW3.out, ← hw7]
  clear hw7
  have hz := HZ.out
  rw [hz] at *
  simp only [Nat.add_assoc, Nat.reduceAdd]
  clear hz
  refine wpIn_rangeFunc_movesV rfl (by omega) (gf := 152) (lb := #[.pointer (some ⟨z + 1, 0, none⟩), .pointer (some ⟨z + 2, 0, none⟩)]) rfl trivial (enters_of Try.func152 (by kernel_rfl) rfl)
    hMV (Below.refl _ _) (fun _ _ => rfl)
    (fun k W => AgI w W3 true W ∧ l.take k = m.take k ∧ k ≤ n)
    (fun k _ W => AgI w W3 true W ∧ l.take k = m.take k ∧ k < n)
    (fun W => AgI w W3 true W ∧ l = m)
    (fun cc W => cc = .exit 0 ∧ ¬ l = m ∧ AgI w W3 false W)
    (fun k W W' row hs hg hr => ⟨hs.1.own hg hr, hs.2⟩)
    (fun _ W W' row hs hg hr => ⟨hs.1.own hg hr, hs.2⟩)
    (fun cc W W' row hs hg hr => ⟨hs.1, hs.2.1, hs.2.2.own hg hr⟩)
    (fun k W hs => (HPRE.out W hs.1.keep).2)
    (fun k W W' hs hx l o ho hc => by
      rcases hx with ⟨_, _, hb⟩ | ⟨_, rfl⟩
      · exact (hb.block l (Array.getElem?_eq_some_iff.1 ho).1).trans ho
      · exact ho)
    (fun k x W W' hs hx => ⟨hs.1.below hx.2, hs.2.1, hx.1⟩)
    (fun k W W' hs hx => by
      obtain ⟨rfl, rfl⟩ := hx
      refine ⟨hs.1, ?_⟩
      have h := hs.2.1
      rwa [List.take_of_length_le (by have := HL.out; omega), List.take_of_length_le (by have := HM.out; omega)] at h)
    ⟨H0.out, by simp, Nat.zero_le _⟩
    (fun k _ a' W => a' = { tmps := #[.slice A n c, .slice B n d, undef, undef, .bool false, .pointer (some ⟨z, 0, none⟩), .int .i64 (l.getD k 0), .int .i64 (m.getD k 0), .slice A n c, .slice B n d, .func (.func 152) #[] #[.pointer (some ⟨z + 1, 0, none⟩), .pointer (some ⟨z + 2, 0, none⟩)], .int .i64 (l.getD k 0), .int .i64 (m.getD k 0), undef, undef, undef, undef], defers := [] } ∧ AgI w W3 true W ∧ l.take k = m.take k ∧ k < n)
    (fun k x a' _ W W' row hs hg hr => ⟨hs.1, hs.2.1.own hg hr, hs.2.2⟩)
    ?assign ?body ?done ?stop
  case assign =>
    intro l' k x W K hI hK
    have HK := Lib.hid hK
    have HI := Lib.hid hI
    unfold sdAt
    generalize l.getD k 0 = nk at *
    generalize m.getD k 0 = hk at *
    clear hK hI
    gi_wp2
    exact HK.out _ _ (mo_keeps_below _ (Below.refl _ _)) ⟨rfl, HI.out⟩
  case body =>
    rintro l' k x a' W ⟨rfl, hI, hE, hkN⟩
    have hkl : k < l.length := by have := HL.out; omega
    have hkm : k < m.length := by have := HM.out; omega
    have el : l.getD k 0 = l[k] := by rw [List.getD_eq_getElem?_getD, List.getElem?_eq_getElem hkl]; rfl
    have em : m.getD k 0 = m[k] := by rw [List.getD_eq_getElem?_getD, List.getElem?_eq_getElem hkm]; rfl
    have hstep : l[k] = m[k] → l.take (k + 1) = m.take (k + 1) := fun h => by
      rw [List.take_succ_eq_append_getElem hkl, List.take_succ_eq_append_getElem hkm, hE, h]
    have hno : ¬ l[k] = m[k] → ¬ l = m := fun h e => h (by subst e; rfl)
    rw [el, em]
    generalize l[k] = x1 at *
    generalize m[k] = y1 at *
    have y0 := hI.x.cell 0
    have g0 := hI.x.frozen 0
    have hzw := HZ.out
    rw [hzw] at y0 g0
    have HI := Lib.hid hI
    have HKN := Lib.hid hkN
    have HST := Lib.hid hstep
    have HNO := Lib.hid hno
    clear hI hE hkN hkl hkm el em hstep hno hzw
    by_cases hxy : x1 = y1
    · have hne : (x1 != y1) = false := by simp [hxy]
      have HXY := Lib.hid hxy
      clear hxy
      gi_wp2
      exact ⟨mo_keeps_below _ (Below.refl _ _), HI.out, HST.out HXY.out, HKN.out⟩
    · have hne : (x1 != y1) = true := by simp [hxy]
      have HXY := Lib.hid hxy
      clear hxy
      gi_wp2
      have hset := HI.out.set false
      have hzw := HZ.out
      rw [hzw] at hset
      exact ⟨mo_keeps_set (by have := HS3.out; omega) _, rfl, HNO.out HXY.out, hset⟩
  case done =>
    rintro D W hD ⟨hI, hE⟩ hK
    have hF := HR.out
    rw [decide_eq_true hE] at hF
    subst hF
    have y0 := hI.x.cell 0
    have hzw := HZ.out
    rw [hzw] at y0
    have hbw := (HPRE.out W hI.keep).1
    have HBW := Lib.hid hbw
    have HKK := Lib.hid hK
    clear hI hK hzw hbw
    gi_wp2
    have hp : Keep (fun k => k = D) W (W.putObj D (.deferred none)) := (Keep.refl _ _).grown (grownBy_putObj' _ D _) (fun k e _ => by injection e with e; exact e.symm)
    have hsz := HB3.out.size
    exact ⟨by simp, .inl ⟨_, _, rfl, run_takeDeferred HKK.out, ⟨_, results_tmp (fn := Try.f84) (t := 4) rfl _ _ _, rfl, HBW.out.trans (hp.below HBW.out.size (fun i hi e => by omega))⟩⟩⟩
  case stop =>
    rintro D c' W hD ⟨rfl, hE, hI⟩ hK
    have hF := HR.out
    rw [decide_eq_false hE] at hF
    subst hF
    have y0 := hI.x.cell 0
    have hzw := HZ.out
    rw [hzw] at y0
    have hbw := (HPRE.out W hI.keep).1
    have HBW := Lib.hid hbw
    have HKK := Lib.hid hK
    clear hI hK hzw hbw
    gi_wp2
    have hp : Keep (fun k => k = D) W (W.putObj D (.deferred none)) := (Keep.refl _ _).grown (grownBy_putObj' _ D _) (fun k e _ => by injection e with e; exact e.symm)
    have hsz := HB3.out.size
    exact ⟨by simp, .inl ⟨_, _, rfl, run_takeDeferred HKK.out, ⟨_, results_tmp (fn := Try.f84) (t := 4) rfl _ _ _, rfl, HBW.out.trans (hp.below HBW.out.size (fun i hi e => by omega))⟩⟩⟩
end
end Go.Proofs.Ytenpohnccnlngaa.mo

namespace Go.Proofs.Ytenpohnccnlngaa.mo
open Go.RowKit Go.Proofs.Ytenpohnccnlngaa.arr

/-- Where the element at n comes from: rows of both, the first one's ahead. -/
def catF (W a b CA CB : Nat) (n : Nat) : Int × Int := if n % W < a then (0, (((n / W * a + n % W) % CA : Nat) : Int)) else (1, (((n / W * b + (n % W - a)) % CB : Nat) : Int))

set_option maxRecDepth 100000 in
set_option maxHeartbeats 4000000 in
theorem mocat1_any (b15 b13 b6 b14 b8 : Nat) (W a b CA CB n : Nat) (w : World) (hW : 0 < W) (hn : n ≤ 4096) (hab : W = a + b) (ha : a ≤ 4096) (hb : b ≤ 4096) (hA : CA ≤ 4096) (hB : CB ≤ 4096) (hca : n % W < a → 0 < CA) (hcb : ¬ n % W < a → 0 < CB)
    (h15 : Blk w b15 3 #[.int .i64 (W : Int)]) (h13 : Blk w b13 3 #[.int .i64 (a : Int)]) (h6 : Blk w b6 3 #[.int .i64 (CA : Int)]) (h14 : Blk w b14 3 #[.int .i64 (b : Int)]) (h8 : Blk w b8 3 #[.int .i64 (CB : Int)]) :
    Calls Try.prog 85 #[.int .i64 (n : Int), .pointer (some ⟨b15, 0, none⟩), .pointer (some ⟨b13, 0, none⟩), .pointer (some ⟨b6, 0, none⟩), .pointer (some ⟨b14, 0, none⟩), .pointer (some ⟨b8, 0, none⟩)] w fun e w' => e = .returned (.tuple #[.int .i64 (catF W a b CA CB n).1, .int .i64 (catF W a b CA CB n).2]) ∧ Below w.heap.size w w' := by
  have x15 := h15.cell 0
  have x13 := h13.cell 0
  have x6 := h6.cell 0
  have x14 := h14.cell 0
  have x8 := h8.cell 0
  obtain ⟨q, hq⟩ : ∃ q, n / W = q := ⟨_, rfl⟩
  obtain ⟨r, hr⟩ : ∃ r, n % W = r := ⟨_, rfl⟩
  have hqn : q ≤ 4096 := by have := Nat.div_le_self n W; omega
  have hrW : r < W := by rw [← hr]; exact Nat.mod_lt _ hW
  have e1 : (n : Int).tdiv (W : Int) = (q : Int) := by rw [← hq]; exact (Int.ofNat_tdiv n W).symm
  have e2 : (n : Int).tmod (W : Int) = (r : Int) := by rw [← hr]; exact (Int.ofNat_tmod n W).symm
  have hW0 : ¬ W = 0 := by omega
  have hr8 : r ≤ 8192 := by omega
  have wq : IntKind.i64.wrap (q : Int) = (q : Int) := by rw [IntKind.wrap_i64]; omega
  have wr : IntKind.i64.wrap (r : Int) = (r : Int) := by rw [IntKind.wrap_i64]; omega
  have hF : catF W a b CA CB n = if r < a then (0, (((q * a + r) % CA : Nat) : Int)) else (1, (((q * b + (r - a)) % CB : Nat) : Int)) := by
    unfold catF
    rw [hq, hr]
  rw [hr] at hca hcb
  rw [hF]
  clear hF h15 h13 h6 h14 h8 hq hr hab
  by_cases h1 : r < a
  · have d1 : (r : Int) < (a : Int) := by omega
    have hCA := hca h1
    obtain ⟨p, hp⟩ : ∃ p, q * a = p := ⟨_, rfl⟩
    have hpb : p ≤ 4096 * 4096 := by rw [← hp]; exact Nat.mul_le_mul hqn ha
    have e3 : (q : Int) * (a : Int) = (p : Int) := by rw [← hp]; push_cast; rfl
    obtain ⟨s, hs⟩ : ∃ s, (p + r) % CA = s := ⟨_, rfl⟩
    have e4 : ((p : Int) + (r : Int)).tmod (CA : Int) = (s : Int) := by
      rw [← hs, show (p : Int) + (r : Int) = ((p + r : Nat) : Int) by push_cast; rfl]
      exact (Int.ofNat_tmod (p + r) CA).symm
    have hsb : s ≤ 4096 := by have := Nat.mod_lt (p + r) hCA; omega
    have hCA0 : ¬ CA = 0 := by omega
    have b1 : (p : Int) ≤ 16777216 := by omega
    have b2 : (r : Int) ≤ 8192 := by omega
    rw [if_pos h1, hp, hs]
    clear hca hcb hp hs hCA h1
    go_enter Try.func85, Try.ntmps85
    go_wp2
    go_quiet (fail)
    go_wp2
    go_quiet (fail)
    go_wp2
    go_ret2
    exact ⟨rfl, below_drewN (below_drewN (Below.refl _ _) _) _⟩
  · have d1 : ¬ (r : Int) < (a : Int) := by omega
    have hCB := hcb h1
    obtain ⟨p, hp⟩ : ∃ p, q * b = p := ⟨_, rfl⟩
    have hpb : p ≤ 4096 * 4096 := by rw [← hp]; exact Nat.mul_le_mul hqn hb
    have e3 : (q : Int) * (b : Int) = (p : Int) := by rw [← hp]; push_cast; rfl
    obtain ⟨s, hs⟩ : ∃ s, (p + (r - a)) % CB = s := ⟨_, rfl⟩
    have e4 : ((p : Int) + (r : Int) - (a : Int)).tmod (CB : Int) = (s : Int) := by
      rw [← hs, show (p : Int) + (r : Int) - (a : Int) = ((p + (r - a) : Nat) : Int) by omega]
      exact (Int.ofNat_tmod (p + (r - a)) CB).symm
    have hsb : s ≤ 4096 := by have := Nat.mod_lt (p + (r - a)) hCB; omega
    have hCB0 : ¬ CB = 0 := by omega
    have b1 : (p : Int) ≤ 16777216 := by omega
    have b2 : (r : Int) ≤ 8192 := by omega
    rw [if_neg h1, hp, hs]
    clear hca hcb hp hs hCB h1
    go_enter Try.func85, Try.ntmps85
    go_wp2
    go_quiet (fail)
    go_wp2
    go_quiet (fail)
    go_wp2
    go_ret2
    exact ⟨rfl, below_drewN (below_drewN (Below.refl _ _) _) _⟩
end Go.Proofs.Ytenpohnccnlngaa.mo

/-
  The space of layer 4: New and Copy; calls on none.
-/
import Derived.Test.YtjndbibbfcmgiaaETurn
namespace Go.Proofs.Ytjndbibbfcmgiaa
open Go.RowKit

/-- A new space. -/
def newE (f t : Nat) : ESt := ⟨f, List.replicate (t - f) false⟩
theorem newE_to {f t : Nat} (h : f ≤ t) : (newE f t).to = t := by
  show f + (List.replicate (t - f) false).length = t
  rw [List.length_replicate]
  omega

set_option maxHeartbeats 2000000 in
theorem enew_any (f t : Nat) (w : World) (h1 : f ≤ t) (h2 : t ≤ 4096) : Calls Try.prog 4 #[.int .i64 (f : Int), .int .i64 (t : Int)] w fun e w' => ∃ d, e = .returned (.tuple #[.pointer (some ⟨d.b, 0, none⟩), .int .i64 0]) ∧ EK w' d (newE f t) ∧ (∀ k, d.foot k → w.heap.size ≤ k) ∧ Below w.heap.size w w' := by
  obtain ⟨i0, hi, hz0, hz1, hz2⟩ := info_parts infoB
  obtain ⟨n, hn⟩ : ∃ n, t - f = n := ⟨_, rfl⟩
  obtain ⟨C, hC⟩ : ∃ C, madeCells (Value.bool false).cells (n * 1) = C := ⟨_, rfl⟩
  have hsub : IntKind.i64.wrap ((t : Int) - (f : Int)) = (n : Int) := by rw [IntKind.wrap_i64]; omega
  have hmk : ∀ w : World, (Instr.makeSlice 41 (.int .i64 (n : Int)) (.int .i64 (n : Int))).run Try.prog w = .ok (.slice (some ⟨w.heap.size, 0, none⟩) n n) (w.alloc (.cells C 4)) := fun w => by
    have := run_make (P := Try.prog) w 41 4 i0 _ Try.underlying41 hi hz0 .i64 .i64 (n : Int) (n : Int) (by omega) (by omega) (by rw [hz2]; omega) (by omega)
    rw [hz1, Int.toNat_natCast, hC] at this
    exact this
  have hmk2 : ∀ w : World, (Instr.makeSlice 41 (.int .i64 ((t : Int) - (f : Int))) (.int .i64 ((t : Int) - (f : Int)))).run Try.prog w = .ok (.slice (some ⟨w.heap.size, 0, none⟩) n n) (w.alloc (.cells C 4)) := fun w => by
    have := hmk w
    rwa [show (n : Int) = (t : Int) - (f : Int) by omega] at this
  have HC := Lib.hid hC
  have HN := Lib.hid hn
  clear hC hi hz0 hz1 hz2 hn
  go_enter Try.func4, Try.ntmps4
  go_wp2
  go_ret2
  refine ⟨⟨w.heap.size + 1, w.heap.size, some ⟨w.heap.size, 0, none⟩, n⟩, rfl, ?_, ?_, ?_⟩
  · have hl : (newE f t).L.length = n := by show (List.replicate (t - f) false).length = n; rw [List.length_replicate, HN.out]
    have hN := HN.out
    have hC0 : C.toList = List.replicate n (.bool false) := by
      rw [← HC.out, Nat.mul_one]
      exact toList_madeCells_one _ _
    refine ⟨⟨by show f + (newE f t).L.length ≤ 4096; omega⟩, ?_, by rw [hl]; exact ⟨Nat.le_refl _, by show n ≤ _; omega⟩, fun _ => ⟨rfl, by show w.heap.size + 1 ≠ w.heap.size; omega, C, (Blk.new w 4 C).alloc _, fun k x hx => ?_⟩, by simp; omega⟩
    · rw [newE_to h1, hl]
      exact blk_new2 w _ 43 _
    · have hk := (List.getElem?_eq_some_iff.1 hx).1
      rw [hl] at hk
      have hx2 : x = false := (List.mem_replicate.1 (List.mem_of_getElem? hx)).2
      subst hx2
      rw [← Array.getElem?_toList, hC0, List.getElem?_replicate, if_pos hk]
  · rintro k (rfl | rfl)
    · show w.heap.size ≤ w.heap.size + 1; omega
    · exact Nat.le_refl _
  · exact ((Below.refl _ w).alloc (Nat.le_refl _) _).alloc (by simp) _
theorem enew_bad (f t : Int) (w : World) (h : f < 0 ∨ t < f ∨ 4096 < t) : Calls Try.prog 4 #[.int .i64 f, .int .i64 t] w fun e w' => e = .returned (.tuple #[.pointer none, .int .i64 40]) ∧ w = w' := by
  by_cases h1 : f < 0
  · have hd : decide (f < 0) = true := decide_eq_true h1
    go_enter Try.func4, Try.ntmps4
    go_wp2
    go_ret2
    exact ⟨rfl, rfl⟩
  · have hd : decide (f < 0) = false := decide_eq_false h1
    by_cases h2 : t < f
    · have hd2 : decide (t < f) = true := decide_eq_true h2
      go_enter Try.func4, Try.ntmps4
      go_wp2
      go_ret2
      exact ⟨rfl, rfl⟩
    · have hd2 : decide (t < f) = false := decide_eq_false h2
      have hd3 : decide (4096 < t) = true := decide_eq_true (by omega)
      go_enter Try.func4, Try.ntmps4
      go_wp2
      go_ret2
      exact ⟨rfl, rfl⟩

theorem qBools : ∀ (w : World) (a : Option Addr) (n c n' c' : Nat), (binOp .eql 41 (.slice a n c) (.slice none n' c')).run Try.prog w = .ok (.bool a.isNone) w := fun w a n c n' c' => Lib.run_eql_slice_nil w _ _ a n c n' c' Try.underlying41

set_option maxHeartbeats 1000000 in
/-- slices.Clone of states. -/
theorem cloneB_any (A : Option Addr) (n c : Nat) (L : List Bool) (w : World) (hl : L.length = n) (hr : Reads w w.heap.size 1 A n (bools L)) (hn : n ≤ 4096) :
    Calls Try.prog 31 #[.slice A n c] w fun e w' => ∃ A' c', e = .returned (.slice A' n c') ∧ w'.ownsRow w.heap.size 4 1 (.slice A' n c') n (bools L) ∧ Below w.heap.size w w' := by
  obtain ⟨i0, hi, hz0, hz1, hz2⟩ := info_parts infoB
  have q := qBools
  have z5 : ∀ w, Sem.run Try.prog (Go.sizeOf 4) w = .ok 1 w := fun w => by simp [Go.sizeOf, typeInfo, hi, hz1]
  rcases A with _ | ad
  · have h0 : n = 0 := by
      rcases Nat.eq_zero_or_pos n with h0 | h0
      · exact h0
      · obtain ⟨ad, h, _⟩ := hr.2 h0
        cases h
    subst h0
    obtain rfl : L = [] := List.eq_nil_of_length_eq_zero hl
    clear hr
    go_enter Try.func31, Try.ntmps31
    go_wp2
    go_ret
    exact ⟨_, _, rfl, World.ownsRow_nil _ _ _ _, Below.refl _ _⟩
  · go_enter Try.func31, Try.ntmps31
    go_wp2_with (at_builtin; refine wpList_append_any _ rfl _ _ 41 rfl w.heap.size 4 i0 (.bool false) 1 1 Try.underlying41 hi hz0 hz1 hz2 rfl (by decide) _ _ _ rfl (World.ownsRow_made w #[] 0 (Nat.le_refl _) (Nat.zero_le _) rfl) w.heap.size (some ad) n c (bools L) rfl (hr.alloc (Nat.le_refl _) _) (bools_one L) (by unfold maxLen; omega) (by omega) (by simp) ?_)
    intro v' w1 hown hgrow hat
    have hB : Below w.heap.size w w1 := ((Below.refl _ w).alloc (Nat.le_refl _) _).grown hgrow (by simp) (by intro k hk; simp [Value.ownBlock] at hk; omega)
    obtain ⟨A', c', rfl⟩ : ∃ A' c', v' = .slice A' n c' := by
      rcases hown.2 with ⟨rfl, h0⟩ | ⟨g, cap, cur, e, hb, _⟩
      · exact ⟨none, 0, by rw [h0]⟩
      · exact ⟨_, cap, e⟩
    have hH : w1.ownsRow w.heap.size 4 1 (.slice A' n c') n (bools L) := by simpa using hown
    have HB := Lib.hid hB
    have HH := Lib.hid hH
    clear hat hB hH hown hgrow hr
    go_wp2
    go_ret
    exact ⟨_, _, rfl, HH.out, HB.out⟩

theorem own_cap {w : World} {base e n c : Nat} {A : Option Addr} {xs : List Value} (h : w.ownsRow base e 1 (.slice A n c) n xs) : n ≤ c ∧ c ≤ 9223372036854775807 := by
  rcases h.2 with ⟨e1, h0⟩ | ⟨g, cap, cur, e1, hb, hh, hc, hcm, _⟩
  · injection e1 with e1 e2 e3
    subst e1 e3
    exact ⟨by omega, by omega⟩
  · injection e1 with e1 e2 e3
    subst e1 e3
    exact ⟨hc, by unfold maxLen at hcm; omega⟩
section
variable {w : World} {d : SpAt} {s : ESt}
theorem EK.reads (h : EK w d s) : Reads w w.heap.size 1 d.A s.L.length (bools s.L) := by
  refine ⟨by unfold bools; rw [List.length_map, Nat.mul_one], fun h0 => ?_⟩
  obtain ⟨hA, _, cur, hb, hc⟩ := h.row h0
  refine ⟨⟨d.g, 0, none⟩, hA, hb.lt, fun j u hu => ?_⟩
  unfold bools at hu
  rw [List.getElem?_map] at hu
  obtain ⟨x, hx, rfl⟩ := Option.map_eq_some_iff.1 hu
  rw [Addr.add_mid, Nat.zero_add]
  exact (hb.cell j).trans (hc j x hx)
theorem below_set {w W : World} (h : Below w.heap.size w W) (i : Nat) (v : Value) : Below w.heap.size w (W.setCell ⟨w.heap.size, i, none⟩ v) :=
  ((Keep.of_below (S := fun k => k = w.heap.size) h).setCell _ _ (fun _ => rfl)).below (Nat.le_refl _) (fun i hi e => by omega)

set_option maxHeartbeats 2000000 in
theorem ecopy_any (h : EK w d s) : Calls Try.prog 18 #[.pointer (some ⟨d.b, 0, none⟩)] w fun e w' => ∃ d', e = .returned (.pointer (some ⟨d'.b, 0, none⟩)) ∧ EK w' d' s ∧ (∀ k, d'.foot k → w.heap.size ≤ k) ∧ Below w.heap.size w w' := by
  have HV := Lib.hid (evalid_any h)
  have c0 := h.blk.cell 0
  have c1 := h.blk.cell 1
  have c2 := h.blk.cell 2
  have c3 := h.blk.cell 3
  have hfew := h.ok.few
  have hlt := h.lt
  obtain ⟨n, hn⟩ : ∃ n, s.L.length = n := ⟨_, rfl⟩
  rw [hn] at c3 hfew
  have hB2 : Below w.heap.size w (w.alloc (.cells #[.pointer (some ⟨w.heap.size, 0, none⟩), .int .i64 (s.f : Int), .int .i64 (s.to : Int), .slice d.A n d.c] 43)) := (Below.refl _ _).alloc (Nat.le_refl _) _
  have hk2 := Blk.new w 43 #[.pointer (some ⟨w.heap.size, 0, none⟩), .int .i64 (s.f : Int), .int .i64 (s.to : Int), .slice d.A n d.c]
  have h2 := h.below hB2
  have y3 : (w.alloc (.cells #[.pointer (some ⟨w.heap.size, 0, none⟩), .int .i64 (s.f : Int), .int .i64 (s.to : Int), .slice d.A n d.c] 43)).cell? ⟨d.b, 3, none⟩ = some (.slice d.A n d.c) := by have h9 := h2.blk; rw [hn] at h9; exact h9.cell 3
  have HCL := Lib.hid (cloneB_any d.A n d.c s.L (w.alloc (.cells #[.pointer (some ⟨w.heap.size, 0, none⟩), .int .i64 (s.f : Int), .int .i64 (s.to : Int), .slice d.A n d.c] 43)) hn (by have h9 := h2.reads; rw [hn] at h9; exact h9) (by omega))
  have HB2 := Lib.hid hB2
  have HK2 := Lib.hid hk2
  have HN := Lib.hid hn
  have H := Lib.hid h
  clear h h2 hB2 hk2 hn
  go_enter Try.func18, Try.ntmps18
  go_wp2_with (first
    | (go_at_call 23; refine HV.out.mono ?_; rintro e _ ⟨rfl, rfl⟩)
    | (go_at_call 31; refine HCL.out.mono ?_; rintro e w3 ⟨A3, cc, rfl, ho, hb⟩; have hk3 := HK2.out.below hb HK2.out.lt; have z3 := hk3.cell 3; have g3 := hk3.frozen 3; have HK3 := Lib.hid hk3; have HO := Lib.hid ho; have HB3 := Lib.hid (HB2.out.trans (hb.mono HB2.out.size)); clear hk3 ho hb))
  go_ret
  have hO := HO.out
  have hs3 := HK3.out.lt
  have hset : Keep (fun k => k = w.heap.size) w3 (w3.setCell ⟨w.heap.size, 3, none⟩ (.slice A3 n cc)) := (Keep.refl _ _).setCell _ _ (fun _ => rfl)
  have hbl := HK3.out.set_ 3 (.slice A3 n cc)
  have hcap : n ≤ cc ∧ cc ≤ 9223372036854775807 := own_cap hO
  have hN := HN.out
  have hB4 := below_set HB3.out 3 (.slice A3 n cc)
  have hz2 : (w.alloc (.cells #[.pointer (some ⟨w.heap.size, 0, none⟩), .int .i64 (s.f : Int), .int .i64 (s.to : Int), .slice d.A n d.c] 43)).heap.size = w.heap.size + 1 := by simp
  rw [hz2] at hO
  rcases Nat.eq_zero_or_pos n with h0 | h0
  · refine ⟨⟨w.heap.size, w.heap.size, A3, cc⟩, rfl, ⟨H.out.ok, ?_, by rw [hN]; exact hcap, fun h => by omega, Nat.lt_of_lt_of_le hs3 hset.size⟩, ?_, hB4⟩
    · rw [hN]
      exact hbl
    · rintro k (rfl | rfl) <;> exact Nat.le_refl _
  · rcases hO.2 with ⟨e, hz⟩ | ⟨g, cap, cur, e, hg, hh, hc1, hc2, hsz, htk⟩
    · omega
    · injection e with e1 e2 e3
      subst e1 e3
      have hcur : Blk w3 g 4 cur := hh
      have hgw : g ≠ w.heap.size := by omega
      refine ⟨⟨w.heap.size, g, some ⟨g, 0, none⟩, cc⟩, rfl, ⟨H.out.ok, ?_, by rw [hN]; exact hcap, fun _ => ⟨rfl, fun e => hgw e.symm, cur, hset.blk hcur hgw, fun k x hx => ?_⟩, Nat.lt_of_lt_of_le hcur.lt hset.size⟩, ?_, hB4⟩
      · rw [hN]
        exact hbl
      · have hk : k < n := by have := (List.getElem?_eq_some_iff.1 hx).1; omega
        have h1 : (bools s.L)[k]? = some (.bool x) := by unfold bools; rw [List.getElem?_map, hx]; rfl
        rw [← htk, List.getElem?_take_of_lt (by omega), Array.getElem?_toList] at h1
        exact h1
      · intro k hk
        rcases hk with h | h
        · rw [h]; exact Nat.le_refl _
        · rw [h]
          show w.heap.size ≤ g
          omega
theorem ecopy_dead (p : Option Addr) (w : World) (h : EDead w p) : Calls Try.prog 18 #[.pointer p] w fun e w' => e = .returned (.pointer none) ∧ w = w' := by
  have HV := Lib.hid (evalid_dead p w h)
  clear h
  go_enter Try.func18, Try.ntmps18
  go_wp2_with (go_at_call 23; refine HV.out.mono ?_; rintro e _ ⟨rfl, rfl⟩)
  go_ret
  exact ⟨rfl, rfl⟩
theorem eleft_dead (p : Option Addr) (w : World) (h : EDead w p) : Calls Try.prog 7 #[.pointer p] w fun e w' => e = .returned (.int .i64 0) ∧ w = w' := by
  have HV := Lib.hid (evalid_dead p w h)
  clear h
  refine (callsIn_wide (n := 7)).1 ?_
  refine callsIn_of_wp_marks Try.func7 rfl trivial ?_
  simp only [Try.ntmps7, List.size_toArray, List.length_cons, List.length_nil, Nat.reduceAdd, Nat.reduceSub, Array.replicate_succ, Array.replicate_zero, List.push_toArray, List.append_toArray, List.nil_append, List.cons_append]
  have hfv : Fence.wide.fn 23 := trivial
  gi_wp2_with (gi_at_call 23; refine (callsIn_wide.2 HV.out).mono ?_; rintro e _ ⟨rfl, rfl⟩)
  exact ⟨_, results_tmp rfl _ _ _, rfl, rfl⟩
theorem elongest_dead (p : Option Addr) (w : World) (h : EDead w p) : Calls Try.prog 19 #[.pointer p] w fun e w' => e = .returned (.int .i64 0) ∧ w = w' := by
  have HV := Lib.hid (evalid_dead p w h)
  clear h
  refine (callsIn_wide (n := 7)).1 ?_
  refine callsIn_of_wp_marks Try.func19 rfl trivial ?_
  simp only [Try.ntmps19, List.size_toArray, List.length_cons, List.length_nil, Nat.reduceAdd, Nat.reduceSub, Array.replicate_succ, Array.replicate_zero, List.push_toArray, List.append_toArray, List.nil_append, List.cons_append]
  have hfv : Fence.wide.fn 23 := trivial
  gi_wp2_with (gi_at_call 23; refine (callsIn_wide.2 HV.out).mono ?_; rintro e _ ⟨rfl, rfl⟩)
  exact ⟨_, results_tmp rfl _ _ _, rfl, rfl⟩
theorem etake_dead (p : Option Addr) (n : Int) (w : World) (h : EDead w p) : Calls Try.prog 12 #[.pointer p, .int .i64 n] w fun e w' => e = .returned (.tuple #[.agg #[.int .i64 0, .int .i64 0], .int .i64 1]) ∧ Below w.heap.size w w' := by
  have hbx : Below w.heap.size w (w.alloc (.cells #[.int .i64 0, .int .i64 0] 33)) := (Below.refl _ _).alloc (Nat.le_refl _) _
  have HX := Lib.hid (Blk.new w 33 #[.int .i64 0, .int .i64 0])
  have HV := Lib.hid (evalid_dead p _ (h.below hbx))
  have HBX := Lib.hid hbx
  clear h hbx
  go_enter Try.func12, Try.ntmps12
  go_wp2_with (go_at_call 23; refine HV.out.mono ?_; rintro e _ ⟨rfl, rfl⟩)
  refine bodyPost_ret (results_ext2 rfl rfl rfl HX.out) rfl ?_
  exact ⟨rfl, HBX.out⟩
end
end Go.Proofs.Ytjndbibbfcmgiaa

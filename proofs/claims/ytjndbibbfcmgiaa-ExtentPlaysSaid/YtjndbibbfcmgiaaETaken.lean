/-
  The space of layer 4: what is taken, as extents.
-/
import Derived.Test.YtjndbibbfcmgiaaELong
namespace Go.Proofs.Ytjndbibbfcmgiaa
open Go.RowKit

def extCells (f : Nat) : List (Nat × Nat) → List Value
  | [] => []
  | r :: rs => .int .i64 ((f : Int) + (r.1 : Int)) :: .int .i64 (r.2 : Int) :: extCells f rs
theorem extCells_snoc (f : Nat) (r : Nat × Nat) : ∀ rs, extCells f (rs ++ [r]) = extCells f rs ++ [.int .i64 ((f : Int) + (r.1 : Int)), .int .i64 (r.2 : Int)]
  | [] => rfl
  | s :: rs => by
    rw [List.cons_append]
    unfold extCells
    rw [extCells_snoc f r rs]
    rfl
theorem extCells_length (f : Nat) : ∀ rs, (extCells f rs).length = rs.length * 2
  | [] => rfl
  | r :: rs => by
    unfold extCells
    rw [List.length_cons, List.length_cons, extCells_length f rs, List.length_cons]
    omega
theorem infoX : (Try.prog.info? 33).map (fun i => (i.zero, i.size, i.bytes)) = some (some (.agg #[.int .i64 0, .int .i64 0]), 2, 16) := by kernel_rfl

theorem own_turn {W W' : World} {base B size n : Nat} {e : TypeId} {v : Value} {xs : List Value} {row : Option Nat} (h : W.ownsRow base e size v n xs) (hg : W.grownBy W' row) (hr : ∀ r, row = some r → B ≤ r ∧ ∃ o : Obj, W.heap[r]? = some o ∧ o.isCells = false) : W'.ownsRow base e size v n xs := by
  refine ⟨h.1, ?_⟩
  rcases h.2 with ⟨rfl, h0⟩ | ⟨g, cap, cur, rfl, hb, hh, hrest⟩
  · exact .inl ⟨rfl, h0⟩
  · exact .inr ⟨g, cap, cur, rfl, hb, (show Blk W' g e cur from blk_grown (show Blk W g e cur from hh) hg hr), hrest⟩
theorem own_in {W : World} {base size n : Nat} {e : TypeId} {v : Value} {xs : List Value} (h : W.ownsRow base e size v n xs) : ∀ g, v.ownBlock = some g → base ≤ g ∧ g < W.heap.size ∧ ∃ cur, Blk W g e cur := by
  intro g hg
  rcases h.2 with ⟨rfl, h0⟩ | ⟨g', cap, cur, rfl, hb, hh, _⟩
  · simp [Value.ownBlock] at hg
  · have : g' = g := by simpa [Value.ownBlock] using hg
    subst this
    exact ⟨hb, (show Blk W g' e cur from hh).lt, cur, hh⟩

theorem own_mono {w : World} {base base' : Nat} {e : TypeId} {size : Nat} {v : Value} {n : Nat} {xs : List Value} (h : w.ownsRow base e size v n xs) (hb : base' ≤ base) : w.ownsRow base' e size v n xs :=
  ⟨h.1, h.2.imp id fun ⟨g, cap, cur, e1, h1, r⟩ => ⟨g, cap, cur, e1, Nat.le_trans hb h1, r⟩⟩

section
variable {w : World} {d : SpAt} {s : ESt} {a : Bool}
attribute [local go_sem] Oper.semAt_some

/-- What is collected so far. -/
def TI4 (w2 : World) (q f : Nat) (rs : List (Nat × Nat)) (W : World) : Prop := ∃ A c, EI w2 q 38 #[.slice A rs.length c] W ∧ W.ownsRow (q + 1) 33 2 (.slice A rs.length c) rs.length (extCells f rs)

set_option maxRecDepth 100000 in
set_option maxHeartbeats 4000000 in
theorem eappend_any (b1 b2 m : Nat) (h : EK w d s) (hr : RunsAt w b1 b2 d a) (hm : (runsAt s.L a 0).length = m) : Calls Try.prog 35 #[.slice none 0 0, .func (.func 33) #[] #[.pointer (some ⟨b1, 0, none⟩), .pointer (some ⟨b2, 0, none⟩)]] w fun e w' =>
    ∃ A c, e = .returned (.slice A m c) ∧ w'.ownsRow w.heap.size 33 2 (.slice A m c) m (extCells s.f (runsAt s.L a 0)) ∧ Below w.heap.size w w' := by
  obtain ⟨i0, hi, hz0, hz1, hz2⟩ := info_parts infoX
  have hlt := h.lt
  have hb1 := hr.p1.lt
  have hb2 := hr.p2.lt
  have H := Lib.hid h
  have HR := Lib.hid hr
  have HM := Lib.hid hm
  clear h hr hm
  refine (callsIn_wide (n := 7)).1 ?_
  refine callsIn_of_wp_marks Try.func35 rfl trivial ?_
  simp only [Try.ntmps35, List.size_toArray, List.length_cons, List.length_nil, Nat.reduceAdd, Nat.reduceSub, Array.replicate_succ, Array.replicate_zero, List.push_toArray, List.append_toArray, List.nil_append, List.cons_append]
  gi_wp2
  obtain ⟨q, hq⟩ : ∃ q, w.heap.size = q := ⟨_, rfl⟩
  obtain ⟨w2, hw2⟩ : ∃ w2, w.alloc (.cells #[.slice none 0 0] 38) = w2 := ⟨_, rfl⟩
  have hB2 : Below w.heap.size w w2 := by rw [← hw2]; exact (Below.refl _ _).alloc (Nat.le_refl _) _
  have hx2 : Blk w2 q 38 #[.slice none 0 0] := by rw [← hw2, ← hq]; exact Blk.new w _ _
  have hs2 : w2.heap.size = q + 1 := by rw [← hw2, ← hq]; simp
  rw [hw2, hq]
  have hEK2 := H.out.below hB2
  have hRA := HR.out.keep (Keep.of_below (S := fun _ => False) hB2) (fun h => h) (fun h => h)
  have hdb := hlt d.b (.inl rfl)
  have hdg := hlt d.g (.inr rfl)
  have HOK := Lib.hid hEK2.ok
  have HBW := Lib.hid hB2
  have hT0 : TI4 w2 q s.f [] w2 := ⟨none, 0, ⟨Keep.refl _ _, hx2⟩, World.ownsRow_nil _ _ _ _⟩
  clear hw2 hx2 hB2
  refine wpIn_rangeFunc_ownH rfl (by omega) (gf := 33) (lb := #[.pointer (some ⟨b1, 0, none⟩), .pointer (some ⟨b2, 0, none⟩)]) rfl trivial (enters_of Try.func33 (by kernel_rfl) rfl)
    (runs_stopsS 6 (by omega) (fun k => k < q) b1 b2 d s a w2 hEK2 hRA (by omega)) (fun h k => h.trans k) (fun W l o o' _ hl ho _ => KpS.putObj W l o o' hl ho) (Below.refl _ _) (fun _ => rfl)
    (fun (pre : List (Run s a)) W => TI4 w2 q s.f (pre.map (·.1)) W) (fun _ _ _ => False)
    (fun pre W W' row hs hg hr => by
      obtain ⟨A, c, h1, h2⟩ := hs
      exact ⟨A, c, h1.turn (keepE hg (fun k e => (hr k e).1)) (by omega) (by omega), own_turn h2 hg hr⟩)
    (fun _ _ _ _ _ hs _ _ => hs)
    hT0
    (fun (x : Run s a) a' W => BoxX w2.heap.size s.f (fun rb => { tmps := #[.slice none 0 0, .func (.func 33) #[] #[.pointer (some ⟨b1, 0, none⟩), .pointer (some ⟨b2, 0, none⟩)], .pointer (some ⟨q, 0, none⟩), undef, .slice none 0 0, .pointer (some ⟨rb, 0, none⟩), .func (.func 33) #[] #[.pointer (some ⟨b1, 0, none⟩), .pointer (some ⟨b2, 0, none⟩)], .agg #[.int .i64 ((s.f : Int) + (x.1.1 : Int)), .int .i64 (x.1.2 : Int)], undef, undef, undef, undef, undef], defers := [] }) x.1 a' W)
    (fun _ _ => BoxX.own) ?assign ?body ?done ?stop
  case assign =>
    intro l pre x W K hI hK
    obtain ⟨A, c, h1, h2⟩ := hI
    have HK := Lib.hid hK
    have H1 := Lib.hid h1
    have H2 := Lib.hid h2
    clear hK h1 h2
    unfold runV
    gi_wp2
    exact HK.out _ _ (keepsFrom_alloc _ _ _) (KpS.of_below ((Below.refl _ _).alloc (Nat.le_refl _) _)) ⟨A, c, H1.out.alloc _, ((Keep.refl (fun _ => False) W).alloc _).own H2.out (fun _ _ h => h)⟩ ⟨W.heap.size, H1.out.keep.size, rfl, Blk.new W _ _⟩
  case body =>
    rintro l pre x a' W _ _ ⟨A, c, hI, hO⟩ ⟨rb, hrb, rfl, hbx⟩ hpl
    rw [List.length_map] at hI hO
    have cq := hI.box.cell 0
    have r0 := hbx.cell 0
    have r1 := hbx.cell 1
    obtain ⟨k, hk⟩ : ∃ k, pre.length = k := ⟨_, rfl⟩
    rw [hk] at cq hpl hO hI
    have hWB := hI.keep.size
    have hal : Below W.heap.size W (W.alloc (.cells #[.int .i64 ((s.f : Int) + (x.1.1 : Int)), .int .i64 (x.1.2 : Int)] 33)) := (Below.refl _ _).alloc (Nat.le_refl _) _
    have hO1 : (W.alloc (.cells #[.int .i64 ((s.f : Int) + (x.1.1 : Int)), .int .i64 (x.1.2 : Int)] 33)).ownsRow (q + 1) 33 2 (.slice A k c) k (extCells s.f (pre.map (·.1))) := ((Keep.refl (fun _ => False) W).alloc _).own hO (fun _ _ h => h)
    have hnew : ∀ j u, ([.int .i64 ((s.f : Int) + (x.1.1 : Int)), .int .i64 (x.1.2 : Int)] : List Value)[j]? = some u → (W.alloc (.cells #[.int .i64 ((s.f : Int) + (x.1.1 : Int)), .int .i64 (x.1.2 : Int)] 33)).cell? ((⟨W.heap.size, 0, none⟩ : Addr).add j) = some u := fun j u hu => by
      rw [Addr.add_mid, Nat.zero_add, (Blk.new W 33 _).cell j, List.getElem?_toArray]
      exact hu
    have h1c : ∀ u ∈ ([.int .i64 ((s.f : Int) + (x.1.1 : Int)), .int .i64 (x.1.2 : Int)] : List Value), u.oneCell' = true := by
      intro u hu
      rcases List.mem_cons.1 hu with rfl | hu
      · rfl
      · rw [List.mem_singleton.1 hu]; rfl
    have hsn : extCells s.f ((pre ++ [x]).map (·.1)) = extCells s.f (pre.map (·.1)) ++ [.int .i64 ((s.f : Int) + (x.1.1 : Int)), .int .i64 (x.1.2 : Int)] := by
      rw [List.map_append, List.map_singleton, extCells_snoc]
    have hln : ((pre ++ [x]).map (·.1)).length = k + 1 := by rw [List.length_map, List.length_append, hk]; rfl
    have HFIN : Hid (∀ v' w9, w9.ownsRow (q + 1) 33 2 v' (k + 1) (extCells s.f (pre.map (·.1)) ++ [.int .i64 ((s.f : Int) + (x.1.1 : Int)), .int .i64 (x.1.2 : Int)]) → (W.alloc (.cells #[.int .i64 ((s.f : Int) + (x.1.1 : Int)), .int .i64 (x.1.2 : Int)] 33)).grownBy w9 (Value.slice A k c).ownBlock → w9.cell? ⟨q, 0, none⟩ = some (.slice A k c) ∧ w9.frozen? ⟨q, 0, none⟩ = false ∧
        ∃ A' c', v' = .slice A' (k + 1) c' ∧ KeepsFrom w2.heap.size W (w9.setCell ⟨q, 0, none⟩ v') ∧ KpS (fun k => k < q) W (w9.setCell ⟨q, 0, none⟩ v') ∧ TI4 w2 q s.f ((pre ++ [x]).map (·.1)) (w9.setCell ⟨q, 0, none⟩ v')) := Lib.hid (fun v' w9 ho hg => by
      have hin := own_in hO1
      have hr : ∀ g, (Value.slice A k c).ownBlock = some g → q + 1 ≤ g := fun g e => (hin g e).1
      have hk1 : Keep (fun i => q + 1 ≤ i) (W.alloc (.cells #[.int .i64 ((s.f : Int) + (x.1.1 : Int)), .int .i64 (x.1.2 : Int)] 33)) w9 := (Keep.refl _ _).grown hg (fun g e _ => hr g e)
      have hk2 : Keep (fun i => q + 1 ≤ i) W w9 := (Keep.of_below (S := fun i => q + 1 ≤ i) hal).trans hk1 (fun _ _ h => h)
      have hb9 : Blk w9 q 38 #[.slice A k c] := hk2.blk hI.box (by omega)
      obtain ⟨A', c', hv'⟩ : ∃ A' c', v' = .slice A' (k + 1) c' := by
        rcases ho.2 with ⟨_, h0⟩ | ⟨g, cap, cur, e, _⟩
        · omega
        · exact ⟨_, cap, e⟩
      have hk3 : Keep (fun i => q ≤ i) W (w9.setCell ⟨q, 0, none⟩ v') := (hk2.more (S' := fun i => q ≤ i) (fun i _ h => by omega)).setCell _ _ (fun _ => Nat.le_refl q)
      refine ⟨hb9.cell 0, hb9.frozen 0, A', c', hv', ⟨hk3.size, fun i o hB hi ho' => ?_⟩, fun p hp v hv => ?_, ?_⟩
      · have hil : i < W.heap.size := (Array.getElem?_eq_some_iff.1 hi).1
        have hiq : i ≠ q := by omega
        refine (Below.heap_setCell w9 ⟨q, 0, none⟩ v' i hiq).trans ?_
        have hir : some i ≠ (Value.slice A k c).ownBlock := fun e => by
          obtain ⟨_, _, cur, hcb⟩ := own_in hO i e.symm
          unfold Blk at hcb
          rw [hi] at hcb
          injection hcb with hcb
          subst hcb
          cases ho'
        exact ((hg.block i (by simp; omega) hir).trans (hal.block i hil)).trans hi
      · have hpl : p.block < W.heap.size := block_lt_of_cell hv
        exact (World.cell?_of_block (hk3.block p.block hpl (by omega))).trans hv
      · refine ⟨A', c', ?_, ?_⟩
        · rw [hln, ← hv']
          have hke : Keep (fun i => i = q) w2 (w9.setCell ⟨q, 0, none⟩ v') := hI.keep.trans hk3 (fun i hi e => by omega)
          exact ⟨hke, hb9.set_ 0 v'⟩
        · rw [hln, hsn, ← hv']
          have hkq : Keep (fun i => i = q) w9 (w9.setCell ⟨q, 0, none⟩ v') := (Keep.refl _ _).setCell _ _ (fun _ => rfl)
          exact hkq.own ho (fun g e => by have := (own_in ho g e).1; omega))
    have HO1 := Lib.hid hO1
    have HNEW := Lib.hid hnew
    have H1C := Lib.hid h1c
    have HLN := Lib.hid hln
    have hwq : q + 1 ≤ W.heap.size := by omega
    clear hI hO hbx hal hO1 hnew h1c hsn hln hk
    gi_wp2_with (gi_at_builtin; refine wpListIn_append_own _ rfl _ _ 38 rfl (q + 1) 33 i0 (.agg #[.int .i64 0, .int .i64 0]) 2 16 Try.underlying38 hi hz0 hz1 hz2 rfl (by decide) _ k _ rfl HO1.out ⟨W.heap.size, 0, none⟩ 1 1 [.int .i64 ((s.f : Int) + (x.1.1 : Int)), .int .i64 (x.1.2 : Int)] rfl rfl HNEW.out H1C.out (by unfold maxLen; omega) (by omega) (by simp; omega) ?_; intro v' w9 hown hgrow _; obtain ⟨cq9, fq9, A', c', rfl, hf9⟩ := HFIN.out v' w9 hown hgrow; have HF9 := Lib.hid hf9; clear hown hgrow hf9)
    exact ⟨by rw [← hs2]; exact HF9.out.1, HF9.out.2.1, HF9.out.2.2⟩
  case done =>
    rintro D xs W hD hS ⟨A, c, hI, hO⟩ hK
    rw [hS, HM.out] at hI hO
    have cq := hI.box.cell 0
    have hbw := fin_put (HBW.out.trans (hI.keep.below (B := w.heap.size) (by omega) (fun i hi e => by omega))) (show w.heap.size ≤ D by omega)
    have hown : (W.putObj D (.deferred none)).ownsRow w.heap.size 33 2 (.slice A m c) m (extCells s.f (runsAt s.L a 0)) := own_mono (own_turn (B := 0) hO (grownBy_putObj' W D (.deferred none)) (fun r e => by injection e with e; subst e; exact ⟨Nat.zero_le _, _, hK, rfl⟩)) (by omega)
    have HB := Lib.hid hbw
    have HO := Lib.hid hown
    clear hS hI hO hbw hown
    gi_wp2
    refine ⟨by simp, .inl ⟨_, _, rfl, run_takeDeferred hK, ?_⟩⟩
    exact ⟨_, results_tmp rfl _ _ _, A, c, rfl, HO.out, HB.out⟩
  case stop =>
    rintro D c pre W hD _ hf
    exact hf.elim

theorem ecollect_any (b1 b2 m : Nat) (h : EK w d s) (hr : RunsAt w b1 b2 d a) (hm : (runsAt s.L a 0).length = m) : Calls Try.prog 25 #[.func (.func 33) #[] #[.pointer (some ⟨b1, 0, none⟩), .pointer (some ⟨b2, 0, none⟩)]] w fun e w' =>
    ∃ A c, e = .returned (.slice A m c) ∧ w'.ownsRow w.heap.size 33 2 (.slice A m c) m (extCells s.f (runsAt s.L a 0)) ∧ Below w.heap.size w w' := by
  have HA := Lib.hid (eappend_any b1 b2 m h hr hm)
  clear h hr hm
  go_enter Try.func25, Try.ntmps25
  go_wp2_with (go_at_call 35; refine HA.out.mono ?_; rintro e w1 ⟨A, c, rfl, ho, hb⟩; have HO := Lib.hid ho; have HB := Lib.hid hb; clear ho hb)
  go_ret
  exact ⟨A, c, rfl, HO.out, HB.out⟩

/-- Taken. -/
theorem etaken_any (m : Nat) (h : EK w d s) (hm : (runsAt s.L true 0).length = m) : Calls Try.prog 10 #[.pointer (some ⟨d.b, 0, none⟩)] w fun e w' =>
    ∃ A c, e = .returned (.slice A m c) ∧ w'.ownsRow w.heap.size 33 2 (.slice A m c) m (extCells s.f (runsAt s.L true 0)) ∧ Below w.heap.size w w' := by
  have HV := Lib.hid (evalid_any h)
  obtain ⟨w2, hw2⟩ : ∃ w2, (w.alloc (.cells #[.pointer (some ⟨d.b, 0, none⟩)] 23)).alloc (.cells #[.bool true] 4) = w2 := ⟨_, rfl⟩
  have hb2 : Below w.heap.size w w2 := by rw [← hw2]; exact ((Below.refl _ _).alloc (Nat.le_refl _) _).alloc (by simp) _
  have hr : RunsAt w2 w.heap.size (w.heap.size + 1) d true := by
    rw [← hw2]
    exact ⟨(Blk.new w _ _).alloc _, blk_new2 w _ 4 _⟩
  have HC := Lib.hid (ecollect_any w.heap.size (w.heap.size + 1) m (h.below hb2) hr hm)
  have HB2 := Lib.hid hb2
  have HW2 := Lib.hid hw2
  clear h hm hr hb2 hw2
  go_enter Try.func10, Try.ntmps10
  go_wp2_with (first
    | (go_at_call 23; refine HV.out.mono ?_; rintro e _ ⟨rfl, rfl⟩)
    | (go_at_call 24; refine (eruns_any _ _ _).mono ?_; rintro e w3 ⟨rfl, hw3⟩; rw [HW2.out] at hw3; subst hw3)
    | (go_at_call 25; refine HC.out.mono ?_; rintro e w1 ⟨A, c, rfl, ho, hb⟩; have HO := Lib.hid (own_mono ho HB2.out.size); have HB := Lib.hid (HB2.out.trans (hb.mono HB2.out.size)); clear ho hb))
  go_ret
  exact ⟨A, c, rfl, HO.out, HB.out⟩
theorem etaken_dead (p : Option Addr) (w : World) (h : EDead w p) : Calls Try.prog 10 #[.pointer p] w fun e w' => e = .returned (.slice none 0 0) ∧ w = w' := by
  have HV := Lib.hid (evalid_dead p w h)
  clear h
  go_enter Try.func10, Try.ntmps10
  go_wp2_with (go_at_call 23; refine HV.out.mono ?_; rintro e _ ⟨rfl, rfl⟩)
  go_ret
  exact ⟨rfl, rfl⟩
end
end Go.Proofs.Ytjndbibbfcmgiaa

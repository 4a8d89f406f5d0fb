/-
  The log of layer 9: complete.
-/
import Derived.Test.YtdjneiboeehclaaNtCompA
import Derived.StillTailTactics
namespace Go.Proofs.Ytdjneiboeehclaa.note
open Go.RowKit Go.Maps Go.Proofs.Ytdjneiboeehclaa.crc Go.Proofs.Ytdjneiboeehclaa.root

section
variable {N b mf md : Nat} {w w' : World} {v : Value} {bg : Bool} {ns fs : List NV}
set_option maxRecDepth 100000 in
set_option maxHeartbeats 4000000 in
theorem lcomplete_new (h : LogN N w b mf md v bg ns fs) (a p n : Int) (hx : okN ⟨2, a, p, n⟩ = true ∧ (⟨2, a, p, n⟩ : NV).Fine ∧ 2 ≤ (⟨2, a, p, n⟩ : NV).k) (hfew : fs.length < 100000) (hnew : fileN fs 2 a p = none) :
    Calls Try.prog 52 #[.pointer (some ⟨b, 0, none⟩), .agg #[.int .i64 2, .int .i64 a, .int .i64 p], .int .i64 n] w fun e w' => (∃ u, e = .returned u) ∧ LogN N w' b mf md v bg ns (fs ++ [⟨2, a, p, n⟩]) ∧ Keep (fun i => i = b ∨ i = mf ∨ i = md) w w' := by
  obtain ⟨w0, hw0⟩ : ∃ w0, w.alloc (.cells #[.int .i64 2, .int .i64 a, .int .i64 p] 77) = w0 := ⟨_, rfl⟩
  have hx0 : Blk w0 w.heap.size 77 #[.int .i64 2, .int .i64 a, .int .i64 p] := by rw [← hw0]; exact Blk.new w _ _
  have hb0 : Below w.heap.size w w0 := by rw [← hw0]; exact (Below.refl _ _).alloc (Nat.le_refl _) _
  have h0 := h.below hb0
  have hlb : b < w.heap.size := h.lt
  obtain ⟨⟨D, hD, hFD⟩, E, hE, hDE⟩ := h0.m
  have hmf := hD.lt
  have nfd := h.ne
  have c3 : w0.cell? ⟨b, 3, none⟩ = some (.map (some mf)) := h0.blk.cell 3
  have x0 := hx0.cell 0
  have x1 := hx0.cell 1
  have x2 := hx0.cell 2
  have hl : ∀ q, (Instr.lookup 68 (.map (some mf)) (.agg #[.int .i64 2, .int .i64 a, .int .i64 p]) true).run Try.prog (w0.drewN q) = .ok (.tuple #[.int .i64 ((fileN fs 2 a p).getD 0), .bool (fileN fs 2 a p).isSome]) (w0.drewN q) := fun q => (h0.m.keep (Keep.drewN (Keep.refl (fun _ => False) w0) q) (fun e => e) (fun e => e)).file 2 a p (by omega) hx.2.1.a hx.2.1.b
  have HFX : Hid ((⟨2, a, p, n⟩ : NV).Fine) := Lib.hid hx.2.1
  have HFEW := Lib.hid hfew
  have ha : 0 ≤ a ∧ a ≤ 1048576 := (okN_iff.1 hx.1).1
  have hst := stepsN_range fs (fun y hy => (h.fok y hy).1)
  have hdn := doneN_le fs a
  have hw1 : IntKind.i64.wrap (a + 1) = a + 1 := IntWalk.i64_in _ (by omega)
  have hrm := run_max (stepsN fs) (a + 1) _ rfl
  rw [hnew] at hl
  simp only [Option.getD_none, Option.isSome_none] at hl
  have PF : Files (D.put (keyP 2 a p) (.lit (.int .i64 n))) (fs ++ [⟨2, a, p, n⟩]) := put_file (x := ⟨2, a, p, n⟩) hFD hD.isMap hx.2.1
  have DF : Dones (E.put (.int .i64 a) (.lit (.int .i64 ((doneN fs a : Int) + 1)))) (fs ++ [⟨2, a, p, n⟩]) := put_done (x := ⟨2, a, p, n⟩) hDE hE.isMap rfl hnew
  have HFIN := Lib.hid (fun (W : World) (k1 : Keep (fun i => i = b ∨ i = mf ∨ i = md) w W) (k2 : Blk W b 71 #[.pointer (some ⟨b, 0, none⟩), .bool bg, v, .map (some mf), .map (some md), .int .i64 (stepsN fs)])
      (k3 : W.ownsMap Try.prog 77 (plainElem Try.prog 2) mf (fs.length + 1) (D.put (keyP 2 a p) (.lit (.int .i64 n)))) (k4 : W.ownsMap Try.prog 3 (plainElem Try.prog 3) md (fs.length + 1) (E.put (.int .i64 a) (.lit (.int .i64 ((doneN fs a : Int) + 1))))) =>
    LogN.finish 2 a p n h hx (by omega) hfew k1 k2 k3 PF k4 DF)
  have HNE : Hid (¬ b = mf ∧ ¬ w.heap.size = mf ∧ ¬ md = mf) := Lib.hid ⟨fun e => map_not_blk hD (t := 71) (by rw [← e]; exact h0.blk), fun e => map_not_blk hD (t := 77) (by rw [← e]; exact hx0), fun e => nfd e.symm⟩
  have HND : Hid (¬ b = md ∧ ¬ w.heap.size = md ∧ ¬ mf = md) := Lib.hid ⟨fun e => map_not_blk hE (t := 71) (by rw [← e]; exact h0.blk), fun e => map_not_blk hE (t := 77) (by rw [← e]; exact hx0), nfd⟩
  have HBK0 := Lib.hid h0.blk
  have HPX0 := Lib.hid hx0
  have HDD0 := Lib.hid hD
  have HEE0 := Lib.hid hE
  have HM0 := Lib.hid h0.m
  have HKK0 : Hid (Keep (fun i => i = b ∨ i = mf ∨ i = md) w w0) := Lib.hid (Keep.of_below hb0)
  clear h h0 hx hfew hb0 hx0 hD hE hFD hDE PF DF nfd hmf hlb hnew
  go_enter Try.func52, Try.ntmps52
  go_wp2
  go_quiet (fail)
  obtain ⟨W1, hW1⟩ : ∃ W1, w0.drewN nq = W1 := ⟨_, rfl⟩
  have kw1 : Keep (fun _ => False) w0 W1 := by rw [← hW1]; exact Keep.drewN (Keep.refl _ w0) nq
  rw [hW1]
  have HBK := Lib.hid (kw1.blk HBK0.out (fun e => e))
  have HPX := Lib.hid (kw1.blk HPX0.out (fun e => e))
  have HDD := Lib.hid (map_keep HDD0.out kw1 (fun e => e))
  have HEE := Lib.hid (map_keep HEE0.out kw1 (fun e => e))
  have HM1 := Lib.hid (HM0.out.keep kw1 (fun e => e) (fun e => e))
  have HKK := Lib.hid (HKK0.out.trans (kw1.more (S' := fun i => i = b ∨ i = mf ∨ i = md) (fun i _ e => e.elim)) (fun _ _ e => e))
  clear hW1 kw1 c3 x0 x1 x2 hl hw0 HBK0 HPX0 HDD0 HEE0 HM0 HKK0
  have y4 : W1.cell? ⟨b, 4, none⟩ = some (.map (some md)) := HBK.out.cell 4
  have p0 := HPX.out.cell 0
  have p1 := HPX.out.cell 1
  have hld : (Instr.lookup 69 (.map (some md)) (.int .i64 a) false).run Try.prog { W1 with drawn := W1.drawn + 1 } = .ok (.int .i64 (doneN fs a : Int)) { W1 with drawn := W1.drawn + 1 } := (HM1.out.keep (Keep.drew (Keep.refl (fun _ => False) W1)) (fun e => e) (fun e => e)).done a HFX.out.a
  have hld2 : (Instr.lookup 69 (.map (some md)) (.int .i64 a) false).run Try.prog W1.drew = .ok (.int .i64 (doneN fs a : Int)) W1.drew := hld
  have hwd : IntKind.i64.wrap ((doneN fs a : Int) + 1) = (doneN fs a : Int) + 1 := IntWalk.i64_in _ (by have := HFEW.out; omega)
  have hwk : i64ok ((doneN fs a : Int) + 1) := by have := HFEW.out; unfold i64ok; omega
  have HWK := Lib.hid hwk
  clear hwk hdn
  go_wp2
  go_still_tail 8, (by kernel_rfl)
  change wpList _ _ _ _ _ W1.drew
  refine wpList_mapUpdate_own _ rfl _ _ _ 69 rfl 3 3 keyed_int Try.underlying69 (plainElem Try.prog 3) md fs.length E rfl HEE.out.drew (by unfold maxLen; have := HFEW.out; omega) _ _ _ rfl rfl (key_int HFX.out.a) _ [] (plainElem_int Try.underlying3 (wf_i64 HWK.out)) ?_
  intro W3 o3 g3
  have hk3 : Keep (fun i => i = md) W1 W3 := (Keep.refl (fun i => i = md) W1).drew.grown g3 (fun g e _ => by injection e with e; exact e.symm)
  have HB3 := Lib.hid (hk3.blk HBK.out (HND.out.1))
  have HP3 := Lib.hid (hk3.blk HPX.out (HND.out.2.1))
  have HD3 := Lib.hid (map_keep HDD.out hk3 HND.out.2.2)
  have HK3 := Lib.hid (HKK.out.trans (hk3.more (S' := fun i => i = b ∨ i = mf ∨ i = md) (fun i _ e => .inr (.inr e))) (fun _ _ e => e))
  have HE3 := Lib.hid o3
  clear o3 g3 hk3 y4 p0 p1 hld hld2 hwd HBK HPX HDD HEE HKK HM1
  have HBK := Lib.hid HB3.out
  have HPX := Lib.hid HP3.out
  have HDD := Lib.hid HD3.out
  have HEE := Lib.hid HE3.out
  have HKK := Lib.hid HK3.out
  clear HB3 HP3 HD3 HE3 HK3
  have y3 : W3.cell? ⟨b, 3, none⟩ = some (.map (some mf)) := HBK.out.cell 3
  have p0 := HPX.out.cell 0
  have p1 := HPX.out.cell 1
  have p2 := HPX.out.cell 2
  go_wp2
  go_still_tail 6, (by kernel_rfl)
  change wpList _ _ _ _ _ W3.drew
  refine wpList_mapUpdate_own _ rfl _ _ _ 68 rfl 77 2 keyed_piece Try.underlying68 (plainElem Try.prog 2) mf fs.length D rfl HDD.out.drew (by unfold maxLen; have := HFEW.out; omega) _ _ _ rfl rfl (key_piece HFX.out.k HFX.out.a HFX.out.b) _ [] (plainElem_int Try.underlying2 (wf_i64 HFX.out.n)) ?_
  intro W4 o4 g4
  have hk4 : Keep (fun i => i = mf) W3 W4 := (Keep.refl (fun i => i = mf) W3).drew.grown g4 (fun g e _ => by injection e with e; exact e.symm)
  have HB4 := Lib.hid (hk4.blk HBK.out (HNE.out.1))
  have HP4 := Lib.hid (hk4.blk HPX.out (HNE.out.2.1))
  have HE4 := Lib.hid (map_keep HEE.out hk4 HNE.out.2.2)
  have HK4 := Lib.hid (HKK.out.trans (hk4.more (S' := fun i => i = b ∨ i = mf ∨ i = md) (fun i _ e => .inr (.inl e))) (fun _ _ e => e))
  have HD4 := Lib.hid o4
  clear o4 g4 hk4 y3 p0 p1 p2
  have y5 : W4.cell? ⟨b, 5, none⟩ = some (.int .i64 (stepsN fs)) := HB4.out.cell 5
  have f5 := HB4.out.frozen 5
  have p1 := HP4.out.cell 1
  go_wp2
  go_still_tail 11, (by kernel_rfl)
  change wpList _ _ _ _ _ W4.drew
  go_wp2
  obtain ⟨r1, r2⟩ := HFIN.out W4.drew HK4.out.drew HB4.out HD4.out.drew HE4.out.drew
  go_end0
  exact ⟨⟨_, rfl⟩, r1, r2⟩

set_option maxRecDepth 100000 in
set_option maxHeartbeats 4000000 in
theorem lcomplete_again (h : LogN N w b mf md v bg ns fs) (a p n : Int) (hx : okN ⟨2, a, p, n⟩ = true ∧ (⟨2, a, p, n⟩ : NV).Fine ∧ 2 ≤ (⟨2, a, p, n⟩ : NV).k) (hfew : fs.length < 100000) (hnew : ¬ fileN fs 2 a p = none) :
    Calls Try.prog 52 #[.pointer (some ⟨b, 0, none⟩), .agg #[.int .i64 2, .int .i64 a, .int .i64 p], .int .i64 n] w fun e w' => (∃ u, e = .returned u) ∧ LogN N w' b mf md v bg ns (fs ++ [⟨2, a, p, n⟩]) ∧ Keep (fun i => i = b ∨ i = mf ∨ i = md) w w' := by
  obtain ⟨w0, hw0⟩ : ∃ w0, w.alloc (.cells #[.int .i64 2, .int .i64 a, .int .i64 p] 77) = w0 := ⟨_, rfl⟩
  have hx0 : Blk w0 w.heap.size 77 #[.int .i64 2, .int .i64 a, .int .i64 p] := by rw [← hw0]; exact Blk.new w _ _
  have hb0 : Below w.heap.size w w0 := by rw [← hw0]; exact (Below.refl _ _).alloc (Nat.le_refl _) _
  have h0 := h.below hb0
  have hlb : b < w.heap.size := h.lt
  obtain ⟨⟨D, hD, hFD⟩, E, hE, hDE⟩ := h0.m
  have hmf := hD.lt
  have nfd := h.ne
  have c3 : w0.cell? ⟨b, 3, none⟩ = some (.map (some mf)) := h0.blk.cell 3
  have x0 := hx0.cell 0
  have x1 := hx0.cell 1
  have x2 := hx0.cell 2
  have hl : ∀ q, (Instr.lookup 68 (.map (some mf)) (.agg #[.int .i64 2, .int .i64 a, .int .i64 p]) true).run Try.prog (w0.drewN q) = .ok (.tuple #[.int .i64 ((fileN fs 2 a p).getD 0), .bool (fileN fs 2 a p).isSome]) (w0.drewN q) := fun q => (h0.m.keep (Keep.drewN (Keep.refl (fun _ => False) w0) q) (fun e => e) (fun e => e)).file 2 a p (by omega) hx.2.1.a hx.2.1.b
  have HFX : Hid ((⟨2, a, p, n⟩ : NV).Fine) := Lib.hid hx.2.1
  have HFEW := Lib.hid hfew
  have ha : 0 ≤ a ∧ a ≤ 1048576 := (okN_iff.1 hx.1).1
  have hst := stepsN_range fs (fun y hy => (h.fok y hy).1)
  have hdn := doneN_le fs a
  have hw1 : IntKind.i64.wrap (a + 1) = a + 1 := IntWalk.i64_in _ (by omega)
  have hrm := run_max (stepsN fs) (a + 1) _ rfl
  obtain ⟨fv, hfv⟩ : ∃ fv, fileN fs 2 a p = some fv := Option.ne_none_iff_exists'.1 hnew
  rw [hfv] at hl
  simp only [Option.getD_some, Option.isSome_some] at hl
  have PF : Files (D.put (keyP 2 a p) (.lit (.int .i64 n))) (fs ++ [⟨2, a, p, n⟩]) := put_file (x := ⟨2, a, p, n⟩) hFD hD.isMap hx.2.1
  have DF : Dones E (fs ++ [⟨2, a, p, n⟩]) := same_done (x := ⟨2, a, p, n⟩) hDE (fun e => hnew e.2)
  have HFIN := Lib.hid (fun (W : World) (k1 : Keep (fun i => i = b ∨ i = mf ∨ i = md) w W) (k2 : Blk W b 71 #[.pointer (some ⟨b, 0, none⟩), .bool bg, v, .map (some mf), .map (some md), .int .i64 (stepsN fs)])
      (k3 : W.ownsMap Try.prog 77 (plainElem Try.prog 2) mf (fs.length + 1) (D.put (keyP 2 a p) (.lit (.int .i64 n)))) (k4 : W.ownsMap Try.prog 3 (plainElem Try.prog 3) md (fs.length + 1) E) =>
    LogN.finish 2 a p n h hx (by omega) hfew k1 k2 k3 PF k4 DF)
  have HNE : Hid (¬ b = mf ∧ ¬ w.heap.size = mf ∧ ¬ md = mf) := Lib.hid ⟨fun e => map_not_blk hD (t := 71) (by rw [← e]; exact h0.blk), fun e => map_not_blk hD (t := 77) (by rw [← e]; exact hx0), fun e => nfd e.symm⟩
  have HND : Hid (¬ b = md ∧ ¬ w.heap.size = md ∧ ¬ mf = md) := Lib.hid ⟨fun e => map_not_blk hE (t := 71) (by rw [← e]; exact h0.blk), fun e => map_not_blk hE (t := 77) (by rw [← e]; exact hx0), nfd⟩
  have HBK0 := Lib.hid h0.blk
  have HPX0 := Lib.hid hx0
  have HDD0 := Lib.hid hD
  have HEE0 := Lib.hid hE
  have HM0 := Lib.hid h0.m
  have HKK0 : Hid (Keep (fun i => i = b ∨ i = mf ∨ i = md) w w0) := Lib.hid (Keep.of_below hb0)
  clear h h0 hx hfew hb0 hx0 hD hE hFD hDE PF DF nfd hmf hlb hnew hfv
  go_enter Try.func52, Try.ntmps52
  go_wp2
  go_quiet (fail)
  obtain ⟨W1, hW1⟩ : ∃ W1, w0.drewN nq = W1 := ⟨_, rfl⟩
  have kw1 : Keep (fun _ => False) w0 W1 := by rw [← hW1]; exact Keep.drewN (Keep.refl _ w0) nq
  rw [hW1]
  have HBK := Lib.hid (kw1.blk HBK0.out (fun e => e))
  have HPX := Lib.hid (kw1.blk HPX0.out (fun e => e))
  have HDD := Lib.hid (map_keep HDD0.out kw1 (fun e => e))
  have HEE := Lib.hid (map_keep HEE0.out kw1 (fun e => e))
  have HM1 := Lib.hid (HM0.out.keep kw1 (fun e => e) (fun e => e))
  have HKK := Lib.hid (HKK0.out.trans (kw1.more (S' := fun i => i = b ∨ i = mf ∨ i = md) (fun i _ e => e.elim)) (fun _ _ e => e))
  clear hW1 kw1 c3 x0 x1 x2 hl hw0 HBK0 HPX0 HDD0 HEE0 HM0 HKK0
  have HEE := Lib.hid (HEE.out.mono (Nat.le_succ _))
  obtain ⟨W3, hW3⟩ : ∃ W3, W1 = W3 := ⟨_, rfl⟩
  subst hW3
  clear hdn HM1
  have y3 : W1.cell? ⟨b, 3, none⟩ = some (.map (some mf)) := HBK.out.cell 3
  have p0 := HPX.out.cell 0
  have p1 := HPX.out.cell 1
  have p2 := HPX.out.cell 2
  go_wp2
  go_still_tail 6, (by kernel_rfl)
  change wpList _ _ _ _ _ W1.drew
  refine wpList_mapUpdate_own _ rfl _ _ _ 68 rfl 77 2 keyed_piece Try.underlying68 (plainElem Try.prog 2) mf fs.length D rfl HDD.out.drew (by unfold maxLen; have := HFEW.out; omega) _ _ _ rfl rfl (key_piece HFX.out.k HFX.out.a HFX.out.b) _ [] (plainElem_int Try.underlying2 (wf_i64 HFX.out.n)) ?_
  intro W4 o4 g4
  have hk4 : Keep (fun i => i = mf) W1 W4 := (Keep.refl (fun i => i = mf) W1).drew.grown g4 (fun g e _ => by injection e with e; exact e.symm)
  have HB4 := Lib.hid (hk4.blk HBK.out (HNE.out.1))
  have HP4 := Lib.hid (hk4.blk HPX.out (HNE.out.2.1))
  have HE4 := Lib.hid (map_keep HEE.out hk4 HNE.out.2.2)
  have HK4 := Lib.hid (HKK.out.trans (hk4.more (S' := fun i => i = b ∨ i = mf ∨ i = md) (fun i _ e => .inr (.inl e))) (fun _ _ e => e))
  have HD4 := Lib.hid o4
  clear o4 g4 hk4 y3 p0 p1 p2
  have y5 : W4.cell? ⟨b, 5, none⟩ = some (.int .i64 (stepsN fs)) := HB4.out.cell 5
  have f5 := HB4.out.frozen 5
  have p1 := HP4.out.cell 1
  go_wp2
  go_still_tail 11, (by kernel_rfl)
  change wpList _ _ _ _ _ W4.drew
  go_wp2
  obtain ⟨r1, r2⟩ := HFIN.out W4.drew HK4.out.drew HB4.out HD4.out.drew HE4.out.drew
  go_end0
  exact ⟨⟨_, rfl⟩, r1, r2⟩

set_option maxRecDepth 100000 in
set_option maxHeartbeats 4000000 in
theorem lcomplete_run (h : LogN N w b mf md v bg ns fs) (a p n : Int) (hx : okN ⟨3, a, p, n⟩ = true ∧ (⟨3, a, p, n⟩ : NV).Fine ∧ 2 ≤ (⟨3, a, p, n⟩ : NV).k) (hfew : fs.length < 100000) :
    Calls Try.prog 52 #[.pointer (some ⟨b, 0, none⟩), .agg #[.int .i64 3, .int .i64 a, .int .i64 p], .int .i64 n] w fun e w' => (∃ u, e = .returned u) ∧ LogN N w' b mf md v bg ns (fs ++ [⟨3, a, p, n⟩]) ∧ Keep (fun i => i = b ∨ i = mf ∨ i = md) w w' := by
  obtain ⟨w0, hw0⟩ : ∃ w0, w.alloc (.cells #[.int .i64 3, .int .i64 a, .int .i64 p] 77) = w0 := ⟨_, rfl⟩
  have hx0 : Blk w0 w.heap.size 77 #[.int .i64 3, .int .i64 a, .int .i64 p] := by rw [← hw0]; exact Blk.new w _ _
  have hb0 : Below w.heap.size w w0 := by rw [← hw0]; exact (Below.refl _ _).alloc (Nat.le_refl _) _
  have h0 := h.below hb0
  have hlb : b < w.heap.size := h.lt
  obtain ⟨⟨D, hD, hFD⟩, E, hE, hDE⟩ := h0.m
  have hmf := hD.lt
  have nfd := h.ne
  have c3 : w0.cell? ⟨b, 3, none⟩ = some (.map (some mf)) := h0.blk.cell 3
  have x0 := hx0.cell 0
  have x1 := hx0.cell 1
  have x2 := hx0.cell 2
  have hl : ∀ q, (Instr.lookup 68 (.map (some mf)) (.agg #[.int .i64 3, .int .i64 a, .int .i64 p]) true).run Try.prog (w0.drewN q) = .ok (.tuple #[.int .i64 ((fileN fs 3 a p).getD 0), .bool (fileN fs 3 a p).isSome]) (w0.drewN q) := fun q => (h0.m.keep (Keep.drewN (Keep.refl (fun _ => False) w0) q) (fun e => e) (fun e => e)).file 3 a p (by omega) hx.2.1.a hx.2.1.b
  have HFX : Hid ((⟨3, a, p, n⟩ : NV).Fine) := Lib.hid hx.2.1
  have HFEW := Lib.hid hfew
  have ha : 0 ≤ a ∧ a ≤ 1048576 := (okN_iff.1 hx.1).1
  have hst := stepsN_range fs (fun y hy => (h.fok y hy).1)
  have hdn := doneN_le fs a
  have hw1 : IntKind.i64.wrap (a + 1) = a + 1 := IntWalk.i64_in _ (by omega)
  have hrm := run_max (stepsN fs) (a + 1) _ rfl
  generalize (fileN fs 3 a p).getD 0 = fv at hl
  obtain ⟨fb, hfb⟩ : ∃ fb, (fileN fs 3 a p).isSome = fb := ⟨_, rfl⟩
  rw [hfb] at hl
  have PF : Files (D.put (keyP 3 a p) (.lit (.int .i64 n))) (fs ++ [⟨3, a, p, n⟩]) := put_file (x := ⟨3, a, p, n⟩) hFD hD.isMap hx.2.1
  have DF : Dones E (fs ++ [⟨3, a, p, n⟩]) := same_done (x := ⟨3, a, p, n⟩) hDE (fun e => absurd e.1 (show ¬ (3 : Int) = 2 by decide))
  have HFIN := Lib.hid (fun (W : World) (k1 : Keep (fun i => i = b ∨ i = mf ∨ i = md) w W) (k2 : Blk W b 71 #[.pointer (some ⟨b, 0, none⟩), .bool bg, v, .map (some mf), .map (some md), .int .i64 (stepsN fs)])
      (k3 : W.ownsMap Try.prog 77 (plainElem Try.prog 2) mf (fs.length + 1) (D.put (keyP 3 a p) (.lit (.int .i64 n)))) (k4 : W.ownsMap Try.prog 3 (plainElem Try.prog 3) md (fs.length + 1) E) =>
    LogN.finish 3 a p n h hx (by omega) hfew k1 k2 k3 PF k4 DF)
  have HNE : Hid (¬ b = mf ∧ ¬ w.heap.size = mf ∧ ¬ md = mf) := Lib.hid ⟨fun e => map_not_blk hD (t := 71) (by rw [← e]; exact h0.blk), fun e => map_not_blk hD (t := 77) (by rw [← e]; exact hx0), fun e => nfd e.symm⟩
  have HND : Hid (¬ b = md ∧ ¬ w.heap.size = md ∧ ¬ mf = md) := Lib.hid ⟨fun e => map_not_blk hE (t := 71) (by rw [← e]; exact h0.blk), fun e => map_not_blk hE (t := 77) (by rw [← e]; exact hx0), nfd⟩
  have HBK0 := Lib.hid h0.blk
  have HPX0 := Lib.hid hx0
  have HDD0 := Lib.hid hD
  have HEE0 := Lib.hid hE
  have HM0 := Lib.hid h0.m
  have HKK0 : Hid (Keep (fun i => i = b ∨ i = mf ∨ i = md) w w0) := Lib.hid (Keep.of_below hb0)
  clear h h0 hx hfew hb0 hx0 hD hE hFD hDE PF DF nfd hmf hlb hfb
  cases fb
  all_goals
    go_enter Try.func52, Try.ntmps52
    go_wp2
    go_quiet (fail)
    obtain ⟨W1, hW1⟩ : ∃ W1, w0.drewN nq = W1 := ⟨_, rfl⟩
    have kw1 : Keep (fun _ => False) w0 W1 := by rw [← hW1]; exact Keep.drewN (Keep.refl _ w0) nq
    rw [hW1]
    have HBK := Lib.hid (kw1.blk HBK0.out (fun e => e))
    have HPX := Lib.hid (kw1.blk HPX0.out (fun e => e))
    have HDD := Lib.hid (map_keep HDD0.out kw1 (fun e => e))
    have HEE := Lib.hid (map_keep HEE0.out kw1 (fun e => e))
    have HM1 := Lib.hid (HM0.out.keep kw1 (fun e => e) (fun e => e))
    have HKK := Lib.hid (HKK0.out.trans (kw1.more (S' := fun i => i = b ∨ i = mf ∨ i = md) (fun i _ e => e.elim)) (fun _ _ e => e))
    clear hW1 kw1 c3 x0 x1 x2 hl hw0 HBK0 HPX0 HDD0 HEE0 HM0 HKK0
    have HEE := Lib.hid (HEE.out.mono (Nat.le_succ _))
    obtain ⟨W3, hW3⟩ : ∃ W3, W1 = W3 := ⟨_, rfl⟩
    subst hW3
    clear hdn HM1
    have y3 : W1.cell? ⟨b, 3, none⟩ = some (.map (some mf)) := HBK.out.cell 3
    have p0 := HPX.out.cell 0
    have p1 := HPX.out.cell 1
    have p2 := HPX.out.cell 2
    go_wp2
    go_still_tail 6, (by kernel_rfl)
    change wpList _ _ _ _ _ W1.drew
    refine wpList_mapUpdate_own _ rfl _ _ _ 68 rfl 77 2 keyed_piece Try.underlying68 (plainElem Try.prog 2) mf fs.length D rfl HDD.out.drew (by unfold maxLen; have := HFEW.out; omega) _ _ _ rfl rfl (key_piece HFX.out.k HFX.out.a HFX.out.b) _ [] (plainElem_int Try.underlying2 (wf_i64 HFX.out.n)) ?_
    intro W4 o4 g4
    have hk4 : Keep (fun i => i = mf) W1 W4 := (Keep.refl (fun i => i = mf) W1).drew.grown g4 (fun g e _ => by injection e with e; exact e.symm)
    have HB4 := Lib.hid (hk4.blk HBK.out (HNE.out.1))
    have HP4 := Lib.hid (hk4.blk HPX.out (HNE.out.2.1))
    have HE4 := Lib.hid (map_keep HEE.out hk4 HNE.out.2.2)
    have HK4 := Lib.hid (HKK.out.trans (hk4.more (S' := fun i => i = b ∨ i = mf ∨ i = md) (fun i _ e => .inr (.inl e))) (fun _ _ e => e))
    have HD4 := Lib.hid o4
    clear o4 g4 hk4 y3 p0 p1 p2
    have y5 : W4.cell? ⟨b, 5, none⟩ = some (.int .i64 (stepsN fs)) := HB4.out.cell 5
    have f5 := HB4.out.frozen 5
    have p1 := HP4.out.cell 1
    go_wp2
    go_still_tail 11, (by kernel_rfl)
    change wpList _ _ _ _ _ W4.drew
    go_wp2
    obtain ⟨r1, r2⟩ := HFIN.out W4.drew HK4.out.drew HB4.out HD4.out.drew HE4.out.drew
    go_end0
    exact ⟨⟨_, rfl⟩, r1, r2⟩

theorem lcomplete_any (h : LogN N w b mf md v bg ns fs) (x : NV) (hx : okN x = true ∧ x.Fine ∧ 2 ≤ x.k) (hk : x.k = 2 ∨ x.k = 3) (hfew : fs.length < 100000) :
    Calls Try.prog 52 #[.pointer (some ⟨b, 0, none⟩), .agg #[.int .i64 x.k, .int .i64 x.a, .int .i64 x.b], .int .i64 x.n] w fun e w' => (∃ u, e = .returned u) ∧ LogN N w' b mf md v bg ns (fs ++ [x]) ∧ Keep (fun i => i = b ∨ i = mf ∨ i = md) w w' := by
  obtain ⟨k, a, p, n⟩ := x
  simp only at hk ⊢
  rcases hk with rfl | rfl
  · by_cases hn : fileN fs 2 a p = none
    · exact lcomplete_new h a p n hx hfew hn
    · exact lcomplete_again h a p n hx hfew hn
  · exact lcomplete_run h a p n hx hfew
end
end Go.Proofs.Ytdjneiboeehclaa.note

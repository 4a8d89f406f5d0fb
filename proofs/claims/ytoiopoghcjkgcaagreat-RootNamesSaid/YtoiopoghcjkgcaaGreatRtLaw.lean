/-
  The root of layer 6 as the statements call it: Load, Save, 'is'.
-/
import Derived.Test.YtoiopoghcjkgcaaGreatRtBoth
namespace Go.Proofs.YtoiopoghcjkgcaaGreat.root
open Go.RowKit Go.Proofs.YtoiopoghcjkgcaaGreat.crc

def SlotsAt (w : World) (p : Option Addr) (er : Nat → Int) (L : Nat → List UInt8) : Prop := ∀ W, Below w.heap.size w W → Slots p (fun W' => Below W.heap.size W W') er L
theorem SlotsAt.next {w w' : World} {p : Option Addr} {er : Nat → Int} {L : Nat → List UInt8} (h : SlotsAt w p er L) (hb : Below w.heap.size w w') : SlotsAt w' p er L := fun W hW => h W (hb.trans (hW.mono hb.size))
theorem slots_dk {w : World} {d : DAt} {kv : Value} {s : RSt} (h : DK w d kv s) : SlotsAt w (some ⟨d.b, 0, none⟩) (fun k => readErr3 s (k : Int)) (fun k => readOut3 s (k : Int)) := fun W hW =>
  ⟨fun X Y hX hY => hX.trans (hY.mono hX.size), fun k _ X hX => by
    refine (dread_any (k : Int) ((h.below hW).below hX)).mono ?_
    rintro e w' ⟨v, rfl, hro⟩
    obtain ⟨A, c, rfl, hr⟩ := hro.reads
    exact ⟨A, c, rfl, hr, hro.1⟩⟩
theorem slots_nil (w : World) : SlotsAt w none (fun _ => 1) (fun _ => []) := fun W hW =>
  ⟨fun X Y hX hY => hX.trans (hY.mono hX.size), fun k _ X hX => by
    refine (dread_dead none (k : Int) X (Dead.nil X)).mono ?_
    rintro e w' ⟨rfl, rfl⟩
    exact ⟨none, 0, rfl, Reads.none_, Below.refl _ _⟩⟩

theorem own_root {w : World} {base n c : Nat} {A : Option Addr} {r : RV} {xs : List Value} (h : w.ownsRow base 35 3 (.slice A n c) n (encR r ++ xs)) (h0 : 0 < n) :
    ∃ g, A = some ⟨g, 0, none⟩ ∧ w.cell? ⟨g, 0, none⟩ = some (.int .u64 r.n) ∧ w.cell? ⟨g, 1, none⟩ = some (.int .i64 r.len) ∧ w.cell? ⟨g, 2, none⟩ = some (.int .u32 r.sm) := by
  rcases h.2 with ⟨_, e0⟩ | ⟨g, cap, cur, e, _, hh, _, _, _, ht⟩
  · omega
  · injection e with e
    have hb : Blk w g 35 cur := hh
    have hc : ∀ j v, (encR r)[j]? = some v → w.cell? ⟨g, j, none⟩ = some v := fun j v hv => by
      have hj : j < 3 := (List.getElem?_eq_some_iff.1 hv).1
      rw [hb.cell, ← Array.getElem?_toList]
      have h1 : (cur.toList.take (n * 3))[j]? = (encR r ++ xs)[j]? := by rw [ht]
      rw [List.getElem?_take_of_lt (by omega), List.getElem?_append_left (by show j < 3; exact hj)] at h1
      exact h1.trans hv
    exact ⟨g, e, hc 0 _ rfl, hc 1 _ rfl, hc 2 _ rfl⟩

set_option maxRecDepth 100000 in
set_option maxHeartbeats 4000000 in
theorem rload_any {p : Option Addr} {er : Nat → Int} {L : Nat → List UInt8} {w : World} {E : Int} {r : RV} (hS : SlotsAt w p er L) (hE : bothE er = E) (hr : (bothL er L).headD noR = r) :
    Calls Tryz.prog 16 #[.pointer p] w fun e w' => e = .returned (.tuple #[rtv r, .int .i64 E]) ∧ Below w.heap.size w w' := by
  obtain ⟨w0, hw0⟩ : ∃ w0, w.alloc (.cells #[.int .u64 0, .int .i64 0, .int .u32 0] 35) = w0 := ⟨_, rfl⟩
  have hx0 : Blk w0 w.heap.size 35 #[.int .u64 0, .int .i64 0, .int .u32 0] := by rw [← hw0]; exact Blk.new w _ _
  have hb0 : Below w.heap.size w w0 := by rw [← hw0]; exact (Below.refl _ _).alloc (Nat.le_refl _) _
  have hB := rboth_any p er L w0 (hS w0 hb0)
  obtain ⟨R, hR⟩ : ∃ R, bothL er L = R := ⟨_, rfl⟩
  have hne : E ≠ 0 → R = [] := fun h => by rw [← hR]; unfold bothL; rw [hE, if_neg h]
  rw [hE, hR] at hB
  rw [hR] at hr
  have HX := Lib.hid hx0
  have HB0 := Lib.hid hb0
  have HNE := Lib.hid hne
  clear hx0 hb0 hS hR hne hE
  unfold rtv
  rcases R with _ | ⟨r0, rs⟩
  · have hr' : noR = r := hr
    subst hr'
    have HB := Lib.hid hB
    simp only [List.length_nil] at HB
    clear hB hr HNE
    by_cases h0 : E = 0
    · subst h0
      go_enter Tryz.func16, Tryz.ntmps16
      go_wp2_with (go_at_call 13; refine HB.out.mono ?_; rintro e w1 ⟨A, c, rfl, _, b1⟩; clear hw0; have hx1 := HX.out.below b1 HX.out.lt; have x0 := hx1.cell 0; have x1 := hx1.cell 1; have x2 := hx1.cell 2; have f0 := hx1.frozen 0; have f1 := hx1.frozen 1; have f2 := hx1.frozen 2; have HX1 := Lib.hid hx1; have B1 := Lib.hid (HB0.out.trans (b1.mono HB0.out.size)); clear hx1 b1)
      refine bodyPost_ret (results_root2 rfl rfl rfl (blk_root _ _ _ HX1.out)) rfl ?_
      have hk := keep_root w1 w.heap.size (.int .u64 0) (.int .i64 0) (.int .u32 0)
      exact ⟨rfl, B1.out.trans (hk.below B1.out.size (fun i hi e => by omega))⟩
    · have hn0 : (E != 0) = true := by rw [bne_iff_ne]; exact h0
      clear h0
      go_enter Tryz.func16, Tryz.ntmps16
      go_wp2_with (go_at_call 13; refine HB.out.mono ?_; rintro e w1 ⟨A, c, rfl, _, b1⟩; clear hw0; have hx1 := HX.out.below b1 HX.out.lt; have x0 := hx1.cell 0; have x1 := hx1.cell 1; have x2 := hx1.cell 2; have f0 := hx1.frozen 0; have f1 := hx1.frozen 1; have f2 := hx1.frozen 2; have HX1 := Lib.hid hx1; have B1 := Lib.hid (HB0.out.trans (b1.mono HB0.out.size)); clear hx1 b1)
      refine bodyPost_ret (results_root2 rfl rfl rfl (blk_root _ _ _ HX1.out)) rfl ?_
      have hk := keep_root w1 w.heap.size (.int .u64 0) (.int .i64 0) (.int .u32 0)
      exact ⟨rfl, B1.out.trans (hk.below B1.out.size (fun i hi e => by omega))⟩
  · obtain rfl : r0 = r := hr
    obtain rfl : E = 0 := by
      rcases Decidable.em (E = 0) with h | h
      · exact h
      · cases HNE.out h
    have HB := Lib.hid hB
    simp only [List.length_cons] at HB
    clear hB HNE
    generalize rs.length = m at *
    go_enter Tryz.func16, Tryz.ntmps16
    go_wp2_with (go_at_call 13; refine HB.out.mono ?_; rintro e w1 ⟨A, c, rfl, o1, b1⟩; clear hw0; obtain ⟨g, rfl, y0, y1, y2⟩ := own_root (r := r0) (xs := rowsR rs) o1 (by omega); have hx1 := HX.out.below b1 HX.out.lt; have x0 := hx1.cell 0; have x1 := hx1.cell 1; have x2 := hx1.cell 2; have f0 := hx1.frozen 0; have f1 := hx1.frozen 1; have f2 := hx1.frozen 2; have HX1 := Lib.hid hx1; have B1 := Lib.hid (HB0.out.trans (b1.mono HB0.out.size)); clear hx1 b1 o1)
    refine bodyPost_ret (results_root2 rfl rfl rfl (blk_root _ _ _ HX1.out)) rfl ?_
    have hk := keep_root w1 w.heap.size (.int .u64 r0.n) (.int .i64 r0.len) (.int .u32 r0.sm)
    exact ⟨rfl, B1.out.trans (hk.below B1.out.size (fun i hi e => by omega))⟩

set_option maxRecDepth 100000 in
set_option maxHeartbeats 4000000 in
theorem ris_any {p : Option Addr} {er : Nat → Int} {L : Nat → List UInt8} {w : World} {r : RV} (hS : SlotsAt w p er L) (hE : bothE er = 0) (hr : (bothL er L).headD noR = r) :
    Calls Tryz.prog 18 #[.pointer p, rtv r] w fun e w' => e = .returned (.bool true) ∧ Below w.heap.size w w' := by
  obtain ⟨w0, hw0⟩ : ∃ w0, w.alloc (.cells #[.int .u64 r.n, .int .i64 r.len, .int .u32 r.sm] 35) = w0 := ⟨_, rfl⟩
  have hx0 : Blk w0 w.heap.size 35 #[.int .u64 r.n, .int .i64 r.len, .int .u32 r.sm] := by rw [← hw0]; exact Blk.new w _ _
  have hb0 : Below w.heap.size w w0 := by rw [← hw0]; exact (Below.refl _ _).alloc (Nat.le_refl _) _
  have HL := Lib.hid (rload_any (hS.next hb0) hE hr)
  have HX := Lib.hid hx0
  have HB0 := Lib.hid hb0
  clear hx0 hb0 hS hE hr
  unfold rtv at *
  go_enter Tryz.func18, Tryz.ntmps18
  go_wp2_with (go_at_call 16; refine HL.out.mono ?_; rintro e w1 ⟨rfl, b1⟩; clear hw0; have hx1 := (HX.out.below b1 HX.out.lt).alloc (.cells #[.int .u64 r.n, .int .i64 r.len, .int .u32 r.sm] 35); have x0 := hx1.cell 0; have x1 := hx1.cell 1; have x2 := hx1.cell 2; have B1 := Lib.hid (HB0.out.trans ((b1.alloc b1.size (.cells #[.int .u64 r.n, .int .i64 r.len, .int .u32 r.sm] 35)).mono HB0.out.size)); clear hx1 b1)
  go_ret
  exact ⟨rfl, B1.out⟩

/-- What a Save answers, and leaves. -/
def saveE (s : RSt) (r : RV) : Int := if okR r = true then (if writeErr s ((r.n % 2 : Nat) : Int) (sectR r) = 0 then (if (writeK s ((r.n % 2 : Nat) : Int) (sectR r)).down then 31 else 0) else writeErr s ((r.n % 2 : Nat) : Int) (sectR r)) else 60
def saveS (s : RSt) (r : RV) : RSt := if okR r = true then (if writeErr s ((r.n % 2 : Nat) : Int) (sectR r) = 0 then flushK (writeK s ((r.n % 2 : Nat) : Int) (sectR r)) else writeK s ((r.n % 2 : Nat) : Int) (sectR r)) else s

set_option maxRecDepth 100000 in
set_option maxHeartbeats 4000000 in
theorem lsave {N : Nat} {w0 w : World} {d : DAt} {s s' : RSt} {er : Int} (r : RV) (hf : r.Fine) (L : Lives N w0 w d s) (hm : Few s) (he : saveE s r = er) (hs : saveS s r = s') :
    Calls Tryz.prog 12 #[.pointer (some ⟨d.b, 0, none⟩), rtv r] w fun e w' => e = .returned (.int .i64 er) ∧ Lives N w0 w' d s' ∧ Keep d.foot w w' := by
  obtain ⟨wa, hwa⟩ : ∃ wa, w.alloc (.cells #[.int .u64 r.n, .int .i64 r.len, .int .u32 r.sm] 35) = wa := ⟨_, rfl⟩
  have hx : Blk wa w.heap.size 35 #[.int .u64 r.n, .int .i64 r.len, .int .u32 r.sm] := by rw [← hwa]; exact Blk.new w _ _
  have hba : Below w.heap.size w wa := by rw [← hwa]; exact (Below.refl _ _).alloc (Nat.le_refl _) _
  have x0 := hx.cell 0
  have x1 := hx.cell 1
  have x2 := hx.cell 2
  have EN := Lib.hid (rencode_any r wa hf)
  unfold errR outR at EN
  have HX := Lib.hid hx
  have HBA := Lib.hid hba
  have HL := Lib.hid L
  have HFD : Hid (∀ k, d.foot k → k < w.heap.size) := Lib.hid (fun k hk => by
    obtain ⟨kv, h⟩ := L.dk
    exact h.lt k hk)
  clear hx hba L
  unfold saveE at he
  unfold saveS at hs
  cases hok : okR r
  · rw [hok] at EN he hs
    simp only [Bool.false_eq_true, if_false] at EN he hs
    subst he hs
    clear hok hf hm
    unfold rtv
    go_enter Tryz.func12, Tryz.ntmps12
    go_wp2_with (go_at_call 15; refine EN.out.mono ?_; rintro e w1 ⟨v, rfl, g⟩; obtain ⟨A1, c1, rfl, o1, b1⟩ := gives_len g rfl; clear hwa; have B1 := Lib.hid (HBA.out.trans (b1.mono HBA.out.size)); clear g o1 b1)
    go_ret
    exact ⟨rfl, HL.out.next HL.out.lt B1.out, Keep.of_below B1.out⟩
  · rw [hok] at EN he hs
    simp only [if_true] at EN he hs
    have hsl := sectR_length r
    obtain ⟨T, hT⟩ : ∃ T, sectR r = T := ⟨_, rfl⟩
    rw [hT] at EN he hs hsl
    have HSO := Lib.hid (fun W => rslotof_any r.n W hf.n)
    obtain ⟨a, ha⟩ : ∃ a, r.n % 2 = a := ⟨_, rfl⟩
    rw [ha] at HSO he hs
    have HM := Lib.hid hm
    have HTL := Lib.hid hsl
    have HWR : Hid (∀ (A : Option Addr) (c : Nat) (W : World), Below w.heap.size w W → Reads W W.heap.size 1 A 128 (T.map bv) → Calls Tryz.prog 27 #[.pointer (some ⟨d.b, 0, none⟩), .int .i64 (a : Int), .slice A 128 c] W fun e w' => e = .returned (.int .i64 (writeErr s (a : Int) T)) ∧ Lives N w0 w' d (writeK s (a : Int) T) ∧ Keep d.foot W w') := Lib.hid (fun A c W hb hr => lwrite (a : Int) A 128 c T (HL.out.next HL.out.lt hb) HTL.out hr HM.out rfl rfl)
    clear hok hf hT ha hsl hm
    by_cases hw : writeErr s (a : Int) T = 0
    · rw [if_pos hw] at he hs
      rw [hw] at HWR
      obtain ⟨s1, hs1⟩ : ∃ s1, writeK s (a : Int) T = s1 := ⟨_, rfl⟩
      rw [hs1] at HWR he hs
      have HSE := Lib.hid he
      have HSS := Lib.hid hs
      clear hw hs1 he hs
      unfold rtv
      go_enter Tryz.func12, Tryz.ntmps12
      go_wp2_with (first
        | (go_at_call 15; refine EN.out.mono ?_; rintro e w1 ⟨v, rfl, g⟩; obtain ⟨A1, c1, rfl, o1, b1⟩ := gives_len g HTL.out; clear hwa; have B1 := Lib.hid (HBA.out.trans (b1.mono HBA.out.size)); have O1 := Lib.hid o1; have hx1 := HX.out.below b1 HX.out.lt; have y0 := hx1.cell 0; clear g o1 b1 hx1)
        | (go_at_call 35; refine (HSO.out _).mono ?_; rintro e _ ⟨rfl, rfl⟩)
        | (go_at_call 27; refine (HWR.out A1 c1 _ B1.out (Reads.of_own O1.out)).mono ?_; rintro e w2 ⟨rfl, l2, k2⟩; have L2 := Lib.hid l2; have K2 := Lib.hid k2; clear l2 k2)
        | (go_at_call 29; refine (lflush L2.out HSE.out HSS.out).mono ?_; rintro e w3 ⟨rfl, l3, k3⟩; have L3 := Lib.hid l3; have K3 := Lib.hid k3; clear l3 k3))
      go_ret
      exact ⟨rfl, L3.out, ((Keep.of_below B1.out).trans K2.out (fun _ _ h => h)).trans K3.out (fun _ _ h => h)⟩
    · rw [if_neg hw] at he hs
      rw [he, hs] at HWR
      rw [he] at hw
      have hn0 : (er != 0) = true := by rw [bne_iff_ne]; exact hw
      clear hw he hs
      unfold rtv
      go_enter Tryz.func12, Tryz.ntmps12
      go_wp2_with (first
        | (go_at_call 15; refine EN.out.mono ?_; rintro e w1 ⟨v, rfl, g⟩; obtain ⟨A1, c1, rfl, o1, b1⟩ := gives_len g HTL.out; clear hwa; have B1 := Lib.hid (HBA.out.trans (b1.mono HBA.out.size)); have O1 := Lib.hid o1; have hx1 := HX.out.below b1 HX.out.lt; have y0 := hx1.cell 0; clear g o1 b1 hx1)
        | (go_at_call 35; refine (HSO.out _).mono ?_; rintro e _ ⟨rfl, rfl⟩)
        | (go_at_call 27; refine (HWR.out A1 c1 _ B1.out (Reads.of_own O1.out)).mono ?_; rintro e w2 ⟨rfl, l2, k2⟩; have L2 := Lib.hid l2; have K2 := Lib.hid k2; clear l2 k2))
      go_ret
      exact ⟨rfl, L2.out, (Keep.of_below B1.out).trans K2.out (fun _ _ h => h)⟩

end Go.Proofs.YtoiopoghcjkgcaaGreat.root

/-
  Arm, with a list of kept sectors that may be empty wherever it lies; disks as the statements hold them, of which something aside is written.
-/
import Derived.Test.YtkebbjodkhjbmaaGreatKAlive
import Derived.Test.YtkebbjodkhjbmaaGreatKDiskF
namespace Go.Proofs.YtkebbjodkhjbmaaGreat
open Go.RowKit Go.Maps Go.MapKept Go.ChangeMaps

section
variable {w : World} {d : DAt} {kv : Value} {s : RSt}

set_option maxRecDepth 100000 in
set_option maxHeartbeats 2000000 in
theorem darm_free (c : DCrash) (KA : Option Addr) (Kc : Nat) (hf : c.Fine) (h : DK w d kv s) (hk : Sl w w.heap.size KA Kc (c.keep.map iv)) (hK : c.keep.length ≤ 17592186044416) (hKA : 0 < c.keep.length → ∀ ad, KA = some ad → ad.block ≠ d.b) :
    Calls Tryz.prog 67 #[.pointer (some ⟨d.b, 0, none⟩), .agg #[.int .i64 c.write, .slice KA c.keep.length Kc, .int .i64 c.torn, .int .i64 c.at_]] w fun e w' => ∃ kv', e = .returned (.int .i64 (armErr3 c)) ∧ DK w' d kv' (armSt3 s c) ∧ (kv' = kv ∨ Fresh w.heap.size kv') ∧ Keep (fun k => k = d.b) w w' := by
  obtain ⟨X, hX⟩ : ∃ X, (#[.int .i64 c.write, .slice KA c.keep.length Kc, .int .i64 c.torn, .int .i64 c.at_] : Array Value) = X := ⟨_, rfl⟩
  obtain ⟨W1, hW1⟩ : ∃ W1, w.alloc (.cells #[.int .i64 c.write, .slice KA c.keep.length Kc, .int .i64 c.torn, .int .i64 c.at_] 39) = W1 := ⟨_, rfl⟩
  have hB1 : Below w.heap.size w W1 := by rw [← hW1]; exact (Below.refl _ w).alloc (Nat.le_refl _) _
  have h1 : DK W1 d kv s := h.below hB1
  have hN1 : Blk W1 w.heap.size 39 #[.int .i64 c.write, .slice KA c.keep.length Kc, .int .i64 c.torn, .int .i64 c.at_] := by rw [← hW1]; exact Blk.new w _ _
  have hlt := h.lt _ (.inl rfl)
  have HV := Lib.hid (dvalid_any h1)
  have b0 : W1.cell? ⟨w.heap.size, 0, none⟩ = some (.int .i64 c.write) := hN1.cell 0
  by_cases hw : c.write < 1
  · have ha : armErr3 c = 2 := by unfold armErr3; rw [if_pos hw]
    have hs : armSt3 s c = s := by unfold armSt3; rw [if_pos hw]
    rw [ha, hs]
    have HF := Lib.hid (And.intro h1 (Keep.of_below (S := fun k => k = d.b) hB1))
    clear ha hs h h1 hk hB1 hN1 hlt hX hf
    go_enter Tryz.func67, Tryz.ntmps67
    go_wp2_with (go_at_call 84; refine HV.out.mono ?_; rintro e _ ⟨rfl, rfl⟩)
    go_ret
    exact ⟨_, rfl, HF.out.1, .inl rfl, HF.out.2⟩
  · have ha : armErr3 c = 0 := by unfold armErr3; rw [if_neg hw]
    have hs : armSt3 s c = { s with write := c.write, keep := c.keep, torn := c.torn, at_ := c.at_ } := by unfold armSt3; rw [if_neg hw]
    rw [ha, hs]
    have hX4 : X.toList = [.int .i64 c.write, .slice KA c.keep.length Kc, .int .i64 c.torn, .int .i64 c.at_] := by rw [← hX]
    obtain ⟨W2, hW2⟩ : ∃ W2, W1.setCells d.b 5 X.toList = W2 := ⟨_, rfl⟩
    have hk2 : Keep (fun k => k = d.b) w W2 := by rw [← hW2]; exact keep_setCells X.toList 5 W1 (Keep.of_below hB1) (fun _ => rfl)
    have hb2 : Blk W2 d.b 104 #[.pointer (some ⟨d.b, 0, none⟩), .slice (some ⟨d.g, 0, none⟩) s.stays.length d.cS, .map (some d.m), .int .i64 s.many, .bool s.down, .int .i64 c.write, .slice KA c.keep.length Kc, .int .i64 c.torn, .int .i64 c.at_] := by
      rw [← hW2, hX4]
      have := blk_setCells [.int .i64 c.write, .slice KA c.keep.length Kc, .int .i64 c.torn, .int .i64 c.at_] 5 W1 _ h1.blk (by simp)
      exact this
    have hs2 : w.heap.size ≤ W2.heap.size := hk2.size
    have hN2 : Blk W2 w.heap.size 39 #[.int .i64 c.write, .slice KA c.keep.length Kc, .int .i64 c.torn, .int .i64 c.at_] := by
      have hk12 : Keep (fun k => k = d.b) W1 W2 := by rw [← hW2]; exact keep_setCells X.toList 5 W1 (Keep.refl _ _) (fun _ => rfl)
      exact hk12.blk hN1 (fun e => by omega)
    have hr2 : Reads W2 W2.heap.size 1 KA c.keep.length (c.keep.map iv) := by
      have h0 := hk.reads
      rw [List.length_map] at h0
      rcases Nat.eq_zero_or_pos c.keep.length with hz | hp
      · exact ⟨by rw [List.length_map]; omega, fun h => by omega⟩
      · exact (h0.keepS hk2 (Nat.le_refl _) (fun ad e => hKA hp ad e)).more hs2
    have e1 : W2.cell? ⟨w.heap.size, 1, none⟩ = some (.slice KA c.keep.length Kc) := hN2.cell 1
    have HC := Lib.hid (cloneI_any KA c.keep.length Kc c.keep W2 rfl hr2 hK)
    have ht : W1.there d.b 5 X.size := fun j hj => by
      rw [← hX] at hj
      have hj4 : j < 4 := hj
      refine ⟨?_, h1.blk.frozen _⟩
      rw [h1.blk.cell, Array.getElem?_eq_getElem (by simp; omega)]
      rfl
    have hX1 : X.all (·.oneCell') = true := by rw [← hX]; simp [Value.oneCell']
    have hXi : (Tryz.prog.info? 39).map (·.size) = some X.size := by rw [← hX]; kernel_rfl
    have hnx : ∀ W3, Below W2.heap.size W2 W3 → W3.cell? ⟨d.b, 6, none⟩ = some (.slice KA c.keep.length Kc) ∧ W3.frozen? ⟨d.b, 6, none⟩ = false := fun W3 hb3 => by
      have hx := hb2.below hb3 hb2.lt
      exact ⟨hx.cell 6, hx.frozen 6⟩
    have HNX := Lib.hid hnx
    have HN1 := Lib.hid (show W1.heap[w.heap.size]? = some (.cells X 39 (0, 0)) from by rw [← hX]; exact hN1)
    have HT := Lib.hid ht
    have HX1 := Lib.hid hX1
    have HXI := Lib.hid hXi
    have HB2 := Lib.hid hb2
    have HK2 := Lib.hid hk2
    have HW2 := Lib.hid hW2
    have H := Lib.hid h
    have HFI := Lib.hid hf
    have hW1x : w.alloc (.cells X 39) = W1 := by rw [← hX]; exact hW1
    clear hnx ha hs h h1 hk hB1 hN1 hlt hX4 hb2 hk2 hs2 hr2 ht hX1 hXi hN2 hW2 hW1 hf
    go_enter Tryz.func67, Tryz.ntmps67
    go_wp2_with (first
      | (go_at_call 84; refine HV.out.mono ?_; rintro e _ ⟨rfl, rfl⟩)
      | (with_reducible refine wpList_load_row rfl 39 (.tmp 3) rfl w.heap.size rfl 39 X (0, 0) _ HN1.out Tryz.underlying39 rfl HXI.out ?_)
      | (go_at_call 119; refine HC.out.mono ?_; rintro e W3 ⟨A3, c3, rfl, hh3, hf3, hb3⟩; obtain ⟨y6, f6⟩ := HNX.out W3 hb3; have HH3 := Lib.hid hh3; have HF3 := Lib.hid hf3; have HB3 := Lib.hid hb3; clear hh3 hf3 hb3)
      | (with_reducible refine wpList_store_mid rfl 39 (.tmp 14) (.tmp 12) rfl d.b 5 X rfl rfl HT.out HXI.out HX1.out ?_; rw [HW2.out]))
    go_ret
    have hk3 : Keep (fun k => k = d.b) w W3 := HK2.out.trans (Keep.of_below (S := fun _ => False) HB3.out) (fun _ _ h => h.elim)
    have hk4 : Keep (fun k => k = d.b) w (W3.setCell ⟨d.b, 6, none⟩ (.slice A3 c.keep.length c3)) := hk3.setCell _ _ (fun _ => rfl)
    have hb4 : Blk (W3.setCell ⟨d.b, 6, none⟩ (.slice A3 c.keep.length c3)) d.b 104 _ := (HB2.out.below HB3.out HB2.out.lt).set_ 6 (.slice A3 c.keep.length c3)
    have hh4 : Head (W3.setCell ⟨d.b, 6, none⟩ (.slice A3 c.keep.length c3)) 3 (c.keep.map iv) (.slice A3 c.keep.length c3) := HH3.out.keep ((Keep.refl (fun k => k = d.b) W3).setCell _ _ (fun _ => rfl)) (fun k e => by
      subst e
      have hb3 : Blk W3 d.b 104 _ := HB2.out.below HB3.out HB2.out.lt
      exact fun e => absurd (hb3.typ.ne e) (by decide))
    exact ⟨_, rfl, H.out.self hk4 rfl rfl ⟨H.out.more.many, by have := HFI.out.w; unfold i64ok at this; show 0 ≤ c.write ∧ c.write ≤ _; omega, HFI.out.t, HFI.out.a, HFI.out.k⟩ hb4 hh4, .inr (HF3.out.mono HK2.out.size), hk4⟩
end

section
variable {N : Nat} {w0 w : World} {d : DAt} {s : RSt}
theorem larm_free {er : Int} {s' : RSt} (c : DCrash) (KA : Option Addr) (n Kc : Nat) (hf : c.Fine) (L : Lives N w0 w d s) (hl : c.keep.length = n) (hk : Sl w N KA Kc (c.keep.map iv)) (hK : c.keep.length ≤ 17592186044416) (he : armErr3 c = er) (hs : armSt3 s c = s') :
    Calls Tryz.prog 67 #[.pointer (some ⟨d.b, 0, none⟩), .agg #[.int .i64 c.write, .slice KA n Kc, .int .i64 c.torn, .int .i64 c.at_]] w fun e w' => e = .returned (.int .i64 er) ∧ Lives N w0 w' d s' ∧ Keep d.foot w w' := by
  subst hl he hs
  obtain ⟨kv, h⟩ := L.dk
  refine (darm_free c KA Kc hf h (hk.more L.lt) hK (fun hp ad e hb => ?_)).mono ?_
  · obtain ⟨ad', e', hlt, _⟩ := hk.reads.2 (by rw [List.length_map]; exact hp)
    rw [e] at e'
    injection e' with e'
    subst e'
    have := L.foot d.b (.inl rfl)
    omega
  · rintro e w' ⟨kv', rfl, h', _, hk⟩
    exact ⟨rfl, L.to L.lt hk (fun k e => .inl e) h', hk.more (fun k _ e => .inl e)⟩
/-- Something aside is written. -/
theorem Lives.aside {w' : World} {S : Nat → Prop} (L : Lives N w0 w d s) (hk : Keep S w w') (hS : ∀ k, S k → N ≤ k ∧ ¬ d.foot k ∧ ¬ Typ w k 3) : Lives N w0 w' d s := by
  obtain ⟨kv, h⟩ := L.dk
  exact ⟨L.below.trans (hk.far L.lt (fun k h => (hS k h).1)), L.foot, kv, h.keep hk (fun k hf hs => (hS k hs).2.1 hf) (fun k hs => (hS k hs).2.2)⟩
end
end Go.Proofs.YtkebbjodkhjbmaaGreat

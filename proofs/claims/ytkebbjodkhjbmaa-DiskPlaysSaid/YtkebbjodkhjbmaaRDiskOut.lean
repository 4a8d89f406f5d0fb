/-
  The given disk of layer 3: Down and Arm.
-/
import Derived.Test.YtkebbjodkhjbmaaRDiskFall
namespace Go.Proofs.Ytkebbjodkhjbmaa
open Go.RowKit

section
variable {b gS gC cS cC : Nat} {kv : Value} {vs ws : List Value} {s : RSt} {w : World}

def downSt3 (s : RSt) (c : DCrash) : RSt := if s.down then s else fallSt s c
def downErr3 (s : RSt) : Int := if s.down then 31 else 0

set_option maxRecDepth 100000 in
set_option maxHeartbeats 1000000 in
theorem rdown_any [Aside] (c : DCrash) (hc : c.Fine) (KA : Option Addr) (Kc : Nat) (hk : HeadF b gS gC w (c.keep.map iv) (.slice KA c.keep.length Kc)) (h : RD w b gS gC cS cC kv vs ws s) :
    Calls Try.prog 17 #[.pointer (some ⟨b, 0, none⟩), .agg #[.int .i64 c.write, .slice KA c.keep.length Kc, .int .i64 c.torn, .int .i64 c.at_]] w fun e w' => e = .returned (.int .i64 (downErr3 s)) ∧ (∃ kv' vs' ws', RD w' b gS gC cS cC kv' vs' ws' (downSt3 s c)) ∧ Keep (rfoot b gS gC) w w' := by
  obtain ⟨w0, hw0⟩ : ∃ w0, w.alloc (.cells #[.int .i64 c.write, .slice KA c.keep.length Kc, .int .i64 c.torn, .int .i64 c.at_] 36) = w0 := ⟨_, rfl⟩
  have hb0 : Below w.heap.size w w0 := by rw [← hw0]; exact (Below.refl _ _).alloc (Nat.le_refl _) _
  have hbx : Blk w0 w.heap.size 36 #[.int .i64 c.write, .slice KA c.keep.length Kc, .int .i64 c.torn, .int .i64 c.at_] := by rw [← hw0]; exact Blk.new w _ _
  have hlt := (h.foot b (.inl rfl)).2.2
  have h0 := h.below hb0
  have c7 : w0.cell? ⟨b, 7, none⟩ = some (.bool s.down) := h0.blk.cell 7
  have x0 := hbx.cell 0
  have x1 := hbx.cell 1
  have x2 := hbx.cell 2
  have x3 := hbx.cell 3
  have H0 := Lib.hid h0
  have HB0 := Lib.hid hb0
  have HF := Lib.hid (rfall_any (w := w0) c hc KA Kc (hk.keep (Keep.of_below (S := fun _ => False) hb0) (fun _ h => h.elim)) h0)
  have H := Lib.hid h
  cases hd : s.down
  · have he : downErr3 s = 0 := by unfold downErr3; rw [hd]; rfl
    have hs : downSt3 s c = fallSt s c := by unfold downSt3; rw [hd]; rfl
    rw [hd] at c7
    rw [he, hs]
    clear h0 hb0 hbx hk hlt he hs hd h
    go_enter Try.func17, Try.ntmps17
    go_wp2_with (go_at_call 36; (have l0 := HF.out; clear l0); (with_reducible refine HF.out.mono ?_); rintro e w1 ⟨⟨v, rfl⟩, hr, hk1⟩; have HR := Lib.hid hr; have HK1 := Lib.hid hk1; clear hr hk1)
    go_ret
    obtain ⟨vs', ws', hr⟩ := HR.out
    exact ⟨rfl, ⟨_, vs', ws', hr⟩, (Keep.of_below (S := rfoot b gS gC) HB0.out).trans HK1.out (fun _ _ h => h)⟩
  · have he : downErr3 s = 31 := by unfold downErr3; rw [hd]; rfl
    have hs : downSt3 s c = s := by unfold downSt3; rw [hd]; rfl
    rw [hd] at c7
    rw [he, hs]
    clear h0 hb0 hbx hk hlt he hs hd h
    go_enter Try.func17, Try.ntmps17
    go_wp2
    go_ret
    exact ⟨rfl, ⟨_, _, _, H0.out⟩, Keep.of_below HB0.out⟩

theorem infoIx : (Try.prog.info? 3).map (fun i => (i.zero, i.size, i.bytes)) = some (some (.int .i64 0), 1, 8) := by kernel_rfl
set_option maxRecDepth 100000 in
set_option maxHeartbeats 1000000 in
theorem rarm_any [Aside] (c : DCrash) (KA : Option Addr) (Kc : Nat) (hk : HeadF b gS gC w (c.keep.map iv) (.slice KA c.keep.length Kc)) (hK : c.keep.length ≤ 17592186044416) (h : RD w b gS gC cS cC kv vs ws s) :
    Calls Try.prog 19 #[.pointer (some ⟨b, 0, none⟩), .agg #[.int .i64 c.write, .slice KA c.keep.length Kc, .int .i64 c.torn, .int .i64 c.at_]] w fun e w' => e = .returned (.int .i64 (armErr3 c)) ∧ (∃ kv', RD w' b gS gC cS cC kv' vs ws (armSt3 s c)) ∧ Keep (rfoot b gS gC) w w' := by
  obtain ⟨i0, hi, hz0, hz1, hz2⟩ := info_parts infoIx
  obtain ⟨w0, hw0⟩ : ∃ w0, w.alloc (.cells #[.int .i64 c.write, .slice KA c.keep.length Kc, .int .i64 c.torn, .int .i64 c.at_] 36) = w0 := ⟨_, rfl⟩
  have hb0 : Below w.heap.size w w0 := by rw [← hw0]; exact (Below.refl _ _).alloc (Nat.le_refl _) _
  have hbx : Blk w0 w.heap.size 36 #[.int .i64 c.write, .slice KA c.keep.length Kc, .int .i64 c.torn, .int .i64 c.at_] := by rw [← hw0]; exact Blk.new w _ _
  have hlt := (h.foot b (.inl rfl)).2.2
  have h0 := h.below hb0
  have x0 := hbx.cell 0
  have x1 := hbx.cell 1
  have x2 := hbx.cell 2
  have x3 := hbx.cell 3
  have H0 := Lib.hid h0
  have HB0 := Lib.hid hb0
  have HK0 := Lib.hid (hk.keep (Keep.of_below (S := fun _ => False) hb0) (fun _ h => h.elim))
  have HBX := Lib.hid hbx
  by_cases hlo : c.write < 1
  · have he : armErr3 c = 2 := by unfold armErr3; rw [if_pos hlo]
    have hs : armSt3 s c = s := by unfold armSt3; rw [if_pos hlo]
    rw [he, hs]
    clear h0 hb0 hbx hk hlt he hs h hi hz0 hz1 hz2
    go_enter Try.func19, Try.ntmps19
    go_wp2
    go_ret
    exact ⟨rfl, ⟨_, H0.out⟩, Keep.of_below HB0.out⟩
  · have he : armErr3 c = 0 := by unfold armErr3; rw [if_neg hlo]
    have hs : armSt3 s c = { s with write := c.write, keep := c.keep, torn := c.torn, at_ := c.at_ } := by unfold armSt3; rw [if_neg hlo]
    rw [he, hs]
    have c2 : w0.cell? ⟨b, 2, none⟩ = some (.int .i64 s.write) := h0.blk.cell 2
    have c3 : w0.cell? ⟨b, 3, none⟩ = some kv := h0.blk.cell 3
    have c4 : w0.cell? ⟨b, 4, none⟩ = some (.int .i64 s.torn) := h0.blk.cell 4
    have c5 : w0.cell? ⟨b, 5, none⟩ = some (.int .i64 s.at_) := h0.blk.cell 5
    have f2 := h0.blk.frozen 2
    have f3 := h0.blk.frozen 3
    have f4 := h0.blk.frozen 4
    have f5 := h0.blk.frozen 5
    have hne : ¬ b = w.heap.size := by omega
    obtain ⟨W1, hW1⟩ : ∃ W1, ((((w0.setCell ⟨b, 2, none⟩ (.int .i64 c.write)).setCell ⟨b, 3, none⟩ (.slice KA c.keep.length Kc)).setCell ⟨b, 4, none⟩ (.int .i64 c.torn)).setCell ⟨b, 5, none⟩ (.int .i64 c.at_)) = W1 := ⟨_, rfl⟩
    have hk1 : Keep (fun i => i = b) w0 W1 := by
      rw [← hW1]
      exact ((((Keep.refl (fun i => i = b) w0).setCell ⟨b, 2, none⟩ _ (fun _ => rfl)).setCell ⟨b, 3, none⟩ _ (fun _ => rfl)).setCell ⟨b, 4, none⟩ _ (fun _ => rfl)).setCell ⟨b, 5, none⟩ _ (fun _ => rfl)
    have hb1 : Blk W1 b 42 #[.slice (some ⟨gS, 0, none⟩) s.stays.length cS, .slice (some ⟨gC, 0, none⟩) s.stays.length cC, .int .i64 c.write, .slice KA c.keep.length Kc, .int .i64 c.torn, .int .i64 c.at_, .int .i64 s.many, .bool s.down] := by
      rw [← hW1]
      exact (((h0.blk.set_ 2 (.int .i64 c.write)).set_ 3 (.slice KA c.keep.length Kc)).set_ 4 (.int .i64 c.torn)).set_ 5 (.int .i64 c.at_)
    have hx1 := hk1.blk hbx (fun e => hne e.symm)
    have y1 := hx1.cell 1
    have hh1 := HK0.out.keep hk1 (fun i e => .inl e)
    have hr1 : Reads W1 W1.heap.size 1 KA c.keep.length (c.keep.map iv) := by
      obtain ⟨AK, cK, eK, _, _, hr1, _⟩ := hh1
      injection eK with eA _ _
      subst eA
      rw [List.length_map] at hr1
      exact hr1
    clear hh1
    have HR1 := Lib.hid hr1
    have HK1 := Lib.hid hk1
    have HB1 := Lib.hid hb1
    have hW1s : w0.heap.size ≤ W1.heap.size := hk1.size
    have HS1 := Lib.hid hW1s
    have HBL := Lib.hid (show b < W1.heap.size from hb1.lt)
    have HY1 := Lib.hid y1
    have HW1 := Lib.hid hW1
    have HI := Lib.hid hi
    have HZ0 := Lib.hid hz0
    have HZ1 := Lib.hid hz1
    have HZ2 := Lib.hid hz2
    clear h0 hb0 hbx hk he hs h hlt hx1 hr1 hk1 hb1 hW1s y1 hW1 hi hz0 hz1 hz2
    go_enter Try.func19, Try.ntmps19
    go_upto_region 4 with (fail)
    rw [HW1.out]
    have y1 := HY1.out
    clear c2 c3 c4 c5 f2 f3 f4 f5 x0 x1 x2 x3 HW1 hw0
    go_wp2_with (first
      | (at_builtin; refine wpList_append_any _ rfl _ _ 34 rfl W1.heap.size 3 i0 (.int .i64 0) 1 8 Try.underlying34 HI.out HZ0.out HZ1.out HZ2.out rfl (by decide) _ 0 [] rfl (World.ownsRow_nil _ _ _ _) W1.heap.size KA c.keep.length Kc (c.keep.map iv) rfl HR1.out (iv_one _) (by unfold maxLen; omega) (by omega) (Nat.le_refl _) ?_
         intro v2 w2 o2 g2 _
         rw [Nat.zero_add, List.nil_append] at o2
         obtain ⟨A2, c2', rfl⟩ := own_slice3 o2
         have B2 := Lib.hid ((Below.refl W1.heap.size W1).grown g2 (Nat.le_refl _) (fun q e => by cases (show (none : Option Nat) = some q from e)))
         have O2 := Lib.hid o2
         have hb2 := HB1.out.below B2.out HBL.out
         have d3 := hb2.cell 3
         have e3 := hb2.frozen 3
         have HB2 := Lib.hid hb2
         clear g2 o2 hb2))
    go_ret
    have hkf : Keep (fun i => i = b) w0 (w2.setCell ⟨b, 3, none⟩ (.slice A2 c.keep.length c2')) := (HK1.out.trans (Keep.of_below (S := fun i => i = b) B2.out) (fun _ _ h => h)).setCell ⟨b, 3, none⟩ _ (fun _ => rfl)
    have hkv : Head (w2.setCell ⟨b, 3, none⟩ (.slice A2 c.keep.length c2')) 3 (c.keep.map iv) (.slice A2 c.keep.length c2') :=
      (Head.own O2.out).keep ((Keep.refl (fun i => i = b) w2).setCell ⟨b, 3, none⟩ _ (fun _ => rfl)) (fun i e => by subst e; exact fun e => absurd (HB2.out.typ.ne e) (by decide))
    have hrf := H0.out.self (s' := { s with write := c.write, keep := c.keep, torn := c.torn, at_ := c.at_ }) hkf rfl rfl (HB2.out.set_ 3 (.slice A2 c.keep.length c2')) hkv (Far.own (fun k ho => Nat.lt_of_lt_of_le (H0.out.lim k ho) HS1.out) O2.out)
    exact ⟨rfl, ⟨_, hrf⟩, (Keep.of_below (S := rfoot b gS gC) HB0.out).trans (hkf.more (fun i _ e => by subst e; exact .inl rfl)) (fun _ _ h => h)⟩
end
end Go.Proofs.Ytkebbjodkhjbmaa

/-
  The walk of the statement ArrayTexts.
-/
import Derived.Test.YtiiapljjopcabaaDoorArSame
import Derived.Test.YtiiapljjopcabaaDoorArInj
namespace Go.Proofs.YtiiapljjopcabaaDoor.arrayTexts
open Go.RowKit Go.Proofs.YtiiapljjopcabaaDoor.arr

/-- What stands all along: both arrays, their boxes, the table. -/
structure TW (w : World) (a b : AV) (p q : AP) (W : World) : Prop where
  ea : AEl W a p
  eb : AEl W b q
  xa : Blk W w.heap.size 33 (arC a p)
  xb : Blk W (w.heap.size + 1) 33 (arC b q)
  b : Below w.heap.size w W
  t : Tab W
theorem TW.next {w W W' : World} {a b : AV} {p q : AP} (h : TW w a b p q W) (hb : Below W.heap.size W W') : TW w a b p q W' :=
  ⟨h.ea.below hb, h.eb.below hb, h.xa.below hb h.xa.lt, h.xb.below hb h.xb.lt, h.b.trans (hb.mono h.b.size), h.t.below hb⟩
theorem TW.start {w : World} {a b : AV} {p q : AP} (h : AEl w a p) (k : AEl w b q) (t : Tab w) : TW w a b p q ((w.alloc (.cells (arC a p) 33)).alloc (.cells (arC b q) 33)) := by
  have hb := (Below.refl w.heap.size w).alloc (Nat.le_refl _) (.cells (arC a p) 33)
  have hb2 := hb.alloc hb.size (.cells (arC b q) 33)
  have hy := Blk.new (w.alloc (.cells (arC a p) 33)) 33 (arC b q)
  rw [World.size_alloc] at hy
  exact ⟨h.below hb2, k.below hb2, (Blk.new w _ _).alloc _, hy, hb2, t.below hb2⟩
theorem TW.cells {w W : World} {a b : AV} {p q : AP} {z : Nat} (h : TW w a b p q W) (hz : w.heap.size = z) :
    (W.cell? ⟨z, 0, none⟩ = some (.int .i64 a.kind) ∧ W.cell? ⟨z, 1, none⟩ = some (.slice p.A0 a.sh.length p.c0) ∧ W.cell? ⟨z, 2, none⟩ = some (.slice p.A1 a.el.length p.c1)) ∧
    (W.cell? ⟨z + 1, 0, none⟩ = some (.int .i64 b.kind) ∧ W.cell? ⟨z + 1, 1, none⟩ = some (.slice q.A0 b.sh.length q.c0) ∧ W.cell? ⟨z + 1, 2, none⟩ = some (.slice q.A1 b.el.length q.c1)) := by
  subst hz
  exact ⟨⟨h.xa.cell 0, h.xa.cell 1, h.xa.cell 2⟩, ⟨h.xb.cell 0, h.xb.cell 1, h.xb.cell 2⟩⟩

set_option maxRecDepth 100000 in
set_option maxHeartbeats 8000000 in
theorem walk (a b : AV) (p q : AP) (w : World) (h : AEl w a p) (k : AEl w b q) (ht : Tab w) :
    Calls Tryd.prog 5 #[.agg (arC a p), .agg (arC b q)] w fun e w' => e = .returned (.bool true) ∧ Below w.heap.size w w' := by
  obtain ⟨w1, hw1⟩ : ∃ w1, (w.alloc (.cells (arC a p) 33)).alloc (.cells (arC b q) 33) = w1 := ⟨_, rfl⟩
  have h1 : TW w a b p q w1 := hw1 ▸ TW.start h k ht
  obtain ⟨z, hz⟩ : ∃ z, w.heap.size = z := ⟨_, rfl⟩
  have H1 := Lib.hid h1
  have HZ := Lib.hid hz
  have HGA := Lib.hid (fun W => argreat_any a p W)
  have HGB := Lib.hid (fun W => argreat_any b q W)
  have HGA2 : Hid (greatA a = 0 ∨ greatA a = 1) := Lib.hid (by unfold greatA; split <;> simp)
  have HGB2 : Hid (greatA b = 0 ∨ greatA b = 1) := Lib.hid (by unfold greatA; split <;> simp)
  have HCA2 : Hid (checkE a = 0 ∨ checkE a = 110) := Lib.hid (by unfold checkE; split <;> simp)
  have HCB2 : Hid (checkE b = 0 ∨ checkE b = 110) := Lib.hid (by unfold checkE; split <;> simp)
  have HTA := Lib.hid (fun W (h : TW w a b p q W) => artext_any a p W h.ea h.t)
  have HTB := Lib.hid (fun W (h : TW w a b p q W) => artext_any b q W h.eb h.t)
  have HKA := Lib.hid (fun W (h : TW w a b p q W) => archeck_any a p W h.ea)
  have HKB := Lib.hid (fun W (h : TW w a b p q W) => archeck_any b q W h.eb)
  have HSM := Lib.hid (fun W (h : TW w a b p q W) => arsame_any a b p q W h.ea h.eb)
  obtain ⟨s1, he1⟩ : ∃ s1, (⟨(textV a).toArray⟩ : ByteArray) = s1 := ⟨_, rfl⟩
  obtain ⟨s2, he2⟩ : ∃ s2, (⟨(textV b).toArray⟩ : ByteArray) = s2 := ⟨_, rfl⟩
  have hbe : checkE a = 0 → checkE b = 0 → (s1.toList == s2.toList) = sameA a b := fun ca cb => by
    have oa : okA a = true := by
      cases ho : okA a
      · unfold checkE at ca; rw [ho] at ca; cases ca
      · rfl
    have ob : okA b = true := by
      cases ho : okA b
      · unfold checkE at cb; rw [ho] at cb; cases cb
      · rfl
    rw [← he1, ← he2, ByteArray.toList_mk, ByteArray.toList_mk, Bool.eq_iff_iff, beq_iff_eq, sameA_iff]
    unfold textV
    rw [if_pos oa, if_pos ob]
    exact ⟨text_inj oa ob, fun e => by rw [e]⟩
  have HBE := Lib.hid hbe
  rw [he1] at HTA
  rw [he2] at HTB
  generalize greatA a = ga at *
  generalize greatA b = gb at *
  generalize checkE a = ca at *
  generalize checkE b = cb at *
  generalize sameA a b = sm at *
  clear h k ht h1 he1 he2 hbe
  unfold arC at *
  rcases HGA2.out with rfl | rfl
  case inr =>
    go_enter Tryd.func5, Tryd.ntmps5
    go_wp2_with (first
      | (go_at_call 21; (try rw [hw1]); refine (aralive_any w1 H1.out.t).mono ?_; rintro e w2 ⟨rfl, b2⟩; have H2 := Lib.hid (H1.out.next b2); obtain ⟨⟨x0, x1, x2⟩, y0, y1, y2⟩ := H2.out.cells HZ.out; clear b2)
      | (go_at_call 23; refine (HGA.out w2).mono ?_; rintro e w3 ⟨rfl, b3⟩; have H3 := Lib.hid (H2.out.next b3); clear b3))
    go_ret
    exact ⟨rfl, H3.out.b⟩
  rcases HGB2.out with rfl | rfl
  case inr =>
    go_enter Tryd.func5, Tryd.ntmps5
    go_wp2_with (first
      | (go_at_call 21; (try rw [hw1]); refine (aralive_any w1 H1.out.t).mono ?_; rintro e w2 ⟨rfl, b2⟩; have H2 := Lib.hid (H1.out.next b2); obtain ⟨⟨x0, x1, x2⟩, y0, y1, y2⟩ := H2.out.cells HZ.out; clear b2)
      | (go_at_call 23; (have l0 := H3.out; clear l0); refine (HGB.out w3).mono ?_; rintro e w4 ⟨rfl, b4⟩; have H4 := Lib.hid (H3.out.next b4); clear b4)
      | (go_at_call 23; refine (HGA.out w2).mono ?_; rintro e w3 ⟨rfl, b3⟩; have H3 := Lib.hid (H2.out.next b3); obtain ⟨⟨u0, u1, u2⟩, v0, v1, v2⟩ := H3.out.cells HZ.out; clear b3))
    go_ret
    exact ⟨rfl, H4.out.b⟩
  go_enter Tryd.func5, Tryd.ntmps5
  go_upto_region 4 with (first
      | (go_at_call 21; (try rw [hw1]); refine (aralive_any w1 H1.out.t).mono ?_; rintro e w2 ⟨rfl, b2⟩; have H2 := Lib.hid (H1.out.next b2); obtain ⟨⟨x0, x1, x2⟩, y0, y1, y2⟩ := H2.out.cells HZ.out; clear b2)
      | (go_at_call 23; (have l0 := H3.out; clear l0); refine (HGB.out w3).mono ?_; rintro e w4 ⟨rfl, b4⟩; have H4 := Lib.hid (H3.out.next b4); obtain ⟨⟨u0, u1, u2⟩, v0, v1, v2⟩ := H4.out.cells HZ.out; clear b4)
      | (go_at_call 23; refine (HGA.out w2).mono ?_; rintro e w3 ⟨rfl, b3⟩; have H3 := Lib.hid (H2.out.next b3); obtain ⟨⟨u0, u1, u2⟩, v0, v1, v2⟩ := H3.out.cells HZ.out; clear b3))
  clear hw1
  rcases HCA2.out with rfl | rfl
  · rcases HCB2.out with rfl | rfl
    · have hbe := HBE.out rfl rfl
      go_wp2_with (first
        | (go_at_call 24; refine (HSM.out w6 H6.out).mono ?_; rintro e w7 ⟨rfl, b7⟩; have H7 := Lib.hid (H6.out.next b7); clear b7)
        | (go_at_call 19; (have l0 := H5.out; clear l0); refine (HTB.out w5 H5.out).mono ?_; rintro e w6 ⟨rfl, b6⟩; have H6 := Lib.hid (H5.out.next b6); obtain ⟨⟨u0, u1, u2⟩, v0, v1, v2⟩ := H6.out.cells HZ.out; clear b6)
        | (go_at_call 19; refine (HTA.out w4 H4.out).mono ?_; rintro e w5 ⟨rfl, b5⟩; have H5 := Lib.hid (H4.out.next b5); obtain ⟨⟨u0, u1, u2⟩, v0, v1, v2⟩ := H5.out.cells HZ.out; clear b5))
      go_ret
      exact ⟨rfl, H7.out.b⟩
    · clear HBE
      go_wp2_with (first
        | (go_at_call 20; refine (HKB.out w6 H6.out).mono ?_; rintro e w7 ⟨rfl, b7⟩; have H7 := Lib.hid (H6.out.next b7); clear b7)
        | (go_at_call 19; (have l0 := H5.out; clear l0); refine (HTB.out w5 H5.out).mono ?_; rintro e w6 ⟨rfl, b6⟩; have H6 := Lib.hid (H5.out.next b6); obtain ⟨⟨u0, u1, u2⟩, v0, v1, v2⟩ := H6.out.cells HZ.out; clear b6)
        | (go_at_call 19; refine (HTA.out w4 H4.out).mono ?_; rintro e w5 ⟨rfl, b5⟩; have H5 := Lib.hid (H4.out.next b5); obtain ⟨⟨u0, u1, u2⟩, v0, v1, v2⟩ := H5.out.cells HZ.out; clear b5))
      go_ret
      exact ⟨rfl, H7.out.b⟩
  · clear HBE
    rcases HCB2.out with rfl | rfl
    · go_wp2_with (first
        | (go_at_call 20; refine (HKA.out w6 H6.out).mono ?_; rintro e w7 ⟨rfl, b7⟩; have H7 := Lib.hid (H6.out.next b7); obtain ⟨⟨u0, u1, u2⟩, v0, v1, v2⟩ := H7.out.cells HZ.out; clear b7)
        | (go_at_call 19; (have l0 := H5.out; clear l0); refine (HTB.out w5 H5.out).mono ?_; rintro e w6 ⟨rfl, b6⟩; have H6 := Lib.hid (H5.out.next b6); obtain ⟨⟨u0, u1, u2⟩, v0, v1, v2⟩ := H6.out.cells HZ.out; clear b6)
        | (go_at_call 19; refine (HTA.out w4 H4.out).mono ?_; rintro e w5 ⟨rfl, b5⟩; have H5 := Lib.hid (H4.out.next b5); obtain ⟨⟨u0, u1, u2⟩, v0, v1, v2⟩ := H5.out.cells HZ.out; clear b5))
      go_ret
      exact ⟨rfl, H7.out.b⟩
    · go_wp2_with (first
        | (go_at_call 20; (have l0 := H7.out; clear l0); refine (HKB.out w7 H7.out).mono ?_; rintro e w8 ⟨rfl, b8⟩; have H8 := Lib.hid (H7.out.next b8); clear b8)
        | (go_at_call 20; refine (HKA.out w6 H6.out).mono ?_; rintro e w7 ⟨rfl, b7⟩; have H7 := Lib.hid (H6.out.next b7); obtain ⟨⟨u0, u1, u2⟩, v0, v1, v2⟩ := H7.out.cells HZ.out; clear b7)
        | (go_at_call 19; (have l0 := H5.out; clear l0); refine (HTB.out w5 H5.out).mono ?_; rintro e w6 ⟨rfl, b6⟩; have H6 := Lib.hid (H5.out.next b6); obtain ⟨⟨u0, u1, u2⟩, v0, v1, v2⟩ := H6.out.cells HZ.out; clear b6)
        | (go_at_call 19; refine (HTA.out w4 H4.out).mono ?_; rintro e w5 ⟨rfl, b5⟩; have H5 := Lib.hid (H4.out.next b5); obtain ⟨⟨u0, u1, u2⟩, v0, v1, v2⟩ := H5.out.cells HZ.out; clear b5))
      go_ret
      exact ⟨rfl, H8.out.b⟩

theorem call {W : World} (a : AV) (p : AP) (h : AEl W a p) (b : AV) (q : AP) (k : AEl W b q) (ht : Tab W) :
    Calls Tryd.prog 5 #[.agg (arC a p), .agg (arC b q)] W fun e w' => e = .returned (.bool true) ∧ Below W.heap.size W w' := walk a b p q W h k ht
end Go.Proofs.YtiiapljjopcabaaDoor.arrayTexts

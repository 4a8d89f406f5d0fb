/-
  Layer 11 (array): the statements' 'text' and 'alive'.
-/
import Derived.Test.YtlmdijijlbmddaaDoorArNew
import Derived.Deep.DeepCutAuto
namespace Go.Proofs.YtlmdijijlbmddaaDoor.arr
open Go.RowKit

set_option maxHeartbeats 1000000 in
theorem artextl_any (a : AV) (p : AP) (S : List UInt8) (w : World) (h : AEl w a p) (ht : Tab w) :
    Calls Tryd.prog 9 #[.agg (arC a p), .string ⟨S.toArray⟩] w fun e w' => e = .returned (.bool (okA a && decide (textV a = S))) ∧ Below w.heap.size w w' := by
  have hbx := h.box
  have HB := Lib.hid hbx.b
  have hx := hbx.blk
  have HCK := Lib.hid (artext_any a p _ hbx.el (ht.below hbx.b))
  obtain ⟨w1, hw1⟩ : ∃ w1, w.alloc (.cells (arC a p) 36) = w1 := ⟨_, rfl⟩
  rw [hw1] at HB hx HCK
  obtain ⟨s1, he1⟩ : ∃ s1, (⟨(textV a).toArray⟩ : ByteArray) = s1 := ⟨_, rfl⟩
  obtain ⟨s2, he2⟩ : ∃ s2, (⟨S.toArray⟩ : ByteArray) = s2 := ⟨_, rfl⟩
  have hbe : (s1.toList == s2.toList) = decide (textV a = S) := by
    rw [← he1, ← he2, ByteArray.toList_mk, ByteArray.toList_mk, Bool.eq_iff_iff, beq_iff_eq, decide_eq_true_eq]
  have HBE := Lib.hid hbe
  have hce : checkE a = if okA a = true then 0 else 110 := rfl
  rw [he1, hce] at HCK
  rw [he2]
  obtain ⟨b, hb⟩ : ∃ b, okA a = b := ⟨_, rfl⟩
  rw [hb] at HCK ⊢
  obtain ⟨z, hz⟩ : ∃ z, w.heap.size = z := ⟨_, rfl⟩
  rw [hz] at hx
  clear hbx h ht he1 he2 hce hb hbe
  unfold arC at *
  have x0 := hx.cell 0
  have x1 := hx.cell 1
  have x2 := hx.cell 2
  clear hx
  cases b
  · simp only [Bool.false_eq_true, if_false] at HCK
    rw [Bool.false_and]
    go_enter Tryd.func9, Tryd.ntmps9
    go_wp2_with (go_at_call 16; (try rw [hw1]); refine HCK.out.mono ?_; rintro e w2 ⟨rfl, b2⟩; have HB2 := Lib.hid (HB.out.trans (b2.mono HB.out.size)); clear b2)
    go_ret
    exact ⟨rfl, HB2.out⟩
  · simp only [if_true] at HCK
    rw [Bool.true_and]
    go_enter Tryd.func9, Tryd.ntmps9
    go_wp2_with (go_at_call 16; (try rw [hw1]); refine HCK.out.mono ?_; rintro e w2 ⟨rfl, b2⟩; have HB2 := Lib.hid (HB.out.trans (b2.mono HB.out.size)); clear b2)
    go_ret
    exact ⟨by rw [← HBE.out]; rfl, HB2.out⟩

theorem lit_reads (w : World) (t : TypeId) (xs : List Value) : Reads (w.alloc (.cells xs.toArray t)) (w.alloc (.cells xs.toArray t)).heap.size 1 (some ⟨w.heap.size, 0, none⟩) xs.length xs := by
  refine ⟨by rw [Nat.mul_one], fun _ => ⟨_, rfl, by simp, fun j u hu => ?_⟩⟩
  rw [Addr.add_mid, Nat.zero_add, (Blk.new w t _).cell j, List.getElem?_toArray]
  exact hu
theorem five_text : okA ⟨1, [], [-5]⟩ = true ∧ textV ⟨1, [], [-5]⟩ = [194, 175, 53] := by
  have h : okA ⟨1, [], [-5]⟩ = true := by decide
  refine ⟨h, ?_⟩
  unfold textV
  rw [if_pos h]
  show Lib.join [numB (-5)] [32] = _
  rw [Lib.join_one]
  show [194, 175] ++ Lib.decDigits 5 = _
  rw [Lib.decDigits_one (by decide)]
  rfl
theorem two_text : okA ⟨1, [2], [1, -2]⟩ = true ∧ textV ⟨1, [2], [1, -2]⟩ = [49, 32, 194, 175, 50] := by
  have h : okA ⟨1, [2], [1, -2]⟩ = true := by decide
  refine ⟨h, ?_⟩
  unfold textV
  rw [if_pos h]
  show Lib.join [numB 1, numB (-2)] [32] = _
  rw [Lib.join_cons]
  show Lib.decDigits 1 ++ ([32] ++ ([194, 175] ++ Lib.decDigits 2) ++ []) = _
  rw [Lib.decDigits_one (by decide), Lib.decDigits_one (by decide)]
  rfl

set_option maxRecDepth 100000 in
set_option maxHeartbeats 4000000 in
theorem aralive_any (w : World) (ht : Tab w) : Calls Tryd.prog 4 #[] w fun e w' => e = .returned (.bool true) ∧ Below w.heap.size w w' := by
  have HT := Lib.hid ht
  have HC : Hid (∀ W : World, Calls Tryd.prog 5 #[.slice (some ⟨W.heap.size, 0, none⟩) 2 2] (W.alloc (.cells #[.int .i64 2, .int .i64 3] 3)) fun e w' => e = .returned (.tuple #[.int .i64 6, .int .i64 0]) ∧ W.alloc (.cells #[.int .i64 2, .int .i64 3] 3) = w') := Lib.hid (fun W => arcount_any _ 2 2 [2, 3] _ rfl (lit_reads W 3 [.int .i64 2, .int .i64 3]) (by decide))
  have HP : Hid (∀ (W : World) (q : Nat), W.heap.size = q → Calls Tryd.prog 6 #[.slice (some ⟨q, 0, none⟩) 2 2, .slice (some ⟨q + 1, 0, none⟩) 2 2] ((W.alloc (.cells #[.int .i64 2, .int .i64 3] 3)).alloc (.cells #[.int .i64 1, .int .i64 2] 3)) fun e w' => e = .returned (.tuple #[.int .i64 5, .bool true]) ∧ (W.alloc (.cells #[.int .i64 2, .int .i64 3] 3)).alloc (.cells #[.int .i64 1, .int .i64 2] 3) = w') := Lib.hid (fun W q hq => by
    have r1 := lit_reads W 3 [.int .i64 2, .int .i64 3]
    rw [hq] at r1
    have hs : (W.alloc (.cells #[.int .i64 2, .int .i64 3] 3)).heap.size = q + 1 := by rw [World.size_alloc, hq]
    have r2 := lit_reads (W.alloc (.cells #[.int .i64 2, .int .i64 3] 3)) 3 [.int .i64 1, .int .i64 2]
    have e2 : (⟨(W.alloc (.cells #[.int .i64 2, .int .i64 3] 3)).heap.size, 0, none⟩ : Addr) = ⟨q + 1, 0, none⟩ := by rw [hs]
    rw [e2] at r2
    exact arplace_any _ _ 2 2 2 2 [2, 3] [1, 2] _ rfl ((r1.alloc (Nat.le_refl _) _).more (by simp)) (by decide) rfl r2 (by decide))
  have HSC := Lib.hid (fun W => arscalar_any (-5) W)
  have HVC : Hid (∀ (W : World) (q : Nat), W.heap.size = q → Calls Tryd.prog 11 #[.slice (some ⟨q, 0, none⟩) 2 2] (W.alloc (.cells #[.int .i64 1, .int .i64 (-2)] 2)) fun e w' => ∃ v, e = .returned v ∧ GiveA (W.alloc (.cells #[.int .i64 1, .int .i64 (-2)] 2)) w' v ⟨1, [2], [1, -2]⟩) := Lib.hid (fun W q hq => by
    have r1 := lit_reads W 2 [.int .i64 1, .int .i64 (-2)]
    rw [hq] at r1
    exact arvector_any _ 2 2 [1, -2] _ rfl r1 (by decide))
  have HT5 := Lib.hid (fun p W h t => artextl_any ⟨1, [], [-5]⟩ p [194, 175, 53] W h t)
  have HT2 := Lib.hid (fun p W h t => artextl_any ⟨1, [2], [1, -2]⟩ p [49, 32, 194, 175, 50] W h t)
  rw [five_text.1, five_text.2, decide_eq_true rfl] at HT5
  rw [two_text.1, two_text.2, decide_eq_true rfl] at HT2
  clear ht
  go_enter Tryd.func4, Tryd.ntmps4
  go_wp2_with (first
    | (go_at_call 5; refine (HC.out _).mono ?_; rintro e _ ⟨rfl, rfl⟩; have hb1 : Below w.heap.size w (w.alloc (.cells #[.int .i64 2, .int .i64 3] 3)) := (Below.refl _ _).alloc (Nat.le_refl _) _; have HB1 := Lib.hid hb1; clear hb1)
    | (go_at_call 6; refine (HP.out (w.alloc (.cells #[.int .i64 2, .int .i64 3] 3)) (w.heap.size + 1) (by simp)).mono ?_; rintro e w3 ⟨rfl, hw3⟩
       have hb3 : Below w.heap.size w w3 := by rw [← hw3]; exact (HB1.out.alloc HB1.out.size _).alloc (by simp; omega) _
       have HB3 := Lib.hid hb3
       clear hb3 hw3)
    | (go_at_call 10; refine (HSC.out w3).mono ?_; rintro e w4 ⟨v4, rfl, p4, rfl, o4, b4⟩
       have HB4 := Lib.hid (HB3.out.trans (b4.mono HB3.out.size))
       have HE4 := Lib.hid (o4.el (by decide) (by decide) (by decide))
       clear o4 b4)
    | (go_at_call 9; (have l0 := HE6.out; clear l0); refine (HT2.out p6 w6 HE6.out (HT.out.below HB6.out)).mono ?_; rintro e w7 ⟨rfl, b7⟩
       have HB7 := Lib.hid (HB6.out.trans (b7.mono HB6.out.size))
       clear b7)
    | (go_at_call 9; refine (HT5.out p4 w4 HE4.out (HT.out.below HB4.out)).mono ?_; rintro e w5 ⟨rfl, b5⟩
       have HB5 := Lib.hid (HB4.out.trans (b5.mono HB4.out.size))
       clear b5)
    | (go_at_call 11; refine (HVC.out w5 _ rfl).mono ?_; rintro e w6 ⟨v6, rfl, p6, rfl, o6, b6⟩
       have hb5 := HB5.out.alloc HB5.out.size (.cells #[.int .i64 1, .int .i64 (-2)] 2)
       have HB6 := Lib.hid (hb5.trans (b6.mono hb5.size))
       have HE6 := Lib.hid (o6.el (by decide) (by decide) (by decide))
       clear o6 b6 hb5))
  go_ret
  exact ⟨rfl, HB7.out⟩
end Go.Proofs.YtlmdijijlbmddaaDoor.arr

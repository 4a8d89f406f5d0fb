/-
  The pool of layer 10: the frame of a key; whether a pool was made, and may be changed.
-/
import Derived.Test.YtlmdijijlbmddaaPlUse
namespace Go.Proofs.Ytlmdijijlbmddaa.pool
open Go.RowKit

/-- What is found of the frames: the first one that passes. -/
def foundQ (P : FV → Bool) (q : QL) (x : Value) : Prop :=
  (∃ pre y post, q = pre ++ y :: post ∧ P y.2 = true ∧ (∀ z ∈ pre, P z.2 = false) ∧ x = pv y.1.b) ∨ ((∀ z ∈ q, P z.2 = false) ∧ x = .pointer none)

section
variable {N p m size : Nat} {w : World} {ask : Bool} {q : QL}
theorem first_q (h : PoolAt N w p m size ask q) (P : FV → Bool) (gf : Nat) (cap : Array Value) (hgf : ∀ args w, (callFunc gf args).run Try.prog w = .ok (.enter gf args) w)
    (hT : ∀ x W, x ∈ q → FrAt W x.1 x.2 → Below w.heap.size w W → Calls Try.prog gf (#[pv x.1.b] ++ cap) W fun e w' => e = .returned (.bool (P x.2)) ∧ Below W.heap.size W w') :
    Calls Try.prog 81 #[pv p, .func (.func gf) #[] cap] w fun e w' => (∃ x, e = .returned x ∧ foundQ P q x) ∧ Below w.heap.size w w' := by
  obtain ⟨A, c, hh⟩ := h.hs
  have hfew := h.few
  refine (first_any p q.length c gf cap A (bsQ q) (fun j => match q[j]? with | some x => P x.2 | none => false) w hh (by omega) hgf (fun k W hk hb => ?_)).mono ?_
  · rw [bs_at q hk, List.getElem?_eq_getElem hk]
    exact hT _ W (List.getElem_mem hk) ((h.at_ hk).keep (Keep.of_below (S := fun _ => False) hb) (fun h => h) (fun h => h)) hb
  · rintro e w' ⟨⟨x, rfl, hx⟩, hb⟩
    refine ⟨⟨x, rfl, ?_⟩, hb⟩
    rcases hx with ⟨k, hk, hy, hn, rfl⟩ | ⟨hn, rfl⟩
    · refine .inl ⟨q.take k, q[k], q.drop (k + 1), by rw [← List.drop_eq_getElem_cons hk, List.take_append_drop], ?_, fun z hz => ?_, by rw [bs_at q hk]⟩
      · simp only [List.getElem?_eq_getElem hk] at hy
        exact hy
      · obtain ⟨j, hj, rfl⟩ := List.mem_iff_getElem.1 hz
        rw [List.length_take] at hj
        have := hn j (by omega)
        simp only [List.getElem?_eq_getElem (show j < q.length by omega)] at this
        rw [List.getElem_take]
        exact this
    · refine .inr ⟨fun z hz => ?_, rfl⟩
      obtain ⟨j, hj, rfl⟩ := List.mem_iff_getElem.1 hz
      have := hn j hj
      simp only [List.getElem?_eq_getElem hj] at this
      exact this

theorem hmfT : ∀ (fn : Fn) (first cap : Array Value) (w : World), (Instr.makeFunc fn first cap).run Try.prog w = .ok (.func fn first cap) w := fun _ _ _ _ => rfl
set_option maxHeartbeats 1000000 in
theorem find_any (a b : Int) (h : PoolAt N w p m size ask q) : Calls Try.prog 48 #[pv p, kvv a b] w fun e w' => (∃ x, e = .returned x ∧ foundQ (fun v => v.is a b) q x) ∧ Below w.heap.size w w' := by
  obtain ⟨w1, hw1⟩ : ∃ w1, w.alloc (.cells #[.int .i64 a, .int .i64 b] 29) = w1 := ⟨_, rfl⟩
  have hb1 : Below w.heap.size w w1 := by rw [← hw1]; exact (Below.refl _ _).alloc (Nat.le_refl _) _
  have hx1 : Blk w1 w.heap.size 29 #[.int .i64 a, .int .i64 b] := by rw [← hw1]; exact Blk.new w _ _
  have HF := Lib.hid (first_q (h.below hb1) (fun v => v.is a b) 82 #[.pointer (some ⟨w.heap.size, 0, none⟩)] (enters_of Try.func82 (by kernel_rfl) rfl) (fun x W _ hf hb => find1_any hf w.heap.size a b (hx1.below hb hx1.lt)))
  have HB1 := Lib.hid hb1
  have hmf := hmfT
  clear h hb1 hx1
  go_enter Try.func48, Try.ntmps48
  go_wp2_with (go_at_call 81; refine HF.out.mono ?_; rintro e w2 ⟨⟨x, rfl, hx⟩, hb2⟩; have HX := Lib.hid hx; have HB2 := Lib.hid hb2; clear hx hb2)
  go_ret
  exact ⟨⟨x, rfl, HX.out⟩, HB1.out.trans (HB2.out.mono HB1.out.size)⟩
set_option maxHeartbeats 1000000 in
theorem pinned_any (a b : Int) (h : PoolAt N w p m size ask q) : Calls Try.prog 52 #[pv p, kvv a b] w fun e w' => (∃ x, e = .returned x ∧ foundQ (fun v => v.pinned a b) q x) ∧ Below w.heap.size w w' := by
  obtain ⟨w1, hw1⟩ : ∃ w1, w.alloc (.cells #[.int .i64 a, .int .i64 b] 29) = w1 := ⟨_, rfl⟩
  have hb1 : Below w.heap.size w w1 := by rw [← hw1]; exact (Below.refl _ _).alloc (Nat.le_refl _) _
  have hx1 : Blk w1 w.heap.size 29 #[.int .i64 a, .int .i64 b] := by rw [← hw1]; exact Blk.new w _ _
  have HF := Lib.hid (first_q (h.below hb1) (fun v => v.pinned a b) 86 #[.pointer (some ⟨w.heap.size, 0, none⟩)] (enters_of Try.func86 (by kernel_rfl) rfl) (fun x W _ hf hb => pinned1_any hf w.heap.size a b (hx1.below hb hx1.lt)))
  have HB1 := Lib.hid hb1
  have hmf := hmfT
  clear h hb1 hx1
  go_enter Try.func52, Try.ntmps52
  go_wp2_with (go_at_call 81; refine HF.out.mono ?_; rintro e w2 ⟨⟨x, rfl, hx⟩, hb2⟩; have HX := Lib.hid hx; have HB2 := Lib.hid hb2; clear hx hb2)
  go_ret
  exact ⟨⟨x, rfl, HX.out⟩, HB1.out.trans (HB2.out.mono HB1.out.size)⟩

/-! ### valid, usable -/
theorem infoPool : (Try.prog.info? 54).map (fun i => i.size) = some 5 := by kernel_rfl
theorem run_eql_ptr_no {P : Program} (w : World) {tp te : TypeId} (a : Addr) (hp : P.underlying tp = some (.pointer te)) :
    (binOp .eql tp (.pointer none) (.pointer (some a))).run P w = .ok (.bool false) w := by
  have h : ∀ d : Nat, (Op.equalIn (d + 1) tp (.pointer none) (.pointer (some a))).run P w = .ok false w := fun d => by
    simp [Op.equalIn, run_underlying hp]
  simp only [binOp]
  simp [Op.equal, Op.maxDepth, h 9999]
/-- No pool: nil, or one that nobody made. -/
def PDead (w : World) (a : Option Addr) : Prop := a = none ∨ ∃ b, a = some ⟨b, 0, none⟩ ∧ w.cell? ⟨b, 0, none⟩ = some (.pointer none)
theorem PDead.below {w w' : World} {a : Option Addr} (h : PDead w a) (hb : Below w.heap.size w w') : PDead w' a := by
  rcases h with rfl | ⟨b, rfl, hc⟩
  · exact .inl rfl
  · exact .inr ⟨b, rfl, (hb.cell (block_lt_of_cell hc)).trans hc⟩
set_option maxHeartbeats 1000000 in
theorem valid_any (hc : w.cell? ⟨p, 0, none⟩ = some (pv p)) : Calls Try.prog 54 #[pv p] w fun e w' => e = .returned (.bool true) ∧ w = w' := by
  obtain ⟨i0, hi0, _⟩ := Option.map_eq_some_iff.1 infoPool
  have q := fun w => run_eql_ptr_same (P := Try.prog) w (tp := 24) (te := 54) ⟨p, 0, none⟩ Try.underlying24 hi0
  go_enter Try.func54, Try.ntmps54
  go_wp2
  go_ret
  exact ⟨rfl, rfl⟩
theorem valid_dead (a : Option Addr) (w : World) (h : PDead w a) : Calls Try.prog 54 #[.pointer a] w fun e w' => e = .returned (.bool false) ∧ w = w' := by
  rcases h with rfl | ⟨b, rfl, c0⟩
  · go_enter Try.func54, Try.ntmps54
    go_wp2
    go_ret
    exact ⟨rfl, rfl⟩
  · have q := fun w => run_eql_ptr_no (P := Try.prog) w (tp := 24) (te := 54) ⟨b, 0, none⟩ Try.underlying24
    go_enter Try.func54, Try.ntmps54
    go_wp2
    go_ret
    exact ⟨rfl, rfl⟩
theorem usable_any (h : PoolAt N w p m size false q) : Calls Try.prog 47 #[pv p] w fun e w' => e = .returned (.int .i64 0) ∧ w = w' := by
  obtain ⟨c0, _, _, c4⟩ := h.blk5
  have HV := Lib.hid (valid_any c0)
  clear h
  go_enter Try.func47, Try.ntmps47
  go_wp2_with (go_at_call 54; refine HV.out.mono ?_; rintro e _ ⟨rfl, rfl⟩)
  go_ret
  exact ⟨rfl, rfl⟩
theorem usable_dead (a : Option Addr) (w : World) (h : PDead w a) : Calls Try.prog 47 #[.pointer a] w fun e w' => e = .returned (.int .i64 1) ∧ w = w' := by
  have HV := Lib.hid (valid_dead a w h)
  clear h
  go_enter Try.func47, Try.ntmps47
  go_wp2_with (go_at_call 54; refine HV.out.mono ?_; rintro e _ ⟨rfl, rfl⟩)
  go_ret
  exact ⟨rfl, rfl⟩
end
end Go.Proofs.Ytlmdijijlbmddaa.pool

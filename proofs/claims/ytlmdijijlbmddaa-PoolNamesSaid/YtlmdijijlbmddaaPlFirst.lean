/-
  The pool of layer 10: the first frame that passes a test.
-/
import Derived.Test.YtlmdijijlbmddaaPlIter
import Derived.Test.YtlmdijijlbmddaaWriter
namespace Go.Proofs.Ytlmdijijlbmddaa.pool
open Go.RowKit

/-- The frames of the pool at p, as the iterator reads them. -/
structure Hs (W : World) (p n c : Nat) (A : Option Addr) (bs : List Nat) : Prop where
  len : bs.length = n
  held : W.cell? ⟨p, 3, none⟩ = some (.slice A n c)
  at_ : ∀ j, j < n → ∃ g, A = some ⟨g, 0, none⟩ ∧ W.cell? ⟨g, j, none⟩ = some (.pointer (some ⟨bs.getD j 0, 0, none⟩))
theorem Hs.pre {W W' : World} {p n c C k : Nat} {A : Option Addr} {bs : List Nat} (h : Hs W p n c A bs) (hb : Below W.heap.size W W') (hk : k ≤ n) (hC : W'.cell? ⟨C, 0, none⟩ = some (.pointer (some ⟨p, 0, none⟩))) : PlPre C p n c A bs k W' :=
  ⟨hk, h.len, hC, (hb.cell (block_lt_of_cell h.held)).trans h.held, fun j hj => by
    obtain ⟨g, hA, hc⟩ := h.at_ j hj
    exact ⟨g, hA, (hb.cell (block_lt_of_cell hc)).trans hc⟩⟩
/-- What 'first' answers: the first of the frames that passes. -/
def firstV (bs : List Nat) (n : Nat) (ts : Nat → Bool) (x : Value) : Prop :=
  (∃ k, k < n ∧ ts k = true ∧ (∀ j, j < k → ts j = false) ∧ x = .pointer (some ⟨bs.getD k 0, 0, none⟩)) ∨ ((∀ j, j < n → ts j = false) ∧ x = .pointer none)

theorem below_own {B : Nat} {w W W' : World} {row : Option Nat} (h : Below B w W) (hB : B ≤ w.heap.size) (hg : W.grownBy W' row) (hr : ∀ r, row = some r → B ≤ r) : Below B w W' :=
  h.grown hg (Nat.le_trans hB h.size) hr

section
attribute [local go_sem] Oper.semAt_some
set_option maxRecDepth 100000 in
set_option maxHeartbeats 4000000 in
theorem first_any (p n c gf : Nat) (cap : Array Value) (A : Option Addr) (bs : List Nat) (ts : Nat → Bool) (w : World) (h : Hs w p n c A bs) (hn : (n : Int) ≤ 9223372036854775807)
    (hgf : ∀ args w, (callFunc gf args).run Try.prog w = .ok (.enter gf args) w)
    (hT : ∀ k W, k < n → Below w.heap.size w W → Calls Try.prog gf (#[.pointer (some ⟨bs.getD k 0, 0, none⟩)] ++ cap) W fun e w' => e = .returned (.bool (ts k)) ∧ Below W.heap.size W w') :
    Calls Try.prog 81 #[.pointer (some ⟨p, 0, none⟩), .func (.func gf) #[] cap] w fun e w' => (∃ x, e = .returned x ∧ firstV bs n ts x) ∧ Below w.heap.size w w' := by
  have HH := Lib.hid h
  have HT := Lib.hid hT
  have hfo : Fence.wide.fn 55 := trivial
  clear h hT
  refine (callsIn_wide (n := 6)).1 ?_
  refine callsIn_of_wp_marks Try.func81 rfl trivial ?_
  simp only [Try.ntmps81, List.size_toArray, List.length_cons, List.length_nil, Nat.reduceAdd, Nat.reduceSub, Array.replicate_succ, Array.replicate_zero, List.push_toArray, List.append_toArray, List.nil_append, List.cons_append]
  gi_wp2
  refine wpIn_scope_wide ?_
  gi_wp2
  refine wpIn_label ?_
  gi_wp2_with (gi_at_call 55; refine (callsIn_wide.2 (oldest_any _ _)).mono ?_; rintro e w7 ⟨rfl, hw7⟩)
  obtain ⟨z, hz⟩ : ∃ z, w.heap.size = z := ⟨_, rfl⟩
  have hs7 : w7.heap.size = z + 3 := by rw [← hw7, ← hz]; simp
  have hb7 : Below w.heap.size w w7 := by rw [← hw7]; exact (((Below.refl _ _).alloc (Nat.le_refl _) _).alloc (by simp) _).alloc (by simp; omega) _
  have ht7 : Blk w7 z 114 #[.func (.func gf) #[] cap] := by rw [← hw7, ← hz]; exact ((Blk.new w _ _).alloc _).alloc _
  have hf7 : Blk w7 (z + 1) 79 #[.pointer none] := by
    have h := (Blk.new (w.alloc (.cells #[.func (.func gf) #[] cap] 114)) 79 #[.pointer none]).alloc (.cells #[.pointer (some ⟨p, 0, none⟩)] 24)
    rw [hw7] at h
    simpa only [World.size_alloc, hz] using h
  have hp7 : Blk w7 (z + 1 + 1) 24 #[.pointer (some ⟨p, 0, none⟩)] := by
    have h := Blk.new ((w.alloc (.cells #[.func (.func gf) #[] cap] 114)).alloc (.cells #[.pointer none] 79)) 24 #[.pointer (some ⟨p, 0, none⟩)]
    rw [hw7] at h
    simpa only [World.size_alloc, hz] using h
  have HB7 := Lib.hid hb7
  have HT7 := Lib.hid ht7
  have HF7 := Lib.hid hf7
  have HP7 := Lib.hid hp7
  have HZ := Lib.hid hz
  simp only [hz]
  clear hw7 hb7 ht7 hf7 hp7 hz
  refine wpIn_rangeFunc_moves rfl (by omega) (gf := 87) (lb := #[.pointer (some ⟨z + 1 + 1, 0, none⟩)]) rfl trivial (enters_of Try.func87 (by kernel_rfl) rfl)
    (oldest_moves 5 (by omega) (z + 1 + 1) p n c A bs hn w7) (Below.refl _ _) (fun _ => rfl)
    (fun k W => Below w7.heap.size w7 W ∧ k ≤ n ∧ ∀ j, j < k → ts j = false)
    (fun k W => Below w7.heap.size w7 W ∧ k < n ∧ ∀ j, j < k → ts j = false)
    (fun W => Below w7.heap.size w7 W ∧ ∀ j, j < n → ts j = false)
    (fun c W => c = .exit 0 ∧ ∃ k, k < n ∧ ts k = true ∧ (∀ j, j < k → ts j = false) ∧ Below w.heap.size w W ∧ Blk W (z + 1) 79 #[.pointer (some ⟨bs.getD k 0, 0, none⟩)])
    (fun j W W' row hs hg hr => ⟨below_own hs.1 (Nat.le_refl _) hg (fun r e => (hr r e).1), hs.2⟩)
    (fun j W W' row hs hg hr => ⟨below_own hs.1 (Nat.le_refl _) hg (fun r e => (hr r e).1), hs.2⟩)
    (fun _ W W' row hs hg hr => ⟨below_own hs.1 (Nat.le_refl _) hg (fun r e => (hr r e).1), hs.2⟩)
    (fun c W W' row hs hg hr => by
      obtain ⟨h1, k, h2, h3, h4, h5, h6⟩ := hs
      refine ⟨h1, k, h2, h3, h4, below_own h5 (Nat.le_refl _) hg (fun r e => ?_), h6.grown hg (fun e => ?_)⟩
      · have := (hr r e).1; have := HB7.out.size; omega
      · have := (hr _ e.symm).1; omega)
    (fun j W hs => HH.out.pre (HB7.out.trans (hs.1.mono HB7.out.size)) hs.2.1 ((HP7.out.below hs.1 (by omega)).cell 0))
    (fun j W W' hs hx l o ho hc => by rcases hx with ⟨_, rfl⟩ | ⟨_, rfl⟩ <;> exact ho)
    (fun j W W' hs hx => by obtain ⟨hx, rfl⟩ := hx; exact ⟨hs.1, hx, hs.2.2⟩)
    (fun j W W' hs hx => by obtain ⟨rfl, rfl⟩ := hx; exact ⟨hs.1, hs.2.2⟩)
    ⟨Below.refl _ _, Nat.zero_le _, fun j hj => by omega⟩
    ?a1 ?assign ?body ?done ?stop
  case assign =>
    intro l' j W K hK
    unfold plAt
    gi_wp2
    exact hK
  case body =>
    rintro l' j W ⟨hB, hj, hts⟩
    have c0 := (HT7.out.below hB (by omega)).cell 0
    have hC := HT.out j W hj (HB7.out.trans (hB.mono HB7.out.size))
    obtain ⟨fb, hfb⟩ : ∃ fb, bs.getD j 0 = fb := ⟨_, rfl⟩
    rw [hfb] at hC
    have hfb2 : bs[j]?.getD 0 = fb := by simpa using hfb
    rw [hfb2]
    clear hfb2
    have HFB := Lib.hid hfb
    have HTS := Lib.hid hts
    have HBB := Lib.hid hB
    have HJ := Lib.hid hj
    have HC := Lib.hid hC
    clear hB hj hts hfb hC
    by_cases hyes : ts j = true
    · rw [hyes] at HC
      have HY := Lib.hid hyes
      clear hyes
      gi_wp2_with (refine ⟨trivial, CallsIn.mono (CallsIn.inRound l' (callsIn_wide.2 HC.out)) ?_⟩; rintro e w9 ⟨rfl, hb9⟩; have hx9 := HF7.out.below (HBB.out.trans (hb9.mono HBB.out.size)) (by omega); have x0 := hx9.cell 0; have g0 := hx9.frozen 0; have HX9 := Lib.hid hx9; have HB9 := Lib.hid hb9; clear hx9 hb9)
      have hsz := HBB.out.size
      have hzz := HZ.out
      have hb1 : Below w.heap.size w w9 := HB7.out.trans ((HBB.out.trans (HB9.out.mono hsz)).mono HB7.out.size)
      have hk : Keep (fun i => i = z + 1) w9 (w9.setCell ⟨z + 1, 0, none⟩ (.pointer (some ⟨fb, 0, none⟩))) := (Keep.refl _ _).setCell _ _ (fun _ => rfl)
      have hk2 : Keep (fun i => i = z + 1) W (w9.setCell ⟨z + 1, 0, none⟩ (.pointer (some ⟨fb, 0, none⟩))) := (Keep.of_below (S := fun i => i = z + 1) HB9.out).trans hk (fun _ _ h => h)
      exact ⟨⟨hk2.size, fun i o hB hi _ => (hk2.block i (Array.getElem?_eq_some_iff.1 hi).1 (by omega)).trans hi⟩, rfl, j, HJ.out, HY.out, HTS.out, hb1.trans (hk.below hb1.size (fun i hi e => by omega)), by rw [HFB.out]; exact HX9.out.set_ 0 _⟩
    · have hno : ts j = false := by simpa using hyes
      rw [hno] at HC
      have HY := Lib.hid hno
      clear hyes hno
      gi_wp2_with (refine ⟨trivial, CallsIn.mono (CallsIn.inRound l' (callsIn_wide.2 HC.out)) ?_⟩; rintro e w9 ⟨rfl, hb9⟩; have HB9 := Lib.hid hb9; clear hb9)
      have hsz := HBB.out.size
      refine ⟨⟨HB9.out.size, fun i o hB hi _ => (HB9.out.block i (Array.getElem?_eq_some_iff.1 hi).1).trans hi⟩, HBB.out.trans (HB9.out.mono hsz), HJ.out, fun i hi => ?_⟩
      rcases Nat.lt_or_ge i j with h | h
      · exact HTS.out i h
      · obtain rfl : i = j := by omega
        exact HY.out
  case done =>
    rintro D W hD ⟨hB, hts⟩ hK
    have hx := HF7.out.below hB (by omega)
    have x0 := hx.cell 0
    have hb1 : Below w.heap.size w W := HB7.out.trans (hB.mono HB7.out.size)
    have hzz := HZ.out
    have HE := Lib.hid (below_own hb1 (Nat.le_refl _) (grownBy_putObj' W D (.deferred none)) (fun r e => by injection e with e; omega))
    have HTS := Lib.hid hts
    clear hx hb1 hB hts
    gi_wp2
    refine ⟨by simp, .inl ⟨_, _, rfl, run_takeDeferred hK, ?_⟩⟩
    exact ⟨_, results_tmp rfl _ _ _, ⟨_, rfl, .inr ⟨HTS.out, rfl⟩⟩, HE.out⟩
  case stop =>
    rintro D c' W hD ⟨rfl, k, hk, hy, hts, hb1, hx⟩ hK
    have x0 := hx.cell 0
    have hzz := HZ.out
    have HE := Lib.hid (below_own hb1 (Nat.le_refl _) (grownBy_putObj' W D (.deferred none)) (fun r e => by injection e with e; omega))
    have HQ : Hid (firstV bs n ts (.pointer (some ⟨bs.getD k 0, 0, none⟩))) := Lib.hid (.inl ⟨k, hk, hy, hts, rfl⟩)
    generalize bs.getD k 0 = fb at *
    clear hx hb1 hts hy
    gi_wp2
    refine ⟨by simp, .inl ⟨_, _, rfl, run_takeDeferred hK, ?_⟩⟩
    refine ⟨_, results_tmp rfl _ _ _, ?_, HE.out⟩
    exact ⟨_, rfl, HQ.out⟩
end
end Go.Proofs.Ytlmdijijlbmddaa.pool

/-
  The code of layer 2: what a byte leaves of an empty register.
-/
import Derived.Test.YtoiopoghcjkgcaaCrcW
import Derived.Test.YtoiopoghcjkgcaaWNum
namespace Go.Proofs.Ytoiopoghcjkgcaa.crc
open Go.RowKit

section
attribute [local go_sem] Oper.semAt_some
set_option maxRecDepth 100000 in
set_option maxHeartbeats 2000000 in
theorem behind_any (x : Nat) (hx : x < 256) (w : World) :
    Calls Try.prog 54 #[.int .u32 3988292384, .int .u8 x] w fun e w' => e = .returned (rv (run 0#32 (bitsOf x 8))) ∧ Below w.heap.size w w' := by
  refine (callsIn_wide (n := 5)).1 ?_
  refine callsIn_of_wp_marks Try.func54 rfl trivial ?_
  simp only [Try.ntmps54, List.size_toArray, List.length_cons, List.length_nil, Nat.reduceAdd, Nat.reduceSub, Array.replicate_succ, Array.replicate_zero, List.push_toArray, List.append_toArray, List.nil_append, List.cons_append]
  gi_wp2
  refine wpIn_scope_wide ?_
  gi_wp2
  refine wpIn_label ?_
  gi_wp2_with (refine ⟨trivial, ?_⟩; gi_at_call 62; refine (callsIn_wide.2 (clow_any _ _)).mono ?_; rintro e w' ⟨rfl, rfl⟩)
  obtain ⟨w3, hw3⟩ : ∃ w3, ((w.alloc (.cells #[.int .u32 3988292384] 97)).alloc (.cells #[.int .u32 0] 23)).alloc (.cells #[.int .u8 x] 5) = w3 := ⟨_, rfl⟩
  have hb3 : Below w.heap.size w w3 := by
    rw [← hw3]
    exact (((Below.refl _ w).alloc (Nat.le_refl _) _).alloc (by simp) _).alloc (by simp; omega) _
  have hz3 : w3.heap.size = w.heap.size + 3 := by rw [← hw3]; simp
  have hd3 : Blk w3 w.heap.size 97 #[.int .u32 3988292384] := by
    rw [← hw3]
    exact ((Blk.new w _ _).alloc _).alloc _
  have hr3 : Blk w3 (w.heap.size + 1) 23 #[rv 0#32] := by
    rw [← hw3]
    have := Blk.new (w.alloc (.cells #[.int .u32 3988292384] 97)) 23 #[.int .u32 0]
    simp only [World.size_alloc] at this
    exact this.alloc _
  have hc3 : w3.cell? ⟨w.heap.size + 1 + 1, 0, none⟩ = some (.int .u8 x) := by
    rw [← hw3]
    have := (Blk.new ((w.alloc (.cells #[.int .u32 3988292384] 97)).alloc (.cells #[.int .u32 0] 23)) 5 #[.int .u8 x]).cell 0
    simp only [World.size_alloc] at this
    exact this
  rw [hw3]
  clear hw3
  refine wpIn_rangeFunc_ownF rfl (by omega) (gf := 71) (lb := #[.pointer (some ⟨w.heap.size + 1 + 1, 0, none⟩)]) rfl trivial (enters_of Try.func71 (by kernel_rfl) rfl)
    (clow_stops Fence.wide 4 trivial rfl (by omega) (w.heap.size + 1 + 1) x w3 (by omega) hx hc3) (fun h k => k.trans h)
    (fun W l o o' hl ho _ _ => World.cell?_of_block (a := ⟨w.heap.size + 1 + 1, 0, none⟩) (World.putObj_heap_other (by dsimp only; omega))) (Below.refl _ _) (fun _ => rfl)
    (fun pre W => Blk W (w.heap.size + 1) 23 #[rv (run 0#32 pre)] ∧ Blk W w.heap.size 97 #[.int .u32 3988292384] ∧ Below w.heap.size w W)
    (fun _ _ _ => False)
    (fun s W W' row ⟨h2, h3, h4⟩ hg hr => ⟨blk_own h2 hg hr, blk_own h3 hg hr, h4.grown hg h4.size (fun k e => by have := (hr k e).1; omega)⟩)
    (fun _ _ _ _ _ hs _ _ => hs)
    ⟨hr3, hd3, hb3⟩
    (fun b => { tmps := #[.int .u32 3988292384, .int .u8 x, .pointer (some ⟨w.heap.size, 0, none⟩), undef, .int .u32 0, .pointer (some ⟨w.heap.size + 1, 0, none⟩), .int .u32 (b.toNat : Int), undef, .int .u8 x,
          .func (.func 71) #[] #[.pointer (some ⟨w.heap.size + 1 + 1, 0, none⟩)], .int .u32 (b.toNat : Int), undef, undef, undef, undef, undef, undef, undef, undef, undef, undef, undef, undef], defers := [] }) ?assign ?body ?done ?stop
  case assign =>
    intro l b W K hK
    gi_wp2
    exact hK
  case body =>
    rintro l pre b W ⟨h2, h3, h4⟩ _
    have c2 := h2.cell 0
    have c3 : W.cell? ⟨w.heap.size, 0, none⟩ = some (.int .u32 3988292384) := h3.cell 0
    have f2 := h2.frozen 0
    have hs := run_snoc 0#32 pre b
    generalize run 0#32 pre = r at *
    have hr := r.isLt
    have hn := stp_nat r b
    have hB : b.toNat < 2 := by cases b <;> decide
    have h1 : bits .and .u32 (r.toNat : Int) 1 = ((r.toNat % 2 : Nat) : Int) := by
      have h := u32_and_nat r.toNat 1 (by omega) (by omega)
      rw [Nat.and_one_is_mod] at h
      exact h
    have h5 := u32_xor_nat b.toNat (r.toNat % 2) (by omega) (by omega)
    have h6 : bits .xor .u32 ((r.toNat : Int) / 2) 3988292384 = ((r.toNat / 2 ^^^ 3988292384 : Nat) : Int) := by
      have h := u32_xor_nat (r.toNat / 2) 3988292384 (by omega) (by omega)
      exact h
    have h7 : b.toNat ^^^ r.toNat % 2 = (r.toNat ^^^ b.toNat) % 2 := by
      rw [Nat.xor_mod_two_pow (n := 1), Nat.xor_comm, Nat.mod_eq_of_lt (show b.toNat < 2 ^ 1 by omega)]
    rw [h7] at h5
    unfold rv at c2
    have HS : Hid (∀ v : Value, v = .int .u32 ((stp r b).toNat : Int) → v = rv (run 0#32 (pre ++ [b]))) := Lib.hid (fun v h => by rw [h, hs]; rfl)
    have H2 := Lib.hid h2
    have H3 := Lib.hid h3
    have H4 := Lib.hid h4
    clear hs h2 h3 h4
    have hne : w.heap.size ≠ w.heap.size + 1 := by omega
    generalize (stp r b).toNat = R' at *
    generalize r.toNat = R at *
    generalize b.toNat = B at *
    have fin : ∀ u : Int, u = R' → KeepsOthers W ((W.setCell ⟨w.heap.size + 1, 0, none⟩ (.int .u32 u))) := fun u _ => KeepsOthers.setCell _ _ _
    replace h1 : bits .and .u32 (R : Int) 1 = (R : Int) % 2 := h1
    replace h5 : bits .xor .u32 (B : Int) ((R : Int) % 2) = (((R ^^^ B) % 2 : Nat) : Int) := h5
    rcases Nat.mod_two_eq_zero_or_one (R ^^^ B) with e | e <;> rw [e] at hn h5
    · gi_wp2
      have hb1 : Below w.heap.size W (W.setCell ⟨w.heap.size + 1, 0, none⟩ (.int .u32 ((R : Int) / 2))) := (Below.refl _ W).setCell (p := ⟨w.heap.size + 1, 0, none⟩) (by simp) _
      have k1 := World.cell?_setCell_other W ⟨w.heap.size + 1, 0, none⟩ ⟨w.heap.size + 1 + 1, 0, none⟩ (.int .u32 ((R : Int) / 2)) (by intro e'; injection e' with e' _ _; omega)
      refine ⟨(KeepsOthers.setCell _ _ _), k1, ?_, ?_, H4.out.trans hb1⟩
      · have h := H2.out.set_ 0 (.int .u32 ((R : Int) / 2))
        rw [← HS.out (.int .u32 ((R : Int) / 2)) (by rw [hn]; rfl)]
        exact h
      · exact H3.out.far (p := ⟨w.heap.size + 1, 0, none⟩) hne _
    · gi_wp2
      obtain ⟨u, hu⟩ : ∃ u : Int, ((R / 2 ^^^ 3988292384 : Nat) : Int) = u := ⟨_, rfl⟩
      rw [hu]
      have hb1 : Below w.heap.size W ((W.setCell ⟨w.heap.size + 1, 0, none⟩ (.int .u32 ((R : Int) / 2))).setCell ⟨w.heap.size + 1, 0, none⟩ (.int .u32 u)) :=
        ((Below.refl _ W).setCell (p := ⟨w.heap.size + 1, 0, none⟩) (by simp) _).setCell (p := ⟨w.heap.size + 1, 0, none⟩) (by simp) _
      have k1 := (World.cell?_setCell_other (W.setCell ⟨w.heap.size + 1, 0, none⟩ (.int .u32 ((R : Int) / 2))) ⟨w.heap.size + 1, 0, none⟩ ⟨w.heap.size + 1 + 1, 0, none⟩ (.int .u32 u) (by intro e'; injection e' with e' _ _; omega)).trans
        (World.cell?_setCell_other W ⟨w.heap.size + 1, 0, none⟩ ⟨w.heap.size + 1 + 1, 0, none⟩ (.int .u32 ((R : Int) / 2)) (by intro e'; injection e' with e' _ _; omega))
      refine ⟨(KeepsOthers.setCell _ _ _).trans (KeepsOthers.setCell _ _ _), k1, ?_, ?_, H4.out.trans hb1⟩
      · have h := (H2.out.set_ 0 (.int .u32 ((R : Int) / 2))).set_ 0 (.int .u32 u)
        rw [← HS.out (.int .u32 u) (by rw [hn, ← hu]; rfl)]
        exact h
      · exact (H3.out.far (p := ⟨w.heap.size + 1, 0, none⟩) hne _).far (p := ⟨w.heap.size + 1, 0, none⟩) hne _
  case done =>
    rintro D xs W hD rfl ⟨h2, h3, h4⟩ hK
    have c2 := h2.cell 0
    gi_wp2
    rw [Exit.noGoto_ret]
    refine ⟨by simp, .inl ⟨_, _, rfl, run_takeDeferred hK, ?_⟩⟩
    refine ⟨_, results_tmp rfl _ _ _, rfl, ?_⟩
    exact h4.trans (belowK_b (w := w) (Nat.le_refl _) W D _ _ (by omega) hK rfl rfl)
  case stop =>
    rintro D c pre W hD _ hf
    exact hf.elim
end
end Go.Proofs.Ytoiopoghcjkgcaa.crc

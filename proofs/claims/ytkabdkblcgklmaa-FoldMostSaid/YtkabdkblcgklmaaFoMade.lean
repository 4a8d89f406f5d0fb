/-
  Layer 16 (fold): made: an array whose elements come one by one, or the first error.
-/
import Derived.Test.YtkabdkblcgklmaaFoMath
namespace Go.Proofs.Ytkabdkblcgklmaa.fo
open Go.RowKit Go.Proofs.Ytkabdkblcgklmaa.arr Go.Proofs.Ytkabdkblcgklmaa.sc

/-- What stands while made works: the result's cells at z, the array's at z + 1. -/
structure MdI (w : World) (S : Option Addr) (n c k : Nat) (gv : Nat → Int) (W : World) : Prop where
  fb : Below w.heap.size w W
  r : Blk W w.heap.size 25 #[.int .i64 0, .slice none 0 0, .slice none 0 0]
  el : ∃ A c', Blk W (w.heap.size + 1) 25 #[.int .i64 1, .slice S n c, .slice A k c'] ∧ W.ownsRow (w.heap.size + 2) 2 1 (.slice A k c') k ((apL gv k).map iv)
theorem MdI.below {w W W' : World} {S : Option Addr} {n c k : Nat} {gv : Nat → Int} (h : MdI w S n c k gv W) (hb : Below W.heap.size W W') : MdI w S n c k gv W' := by
  obtain ⟨h1, h2, A, c', h3, h4⟩ := h
  exact ⟨h1.trans (hb.mono h1.size), h2.below hb h2.lt, A, c', h3.below hb h3.lt, arown_stay h4 hb (fun g hg => (arown_lt h4 g hg).2)⟩
theorem MdI.push {w W w9 : World} {S : Option Addr} {n c k : Nat} {gv : Nat → Int} {A : Option Addr} {c' : Nat} (h : MdI w S n c k gv W) (he : Blk W (w.heap.size + 1) 25 #[.int .i64 1, .slice S n c, .slice A k c']) (ho0 : W.ownsRow (w.heap.size + 2) 2 1 (.slice A k c') k ((apL gv k).map iv)) (x : Int) (hx : gv k = x) (v' : Value)
    (ho : w9.ownsRow (w.heap.size + 2) 2 1 v' (k + 1) ((apL gv k).map iv ++ [.int .i64 x])) (hg : (W.alloc (.cells #[.int .i64 x] 2)).grownBy w9 (Value.slice A k c').ownBlock) :
    w9.cell? ⟨w.heap.size + 1, 2, none⟩ = some (.slice A k c') ∧ w9.frozen? ⟨w.heap.size + 1, 2, none⟩ = false ∧ (∃ A' c2, v' = .slice A' (k + 1) c2) ∧ MdI w S n c (k + 1) gv (w9.setCell ⟨w.heap.size + 1, 2, none⟩ v') := by
  have hal := alloc_below W (.cells #[.int .i64 x] 2)
  have hlt := he.lt
  have hr : ∀ g, (Value.slice A k c').ownBlock = some g → w.heap.size + 2 ≤ g := fun g e => (arown_lt ho0 g e).1
  have hk1 : Keep (fun i => w.heap.size + 2 ≤ i) (W.alloc (.cells #[.int .i64 x] 2)) w9 := (Keep.refl _ _).grown hg (fun g e _ => hr g e)
  have hk2 : Keep (fun i => w.heap.size + 2 ≤ i) W w9 := (Keep.of_below (S := fun i => w.heap.size + 2 ≤ i) hal).trans hk1 (fun _ _ h => h)
  have hb9 := hk2.blk he (by omega)
  obtain ⟨A', c2, hv'⟩ : ∃ A' c2, v' = .slice A' (k + 1) c2 := by
    rcases ho.2 with ⟨_, h0⟩ | ⟨g, cap, cur, e, _⟩
    · omega
    · exact ⟨_, cap, e⟩
  have hkq : Keep (fun i => i = w.heap.size + 1) w9 (w9.setCell ⟨w.heap.size + 1, 2, none⟩ v') := (Keep.refl _ _).setCell _ _ (fun _ => rfl)
  have hkk : Keep (fun i => w.heap.size ≤ i ∧ i ≠ w.heap.size) W (w9.setCell ⟨w.heap.size + 1, 2, none⟩ v') := (hk2.more (S' := fun i => w.heap.size ≤ i ∧ i ≠ w.heap.size) (fun i _ h => by omega)).trans hkq (fun i _ h => by omega)
  refine ⟨hb9.cell 2, hb9.frozen 2, ⟨A', c2, hv'⟩, ⟨h.fb.trans (hkk.below h.fb.size (fun i hi e => by omega)), hkk.blk h.r (by omega), A', c2, ?_, ?_⟩⟩
  · rw [← hv']
    exact hb9.set_ 2 v'
  · rw [← hv', apL_succ, List.map_append, hx]
    exact hkq.own ho (fun g e => by have := (arown_lt ho g e).1; omega)
theorem MdI.start {w W1 W2 : World} {S : Option Addr} {n c : Nat} {gv : Nat → Int} (h0 : (w.alloc (.cells #[.int .i64 0, .slice none 0 0, .slice none 0 0] 25)).alloc (.cells #[.int .i64 0, .slice none 0 0, .slice none 0 0] 25) = W1)
    (h1 : ((W1.setCell ⟨w.heap.size + 1, 0, none⟩ (.int .i64 1)).setCell ⟨w.heap.size + 1, 1, none⟩ (.slice S n c)).setCell ⟨w.heap.size + 1, 2, none⟩ (.slice none 0 0) = W2) : MdI w S n c 0 gv W2 := by
  have hb1 : Below w.heap.size w W1 := by rw [← h0]; exact ((Below.refl _ w).alloc (Nat.le_refl _) _).alloc (by simp) _
  have k0 : Blk W1 w.heap.size 25 #[.int .i64 0, .slice none 0 0, .slice none 0 0] := by rw [← h0]; exact (Blk.new w _ _).alloc _
  have k1 : Blk W1 (w.heap.size + 1) 25 #[.int .i64 0, .slice none 0 0, .slice none 0 0] := by rw [← h0]; exact blk_n2 w _ _ _
  have hk := arkeep_three W1 (w.heap.size + 1) (.int .i64 1) (.slice S n c) (.slice none 0 0)
  have hb2 := arblk_three (.int .i64 1) (.slice S n c) (.slice none 0 0) k1
  rw [h1] at hk hb2
  exact ⟨hb1.trans (hk.below hb1.size (fun i hi e => by omega)), hk.blk k0 (by omega), none, 0, hb2, World.ownsRow_nil _ _ _ _⟩

set_option maxRecDepth 100000 in
set_option maxHeartbeats 4000000 in
theorem fomade_any (S : Option Addr) (n c : Nat) (sh : List Int) (gf : Nat) (bnd cap : Array Value) (hgf : ∀ args w, (callFunc gf args).run Try.prog w = .ok (.enter gf args) w) (gv ge : Nat → Int) (w : World)
    (hok : okShape sh = true) (hl : sh.length = n) (hr : Reads w w.heap.size 1 S n (sh.map iv))
    (hcall : ∀ (i : Nat) (W : World), i < mdN sh → Below w.heap.size w W → Calls Try.prog gf (bnd.push (.int .i64 (i : Int)) ++ cap) W fun e w' => e = .returned (.tuple #[.int .i64 (gv i), .int .i64 (ge i)]) ∧ Below W.heap.size W w') :
    Calls Try.prog 79 #[.slice S n c, .func (.func gf) bnd cap] w (ApA gv ge S n c (mdN sh) w) := by
  obtain ⟨i0, hi, hz0, hz1, hz2⟩ := info_parts arInfoI64
  obtain ⟨N, hN⟩ : ∃ N, mdN sh = N := ⟨_, rfl⟩
  have hP : prodI sh = (N : Int) := by
    rw [← hN]
    unfold mdN
    have := (prodI_four (okShape_iff.1 hok).2.1 (okShape_iff.1 hok).1).1
    omega
  have hN4 : N ≤ 4096 := by have := (okShape_iff.1 hok).2.2; omega
  have hn4 : n ≤ 4 := by have := (okShape_iff.1 hok).1; omega
  rw [hN] at hcall ⊢
  obtain ⟨W1, hW1⟩ : ∃ W1, (w.alloc (.cells #[.int .i64 0, .slice none 0 0, .slice none 0 0] 25)).alloc (.cells #[.int .i64 0, .slice none 0 0, .slice none 0 0] 25) = W1 := ⟨_, rfl⟩
  obtain ⟨W2, hW2⟩ : ∃ W2, ((W1.setCell ⟨w.heap.size + 1, 0, none⟩ (.int .i64 1)).setCell ⟨w.heap.size + 1, 1, none⟩ (.slice S n c)).setCell ⟨w.heap.size + 1, 2, none⟩ (.slice none 0 0) = W2 := ⟨_, rfl⟩
  have hI : MdI w S n c 0 gv W2 := MdI.start hW1 hW2
  have HC : Hid (∀ W, Below w.heap.size w W → Calls Try.prog 63 #[.slice S n c] W fun e w' => e = .returned (.tuple #[.int .i64 (N : Int), .int .i64 0]) ∧ W = w') := Lib.hid (fun W hb => by
    have h := arcount_any S c n sh W hl ((hr.below hb).more hb.size) (by omega)
    rw [(cnt_ok hok).1, (cnt_ok hok).2, hP] at h
    exact h)
  have k1 : Blk W1 (w.heap.size + 1) 25 #[.int .i64 0, .slice none 0 0, .slice none 0 0] := by rw [← hW1]; exact blk_n2 w _ _ _
  have m0 := k1.cell 0
  have m1 := k1.cell 1
  have m2 := k1.cell 2
  have n0 := k1.frozen 0
  have n1 := k1.frozen 1
  have n2 := k1.frozen 2
  have HI := Lib.hid hI
  have HCL := Lib.hid hcall
  clear hP hok hl hr hcall hI hN k1
  go_enter Try.func79, Try.ntmps79
  go_wp2_with (go_at_call 63; refine (HC.out _ HI.out.fb).mono ?_; rintro e _ ⟨rfl, rfl⟩)
  go_loopw [20] (fun i wr => ∃ k : Nat, i = .int .i64 (k : Int) ∧ k ≤ N ∧ apE ge k = 0 ∧ MdI w S n c k gv wr) (fun i _ => N - (intOf i).toNat)
  case atStart => exact ⟨0, rfl, Nat.zero_le _, rfl, HI.out⟩
  case round =>
    obtain ⟨k, rfl, hkN, hE, hm⟩ := hrel
    by_cases hk : k < N
    · have hd : (k : Int) < (N : Int) := by omega
      have HCK := Lib.hid (HCL.out k wr hk hm.fb)
      have HM := Lib.hid hm
      have HE := Lib.hid hE
      have HST := Lib.hid (fun h => apE_step (n := N) hE h hk)
      have HNX := Lib.hid (fun h => apE_next (g := ge) hE h)
      have HGV : Hid (gv k = gv k) := Lib.hid rfl
      obtain ⟨v, hv⟩ : ∃ v, gv k = v := ⟨_, rfl⟩
      obtain ⟨e, he⟩ : ∃ e, ge k = e := ⟨_, rfl⟩
      rw [hv, he] at HCK
      rw [he] at HST HNX
      have HV := Lib.hid hv
      clear hm hE hv he HC HCL HI
      by_cases h0 : e = 0
      · subst h0
        go_wp2_with (first
          | ((with_reducible refine HCK.out.mono ?_); rintro e' w9 ⟨rfl, b9⟩
             have hI9 := HM.out.below b9
             obtain ⟨A9, c9, he9, ho9⟩ := hI9.el
             have g2 := he9.cell 2
             have HFIN := Lib.hid (fun v' w10 (ho : World.ownsRow w10 (w.heap.size + 2) 2 1 v' (k + 1) ((apL gv k).map iv ++ [.int .i64 v])) (hg : (w9.alloc (.cells #[.int .i64 v] 2)).grownBy w10 (Value.slice A9 k c9).ownBlock) => hI9.push he9 ho9 v HV.out v' ho hg)
             have HO1 := Lib.hid (arown_stay ho9 (alloc_below w9 (.cells #[.int .i64 v] 2)) (fun g hg => (arown_lt ho9 g hg).2))
             have HSZ := Lib.hid hI9.fb.size
             have HRL := Lib.hid he9.lt
             have HNEW : Hid (∀ i u, ([.int .i64 v] : List Value)[i]? = some u → (w9.alloc (.cells #[.int .i64 v] 2)).cell? ((⟨w9.heap.size, 0, none⟩ : Addr).add i) = some u) := Lib.hid (fun i u hu => by
               rw [Addr.add_mid, Nat.zero_add, (Blk.new w9 2 _).cell i, List.getElem?_toArray]
               exact hu)
             clear hI9 he9 ho9 b9)
          | (at_builtin; refine wpList_append_own _ rfl _ _ 23 rfl (w.heap.size + 2) 2 i0 (.int .i64 0) 1 8 Try.underlying23 hi hz0 hz1 hz2 rfl (by decide) _ k _ rfl HO1.out ⟨w9.heap.size, 0, none⟩ 1 1 [.int .i64 v] rfl rfl HNEW.out (by intro u hu; rw [List.mem_singleton] at hu; subst hu; rfl) (by unfold maxLen; omega) (by omega) (by have := HRL.out; simp; omega) ?_; intro v' w10 hown hgrow _; obtain ⟨cq9, fq9, ⟨A', c2, rfl⟩, hf9⟩ := HFIN.out v' w10 hown hgrow; have HF9 := Lib.hid hf9; clear hown hgrow hf9 g2))
        exact ⟨⟨k + 1, by go_num, by omega, HNX.out trivial, HF9.out⟩, by simp [intOf]; omega⟩
      · have hne : (e != 0) = true := by simp [h0]
        have HEN := Lib.hid h0
        clear h0
        go_wp2_with ((with_reducible refine HCK.out.mono ?_); rintro e' w9 ⟨rfl, b9⟩
                     have hI9 := HM.out.below b9
                     have f0 := hI9.r.cell 0
                     have f1 := hI9.r.cell 1
                     have f2 := hI9.r.cell 2
                     have q0 := hI9.r.frozen 0
                     have q1 := hI9.r.frozen 1
                     have q2 := hI9.r.frozen 2
                     have HI9 := Lib.hid hI9
                     clear hI9 b9)
        refine bodyPost_ret (results_arr2 rfl rfl rfl (arblk_three _ _ _ HI9.out.r)) rfl ?_
        have hA := HST.out HEN.out
        refine ⟨_, by rw [hA]; rfl, HI9.out.fb.trans ((arkeep_three w9 w.heap.size _ _ _).below HI9.out.fb.size (fun i hi e => by omega)), fun _ => rfl, fun h => absurd (hA.symm.trans h) HEN.out⟩
    · obtain rfl : k = N := by omega
      obtain ⟨A9, c9, he9, ho9⟩ := hm.el
      have g0 := he9.cell 0
      have g1 := he9.cell 1
      have g2 := he9.cell 2
      have f0 := hm.r.cell 0
      have f1 := hm.r.cell 1
      have f2 := hm.r.cell 2
      have q0 := hm.r.frozen 0
      have q1 := hm.r.frozen 1
      have q2 := hm.r.frozen 2
      have HM := Lib.hid hm
      have HE := Lib.hid hE
      have HO := Lib.hid ho9
      clear hm hE he9 ho9 HC HCL HI
      go_wp2
      refine bodyPost_ret (results_arr2 rfl rfl rfl (arblk_three _ _ _ HM.out.r)) rfl ?_
      refine ⟨_, by rw [HE.out]; rfl, HM.out.fb.trans ((arkeep_three wr w.heap.size _ _ _).below HM.out.fb.size (fun i hi e => by omega)), fun h => absurd HE.out h, fun _ => ⟨A9, c9, rfl, ?_⟩⟩
      exact arown_mono ((arkeep_three wr w.heap.size _ _ _).own HO.out (fun b hb e => by have := (arown_lt HO.out b hb).1; omega)) (by omega)
end Go.Proofs.Ytkabdkblcgklmaa.fo

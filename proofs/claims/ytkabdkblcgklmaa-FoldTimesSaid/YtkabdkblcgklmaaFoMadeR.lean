/-
  Layer 16 (fold): made, where what makes the elements turns memory of its own that lies elder.
-/
import Derived.Test.YtkabdkblcgklmaaFoRow
namespace Go.Proofs.Ytkabdkblcgklmaa.fo
open Go.RowKit Go.Proofs.Ytkabdkblcgklmaa.arr Go.Proofs.Ytkabdkblcgklmaa.sc

/-- What stands while made works: R of what is elder; its own boxes at z and z + 1. -/
structure MrI (R : World → Prop) (w : World) (S : Option Addr) (n c k : Nat) (gv : Nat → Int) (W : World) : Prop where
  sz : w.heap.size + 2 ≤ W.heap.size
  tr : R W
  r : Blk W w.heap.size 25 #[.int .i64 0, .slice none 0 0, .slice none 0 0]
  el : ∃ A c', Blk W (w.heap.size + 1) 25 #[.int .i64 1, .slice S n c, .slice A k c'] ∧ W.ownsRow (w.heap.size + 2) 2 1 (.slice A k c') k ((apL gv k).map iv)
theorem MrI.call {R : World → Prop} {w W W' : World} {S : Option Addr} {n c k : Nat} {gv : Nat → Int} (h : MrI R w S n c k gv W) (hk : Keep (fun i => i < w.heap.size) W W') (hR : R W') : MrI R w S n c k gv W' := by
  obtain ⟨h1, h2, h3, A, c', h4, h5⟩ := h
  exact ⟨Nat.le_trans h1 hk.size, hR, hk.blk h3 (by omega), A, c', hk.blk h4 (by omega), hk.own h5 (fun g hg e => by have := (arown_lt h5 g hg).1; omega)⟩
theorem MrI.push {R : World → Prop} {w W w9 : World} {S : Option Addr} {n c k : Nat} {gv : Nat → Int} {A : Option Addr} {c' : Nat} (hR : ∀ W W', Keep (fun i => w.heap.size ≤ i) W W' → R W → R W') (h : MrI R w S n c k gv W) (he : Blk W (w.heap.size + 1) 25 #[.int .i64 1, .slice S n c, .slice A k c']) (ho0 : W.ownsRow (w.heap.size + 2) 2 1 (.slice A k c') k ((apL gv k).map iv)) (x : Int) (hx : gv k = x) (v' : Value)
    (ho : w9.ownsRow (w.heap.size + 2) 2 1 v' (k + 1) ((apL gv k).map iv ++ [.int .i64 x])) (hg : (W.alloc (.cells #[.int .i64 x] 2)).grownBy w9 (Value.slice A k c').ownBlock) :
    w9.cell? ⟨w.heap.size + 1, 2, none⟩ = some (.slice A k c') ∧ w9.frozen? ⟨w.heap.size + 1, 2, none⟩ = false ∧ (∃ A' c2, v' = .slice A' (k + 1) c2) ∧ MrI R w S n c (k + 1) gv (w9.setCell ⟨w.heap.size + 1, 2, none⟩ v') := by
  have hal := alloc_below W (.cells #[.int .i64 x] 2)
  have hlt := he.lt
  have hsz := h.sz
  have hr : ∀ g, (Value.slice A k c').ownBlock = some g → w.heap.size + 2 ≤ g := fun g e => (arown_lt ho0 g e).1
  have hk1 : Keep (fun i => w.heap.size + 2 ≤ i) (W.alloc (.cells #[.int .i64 x] 2)) w9 := (Keep.refl _ _).grown hg (fun g e _ => hr g e)
  have hk2 : Keep (fun i => w.heap.size + 2 ≤ i) W w9 := (Keep.of_below (S := fun i => w.heap.size + 2 ≤ i) hal).trans hk1 (fun _ _ h => h)
  have hb9 := hk2.blk he (by omega)
  obtain ⟨A', c2, hv'⟩ : ∃ A' c2, v' = .slice A' (k + 1) c2 := by
    rcases ho.2 with ⟨_, h0⟩ | ⟨g, cap, cur, e, _⟩
    · omega
    · exact ⟨_, cap, e⟩
  have hkq : Keep (fun i => i = w.heap.size + 1) w9 (w9.setCell ⟨w.heap.size + 1, 2, none⟩ v') := (Keep.refl _ _).setCell _ _ (fun _ => rfl)
  have hkk : Keep (fun i => w.heap.size ≤ i ∧ i ≠ w.heap.size) W (w9.setCell ⟨w.heap.size + 1, 2, none⟩ v') := (hk2.more (S' := fun i => w.heap.size ≤ i ∧ i ≠ w.heap.size) (fun i _ h => by omega)).trans hkq (fun i _ h => by omega)
  refine ⟨hb9.cell 2, hb9.frozen 2, ⟨A', c2, hv'⟩, ⟨Nat.le_trans h.sz hkk.size, hR _ _ (hkk.more (fun i _ h => h.1)) h.tr, hkk.blk h.r (by omega), A', c2, ?_, ?_⟩⟩
  · rw [← hv']
    exact hb9.set_ 2 v'
  · rw [← hv', apL_succ, List.map_append, hx]
    exact hkq.own ho (fun g e => by have := (arown_lt ho g e).1; omega)
theorem MrI.start {R : World → Prop} {w W1 W2 : World} {S : Option Addr} {n c : Nat} {gv : Nat → Int} (hR : ∀ W W', Keep (fun i => w.heap.size ≤ i) W W' → R W → R W') (hw : R w) (h0 : (w.alloc (.cells #[.int .i64 0, .slice none 0 0, .slice none 0 0] 25)).alloc (.cells #[.int .i64 0, .slice none 0 0, .slice none 0 0] 25) = W1)
    (h1 : ((W1.setCell ⟨w.heap.size + 1, 0, none⟩ (.int .i64 1)).setCell ⟨w.heap.size + 1, 1, none⟩ (.slice S n c)).setCell ⟨w.heap.size + 1, 2, none⟩ (.slice none 0 0) = W2) : MrI R w S n c 0 gv W2 := by
  have hb1 : Below w.heap.size w W1 := by rw [← h0]; exact ((Below.refl _ w).alloc (Nat.le_refl _) _).alloc (by simp) _
  have k0 : Blk W1 w.heap.size 25 #[.int .i64 0, .slice none 0 0, .slice none 0 0] := by rw [← h0]; exact (Blk.new w _ _).alloc _
  have k1 : Blk W1 (w.heap.size + 1) 25 #[.int .i64 0, .slice none 0 0, .slice none 0 0] := by rw [← h0]; exact blk_n2 w _ _ _
  have hs1 : W1.heap.size = w.heap.size + 2 := by rw [← h0]; simp
  have hk := arkeep_three W1 (w.heap.size + 1) (.int .i64 1) (.slice S n c) (.slice none 0 0)
  have hb2 := arblk_three (.int .i64 1) (.slice S n c) (.slice none 0 0) k1
  rw [h1] at hk hb2
  refine ⟨by have := hk.size; omega, hR _ _ ((Keep.of_below (S := fun i => w.heap.size ≤ i) hb1).trans hk (fun i hi e => by omega)) hw, hk.blk k0 (by omega), none, 0, hb2, World.ownsRow_nil _ _ _ _⟩
/-- What made answers, R standing on. -/
def ApR (R : World → Prop) (gv ge : Nat → Int) (S : Option Addr) (n c N : Nat) (w : World) (e : Ending) (w' : World) : Prop :=
  ∃ v, e = .returned (.tuple #[v, .int .i64 (apE ge N)]) ∧ w.heap.size ≤ w'.heap.size ∧ R w' ∧ (apE ge N ≠ 0 → v = .agg #[.int .i64 0, .slice none 0 0, .slice none 0 0]) ∧
    (apE ge N = 0 → ∃ A c', v = .agg #[.int .i64 1, .slice S n c, .slice A N c'] ∧ w'.ownsRow w.heap.size 2 1 (.slice A N c') N ((apL gv N).map iv))
set_option maxRecDepth 100000 in
set_option maxHeartbeats 4000000 in
theorem fomadeR_any (R : World → Prop) (S : Option Addr) (n c : Nat) (sh : List Int) (gf : Nat) (bnd cap : Array Value) (hgf : ∀ args w, (callFunc gf args).run Try.prog w = .ok (.enter gf args) w) (gv ge : Nat → Int) (w : World)
    (hok : okShape sh = true) (hl : sh.length = n) (hr : Reads w w.heap.size 1 S n (sh.map iv))
    (hR : ∀ W W', Keep (fun i => w.heap.size ≤ i) W W' → R W → R W') (hw : R w)
    (hcall : ∀ (i : Nat) (W : World), i < mdN sh → w.heap.size ≤ W.heap.size → R W → Calls Try.prog gf (bnd.push (.int .i64 (i : Int)) ++ cap) W fun e w' => e = .returned (.tuple #[.int .i64 (gv i), .int .i64 (ge i)]) ∧ Keep (fun i => i < w.heap.size) W w' ∧ R w') :
    Calls Try.prog 79 #[.slice S n c, .func (.func gf) bnd cap] w (ApR R gv ge S n c (mdN sh) w) := by
  obtain ⟨i0, hi, hz0, hz1, hz2⟩ := info_parts arInfoI64
  obtain ⟨N, hN⟩ : ∃ N, mdN sh = N := ⟨_, rfl⟩
  have hP : prodI sh = (N : Int) := by
    rw [← hN]
    unfold mdN
    have := (prodI_four (okShape_iff.1 hok).2.1 (okShape_iff.1 hok).1).1
    omega
  have hN4 : N ≤ 4096 := by have := (okShape_iff.1 hok).2.2; omega
  have hn4 : n ≤ 4 := by have := (okShape_iff.1 hok).1; omega
  rw [hN] at hcall ⊢
  obtain ⟨W1, hW1⟩ : ∃ W1, (w.alloc (.cells #[.int .i64 0, .slice none 0 0, .slice none 0 0] 25)).alloc (.cells #[.int .i64 0, .slice none 0 0, .slice none 0 0] 25) = W1 := ⟨_, rfl⟩
  obtain ⟨W2, hW2⟩ : ∃ W2, ((W1.setCell ⟨w.heap.size + 1, 0, none⟩ (.int .i64 1)).setCell ⟨w.heap.size + 1, 1, none⟩ (.slice S n c)).setCell ⟨w.heap.size + 1, 2, none⟩ (.slice none 0 0) = W2 := ⟨_, rfl⟩
  have hI : MrI R w S n c 0 gv W2 := MrI.start hR hw hW1 hW2
  have hb2 : Below w.heap.size w W2 := by
    have hb1 : Below w.heap.size w W1 := by rw [← hW1]; exact ((Below.refl _ w).alloc (Nat.le_refl _) _).alloc (by simp) _
    have hk := arkeep_three W1 (w.heap.size + 1) (.int .i64 1) (.slice S n c) (.slice none 0 0)
    rw [hW2] at hk
    exact hb1.trans (hk.below hb1.size (fun i hi e => by omega))
  have HC : Hid (Calls Try.prog 63 #[.slice S n c] W2 fun e w' => e = .returned (.tuple #[.int .i64 (N : Int), .int .i64 0]) ∧ W2 = w') := Lib.hid (by
    have h := arcount_any S c n sh W2 hl ((hr.below hb2).more hb2.size) (by omega)
    rw [(cnt_ok hok).1, (cnt_ok hok).2, hP] at h
    exact h)
  have k1 : Blk W1 (w.heap.size + 1) 25 #[.int .i64 0, .slice none 0 0, .slice none 0 0] := by rw [← hW1]; exact blk_n2 w _ _ _
  have m0 := k1.cell 0
  have m1 := k1.cell 1
  have m2 := k1.cell 2
  have n0 := k1.frozen 0
  have n1 := k1.frozen 1
  have n2 := k1.frozen 2
  have HI := Lib.hid hI
  have HCL := Lib.hid hcall
  have HRR := Lib.hid hR
  clear hP hok hl hr hcall hI hN k1 hR hw hb2
  go_enter Try.func79, Try.ntmps79
  go_wp2_with (go_at_call 63; refine HC.out.mono ?_; rintro e _ ⟨rfl, rfl⟩)
  go_loopw [20] (fun i wr => ∃ k : Nat, i = .int .i64 (k : Int) ∧ k ≤ N ∧ apE ge k = 0 ∧ MrI R w S n c k gv wr) (fun i _ => N - (intOf i).toNat)
  case atStart => exact ⟨0, rfl, Nat.zero_le _, rfl, HI.out⟩
  case round =>
    obtain ⟨k, rfl, hkN, hE, hm⟩ := hrel
    by_cases hk : k < N
    · have hd : (k : Int) < (N : Int) := by omega
      have HCK := Lib.hid (HCL.out k wr hk (by have := hm.sz; omega) hm.tr)
      have HM := Lib.hid hm
      have HE := Lib.hid hE
      have HST := Lib.hid (fun h => apE_step (n := N) hE h hk)
      have HNX := Lib.hid (fun h => apE_next (g := ge) hE h)
      have HGV : Hid (gv k = gv k) := Lib.hid rfl
      obtain ⟨v, hv⟩ : ∃ v, gv k = v := ⟨_, rfl⟩
      obtain ⟨e, he⟩ : ∃ e, ge k = e := ⟨_, rfl⟩
      rw [hv, he] at HCK
      rw [he] at HST HNX
      have HV := Lib.hid hv
      clear hm hE hv he HC HCL HI
      by_cases h0 : e = 0
      · subst h0
        go_wp2_with (first
          | ((with_reducible refine HCK.out.mono ?_); rintro e' w9 ⟨rfl, b9, t9⟩
             have hI9 := HM.out.call b9 t9
             obtain ⟨A9, c9, he9, ho9⟩ := hI9.el
             have g2 := he9.cell 2
             have HFIN := Lib.hid (fun v' w10 (ho : World.ownsRow w10 (w.heap.size + 2) 2 1 v' (k + 1) ((apL gv k).map iv ++ [.int .i64 v])) (hg : (w9.alloc (.cells #[.int .i64 v] 2)).grownBy w10 (Value.slice A9 k c9).ownBlock) => MrI.push HRR.out hI9 he9 ho9 v HV.out v' ho hg)
             have HO1 := Lib.hid (arown_stay ho9 (alloc_below w9 (.cells #[.int .i64 v] 2)) (fun g hg => (arown_lt ho9 g hg).2))
             have HSZ := Lib.hid hI9.sz
             have HRL := Lib.hid he9.lt
             have HNEW : Hid (∀ i u, ([.int .i64 v] : List Value)[i]? = some u → (w9.alloc (.cells #[.int .i64 v] 2)).cell? ((⟨w9.heap.size, 0, none⟩ : Addr).add i) = some u) := Lib.hid (fun i u hu => by
               rw [Addr.add_mid, Nat.zero_add, (Blk.new w9 2 _).cell i, List.getElem?_toArray]
               exact hu)
             clear hI9 he9 ho9 b9 t9)
          | (at_builtin; refine wpList_append_own _ rfl _ _ 23 rfl (w.heap.size + 2) 2 i0 (.int .i64 0) 1 8 Try.underlying23 hi hz0 hz1 hz2 rfl (by decide) _ k _ rfl HO1.out ⟨w9.heap.size, 0, none⟩ 1 1 [.int .i64 v] rfl rfl HNEW.out (by intro u hu; rw [List.mem_singleton] at hu; subst hu; rfl) (by unfold maxLen; omega) (by omega) (by have := HRL.out; simp; omega) ?_; intro v' w10 hown hgrow _; obtain ⟨cq9, fq9, ⟨A', c2, rfl⟩, hf9⟩ := HFIN.out v' w10 hown hgrow; have HF9 := Lib.hid hf9; clear hown hgrow hf9 g2))
        exact ⟨⟨k + 1, by go_num, by omega, HNX.out trivial, HF9.out⟩, by simp [intOf]; omega⟩
      · have hne : (e != 0) = true := by simp [h0]
        have HEN := Lib.hid h0
        clear h0
        go_wp2_with ((with_reducible refine HCK.out.mono ?_); rintro e' w9 ⟨rfl, b9, t9⟩
                     have hI9 := HM.out.call b9 t9
                     have f0 := hI9.r.cell 0
                     have f1 := hI9.r.cell 1
                     have f2 := hI9.r.cell 2
                     have q0 := hI9.r.frozen 0
                     have q1 := hI9.r.frozen 1
                     have q2 := hI9.r.frozen 2
                     have HI9 := Lib.hid hI9
                     clear hI9 b9 t9)
        refine bodyPost_ret (results_arr2 rfl rfl rfl (arblk_three _ _ _ HI9.out.r)) rfl ?_
        have hA := HST.out HEN.out
        have hk3 := arkeep_three w9 w.heap.size (.int .i64 0) (.slice none 0 0) (.slice none 0 0)
        refine ⟨_, by rw [hA]; rfl, by have := hk3.size; have := HI9.out.sz; omega, HRR.out _ _ (hk3.more (fun i _ e => by omega)) HI9.out.tr, fun _ => rfl, fun h => absurd (hA.symm.trans h) HEN.out⟩
    · obtain rfl : k = N := by omega
      obtain ⟨A9, c9, he9, ho9⟩ := hm.el
      have g0 := he9.cell 0
      have g1 := he9.cell 1
      have g2 := he9.cell 2
      have f0 := hm.r.cell 0
      have f1 := hm.r.cell 1
      have f2 := hm.r.cell 2
      have q0 := hm.r.frozen 0
      have q1 := hm.r.frozen 1
      have q2 := hm.r.frozen 2
      have HM := Lib.hid hm
      have HE := Lib.hid hE
      have HO := Lib.hid ho9
      clear hm hE he9 ho9 HC HCL HI
      go_wp2
      refine bodyPost_ret (results_arr2 rfl rfl rfl (arblk_three _ _ _ HM.out.r)) rfl ?_
      have hk3 := arkeep_three wr w.heap.size (.int .i64 1) (.slice S n c) (.slice A9 k c9)
      refine ⟨_, by rw [HE.out]; rfl, by have := hk3.size; have := HM.out.sz; omega, HRR.out _ _ (hk3.more (fun i _ e => by omega)) HM.out.tr, fun h => absurd HE.out h, fun _ => ⟨A9, c9, rfl, ?_⟩⟩
      exact arown_mono ((arkeep_three wr w.heap.size _ _ _).own HO.out (fun b hb e => by have := (arown_lt HO.out b hb).1; omega)) (by omega)
end Go.Proofs.Ytkabdkblcgklmaa.fo

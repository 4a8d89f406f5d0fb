/-
  Layer 16 (fold): what comes of no numbers; a row's numbers, the last one first; Row.
-/
import Derived.Test.YtkabdkblcgklmaaFoMath
import Derived.Test.YtkabdkblcgklmaaMovesV
namespace Go.Proofs.Ytkabdkblcgklmaa.fo
open Go.RowKit Go.Proofs.Ytkabdkblcgklmaa.arr Go.Proofs.Ytkabdkblcgklmaa.sc

set_option maxHeartbeats 2000000 in
theorem scident_any (f : Int) (w : World) : Calls Try.prog 47 #[.int .i64 f] w fun e w' => e = .returned (.tuple #[.int .i64 (idV f), .int .i64 (idE f)]) ∧ w = w' := by
  cases hb : binB f
  · have hn : ¬ (f = 1 ∨ f = 2 ∨ f = 3 ∨ f = 4 ∨ f = 5 ∨ f = 6 ∨ f = 7 ∨ f = 8 ∨ f = 9 ∨ f = 10 ∨ f = 11 ∨ f = 12 ∨ f = 13 ∨ f = 14 ∨ f = 15 ∨ f = 16) := fun h => by
      rw [bin_iff.2 h] at hb
      cases hb
    have e1 : idV f = 0 := by
      unfold idV
      rw [if_neg (by omega), if_neg (by omega), if_neg (by omega)]
    have e2 : idE f = 2 := by
      unfold idE
      rw [hb, if_neg (by decide)]
    rw [e1, e2]
    have d1 : (f == 1) = false := by simp; omega
    have d2 : (f == 2) = false := by simp; omega
    have d3 : (f == 3) = false := by simp; omega
    have d4 : (f == 4) = false := by simp; omega
    have d5 : (f == 5) = false := by simp; omega
    have d6 : (f == 6) = false := by simp; omega
    have d7 : (f == 7) = false := by simp; omega
    have d8 : (f == 8) = false := by simp; omega
    have d9 : (f == 9) = false := by simp; omega
    have d10 : (f == 10) = false := by simp; omega
    have d11 : (f == 11) = false := by simp; omega
    have d12 : (f == 12) = false := by simp; omega
    have d13 : (f == 13) = false := by simp; omega
    have d14 : (f == 14) = false := by simp; omega
    have d15 : (f == 15) = false := by simp; omega
    have d16 : (f == 16) = false := by simp; omega
    clear hn hb e1 e2
    go_enter Try.func47, Try.ntmps47
    go_wp2
    go_ret2
    exact ⟨rfl, rfl⟩
  · rcases bin_iff.1 hb with rfl | rfl | rfl | rfl | rfl | rfl | rfl | rfl | rfl | rfl | rfl | rfl | rfl | rfl | rfl | rfl
    all_goals
      clear hb
      go_enter Try.func47, Try.ntmps47
      go_wp2
      go_ret2
      exact ⟨rfl, rfl⟩

/-! ### From the last one -/
theorem fofrom_any (A : Option Addr) (c n : Nat) (w : World) : Calls Try.prog 71 #[.slice A n c] w fun e w' => e = .returned (.func (.func 125) #[] #[.pointer (some ⟨w.heap.size, 0, none⟩)]) ∧ w.alloc (.cells #[.slice A n c] 23) = w' := by
  go_enter Try.func71, Try.ntmps71
  go_wp2
  go_ret
  exact ⟨rfl, rfl⟩
def frAt (l : List Int) (k : Nat) (_ : Unit) : Array Value := #[.int .i64 ((l.length : Int) - 1 - (k : Int)), .int .i64 (l.getD (l.length - 1 - k) 0)]
structure FrPre (C : Nat) (A : Option Addr) (c : Nat) (l : List Int) (W : World) : Prop where
  c0 : W.cell? ⟨C, 0, none⟩ = some (.slice A l.length c)
  ra : Reads W W.heap.size 1 A l.length (l.map iv)
def frX (n k : Nat) (_ : Unit) (W W' : World) : Prop := k < n ∧ W' = W
def frZ (n k : Nat) (W W' : World) : Prop := k = n ∧ W' = W
section
attribute [local go_sem] Oper.semAt_some
set_option maxRecDepth 100000 in
set_option maxHeartbeats 4000000 in
theorem from_moves (f : Nat) (h1 : 1 ≤ f) (C : Nat) (A : Option Addr) (c : Nat) (l : List Int) (hl : l.length ≤ 100000000) (w : World) :
    SeqMovesV Fence.wide f Try.prog 125 #[.pointer (some ⟨C, 0, none⟩)] (frAt l) (fun _ => FrPre C A c l) (frX l.length) (frZ l.length) w := by
  intro lp J Jm Jx Jz W hW hP hX hZ hY h0
  have x0 := (hP 0 W h0).c0
  have HP := Lib.hid hP
  have HX := Lib.hid hX
  have HZ := Lib.hid hZ
  have HY := Lib.hid hY
  have H0 := Lib.hid h0
  obtain ⟨n, hnn⟩ : ∃ n, l.length = n := ⟨_, rfl⟩
  rw [hnn] at x0 hl HX HZ
  have HN := Lib.hid hnn
  clear hP hX hZ hY h0 hW hnn
  refine callsIn_of_wp Try.func125 rfl trivial ?_ rfl
  simp only [Try.ntmps125, List.size_toArray, List.length_cons, List.length_nil, Nat.reduceAdd, Nat.reduceSub, Array.replicate_succ, Array.replicate_zero, List.push_toArray, List.append_toArray, List.nil_append, List.cons_append]
  gi_wp2
  gi_loopw [3] (fun q wr => ∃ (k : Nat) (i : Int), q = .int .i64 i ∧ i = (n : Int) - 1 - (k : Int) ∧ k ≤ n ∧ J k wr) (fun i _ => ((RowKit.intOf i) + 1).toNat)
  case atStart => exact ⟨0, _, rfl, by omega, Nat.zero_le _, H0.out⟩
  case round =>
    obtain ⟨k, i, rfl, hi, hkM, hJ⟩ := hrel
    have hpre := HP.out k wr hJ
    have HJ := Lib.hid hJ
    by_cases hk : k < n
    · have hi0 : 0 ≤ i := by omega
      obtain ⟨j, rfl⟩ := Int.eq_ofNat_of_zero_le hi0
      have hjn : j < n := by omega
      have hjl : j < l.length := by rw [HN.out]; exact hjn
      obtain ⟨adA, rfl, hla, hca⟩ := hpre.ra.int_at hjl rfl
      have x0 := hpre.c0
      rw [HN.out] at x0
      have HAT : Hid (frAt l k () = #[.int .i64 (j : Int), .int .i64 (l[j])]) := Lib.hid (by
        unfold frAt
        rw [HN.out, ← hi, show n - 1 - k = j by omega, List.getD_eq_getElem?_getD, List.getElem?_eq_getElem hjl]
        rfl)
      have HK := Lib.hid (And.intro hk hi)
      generalize l[j] = x at *
      obtain ⟨fn, tmps, assign, body, hy, hR⟩ := HY.out k () wr (HX.out k () wr wr hJ ⟨hk, rfl⟩)
      have HRO := Lib.hid hR
      rw [HAT.out] at hy
      have hb63 : (j : Int) ≤ 100000000 := by omega
      have hd : (j : Int) < (n : Int) := by omega
      clear hpre hk hkM hJ hR hjl hla hjn hi
      gi_wp2
      refine HRO.out.mono ?_
      rintro e W3 (⟨rfl, hJ3⟩ | ⟨rfl, hJx3⟩)
      · gi_wp2
        go_roundw
        case rel => exact ⟨k + 1, _, rfl, by have := HK.out; omega, by have := HK.out; omega, hJ3⟩
        case measure =>
          simp [RowKit.intOf]
          try omega
      · gi_wp2
        refine bodyPost_ret (results_none rfl _ _ _) rfl ?_
        exact ⟨⟨_, rfl⟩, .inl hJx3⟩
    · obtain rfl : k = n := by omega
      obtain rfl : i = -1 := by omega
      have HE := Lib.hid (HZ.out k wr wr HJ.out ⟨rfl, rfl⟩)
      clear hk hkM hpre hJ hi
      gi_wp2
      go_end0
      exact ⟨⟨_, rfl⟩, .inr HE.out⟩
end

/-! ### Row -/
theorem fresults2 {fn : Func} {a b : Tmp} {tmps : Array Value} {w : World} {x y : Value} (h : fn.results = #[.tmp a, .tmp b]) (h1 : tmps.getD a undef = x) (h2 : tmps.getD b undef = y) : (results fn tmps).run Try.prog w = .ok (.tuple #[x, y]) w := by
  subst h1 h2
  simp [results, h]
/-- Row's boxes at z .. z + 3 (the function, the row, the value, the fault), and the iterator's at z + 4. -/
structure RwI (W3 : World) (z : Nat) (v e : Int) (W : World) : Prop where
  keep : Keep (fun i => i = z + 2 ∨ i = z + 3) W3 W
  v : Blk W (z + 2) 2 #[.int .i64 v]
  e : Blk W (z + 3) 28 #[.int .i64 e]
theorem RwI.own {W3 W W' : World} {z : Nat} {v e : Int} {row : Option Nat} (h : RwI W3 z v e W) (hg : W.grownBy W' row) (hr : ∀ r, row = some r → W3.heap.size ≤ r ∧ ∃ o : Obj, W.heap[r]? = some o ∧ o.isCells = false) : RwI W3 z v e W' := by
  obtain ⟨h1, h2, h3⟩ := h
  exact ⟨h1.grown hg (fun g e hlt => by have := (hr g e).1; omega), blk_turned h2 hg hr, blk_turned h3 hg hr⟩
theorem RwI.below {W3 W W' : World} {z : Nat} {v e : Int} (h : RwI W3 z v e W) (hb : Below W.heap.size W W') : RwI W3 z v e W' := by
  obtain ⟨h1, h2, h3⟩ := h
  exact ⟨h1.trans (Keep.of_below (S := fun _ => False) hb) (fun _ _ e => e.elim), h2.below hb h2.lt, h3.below hb h3.lt⟩
theorem RwI.setV {W3 W : World} {z : Nat} {v e : Int} (h : RwI W3 z v e W) (x : Int) : RwI W3 z x e (W.setCell ⟨z + 2, 0, none⟩ (.int .i64 x)) := by
  obtain ⟨h1, h2, h3⟩ := h
  have hk : Keep (fun i => i = z + 2) W (W.setCell ⟨z + 2, 0, none⟩ (.int .i64 x)) := (Keep.refl _ _).setCell _ _ (fun _ => rfl)
  exact ⟨h1.trans hk (fun _ _ e => .inl e), h2.set_ 0 _, hk.blk h3 (by omega)⟩
theorem RwI.setE {W3 W : World} {z : Nat} {v e : Int} (h : RwI W3 z v e W) (x : Int) : RwI W3 z v x (W.setCell ⟨z + 3, 0, none⟩ (.int .i64 x)) := by
  obtain ⟨h1, h2, h3⟩ := h
  have hk : Keep (fun i => i = z + 3) W (W.setCell ⟨z + 3, 0, none⟩ (.int .i64 x)) := (Keep.refl _ _).setCell _ _ (fun _ => rfl)
  exact ⟨h1.trans hk (fun _ _ e => .inr e), hk.blk h2 (by omega), h3.set_ 0 _⟩

theorem fin_drew {w W : World} {B D : Nat} (hw : Below B w W) (hB : B ≤ w.heap.size) (hD : B ≤ D) (hK : W.heap[D]? = some (.deferred (some []))) :
    W.drew.heap[D]? = some (.deferred (some [])) ∧ Below B w (W.drew.putObj D (.deferred none)) := by
  have hp : Keep (fun k => k = D) W.drew (W.drew.putObj D (.deferred none)) := (Keep.refl _ _).grown (grownBy_putObj' _ D _) (fun k e _ => by injection e with e; exact e.symm)
  exact ⟨hK, hw.drew.trans (hp.below (by have := hw.drew.size; omega) (fun i hi e => by omega))⟩
section
attribute [local go_sem] Oper.semAt_some
set_option maxRecDepth 100000 in
set_option maxHeartbeats 4000000 in
theorem forow_any (f : Int) (A : Option Addr) (n c : Nat) (l : List Int) (w : World) (hl : l.length = n) (hr : Reads w w.heap.size 1 A n (l.map iv)) (hn : n ≤ 100000000) (hin : ∀ x ∈ l, InR x) :
    Calls Try.prog 30 #[.int .i64 f, .slice A n c] w fun e w' => e = .returned (.tuple #[.int .i64 (rowV f l), .int .i64 (rowE f l)]) ∧ Below w.heap.size w w' := by
  have HID := Lib.hid (fun W => scident_any f W)
  have hfi : Fence.wide.fn 47 := trivial
  have hff : Fence.wide.fn 71 := trivial
  have hft : Fence.wide.fn 48 := trivial
  cases hb : binB f
  · rw [(row_no hb l).1, (row_no hb l).2]
    have he : idE f = 2 := by unfold idE; rw [hb, if_neg (by decide)]
    rw [he] at HID
    clear hb he hr hin hl
    refine (callsIn_wide (n := 7)).1 ?_
    refine callsIn_of_wp_marks Try.func30 rfl trivial ?_
    simp only [Try.ntmps30, List.size_toArray, List.length_cons, List.length_nil, Nat.reduceAdd, Nat.reduceSub, Array.replicate_succ, Array.replicate_zero, List.push_toArray, List.append_toArray, List.nil_append, List.cons_append]
    gi_wp2
    refine wpIn_scope_wide ?_
    gi_wp2_with (gi_at_call 47; refine (callsIn_wide.2 (HID.out _)).mono ?_; rintro e _ ⟨rfl, rfl⟩)
    have HBB := Lib.hid (((((Below.refl _ w).alloc (Nat.le_refl _) (.cells #[.int .i64 f] 3)).alloc (by simp) (.cells #[.slice A n c] 23)).alloc (by simp; omega) (.cells #[.int .i64 (idV f)] 2)).alloc (by simp; omega) (.cells #[.int .i64 2] 28))
    gi_region
    gi_wp2
    refine ⟨_, fresults2 rfl rfl rfl, ?_⟩
    exact ⟨rfl, HBB.out.drew⟩
  have he : idE f = 0 := by unfold idE; rw [hb, if_pos rfl]
  rw [he] at HID
  rw [(row_bin hb l).1, (row_bin hb l).2]
  obtain ⟨z, hz⟩ : ∃ z, w.heap.size = z := ⟨_, rfl⟩
  obtain ⟨W3, hW3⟩ : ∃ W3, ((((w.alloc (.cells #[.int .i64 f] 3)).alloc (.cells #[.slice A n c] 23)).alloc (.cells #[.int .i64 (idV f)] 2)).alloc (.cells #[.int .i64 0] 28)).alloc (.cells #[.slice A n c] 23) = W3 := ⟨_, rfl⟩
  have hs3 : W3.heap.size = z + 5 := by rw [← hW3, ← hz]; simp
  have hb3 : Below w.heap.size w W3 := by
    rw [← hW3]
    exact (((((Below.refl _ w).alloc (Nat.le_refl _) _).alloc (by simp) _).alloc (by simp; omega) _).alloc (by simp; omega) _).alloc (by simp; omega) _
  have j0 : Blk W3 z 3 #[.int .i64 f] := by
    rw [← hW3, ← hz]
    exact ((((Blk.new w _ _).alloc _).alloc _).alloc _).alloc _
  have j1 : Blk W3 (z + 1) 23 #[.slice A n c] := by
    have h := (((Blk.new (w.alloc (.cells #[.int .i64 f] 3)) 23 #[.slice A n c]).alloc (.cells #[.int .i64 (idV f)] 2)).alloc (.cells #[.int .i64 0] 28)).alloc (.cells #[.slice A n c] 23)
    rw [hW3] at h
    simpa only [World.size_alloc, hz] using h
  have j2 : Blk W3 (z + 2) 2 #[.int .i64 (idV f)] := by
    have h := ((Blk.new ((w.alloc (.cells #[.int .i64 f] 3)).alloc (.cells #[.slice A n c] 23)) 2 #[.int .i64 (idV f)]).alloc (.cells #[.int .i64 0] 28)).alloc (.cells #[.slice A n c] 23)
    rw [hW3] at h
    simpa only [World.size_alloc, hz] using h
  have j3 : Blk W3 (z + 3) 28 #[.int .i64 0] := by
    have h := (Blk.new (((w.alloc (.cells #[.int .i64 f] 3)).alloc (.cells #[.slice A n c] 23)).alloc (.cells #[.int .i64 (idV f)] 2)) 28 #[.int .i64 0]).alloc (.cells #[.slice A n c] 23)
    rw [hW3] at h
    simpa only [World.size_alloc, hz] using h
  have j4 : Blk W3 (z + 4) 23 #[.slice A n c] := by
    have h := Blk.new ((((w.alloc (.cells #[.int .i64 f] 3)).alloc (.cells #[.slice A n c] 23)).alloc (.cells #[.int .i64 (idV f)] 2)).alloc (.cells #[.int .i64 0] 28)) 23 #[.slice A n c]
    rw [hW3] at h
    simpa only [World.size_alloc, hz] using h
  have hi3 : RwI W3 z (idV f) 0 W3 := ⟨Keep.refl _ _, j2, j3⟩
  have HBX : Hid (∀ W, Keep (fun i => i = z + 2 ∨ i = z + 3) W3 W → Blk W z 3 #[.int .i64 f] ∧ Blk W (z + 1) 23 #[.slice A n c] ∧ FrPre (z + 4) A c l W ∧ Below w.heap.size w W) := Lib.hid (fun W hk => by
    have hb := hb3.trans (hk.below (B := w.heap.size) hb3.size (fun i hi e => by omega))
    refine ⟨hk.blk j0 (by omega), hk.blk j1 (by omega), ⟨?_, ?_⟩, hb⟩
    · rw [hl]; exact (hk.blk j4 (by omega)).cell 0
    · rw [hl]; exact (hr.below hb).more hb.size)
  have H0 := Lib.hid hi3
  have HZ := Lib.hid hz
  have HS3 := Lib.hid hs3
  have HB3 := Lib.hid hb3
  have hMV := from_moves 6 (by omega) (z + 4) A c l (by omega) W3
  rw [hl] at hMV
  have HTW := Lib.hid (fun (x v : Int) (hx : InR x) (hv : InR v) W => sctwo_any f x v hx hv W)
  have HIN : Hid (∀ k, InR (tailF f l k).1) := Lib.hid (fun k => tail_in hin)
  have HLI : Hid (∀ k, k < n → InR (l.getD (n - 1 - k) 0)) := Lib.hid (fun k hk => by
    rw [List.getD_eq_getElem?_getD, List.getElem?_eq_getElem (by omega)]
    exact hin _ (List.getElem_mem _))
  have HT1 : Hid (0 < n → tailF f l 1 = (l.getD (n - 1 - 0) 0, 0)) := Lib.hid (fun h => by
    rw [tail_first (by omega), List.getD_eq_getElem?_getD, List.getElem?_eq_getElem (by omega)]
    simp only [hl, Nat.sub_zero]
    rfl)
  have HTN : Hid (∀ k, 0 < k → k < n → (tailF f l k).2 = 0 → tailF f l (k + 1) = (twoV f (l.getD (n - 1 - k) 0) (tailF f l k).1, twoE f (l.getD (n - 1 - k) 0) (tailF f l k).1)) := Lib.hid (fun k h0 hk he => by
    rw [tail_next h0 (by omega) he, List.getD_eq_getElem?_getD, List.getElem?_eq_getElem (by omega)]
    simp only [hl]
    rfl)
  have HTB : Hid (∀ k, (tailF f l k).2 ≠ 0 → rowF f l = tailF f l k) := Lib.hid (fun k h => tail_bad h)
  have HTA : Hid (tailF f l n = rowF f l) := Lib.hid (by rw [← hl]; exact tail_all f l)
  have HT0 : Hid (tailF f l 0 = (idV f, 0)) := Lib.hid (tail_zero f l)
  have HW3 := Lib.hid hW3
  have HXY : Hid (∀ k, frAt l k () = #[.int .i64 ((n : Int) - 1 - (k : Int)), .int .i64 (l.getD (n - 1 - k) 0)]) := Lib.hid (fun k => by unfold frAt; rw [hl])
  clear hW3 hb he hr hin j0 j1 j2 j3 j4 hi3 hb3 hs3 hz
  refine (callsIn_wide (n := 7)).1 ?_
  refine callsIn_of_wp_marks Try.func30 rfl trivial ?_
  simp only [Try.ntmps30, List.size_toArray, List.length_cons, List.length_nil, Nat.reduceAdd, Nat.reduceSub, Array.replicate_succ, Array.replicate_zero, List.push_toArray, List.append_toArray, List.nil_append, List.cons_append]
  gi_wp2
  refine wpIn_scope_wide ?_
  gi_wp2_with (gi_at_call 47; refine (callsIn_wide.2 (HID.out _)).mono ?_; rintro e _ ⟨rfl, rfl⟩)
  refine wpIn_label ?_
  gi_wp2_with (gi_at_call 71; refine (callsIn_wide.2 (fofrom_any _ _ _ _)).mono ?_; rintro e w7 ⟨rfl, hw7⟩)
  obtain rfl : W3 = w7 := by rw [← HW3.out, ← hw7]
  clear hw7
  have hz := HZ.out
  rw [hz] at *
  simp only [Nat.add_assoc, Nat.reduceAdd]
  clear hz
  refine wpIn_rangeFunc_movesV rfl (by omega) (gf := 125) (lb := #[.pointer (some ⟨z + 4, 0, none⟩)]) rfl trivial (enters_of Try.func125 (by kernel_rfl) rfl)
    hMV (Below.refl _ _) (fun _ _ => rfl)
    (fun k W => RwI W3 z (tailF f l k).1 0 W ∧ (tailF f l k).2 = 0 ∧ k ≤ n)
    (fun k _ W => RwI W3 z (tailF f l k).1 0 W ∧ (tailF f l k).2 = 0 ∧ k < n)
    (fun W => RwI W3 z (rowF f l).1 (rowF f l).2 W)
    (fun cc W => cc = .exit 0 ∧ RwI W3 z (rowF f l).1 (rowF f l).2 W)
    (fun k W W' row hs hg hr => ⟨hs.1.own hg hr, hs.2⟩)
    (fun _ W W' row hs hg hr => hs.own hg hr)
    (fun cc W W' row hs hg hr => ⟨hs.1, hs.2.own hg hr⟩)
    (fun k W hs => (HBX.out W hs.1.keep).2.2.1)
    (fun k W W' hs hx l o ho hc => by
      rcases hx with ⟨_, _, rfl⟩ | ⟨_, rfl⟩
      · exact ho
      · exact ho)
    (fun k x W W' hs hx => by
      obtain ⟨hx, rfl⟩ := hx
      exact ⟨hs.1, hs.2.1, hx⟩)
    (fun k W W' hs hx => by
      obtain ⟨rfl, rfl⟩ := hx
      have h := hs.1
      rw [HTA.out] at h
      have h2 := hs.2.1
      rw [HTA.out] at h2
      rw [h2]
      exact h)
    ⟨by rw [HT0.out]; exact H0.out, by rw [HT0.out], Nat.zero_le _⟩
    (fun k _ a' W => (∃ xv, l.getD (n - 1 - k) 0 = xv ∧ a' = { tmps := #[.int .i64 f, .slice A n c, .pointer (some ⟨z, 0, none⟩), .pointer (some ⟨z + 1, 0, none⟩), .int .i64 0, .int .i64 0, .pointer (some ⟨z + 2, 0, none⟩), .pointer (some ⟨z + 3, 0, none⟩), .int .i64 ((n : Int) - 1 - (k : Int)), .int .i64 xv, .tuple #[.int .i64 (idV f), .int .i64 0], .int .i64 f, .tuple #[.int .i64 (idV f), .int .i64 0], .int .i64 (idV f), .int .i64 0, .int .i64 0, .bool false, undef, .slice A n c, .func (.func 125) #[] #[.pointer (some ⟨z + 4, 0, none⟩)], .int .i64 ((n : Int) - 1 - (k : Int)), .int .i64 xv, undef, undef, undef, undef, undef, undef, undef, undef, undef, undef, undef, undef, undef, undef, undef, undef, undef], defers := [] }) ∧ RwI W3 z (tailF f l k).1 0 W ∧ (tailF f l k).2 = 0 ∧ k < n)
    (fun k x a' _ W W' row hs hg hr => ⟨hs.1, hs.2.1.own hg hr, hs.2.2⟩)
    ?assign ?body ?done ?stop
  case assign =>
    intro lp k x W K hI hK
    have HK := Lib.hid hK
    have HI := Lib.hid hI
    clear hK hI
    rw [HXY.out]
    obtain ⟨xv, hxv⟩ : ∃ xv, l.getD (n - 1 - k) 0 = xv := ⟨_, rfl⟩
    rw [hxv]
    have HXV := Lib.hid hxv
    clear hxv
    gi_wp2
    exact HK.out _ _ ⟨Nat.le_refl _, fun _ _ _ h _ => h⟩ ⟨⟨xv, HXV.out, rfl⟩, HI.out⟩
  case body =>
    rintro lp k x a' W ⟨⟨xv, hxv, rfl⟩, hI, hE, hkn⟩
    obtain ⟨b0, b1, _, hbw⟩ := HBX.out W hI.keep
    have cF := b0.cell 0
    have cL := b1.cell 0
    have cV := hI.v.cell 0
    have uV := hI.v.frozen 0
    have hxin := HLI.out k hkn
    rw [hxv] at hxin
    have HI := Lib.hid hI
    have HEK := Lib.hid hE
    have HKN := Lib.hid hkn
    by_cases h0 : k = 0
    · subst h0
      have ht := HT1.out hkn
      rw [hxv] at ht
      have HT := Lib.hid ht
      have d0 : ((n : Int) - 1 - ((0 : Nat) : Int) == (n : Int) - 1) = true := by simp
      have HD := Lib.hid d0
      clear hI hE hkn b0 b1 hbw ht hxin hxv
      gi_wp2
      refine ⟨keeps_set (by have := HS3.out; omega) _, ?_⟩
      have h := HI.out.setV xv
      refine ⟨?_, ?_, by have := HKN.out; omega⟩
      · show RwI W3 z (tailF f l 1).1 0 _
        rw [HT.out]
        exact h
      · show (tailF f l 1).2 = 0
        rw [HT.out]
    · have hk0 : 0 < k := by omega
      have ht := HTN.out k hk0 hkn hE
      have htb := HTB.out (k + 1)
      have hc := HTW.out xv (tailF f l k).1 hxin (HIN.out k) W
      rw [hxv] at ht
      have d0 : ((n : Int) - 1 - (k : Int) == (n : Int) - 1) = false := by simp; omega
      have HTT := Lib.hid ht
      rw [ht] at htb
      have HTBB := Lib.hid htb
      obtain ⟨tv, htv⟩ : ∃ tv, (tailF f l k).1 = tv := ⟨_, rfl⟩
      rw [htv] at cV hc HTT HTBB
      obtain ⟨v2, hv2⟩ : ∃ v2, twoV f xv tv = v2 := ⟨_, rfl⟩
      obtain ⟨e2, he2⟩ : ∃ e2, twoE f xv tv = e2 := ⟨_, rfl⟩
      rw [hv2, he2] at hc HTT HTBB
      have HC := Lib.hid hc
      clear hI hE b0 b1 hbw ht htb hc hxin hxv hv2 he2 htv
      by_cases h0 : e2 = 0
      · subst h0
        gi_wp2_with (gi_at_call 48; refine (callsIn_wide.2 HC.out).mono ?_; rintro e w9 ⟨rfl, b9⟩; have hI9 := HI.out.below b9; have s0 := hI9.v.cell 0; have s1 := hI9.v.frozen 0; have t0 := (hI9.setV v2).e.cell 0; have t1 := (hI9.setV v2).e.frozen 0; have r0 := ((hI9.setV v2).setE 0).e.cell 0; have HI9 := Lib.hid hI9; have HB9 := Lib.hid b9; clear hI9 b9)
        refine ⟨keeps_on (keeps_below _ HB9.out) (keeps_on (keeps_set (by have := HS3.out; omega) _) (keeps_set (by have := HS3.out; omega) _)), ?_⟩
        have h := (HI9.out.setV v2).setE 0
        refine ⟨?_, ?_, HKN.out⟩
        · rw [HTT.out]
          exact h
        · rw [HTT.out]
      · have hne : (e2 != 0) = true := by simp [h0]
        have HNE := Lib.hid h0
        clear h0
        gi_wp2_with (gi_at_call 48; refine (callsIn_wide.2 HC.out).mono ?_; rintro e w9 ⟨rfl, b9⟩; have hI9 := HI.out.below b9; have s0 := hI9.v.cell 0; have s1 := hI9.v.frozen 0; have t0 := (hI9.setV v2).e.cell 0; have t1 := (hI9.setV v2).e.frozen 0; have r0 := ((hI9.setV v2).setE e2).e.cell 0; have HI9 := Lib.hid hI9; have HB9 := Lib.hid b9; clear hI9 b9)
        refine ⟨keeps_on (keeps_below _ HB9.out) (keeps_on (keeps_set (by have := HS3.out; omega) _) (keeps_set (by have := HS3.out; omega) _)), rfl, ?_⟩
        rw [HTBB.out HNE.out]
        exact (HI9.out.setV v2).setE e2
  case done =>
    rintro D W hD hI hK
    have hB := (HBX.out W hI.keep).2.2.2
    have s0 := hI.v.cell 0
    have t0 := hI.e.cell 0
    have HF := Lib.hid (fin_drew hB (Nat.le_refl _) (by have := HB3.out.size; omega) hK)
    obtain ⟨rv, hrv⟩ : ∃ rv, (rowF f l).1 = rv := ⟨_, rfl⟩
    obtain ⟨re, hre⟩ : ∃ re, (rowF f l).2 = re := ⟨_, rfl⟩
    rw [hrv] at s0
    rw [hre] at t0
    have HRV := Lib.hid hrv
    have HRE := Lib.hid hre
    clear hrv hre
    clear hI hB hK hMV
    gi_wp2
    gi_region
    gi_wp2
    refine ⟨by simp, .inl ⟨_, _, rfl, run_takeDeferred HF.out.1, ?_⟩⟩
    exact ⟨_, fresults2 rfl rfl rfl, by rw [HRV.out, HRE.out]; rfl, HF.out.2⟩
  case stop =>
    rintro D c' W hD ⟨rfl, hI⟩ hK
    have hB := (HBX.out W hI.keep).2.2.2
    have s0 := hI.v.cell 0
    have t0 := hI.e.cell 0
    have HF := Lib.hid (fin_drew hB (Nat.le_refl _) (by have := HB3.out.size; omega) hK)
    obtain ⟨rv, hrv⟩ : ∃ rv, (rowF f l).1 = rv := ⟨_, rfl⟩
    obtain ⟨re, hre⟩ : ∃ re, (rowF f l).2 = re := ⟨_, rfl⟩
    rw [hrv] at s0
    rw [hre] at t0
    have HRV := Lib.hid hrv
    have HRE := Lib.hid hre
    clear hrv hre
    clear hI hB hK hMV
    gi_wp2
    gi_region
    gi_wp2
    refine ⟨by simp, .inl ⟨_, _, rfl, run_takeDeferred HF.out.1, ?_⟩⟩
    exact ⟨_, fresults2 rfl rfl rfl, by rw [HRV.out, HRE.out]; rfl, HF.out.2⟩
end
end Go.Proofs.Ytkabdkblcgklmaa.fo

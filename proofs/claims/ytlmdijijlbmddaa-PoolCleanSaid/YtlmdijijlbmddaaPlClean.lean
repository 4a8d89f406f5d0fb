/-
  The walk of the statement PoolClean.
-/
import Derived.Test.YtlmdijijlbmddaaPlAlive
import Derived.Test.YtlmdijijlbmddaaPlOpen
namespace Go.Proofs.Ytlmdijijlbmddaa.pool
open Go.RowKit

/-- The loop's state: an idle pool, made since z, and what was made since. -/
structure ClI (z p : Nat) (w W : World) (s : PS) (K : Nat) : Prop where
  pb : PB z W p z s
  zle : z ≤ W.heap.size
  b : Below z w W
  g : G K s
  i : Idle s
  size : s.size = 3
theorem ClI.idx {z p K : Nat} {w W : World} {s : PS} (h : ClI z p w W s K) (f n : Int) : idxT f n s.L = idxT f n L0 := idxT_map h.g.keys
theorem ClI.below {z p K : Nat} {w W W' : World} {s : PS} (h : ClI z p w W s K) (hb : Below W.heap.size W W') : ClI z p w W' s K := ⟨h.pb.below hb, Nat.le_trans h.zle hb.size, h.b.trans (hb.mono h.zle), h.g, h.i, h.size⟩
theorem PB.old {N p m : Nat} {w w' : World} {s : PS} {S : Nat → Prop} (h : PB N w p m s) (hk : Keep S w w') (hS : ∀ k, S k → k < N) : PB N w' p m s := by
  obtain ⟨q, ml, h⟩ := h
  have no : ∀ k, N ≤ k → ¬ S k := fun k h1 h2 => by have := hS k h2; omega
  obtain ⟨A, c, hb, ho⟩ := h.pool.pool
  obtain ⟨lc, logv, mb, mo, mg, cur, mc, hcur⟩ := h.mem.mem
  refine ⟨q, ml, ⟨h.pool.np, ⟨A, c, hk.blk hb (no p h.pool.np), hk.own ho (fun k hv => no k (own_typ_of ho hv).1)⟩, fun x hx => ⟨⟨hk.blk (h.pool.fr x hx).1.blk (no _ (h.pool.fr x hx).2.1), (h.pool.fr x hx).1.el.keep hk (no _ (h.pool.fr x hx).2.2)⟩, (h.pool.fr x hx).2⟩, h.pool.nb, h.pool.ng, h.pool.few⟩,
    ⟨h.mem.nm, ⟨lc, logv, hk.blk mb (no m h.mem.nm), hk.own mo (fun k hv => no k (own_typ_of mo hv).1), mg, cur, hk.blk mc (no _ mg), hcur⟩, h.mem.len, fun i t g c hi hm => ⟨(h.mem.el i t g c hi hm).1.keep hk (no _ (h.mem.el i t g c hi hm).2), (h.mem.el i t g c hi hm).2⟩⟩, h.ap, h.fr⟩
def ClT (z p : Nat) (wk X : World) (s : PS) : Prop := PB z X p z s ∧ z ≤ X.heap.size ∧ Below z wk X
theorem ClT.below {z p : Nat} {wk X X' : World} {s : PS} (h : ClT z p wk X s) (hb : Below X.heap.size X X') : ClT z p wk X' s := ⟨h.1.below hb, Nat.le_trans h.2.1 hb.size, h.2.2.trans (hb.mono h.2.1)⟩
theorem ClT.go {z p : Nat} {wk X : World} {s s' : PS} {f : FuncId} {args : Array Value} {r : Int} (h : ClT z p wk X s) (hc : Calls Try.prog f args X fun e w' => e = .returned (.int .i64 r) ∧ PB z w' p z s' ∧ KT z TT X w') (hr : r = 0) :
    Calls Try.prog f args X fun e w' => e = .returned (.int .i64 0) ∧ ClT z p wk w' s' := by
  refine hc.mono ?_
  rintro e w' ⟨rfl, h1, k1⟩
  rw [hr]
  exact ⟨rfl, h1, Nat.le_trans h.2.1 k1.keep.size, h.2.2.trans (k1.below h.2.1)⟩
theorem ClT.get {z p : Nat} {wk X : World} {s : PS} {f n i v : Int} (h : ClT z p wk X s) (hr : s.get f n i = (v, 0)) : Calls Try.prog 23 #[pv p, kvv f n, .int .i64 i] X fun e w' => e = .returned (.tuple #[.int .i64 v, .int .i64 0]) ∧ ClT z p wk w' s := by
  refine (get_any f n i h.1 h.2.1).mono ?_
  rintro e w' ⟨rfl, h1, k1⟩
  rw [hr]
  exact ⟨rfl, h1, Nat.le_trans h.2.1 k1.keep.size, h.2.2.trans (k1.below h.2.1)⟩
theorem norm3 (x : Int) : 0 ≤ (x.tmod 3 + 3).tmod 3 ∧ (x.tmod 3 + 3).tmod 3 ≤ 2 := by
  have h1 := Int.lt_tmod_of_pos x (show (0 : Int) < 3 by decide)
  rw [Int.tmod_eq_emod_of_nonneg (by omega)]
  omega
theorem norm4 (x : Int) : 0 ≤ (x.tmod 4 + 4).tmod 4 ∧ (x.tmod 4 + 4).tmod 4 ≤ 3 := by
  have h1 := Int.lt_tmod_of_pos x (show (0 : Int) < 4 by decide)
  rw [Int.tmod_eq_emod_of_nonneg (by omega)]
  omega

set_option maxRecDepth 100000 in
set_option maxHeartbeats 4000000 in
theorem pclean_walk (A : Option Addr) (n c : Nat) (l : List POp) (f0 n0 iv v u : Int) (W : World) (H : POps W W.heap.size A n l) (hn : n ≤ 9223372036854775807) :
    Calls Try.prog 4 #[.slice A n c, .agg #[.int .i64 f0, .int .i64 n0], .int .i64 iv, .int .i64 v, .int .i64 u] W fun e w' => e = .returned (.bool true) ∧ Below W.heap.size W w' := by
  obtain ⟨y, hy⟩ : ∃ y, W.heap.size = y := ⟨_, rfl⟩
  obtain ⟨W1, hW1⟩ : ∃ W1, W.alloc (.cells #[.int .i64 f0, .int .i64 n0] 29) = W1 := ⟨_, rfl⟩
  have hb1 : Below y W W1 := by rw [← hW1, ← hy]; exact (Below.refl _ _).alloc (Nat.le_refl _) _
  have hx1 : Blk W1 y 29 #[.int .i64 f0, .int .i64 n0] := by rw [← hW1, ← hy]; exact Blk.new W _ _
  have hs1 : y < W1.heap.size := hx1.lt
  have HA := Lib.hid (plalive_any W1)
  have HH := Lib.hid (hy ▸ H)
  have HB1 := Lib.hid hb1
  have HX1 := Lib.hid hx1
  have HN := Lib.hid (norm3 f0)
  have HM := Lib.hid (norm4 n0)
  have HI := Lib.hid (norm4 iv)
  have HBK := fun w => back_any w
  have HBKH := Lib.hid HBK
  clear H hb1 hx1 HBK
  rw [hy]
  by_cases h200 : 200 < n
  · have h2 : (200 : Int) < (n : Int) := by omega
    go_enter Try.func4, Try.ntmps4
    go_wp2_with (go_at_call 26; refine HA.out.mono ?_; rintro e w2 ⟨rfl, hb2⟩; have HB2 := Lib.hid hb2; clear hb2)
    go_ret
    exact ⟨rfl, HB1.out.trans (HB2.out.mono (by omega))⟩
  · have h2 : ¬ (200 : Int) < (n : Int) := by omega
    go_enter Try.func4, Try.ntmps4
    go_wp2_with (first
      | (go_at_call 26; refine HA.out.mono ?_; rintro e w2 ⟨rfl, hb2⟩; have HB2 := Lib.hid hb2; clear hb2)
      | (go_at_call 12; refine (HBKH.out w2).mono ?_; rintro e w3 ⟨rfl, v3, ll, hF⟩
         obtain ⟨z, hz⟩ : ∃ z, w2.heap.size = z := ⟨_, rfl⟩
         rw [hz] at hF
         simp only [hz]
         have HF := Lib.hid hF
         have hnew := Lib.hid (plnew_any 3 z w3 (by decide) (by decide))
         clear hF)
      | (go_at_call 13; refine hnew.out.mono ?_; rintro e w4 ⟨rfl, hx4, hb4⟩
         have HX4 := Lib.hid hx4
         have HB4 := Lib.hid hb4
         clear hx4 hb4))
    have h4 : PB z w4 w3.heap.size z (ps0 3) := pool_new HF.out (by decide) rfl HB4.out HX4.out
    have hzz : z < w3.heap.size := HF.out.box.lt
    have hbF := HF.out.b
    have hbz : Below z w2 w4 := hbF.trans (HB4.out.mono (by omega))
    have hi0 : Idle (ps0 3) := ⟨fun v hv => by simp [ps0] at hv, List.nodup_nil⟩
    have H4 : Hid (ClI z w3.heap.size w2 w4 (ps0 3) 0) := Lib.hid ⟨h4, by have := HB4.out.size; omega, hbz, G.zero 3, hi0, rfl⟩
    clear HX4 HB4 h4 hbz hbF hi0
    obtain ⟨p, hp⟩ : ∃ p, w3.heap.size = p := ⟨_, rfl⟩
    rw [hp] at H4
    simp only [hp]
    have hyz : y < z := by have := HB2.out.size; omega
    clear hp hzz hnew
    have HYZ := Lib.hid hyz
    have hnn := Lib.hid hn
    go_loopw [48] (fun x wr => ∃ (j : Nat) (s : PS), j ≤ n ∧ x = .int .i64 (j : Int) ∧ ClI z p w2 wr s j) (fun x _ => n + 1 - (intOf x).toNat)
    case atStart => exact ⟨0, _, Nat.zero_le _, rfl, H4.out⟩
    case round =>
      obtain ⟨j, s, hj, rfl, hS⟩ := hrel
      have HS := Lib.hid hS
      clear hS
      by_cases hlt : j < n
      · have hd : (j : Int) < (n : Int) := by omega
        have hy2 : y ≤ w2.heap.size := by have := HB2.out.size; omega
        have hbW : Below y W wr := (HB1.out.trans (HB2.out.mono (by omega))).trans (HS.out.b.mono (by have := HYZ.out; omega))
        obtain ⟨ad, o, rfl, hadb, dc⟩ := (HH.out.below hbW).at_ hlt
        obtain ⟨kd, of, ono, oi, ov, on⟩ := o
        have x0 := dc.kind
        have x1 := dc.f
        have x2 := dc.no
        have x3 := dc.i
        have x4 := dc.v
        have x5 := dc.n
        simp only at x0 x1 x2 x3 x4 x5
        obtain ⟨Wb, hWb⟩ : ∃ Wb, wr.alloc (.cells #[.int .i64 kd, .int .i64 of, .int .i64 ono, .int .i64 oi, .int .i64 ov, .int .i64 on] 58) = Wb := ⟨_, rfl⟩
        have hbB : Below wr.heap.size wr Wb := by rw [← hWb]; exact (Below.refl _ _).alloc (Nat.le_refl _) _
        have hxB : Blk Wb wr.heap.size 58 #[.int .i64 kd, .int .i64 of, .int .i64 ono, .int .i64 oi, .int .i64 ov, .int .i64 on] := by rw [← hWb]; exact Blk.new wr _ _
        have hSB : ClI z p w2 Wb s j := HS.out.below hbB
        have z0 := hxB.cell 0
        have z1 := hxB.cell 1
        have z2 := hxB.cell 2
        have z3 := hxB.cell 3
        have z4 := hxB.cell 4
        have z5 := hxB.cell 5
        have HXB := Lib.hid hxB
        have HSB := Lib.hid hSB
        clear dc hbW hxB hSB hbB hadb
        by_cases hk0 : kd = 0
        · subst hk0
          have hpin := pin_any of ono HSB.out.pb (HSB.out.g.ok (by omega)) HSB.out.zle
          have hG := HSB.out.g.pin of ono
          rcases HSB.out.i.pin (f := of) (n := ono) (by rw [HSB.out.size]; decide) with ⟨hr, hi', hL, hsz⟩ | ⟨hr, hL, hsz, a, x, hone⟩
          · obtain ⟨r, s', hrs⟩ : ∃ r s', s.pin of ono = (r, s') := ⟨_, _, rfl⟩
            rw [hrs] at hpin hG hi' hsz hr
            simp only at hpin hG hi' hsz hr
            have HPI := Lib.hid hpin
            have HCL : Hid (∀ w5, PB z w5 p z s' → KT z TT Wb w5 → ClI z p w2 w5 s' (j + 1)) := Lib.hid (fun w5 h5 k5 => ⟨h5, Nat.le_trans HSB.out.zle k5.keep.size, HSB.out.b.trans (k5.below HSB.out.zle), hG, hi', hsz.trans HSB.out.size⟩)
            clear hpin hG hi' hsz hL hrs
            go_wp2_with (go_at_call 14; refine HPI.out.mono ?_; rintro e w5 ⟨rfl, h5, k5⟩; have HC5 := Lib.hid (HCL.out w5 h5 k5); clear h5 k5)
            go_roundw
            case rel => exact ⟨j + 1, s', by omega, by go_num, HC5.out⟩
            case measure => (have e1 : ∀ n : Int, intOf (.int .i64 n) = n := fun _ => rfl); rw [e1, e1]; omega
          · rw [hr] at hpin
            obtain ⟨r1, r2, r3, r4⟩ := hone.unpin
            have HPI := Lib.hid hpin
            have HCL : Hid (∀ w5, PB z w5 p z (s.pin of ono).2 → KT z TT Wb w5 → Calls Try.prog 16 #[pv p, kvv of ono] w5 fun e w' => e = .returned (.int .i64 0) ∧ ClI z p w2 w' ((s.pin of ono).2.unpin of ono).2 (j + 1)) := Lib.hid (fun w5 h5 k5 => by
              refine (unpin_any of ono h5 (hG.ok (by omega)) (Nat.le_trans HSB.out.zle k5.keep.size)).mono ?_
              rintro e w6 ⟨rfl, h6, k6⟩
              rw [r1]
              have hz5 := Nat.le_trans HSB.out.zle k5.keep.size
              exact ⟨rfl, h6, Nat.le_trans hz5 k6.keep.size, (HSB.out.b.trans (k5.below HSB.out.zle)).trans (k6.below hz5), hG.unpin of ono, r2, r4.trans (hsz.trans HSB.out.size)⟩)
            clear hpin hL hsz hone r1 r2 r3 r4
            go_wp2_with (first
              | (go_at_call 14; refine HPI.out.mono ?_; rintro e w5 ⟨rfl, h5, k5⟩
                 have HUN := Lib.hid (HCL.out w5 h5 k5)
                 have hx5 := k5.blk HXB.out (by decide)
                 have zz1 := hx5.cell 1
                 have zz2 := hx5.cell 2
                 clear h5 k5 hx5)
              | (go_at_call 16; refine HUN.out.mono ?_; rintro e w6 ⟨rfl, h6⟩; have HC5 := Lib.hid h6; clear h6))
            go_roundw
            case rel => exact ⟨j + 1, _, by omega, by go_num, HC5.out⟩
            case measure => (have e1 : ∀ n : Int, intOf (.int .i64 n) = n := fun _ => rfl); rw [e1, e1]; omega
        · go_wp2
          go_roundw
          case rel => exact ⟨j + 1, s, by omega, by go_num, HSB.out.pb, HSB.out.zle, HSB.out.b, HSB.out.g.le (Nat.le_succ j), HSB.out.i, HSB.out.size⟩
          case measure => (have e1 : ∀ n : Int, intOf (.int .i64 n) = n := fun _ => rfl); rw [e1, e1]; omega
      · obtain rfl : j = n := by omega
        have hy2 : y ≤ w2.heap.size := by have := HB2.out.size; omega
        have hbW : Below y W wr := (HB1.out.trans (HB2.out.mono (by omega))).trans (HS.out.b.mono (by have := HYZ.out; omega))
        have hzW : z ≤ wr.heap.size := HS.out.zle
        have hxW : Blk wr y 29 #[.int .i64 f0, .int .i64 n0] := (HX1.out.below HB2.out HX1.out.lt).below HS.out.b HYZ.out
        have c0 := hxW.cell 0
        have c1 := hxW.cell 1
        have g0 := hxW.frozen 0
        have g1 := hxW.frozen 1
        obtain ⟨t3, ht3⟩ : ∃ t3, f0.tmod 3 = t3 := ⟨_, rfl⟩
        obtain ⟨t4, ht4⟩ : ∃ t4, n0.tmod 4 = t4 := ⟨_, rfl⟩
        obtain ⟨t5, ht5⟩ : ∃ t5, iv.tmod 4 = t5 := ⟨_, rfl⟩
        have b3 : -3 < t3 ∧ t3 < 3 := by rw [← ht3]; exact ⟨Int.lt_tmod_of_pos f0 (by decide), Int.tmod_lt_of_pos f0 (by decide)⟩
        have b4 : -4 < t4 ∧ t4 < 4 := by rw [← ht4]; exact ⟨Int.lt_tmod_of_pos n0 (by decide), Int.tmod_lt_of_pos n0 (by decide)⟩
        have b5 : -4 < t5 ∧ t5 < 4 := by rw [← ht5]; exact ⟨Int.lt_tmod_of_pos iv (by decide), Int.tmod_lt_of_pos iv (by decide)⟩
        have hbe : Below y W wr := hbW
        have HBW := Lib.hid hbe
        have HXW := Lib.hid hxW
        clear hbW hxW hbe
        go_wp2
        obtain ⟨a, ha⟩ : ∃ a : Nat, t3 % 3 = (a : Int) := ⟨(t3 % 3).toNat, by omega⟩
        obtain ⟨b, hb⟩ : ∃ b : Nat, t4 % 4 = (b : Int) := ⟨(t4 % 4).toNat, by omega⟩
        obtain ⟨i, hii⟩ : ∃ i : Nat, (t5 + 4) % 4 = (i : Int) := ⟨((t5 + 4) % 4).toNat, by omega⟩
        have ha3 : a < 3 := by omega
        have hb4 : b < 4 := by omega
        have hi4 : i < 4 := by omega
        obtain ⟨F, hF⟩ : ∃ F, 1 + t3 % 3 = F := ⟨_, rfl⟩
        obtain ⟨M, hM⟩ : ∃ M, t4 % 4 = M := ⟨_, rfl⟩
        have hFa : F = 1 + (a : Int) := by omega
        have hMb : M = (b : Int) := by omega
        rw [hF, hM]
        obtain ⟨wk, hwk⟩ : ∃ wk, (wr.setCell ⟨y, 0, none⟩ (.int .i64 F)).setCell ⟨y, 1, none⟩ (.int .i64 M) = wk := ⟨_, rfl⟩
        rw [hwk]
        simp only [hii]
        have hkW : Keep (fun k => k = y) wr wk := by rw [← hwk]; exact ((Keep.refl (fun k => k = y) wr).setCell _ _ (fun _ => rfl)).setCell _ _ (fun _ => rfl)
        have hxk : Blk wk y 29 #[.int .i64 F, .int .i64 M] := by rw [← hwk]; exact (HXW.out.set_ 0 _).set_ 1 _
        have hyz := HYZ.out
        have HBK : Hid (Below y W wk) := Lib.hid (HBW.out.trans (hkW.below (by omega) (fun i hi e => by omega)))
        have hsz := hkW.size
        have HC0 : Hid (ClT z p wk wk s) := Lib.hid ⟨HS.out.pb.old hkW (fun k e => by omega), by omega, Below.refl _ _⟩
        have HKC : Hid (∀ X, Below z wk X → X.cell? ⟨y, 0, none⟩ = some (.int .i64 F) ∧ X.cell? ⟨y, 1, none⟩ = some (.int .i64 M)) := Lib.hid (fun X hX => ⟨(hxk.below hX hyz).cell 0, (hxk.below hX hyz).cell 1⟩)
        have hix : ∀ q : PS, q.L.map TV.key = L0.map TV.key → idxT F M q.L = some (4 * a + b) := fun q hq => by
          rw [idxT_map hq, idx0 (by omega) (by omega)]
          congr 1
          omega
        have hs1 : 1 ≤ s.size := by rw [HS.out.size]; decide
        have hp0 := HS.out.i.pin_ok hs1 (hix s HS.out.g.keys)
        have hg1 := HS.out.g.pin F M
        rcases HS.out.i.pin (f := F) (n := M) hs1 with ⟨hr, _⟩ | ⟨_, hL, hsz1, al, x, hone⟩
        · exact absurd hp0 hr
        have hcl := hone.cleaned v u hi4 (hix _ hg1.keys) (hg1.fr x (by rw [hone.fr]; simp)).2.1 hg1.room
        obtain ⟨r2, r3, r4, r5, r6, r7, r8, tt, htt, hel⟩ := hcl
        have c1 : ∀ X, ClT z p wk X s → _ := fun X h => h.go (pin_any F M h.1 (HS.out.g.ok (by omega)) h.2.1) hp0
        obtain ⟨q1, hq1⟩ : ∃ q1, (s.pin F M).2 = q1 := ⟨_, rfl⟩
        rw [hq1] at r2 r3 r4 r5 r6 r7 r8 htt hg1
        simp only [hq1] at c1
        have c2 : ∀ X, ClT z p wk X q1 → _ := fun X h => h.go (plset_any F M (i : Int) v 1 h.1 h.2.1) r2
        have hg2 := hg1.set_ F M (i : Int) v 1
        obtain ⟨q2, hq2⟩ : ∃ q2, (q1.set_ F M (i : Int) v 1).2 = q2 := ⟨_, rfl⟩
        rw [hq2] at r3 r4 r5 r6 r7 r8 htt hg2
        simp only [hq2] at c2
        have c3 : ∀ X, ClT z p wk X q2 → _ := fun X h => h.go (clean_any F M h.1 (hg2.ok (by omega)) h.2.1) r3
        have hg3 := hg2.clean F M
        obtain ⟨q3, hq3⟩ : ∃ q3, (q2.clean F M).2 = q3 := ⟨_, rfl⟩
        rw [hq3] at r4 r5 r6 r7 r8 htt hg3
        simp only [hq3] at c3
        have c4 : ∀ X, ClT z p wk X q3 → _ := fun X h => h.go (plset_any F M (i : Int) u 2 h.1 h.2.1) r4
        have hg4 := hg3.set_ F M (i : Int) u 2
        obtain ⟨q4, hq4⟩ : ∃ q4, (q3.set_ F M (i : Int) u 2).2 = q4 := ⟨_, rfl⟩
        rw [hq4] at r5 r6 r7 r8 hg4
        simp only [hq4] at c4
        have c5 : ∀ X, ClT z p wk X q4 → _ := fun X h => h.go (unpin_any F M h.1 (hg4.ok (by omega)) h.2.1) r5
        have hg5 := hg4.unpin F M
        obtain ⟨q5, hq5⟩ : ∃ q5, (q4.unpin F M).2 = q5 := ⟨_, rfl⟩
        rw [hq5] at r6 r7 r8 hg5
        simp only [hq5] at c5
        have c6 : ∀ X, ClT z p wk X q5 → _ := fun X h => h.go (drop_any F M h.1 h.2.1) r6
        have hg6 := hg5.drop F M
        obtain ⟨q6, hq6⟩ : ∃ q6, (q5.drop F M).2 = q6 := ⟨_, rfl⟩
        rw [hq6] at r7 r8 hg6
        simp only [hq6] at c6
        have c7 : ∀ X, ClT z p wk X q6 → _ := fun X h => h.go (pin_any F M h.1 (hg6.ok (by omega)) h.2.1) r7
        obtain ⟨q7, hq7⟩ : ∃ q7, (q6.pin F M).2 = q7 := ⟨_, rfl⟩
        rw [hq7] at r8
        simp only [hq7] at c7
        have HP1 := Lib.hid c1
        have HP2 := Lib.hid c2
        have HP3 := Lib.hid c3
        have HP4 := Lib.hid c4
        have HP5 := Lib.hid c5
        have HP6 := Lib.hid c6
        have HP7 := Lib.hid c7
        have HP8 : Hid (∀ X, ClT z p wk X q7 → _) := Lib.hid (fun X h => h.get r8)
        have hlen : q3.L.length = 12 := by
          have h := congrArg List.length hg3.keys
          rw [List.length_map, List.length_map] at h
          exact h
        have HTT : Hid (q3.L[4 * a + b]? = some tt ∧ tt.el[i]? = some v ∧ q3.L.length = 12) := Lib.hid ⟨htt, hel, hlen⟩
        have H5 : Hid (ClT z p wk wk.drew s) := Lib.hid (HC0.out.below (Below.refl _ _).drew)
        have HT : Hid (∀ (n : Nat) (X : World), (match n with | 0 => ClT z p wk X s | 1 => ClT z p wk X q1 | 2 => ClT z p wk X q2 | _ => ClT z p wk X q3) → Below z wk X) := Lib.hid (fun n X h => by
          match n, h with
          | 0, h => exact h.2.2
          | 1, h => exact h.2.2
          | 2, h => exact h.2.2
          | n + 3, h => exact h.2.2)
        have EA : Hid (F - 1 = (a : Int) ∧ a < 3) := Lib.hid ⟨by omega, ha3⟩
        have EB : Hid (M = (b : Int) ∧ b < 4) := Lib.hid ⟨hMb, hb4⟩
        have EI : Hid (i < 4) := Lib.hid hi4
        clear c1 c2 c3 c4 c5 c6 c7 r2 r3 r4 r5 r6 r7 r8 hg1 hg2 hg3 hg4 hg5 hg6 hq1 hq2 hq3 hq4 hq5 hq6 hq7 htt hel hlen hL hsz1 hone hp0 hix hF hM ha hb hii b3 b4 b5 ht3 ht4 ht5 hFa hMb ha3 hb4 hi4 hwk hkW hxk hsz g0 g1
        refine wp_region_done_on (SS [2, 7, 10] (fun n X => match n with | 0 => ClT z p wk X s | 1 => ClT z p wk X q1 | 2 => ClT z p wk X q2 | _ => ClT z p wk X q3)) (RR [2, 7, 10] (fun _ w => w = .int .i64 0) (fun _ _ _ => True) [pv p, .agg #[.int .i64 F, .int .i64 M], undef, pv p, .agg #[.int .i64 F, .int .i64 M], .int .i64 (i : Int), .int .i64 v, undef, pv p, .agg #[.int .i64 F, .int .i64 M], undef, .int .i64 0, .int .i64 0, .int .i64 0]) (by kernel_rfl) 175 rfl (by kernel_rfl) (SS.start (H5.out)) ?_ ?_
        · intro i hi
          have hi2 : i < 14 := hi
          clear hi
          rcases i with _ | i
          · refine ss_value rfl (by decide) (pv p) rfl 3 (.inl rfl) ?_
            intro a8 w8 ns hns hT ho hn
            have o13 : a8.tmps[13]? = some _ := (ho 13 (by kernel_rfl)).trans rfl
            clear ho hn
            refine ⟨wanted_free rfl, ?_⟩
            go_simp
          rcases i with _ | i
          · refine ss_value rfl (by decide) (.agg #[.int .i64 F, .int .i64 M]) rfl 3 (.inl rfl) ?_
            intro a8 w8 ns hns hT ho hn
            have o6 : a8.tmps[6]? = some _ := (ho 6 (by kernel_rfl)).trans rfl
            clear ho hn
            refine ⟨wanted_free rfl, ?_⟩
            obtain ⟨x0, x1⟩ := HKC.out w8 (HT.out ns w8 hT)
            go_simp
          rcases i with _ | i
          · refine ss_call 0 (by decide) 14 rfl rfl (.inl rfl) ?_
            intro a8 w8 hT ho hn
            obtain ⟨v83, n83, hq83⟩ := hn 0 83 (by kernel_rfl) rfl
            obtain rfl := hq83.1 (by decide)
            obtain ⟨v84, n84, hq84⟩ := hn 1 84 (by kernel_rfl) rfl
            obtain rfl := hq84.1 (by decide)
            clear ho hn
            refine ⟨wanted_free rfl, ?_⟩
            refine ⟨#[pv p, .agg #[.int .i64 F, .int .i64 M]], (by go_simp), (HP1.out w8 hT).mono ?_⟩
            rintro e w9 ⟨rfl, h9⟩
            exact ⟨_, rfl, h9, rfl, trivial⟩
          rcases i with _ | i
          · refine ss_value rfl (by decide) (pv p) rfl 3 (.inl rfl) ?_
            intro a8 w8 ns hns hT ho hn
            have o13 : a8.tmps[13]? = some _ := (ho 13 (by kernel_rfl)).trans rfl
            clear ho hn
            refine ⟨wanted_free rfl, ?_⟩
            go_simp
          rcases i with _ | i
          · refine ss_value rfl (by decide) (.agg #[.int .i64 F, .int .i64 M]) rfl 3 (.inl rfl) ?_
            intro a8 w8 ns hns hT ho hn
            have o6 : a8.tmps[6]? = some _ := (ho 6 (by kernel_rfl)).trans rfl
            clear ho hn
            refine ⟨wanted_free rfl, ?_⟩
            obtain ⟨x0, x1⟩ := HKC.out w8 (HT.out ns w8 hT)
            go_simp
          rcases i with _ | i
          · refine ss_value rfl (by decide) (.int .i64 (i : Int)) rfl 3 (.inl rfl) ?_
            intro a8 w8 ns hns hT ho hn
            have o17 : a8.tmps[17]? = some _ := (ho 17 (by kernel_rfl)).trans rfl
            clear ho hn
            refine ⟨wanted_free rfl, ?_⟩
            go_simp
          rcases i with _ | i
          · refine ss_value rfl (by decide) (.int .i64 v) rfl 3 (.inl rfl) ?_
            intro a8 w8 ns hns hT ho hn
            have o3 : a8.tmps[3]? = some _ := (ho 3 (by kernel_rfl)).trans rfl
            clear ho hn
            refine ⟨wanted_free rfl, ?_⟩
            go_simp
          rcases i with _ | i
          · refine ss_call 1 (by decide) 15 rfl rfl (.inr ⟨2, 85, rfl, by kernel_rfl, rfl⟩) ?_
            intro a8 w8 hT ho hn
            obtain ⟨v86, n86, hq86⟩ := hn 3 86 (by kernel_rfl) rfl
            obtain rfl := hq86.1 (by decide)
            obtain ⟨v87, n87, hq87⟩ := hn 4 87 (by kernel_rfl) rfl
            obtain rfl := hq87.1 (by decide)
            obtain ⟨v88, n88, hq88⟩ := hn 5 88 (by kernel_rfl) rfl
            obtain rfl := hq88.1 (by decide)
            obtain ⟨v89, n89, hq89⟩ := hn 6 89 (by kernel_rfl) rfl
            obtain rfl := hq89.1 (by decide)
            clear ho hn
            refine ⟨wanted_free rfl, ?_⟩
            refine ⟨#[pv p, .agg #[.int .i64 F, .int .i64 M], .int .i64 (i : Int), .int .i64 v, .int .i64 1], (by go_simp), (HP2.out w8 hT).mono ?_⟩
            rintro e w9 ⟨rfl, h9⟩
            exact ⟨_, rfl, h9, rfl, trivial⟩
          rcases i with _ | i
          · refine ss_value rfl (by decide) (pv p) rfl 3 (.inl rfl) ?_
            intro a8 w8 ns hns hT ho hn
            have o13 : a8.tmps[13]? = some _ := (ho 13 (by kernel_rfl)).trans rfl
            clear ho hn
            refine ⟨wanted_free rfl, ?_⟩
            go_simp
          rcases i with _ | i
          · refine ss_value rfl (by decide) (.agg #[.int .i64 F, .int .i64 M]) rfl 3 (.inl rfl) ?_
            intro a8 w8 ns hns hT ho hn
            have o6 : a8.tmps[6]? = some _ := (ho 6 (by kernel_rfl)).trans rfl
            clear ho hn
            refine ⟨wanted_free rfl, ?_⟩
            obtain ⟨x0, x1⟩ := HKC.out w8 (HT.out ns w8 hT)
            go_simp
          rcases i with _ | i
          · refine ss_call 2 (by decide) 22 rfl rfl (.inr ⟨7, 90, rfl, by kernel_rfl, rfl⟩) ?_
            intro a8 w8 hT ho hn
            obtain ⟨v91, n91, hq91⟩ := hn 8 91 (by kernel_rfl) rfl
            obtain rfl := hq91.1 (by decide)
            obtain ⟨v92, n92, hq92⟩ := hn 9 92 (by kernel_rfl) rfl
            obtain rfl := hq92.1 (by decide)
            clear ho hn
            refine ⟨wanted_free rfl, ?_⟩
            refine ⟨#[pv p, .agg #[.int .i64 F, .int .i64 M]], (by go_simp), (HP3.out w8 hT).mono ?_⟩
            rintro e w9 ⟨rfl, h9⟩
            exact ⟨_, rfl, h9, rfl, trivial⟩
          rcases i with _ | i
          · refine ss_value rfl (by decide) (.int .i64 0) rfl 3 (.inl rfl) ?_
            intro a8 w8 ns hns hT ho hn
            obtain ⟨v85, n85, hq85⟩ := hn 2 85 (by kernel_rfl) rfl
            have hv85 := hq85.2 0 rfl
            clear ho hn
            refine ⟨wanted_free rfl, ?_⟩
            obtain ⟨_, e85, _⟩ := hv85
            obtain rfl : v85 = _ := e85
            go_simp
          rcases i with _ | i
          · refine ss_value rfl (by decide) (.int .i64 0) rfl 3 (.inl rfl) ?_
            intro a8 w8 ns hns hT ho hn
            obtain ⟨v90, n90, hq90⟩ := hn 7 90 (by kernel_rfl) rfl
            have hv90 := hq90.2 1 rfl
            clear ho hn
            refine ⟨wanted_free rfl, ?_⟩
            obtain ⟨_, e90, _⟩ := hv90
            obtain rfl : v90 = _ := e90
            go_simp
          rcases i with _ | i
          · refine ss_value rfl (by decide) (.int .i64 0) rfl 3 (.inl rfl) ?_
            intro a8 w8 ns hns hT ho hn
            obtain ⟨v93, n93, hq93⟩ := hn 10 93 (by kernel_rfl) rfl
            have hv93 := hq93.2 2 rfl
            clear ho hn
            refine ⟨wanted_free rfl, ?_⟩
            obtain ⟨_, e93, _⟩ := hv93
            obtain rfl : v93 = _ := e93
            go_simp
          omega
        · intro dn fv w5 hS5 hR5 hall
          have hT5 := hS5.2
          rw [stg_all (l := [2, 7, 10]) (by intro k hk; simp only [List.mem_cons, List.not_mem_nil, or_false] at hk; rcases hk with rfl | rfl | rfl <;> exact hall _ (by decide))] at hT5
          have h18 : fv 18 = _ := (hR5 11 18 rfl).1 (by decide)
          have h19 : fv 19 = _ := (hR5 12 19 rfl).1 (by decide)
          have h20 : fv 20 = _ := (hR5 13 20 rfl).1 (by decide)
          simp only [putAll, List.foldl_cons, List.foldl_nil, Act.put, List.setIfInBounds_toArray, List.set_cons_succ, List.set_cons_zero, h18, h19, h20, List.getD_cons_zero, List.getD_cons_succ]
          clear hR5 hS5 hall
          obtain ⟨wl, hwl⟩ : ∃ wl, w5 = wl := ⟨_, rfl⟩
          have hc3 : ClT z p wk wl q3 := by rw [← hwl]; exact hT5
          have HC3 := Lib.hid hc3
          have HRC : Hid (∃ lg lc tg tc, ∀ X, Below wl.heap.size wl X → X.cell? ⟨z, 0, none⟩ = some (.slice (some ⟨lg, 0, none⟩) 12 lc) ∧ X.cell? ⟨lg, (4 * a + b) * 4 + 3, none⟩ = some (.slice (some ⟨tg, 0, none⟩) 4 tc) ∧ X.cell? ⟨tg, i, none⟩ = some (.int .i64 v) ∧ X.cell? ⟨y, 0, none⟩ = some (.int .i64 F) ∧ X.cell? ⟨y, 1, none⟩ = some (.int .i64 M)) := Lib.hid (by
            obtain ⟨⟨q, ml, hpl⟩, hzl, hbl⟩ := hc3
            obtain ⟨h1, h2, h3⟩ := HTT.out
            obtain ⟨lc, g, c, c0, _, _, _, c3, hE, _⟩ := hpl.mem.tile h1
            rw [h3] at c0
            refine ⟨ml.lg, lc, g, c, fun X hX => ⟨(hX.cell (block_lt_of_cell c0)).trans c0, (hX.cell (block_lt_of_cell c3)).trans c3, ?_, (HKC.out X (hbl.trans (hX.mono hzl))).1, (HKC.out X (hbl.trans (hX.mono hzl))).2⟩⟩
            have c5 := hE.at_ h2
            exact (hX.cell (block_lt_of_cell c5)).trans c5)
          obtain ⟨lg, lc, tg, tc, hrc⟩ := HRC.out
          have HRC := Lib.hid hrc
          clear hrc hc3 hT5 HTT HC0 H5 HP1 HP2 HP3 HT
          go_wp2
          rw [hwl]
          clear hwl
          obtain ⟨jj, hjj⟩ : ∃ jj, 4 * a + b = jj := ⟨_, rfl⟩
          rw [hjj] at HRC
          have EC : Hid ((a : Int) * 4 + M = (jj : Int)) := Lib.hid (by rw [EB.out.1]; omega)
          have EJ : Hid (jj < 12) := Lib.hid (by have := EA.out.2; have := EB.out.2; omega)
          clear hjj
          refine wp_region_done_on (GS _) (GR [] (fun _ _ _ => True) [pv z, pv z, .pointer (some ⟨z, 0, none⟩), .slice (some ⟨lg, 0, none⟩) 12 lc, .pointer (some ⟨y, 0, none⟩), .int .i64 F, .int .i64 (a : Int), .int .i64 ((a : Int) * 4), .pointer (some ⟨y, 1, none⟩), .int .i64 M, .int .i64 (jj : Int), .pointer (some ⟨lg, jj * 4, none⟩), .pointer (some ⟨lg, jj * 4 + 3, none⟩), .slice (some ⟨tg, 0, none⟩) 4 tc, .int .i64 (i : Int), .pointer (some ⟨tg, i, none⟩), .int .i64 v, .int .i64 v]) (by kernel_rfl) 175 rfl (by kernel_rfl) ((Below.refl _ _).drew) ?_ ?_
          · intro i hi
            have hi2 : i < 18 := hi
            clear hi
            rcases i with _ | i
            · refine gr_value rfl (by decide) (pv z) rfl ?_
              intro a8 w8 hb8 ho hn
              have o12 : a8.tmps[12]? = some _ := (ho 12 (by kernel_rfl)).trans rfl
              clear ho hn
              refine ⟨wanted_free rfl, ?_⟩
              go_simp
            rcases i with _ | i
            · refine gr_value rfl (by decide) (pv z) rfl ?_
              intro a8 w8 hb8 ho hn
              obtain ⟨v94, n94, hq94⟩ := hn 0 94 (by kernel_rfl) rfl
              obtain rfl := hq94.1 (by decide)
              clear ho hn
              refine ⟨wanted_free rfl, ?_⟩
              go_simp
            rcases i with _ | i
            · refine gr_value rfl (by decide) (.pointer (some ⟨z, 0, none⟩)) rfl ?_
              intro a8 w8 hb8 ho hn
              obtain ⟨v95, n95, hq95⟩ := hn 1 95 (by kernel_rfl) rfl
              obtain rfl := hq95.1 (by decide)
              clear ho hn
              refine ⟨wanted_free rfl, ?_⟩
              go_simp
            rcases i with _ | i
            · refine gr_value rfl (by decide) (.slice (some ⟨lg, 0, none⟩) 12 lc) rfl ?_
              intro a8 w8 hb8 ho hn
              obtain ⟨v96, n96, hq96⟩ := hn 2 96 (by kernel_rfl) rfl
              obtain rfl := hq96.1 (by decide)
              clear ho hn
              refine ⟨wanted_free rfl, ?_⟩
              obtain ⟨x0, x1, x2, x3, x4⟩ := HRC.out w8 hb8
              go_simp
            rcases i with _ | i
            · refine gr_value rfl (by decide) (.pointer (some ⟨y, 0, none⟩)) rfl ?_
              intro a8 w8 hb8 ho hn
              have o6 : a8.tmps[6]? = some _ := (ho 6 (by kernel_rfl)).trans rfl
              clear ho hn
              refine ⟨wanted_free rfl, ?_⟩
              go_simp
            rcases i with _ | i
            · refine gr_value rfl (by decide) (.int .i64 F) rfl ?_
              intro a8 w8 hb8 ho hn
              obtain ⟨v98, n98, hq98⟩ := hn 4 98 (by kernel_rfl) rfl
              obtain rfl := hq98.1 (by decide)
              clear ho hn
              refine ⟨wanted_free rfl, ?_⟩
              obtain ⟨x0, x1, x2, x3, x4⟩ := HRC.out w8 hb8
              go_simp
            rcases i with _ | i
            · refine gr_value rfl (by decide) (.int .i64 (a : Int)) rfl ?_
              intro a8 w8 hb8 ho hn
              obtain ⟨v99, n99, hq99⟩ := hn 5 99 (by kernel_rfl) rfl
              obtain rfl := hq99.1 (by decide)
              clear ho hn
              refine ⟨wanted_free rfl, ?_⟩
              have ea := EA.out
              go_simp
              exact IntWalk.i64_in _ (by have := EA.out.2; omega)
            rcases i with _ | i
            · refine gr_value rfl (by decide) (.int .i64 ((a : Int) * 4)) rfl ?_
              intro a8 w8 hb8 ho hn
              obtain ⟨v100, n100, hq100⟩ := hn 6 100 (by kernel_rfl) rfl
              obtain rfl := hq100.1 (by decide)
              clear ho hn
              refine ⟨wanted_free rfl, ?_⟩
              have eb := EB.out
              go_simp
              exact IntWalk.i64_in _ (by have := EA.out.2; omega)
            rcases i with _ | i
            · refine gr_value rfl (by decide) (.pointer (some ⟨y, 1, none⟩)) rfl ?_
              intro a8 w8 hb8 ho hn
              have o6 : a8.tmps[6]? = some _ := (ho 6 (by kernel_rfl)).trans rfl
              clear ho hn
              refine ⟨wanted_free rfl, ?_⟩
              go_simp
            rcases i with _ | i
            · refine gr_value rfl (by decide) (.int .i64 M) rfl ?_
              intro a8 w8 hb8 ho hn
              obtain ⟨v102, n102, hq102⟩ := hn 8 102 (by kernel_rfl) rfl
              obtain rfl := hq102.1 (by decide)
              clear ho hn
              refine ⟨wanted_free rfl, ?_⟩
              obtain ⟨x0, x1, x2, x3, x4⟩ := HRC.out w8 hb8
              go_simp
            rcases i with _ | i
            · refine gr_value rfl (by decide) (.int .i64 (jj : Int)) rfl ?_
              intro a8 w8 hb8 ho hn
              obtain ⟨v101, n101, hq101⟩ := hn 7 101 (by kernel_rfl) rfl
              obtain rfl := hq101.1 (by decide)
              obtain ⟨v103, n103, hq103⟩ := hn 9 103 (by kernel_rfl) rfl
              obtain rfl := hq103.1 (by decide)
              clear ho hn
              refine ⟨wanted_free rfl, ?_⟩
              have ec := EC.out
              go_simp
              exact IntWalk.i64_in _ (by have := EJ.out; omega)
            rcases i with _ | i
            · refine gr_value rfl (by decide) (.pointer (some ⟨lg, jj * 4, none⟩)) rfl ?_
              intro a8 w8 hb8 ho hn
              obtain ⟨v97, n97, hq97⟩ := hn 3 97 (by kernel_rfl) rfl
              obtain rfl := hq97.1 (by decide)
              obtain ⟨v104, n104, hq104⟩ := hn 10 104 (by kernel_rfl) rfl
              obtain rfl := hq104.1 (by decide)
              clear ho hn
              refine ⟨wanted_free rfl, ?_⟩
              have ej := EJ.out
              go_simp
              intro h
              omega
            rcases i with _ | i
            · refine gr_value rfl (by decide) (.pointer (some ⟨lg, jj * 4 + 3, none⟩)) rfl ?_
              intro a8 w8 hb8 ho hn
              obtain ⟨v105, n105, hq105⟩ := hn 11 105 (by kernel_rfl) rfl
              obtain rfl := hq105.1 (by decide)
              clear ho hn
              refine ⟨wanted_free rfl, ?_⟩
              go_simp
            rcases i with _ | i
            · refine gr_value rfl (by decide) (.slice (some ⟨tg, 0, none⟩) 4 tc) rfl ?_
              intro a8 w8 hb8 ho hn
              obtain ⟨v106, n106, hq106⟩ := hn 12 106 (by kernel_rfl) rfl
              obtain rfl := hq106.1 (by decide)
              clear ho hn
              refine ⟨wanted_free rfl, ?_⟩
              obtain ⟨x0, x1, x2, x3, x4⟩ := HRC.out w8 hb8
              go_simp
            rcases i with _ | i
            · refine gr_value rfl (by decide) (.int .i64 (i : Int)) rfl ?_
              intro a8 w8 hb8 ho hn
              have o17 : a8.tmps[17]? = some _ := (ho 17 (by kernel_rfl)).trans rfl
              clear ho hn
              refine ⟨wanted_free rfl, ?_⟩
              go_simp
            rcases i with _ | i
            · refine gr_value rfl (by decide) (.pointer (some ⟨tg, i, none⟩)) rfl ?_
              intro a8 w8 hb8 ho hn
              obtain ⟨v107, n107, hq107⟩ := hn 13 107 (by kernel_rfl) rfl
              obtain rfl := hq107.1 (by decide)
              obtain ⟨v108, n108, hq108⟩ := hn 14 108 (by kernel_rfl) rfl
              obtain rfl := hq108.1 (by decide)
              clear ho hn
              refine ⟨wanted_free rfl, ?_⟩
              have ei := EI.out
              go_simp
              intro h
              omega
            rcases i with _ | i
            · refine gr_value rfl (by decide) (.int .i64 v) rfl ?_
              intro a8 w8 hb8 ho hn
              obtain ⟨v109, n109, hq109⟩ := hn 15 109 (by kernel_rfl) rfl
              obtain rfl := hq109.1 (by decide)
              clear ho hn
              refine ⟨wanted_free rfl, ?_⟩
              obtain ⟨x0, x1, x2, x3, x4⟩ := HRC.out w8 hb8
              go_simp
            rcases i with _ | i
            · refine gr_value rfl (by decide) (.int .i64 v) rfl ?_
              intro a8 w8 hb8 ho hn
              obtain ⟨v110, n110, hq110⟩ := hn 16 110 (by kernel_rfl) rfl
              obtain rfl := hq110.1 (by decide)
              clear ho hn
              refine ⟨wanted_free rfl, ?_⟩
              go_simp
            omega
          · intro dn fv w5 hb5 hR5 hall
            have h21 : fv 21 = _ := (hR5 17 21 rfl).1 (by decide)
            simp only [putAll, List.foldl_cons, List.foldl_nil, Act.put, List.setIfInBounds_toArray, List.set_cons_succ, List.set_cons_zero, h21, List.getD_cons_zero, List.getD_cons_succ]
            clear hR5 hall
            have H8 : Hid (ClT z p wk w5.drew q3) := Lib.hid ((HC3.out.below hb5).below (Below.refl _ _).drew)
            have HT : Hid (∀ (n : Nat) (X : World), (match n with | 0 => ClT z p wk X q3 | 1 => ClT z p wk X q4 | 2 => ClT z p wk X q5 | _ => ClT z p wk X q6) → Below z wk X) := Lib.hid (fun n X h => by
              match n, h with
              | 0, h => exact h.2.2
              | 1, h => exact h.2.2
              | 2, h => exact h.2.2
              | n + 3, h => exact h.2.2)
            clear hb5
            go_wp2
            refine wp_region_done_on (SS [4, 7, 10] (fun n X => match n with | 0 => ClT z p wk X q3 | 1 => ClT z p wk X q4 | 2 => ClT z p wk X q5 | _ => ClT z p wk X q6)) (RR [4, 7, 10] (fun _ w => w = .int .i64 0) (fun _ _ _ => True) [pv p, .agg #[.int .i64 F, .int .i64 M], .int .i64 (i : Int), .int .i64 u, undef, pv p, .agg #[.int .i64 F, .int .i64 M], undef, pv p, .agg #[.int .i64 F, .int .i64 M], undef, .int .i64 0, .int .i64 0, .int .i64 0]) (by kernel_rfl) 175 rfl (by kernel_rfl) (SS.start (H8.out)) ?_ ?_
            · intro i hi
              have hi2 : i < 14 := hi
              clear hi
              rcases i with _ | i
              · refine ss_value rfl (by decide) (pv p) rfl 3 (.inl rfl) ?_
                intro a8 w8 ns hns hT ho hn
                have o13 : a8.tmps[13]? = some _ := (ho 13 (by kernel_rfl)).trans rfl
                clear ho hn
                refine ⟨wanted_free rfl, ?_⟩
                go_simp
              rcases i with _ | i
              · refine ss_value rfl (by decide) (.agg #[.int .i64 F, .int .i64 M]) rfl 3 (.inl rfl) ?_
                intro a8 w8 ns hns hT ho hn
                have o6 : a8.tmps[6]? = some _ := (ho 6 (by kernel_rfl)).trans rfl
                clear ho hn
                refine ⟨wanted_free rfl, ?_⟩
                obtain ⟨x0, x1⟩ := HKC.out w8 (HT.out ns w8 hT)
                go_simp
              rcases i with _ | i
              · refine ss_value rfl (by decide) (.int .i64 (i : Int)) rfl 3 (.inl rfl) ?_
                intro a8 w8 ns hns hT ho hn
                have o17 : a8.tmps[17]? = some _ := (ho 17 (by kernel_rfl)).trans rfl
                clear ho hn
                refine ⟨wanted_free rfl, ?_⟩
                go_simp
              rcases i with _ | i
              · refine ss_value rfl (by decide) (.int .i64 u) rfl 3 (.inl rfl) ?_
                intro a8 w8 ns hns hT ho hn
                have o4 : a8.tmps[4]? = some _ := (ho 4 (by kernel_rfl)).trans rfl
                clear ho hn
                refine ⟨wanted_free rfl, ?_⟩
                go_simp
              rcases i with _ | i
              · refine ss_call 0 (by decide) 15 rfl rfl (.inl rfl) ?_
                intro a8 w8 hT ho hn
                obtain ⟨v111, n111, hq111⟩ := hn 0 111 (by kernel_rfl) rfl
                obtain rfl := hq111.1 (by decide)
                obtain ⟨v112, n112, hq112⟩ := hn 1 112 (by kernel_rfl) rfl
                obtain rfl := hq112.1 (by decide)
                obtain ⟨v113, n113, hq113⟩ := hn 2 113 (by kernel_rfl) rfl
                obtain rfl := hq113.1 (by decide)
                obtain ⟨v114, n114, hq114⟩ := hn 3 114 (by kernel_rfl) rfl
                obtain rfl := hq114.1 (by decide)
                clear ho hn
                refine ⟨wanted_free rfl, ?_⟩
                refine ⟨#[pv p, .agg #[.int .i64 F, .int .i64 M], .int .i64 (i : Int), .int .i64 u, .int .i64 2], (by go_simp), (HP4.out w8 hT).mono ?_⟩
                rintro e w9 ⟨rfl, h9⟩
                exact ⟨_, rfl, h9, rfl, trivial⟩
              rcases i with _ | i
              · refine ss_value rfl (by decide) (pv p) rfl 3 (.inl rfl) ?_
                intro a8 w8 ns hns hT ho hn
                have o13 : a8.tmps[13]? = some _ := (ho 13 (by kernel_rfl)).trans rfl
                clear ho hn
                refine ⟨wanted_free rfl, ?_⟩
                go_simp
              rcases i with _ | i
              · refine ss_value rfl (by decide) (.agg #[.int .i64 F, .int .i64 M]) rfl 3 (.inl rfl) ?_
                intro a8 w8 ns hns hT ho hn
                have o6 : a8.tmps[6]? = some _ := (ho 6 (by kernel_rfl)).trans rfl
                clear ho hn
                refine ⟨wanted_free rfl, ?_⟩
                obtain ⟨x0, x1⟩ := HKC.out w8 (HT.out ns w8 hT)
                go_simp
              rcases i with _ | i
              · refine ss_call 1 (by decide) 16 rfl rfl (.inr ⟨4, 115, rfl, by kernel_rfl, rfl⟩) ?_
                intro a8 w8 hT ho hn
                obtain ⟨v116, n116, hq116⟩ := hn 5 116 (by kernel_rfl) rfl
                obtain rfl := hq116.1 (by decide)
                obtain ⟨v117, n117, hq117⟩ := hn 6 117 (by kernel_rfl) rfl
                obtain rfl := hq117.1 (by decide)
                clear ho hn
                refine ⟨wanted_free rfl, ?_⟩
                refine ⟨#[pv p, .agg #[.int .i64 F, .int .i64 M]], (by go_simp), (HP5.out w8 hT).mono ?_⟩
                rintro e w9 ⟨rfl, h9⟩
                exact ⟨_, rfl, h9, rfl, trivial⟩
              rcases i with _ | i
              · refine ss_value rfl (by decide) (pv p) rfl 3 (.inl rfl) ?_
                intro a8 w8 ns hns hT ho hn
                have o13 : a8.tmps[13]? = some _ := (ho 13 (by kernel_rfl)).trans rfl
                clear ho hn
                refine ⟨wanted_free rfl, ?_⟩
                go_simp
              rcases i with _ | i
              · refine ss_value rfl (by decide) (.agg #[.int .i64 F, .int .i64 M]) rfl 3 (.inl rfl) ?_
                intro a8 w8 ns hns hT ho hn
                have o6 : a8.tmps[6]? = some _ := (ho 6 (by kernel_rfl)).trans rfl
                clear ho hn
                refine ⟨wanted_free rfl, ?_⟩
                obtain ⟨x0, x1⟩ := HKC.out w8 (HT.out ns w8 hT)
                go_simp
              rcases i with _ | i
              · refine ss_call 2 (by decide) 21 rfl rfl (.inr ⟨7, 118, rfl, by kernel_rfl, rfl⟩) ?_
                intro a8 w8 hT ho hn
                obtain ⟨v119, n119, hq119⟩ := hn 8 119 (by kernel_rfl) rfl
                obtain rfl := hq119.1 (by decide)
                obtain ⟨v120, n120, hq120⟩ := hn 9 120 (by kernel_rfl) rfl
                obtain rfl := hq120.1 (by decide)
                clear ho hn
                refine ⟨wanted_free rfl, ?_⟩
                refine ⟨#[pv p, .agg #[.int .i64 F, .int .i64 M]], (by go_simp), (HP6.out w8 hT).mono ?_⟩
                rintro e w9 ⟨rfl, h9⟩
                exact ⟨_, rfl, h9, rfl, trivial⟩
              rcases i with _ | i
              · refine ss_value rfl (by decide) (.int .i64 0) rfl 3 (.inl rfl) ?_
                intro a8 w8 ns hns hT ho hn
                obtain ⟨v115, n115, hq115⟩ := hn 4 115 (by kernel_rfl) rfl
                have hv115 := hq115.2 0 rfl
                clear ho hn
                refine ⟨wanted_free rfl, ?_⟩
                obtain ⟨_, e115, _⟩ := hv115
                obtain rfl : v115 = _ := e115
                go_simp
              rcases i with _ | i
              · refine ss_value rfl (by decide) (.int .i64 0) rfl 3 (.inl rfl) ?_
                intro a8 w8 ns hns hT ho hn
                obtain ⟨v118, n118, hq118⟩ := hn 7 118 (by kernel_rfl) rfl
                have hv118 := hq118.2 1 rfl
                clear ho hn
                refine ⟨wanted_free rfl, ?_⟩
                obtain ⟨_, e118, _⟩ := hv118
                obtain rfl : v118 = _ := e118
                go_simp
              rcases i with _ | i
              · refine ss_value rfl (by decide) (.int .i64 0) rfl 3 (.inl rfl) ?_
                intro a8 w8 ns hns hT ho hn
                obtain ⟨v121, n121, hq121⟩ := hn 10 121 (by kernel_rfl) rfl
                have hv121 := hq121.2 2 rfl
                clear ho hn
                refine ⟨wanted_free rfl, ?_⟩
                obtain ⟨_, e121, _⟩ := hv121
                obtain rfl : v121 = _ := e121
                go_simp
              omega
            · intro dn fv w5 hS5 hR5 hall
              have hT5 := hS5.2
              rw [stg_all (l := [4, 7, 10]) (by intro k hk; simp only [List.mem_cons, List.not_mem_nil, or_false] at hk; rcases hk with rfl | rfl | rfl <;> exact hall _ (by decide))] at hT5
              have h22 : fv 22 = _ := (hR5 11 22 rfl).1 (by decide)
              have h23 : fv 23 = _ := (hR5 12 23 rfl).1 (by decide)
              have h24 : fv 24 = _ := (hR5 13 24 rfl).1 (by decide)
              simp only [putAll, List.foldl_cons, List.foldl_nil, Act.put, List.setIfInBounds_toArray, List.set_cons_succ, List.set_cons_zero, h22, h23, h24, List.getD_cons_zero, List.getD_cons_succ]
              clear hR5 hS5 hall
              have hc6 : ClT z p wk w5 q6 := hT5
              have HQ7 := Lib.hid (HP7.out w5 hc6)
              have k6 := HKC.out w5 hc6.2.2
              obtain ⟨k60, k61⟩ := k6
              clear hc6 hT5
              go_wp2_with (first
                | (go_at_call 14; refine HQ7.out.mono ?_; rintro e w7 ⟨rfl, h7⟩
                   have HQ8 := Lib.hid (HP8.out w7 h7)
                   have k7 := HKC.out w7 h7.2.2
                   obtain ⟨k70, k71⟩ := k7
                   clear h7)
                | (go_at_call 23; refine HQ8.out.mono ?_; rintro e w8 ⟨rfl, h8⟩; have HC8 := Lib.hid h8; clear h8))
              go_ret
              exact ⟨rfl, HBK.out.trans (HC8.out.2.2.mono (by have := HYZ.out; omega))⟩
end Go.Proofs.Ytlmdijijlbmddaa.pool

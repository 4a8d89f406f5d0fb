/-
  The walk of the statement ArrayMade.
-/
import Derived.Test.YtiiapljjopcabaaDoorArMake
import Derived.Test.YtiiapljjopcabaaDoorArRnd
import Derived.Test.YtiiapljjopcabaaDoorArAt
import Derived.Test.YtiiapljjopcabaaDoorArAlive
import Derived.Test.YtiiapljjopcabaaDoorArSame
import Derived.Test.YtiiapljjopcabaaDoorArOpen
import Derived.Test.YtiiapljjopcabaaDoorHeads
import Derived.Test.YtiiapljjopcabaaDoorGrowReg
namespace Go.Proofs.YtiiapljjopcabaaDoor.arrayMade
open Go.RowKit Go.Proofs.YtiiapljjopcabaaDoor.arr

theorem tup_len {l a : List Int} (h : placeB l a = true) : a.length = l.length := by
  unfold placeB at h
  rw [Bool.and_eq_true] at h
  obtain ⟨L, rfl, _⟩ := nat_of (okShape_iff.1 h.1).2.1
  obtain ⟨A, rfl, hA⟩ := tup_nat h.2
  rw [iL_length, iL_length, hA]
theorem wrap_bounds (x : Int) : -9223372036854775808 ≤ wrap64 x ∧ wrap64 x ≤ 9223372036854775807 := by
  unfold wrap64
  constructor
  · have := Int.emod_nonneg (x + 9223372036854775808) (b := 18446744073709551616) (by decide)
    omega
  · have := Int.emod_lt_of_pos (x + 9223372036854775808) (b := 18446744073709551616) (by decide)
    omega
/-- One more is never the same. -/
theorem wrap_more (x : Int) : ¬ wrap64 (x + 1) = x := by
  unfold wrap64
  omega
def mf (s i : Int) : Int := wrap64 (s + i)

theorem m1_any (i s : Int) (z : Nat) (w : World) (h : Blk w z 2 #[.int .i64 s]) :
    Calls Tryd.prog 25 #[.int .i64 i, .pointer (some ⟨z, 0, none⟩)] w fun e w' => e = .returned (.int .i64 (mf s i)) ∧ w = w' := by
  have x0 := h.cell 0
  clear h
  go_enter Tryd.func25, Tryd.ntmps25
  go_wp2
  go_ret
  exact ⟨rfl, rfl⟩

/-- The shape and the seed in memory, and the tables. -/
structure MW (w : World) (A : Option Addr) (l : List Int) (s : Int) (W : World) : Prop where
  ra : Reads W W.heap.size 1 A l.length (l.map iv)
  sd : Blk W w.heap.size 2 #[.int .i64 s]
  bw : Below w.heap.size w W
theorem MW.next {w W W' : World} {A : Option Addr} {l : List Int} {s : Int} (h : MW w A l s W) (hb : Below W.heap.size W W') : MW w A l s W' :=
  ⟨(h.ra.below hb).more hb.size, h.sd.below hb h.sd.lt, h.bw.trans (hb.mono h.bw.size)⟩
/-- The two arrays, their boxes, and where their lists lie. -/
structure Two (M K : AV) (q r : AP) (ga gb b1 b2 : Nat) (W : World) : Prop where
  xa : Blk W ga 33 (arC M q)
  xb : Blk W gb 33 (arC K r)
  oa : AOwn b1 W M q
  ob : AOwn b2 W K r
  l0 : ∀ b, (Value.slice q.A0 M.sh.length q.c0).ownBlock = some b → b < ga
  l1 : ∀ b, (Value.slice q.A1 M.el.length q.c1).ownBlock = some b → b < ga
  ab : ga < b2
  lb : ∀ b, (Value.slice r.A1 K.el.length r.c1).ownBlock = some b → b < gb
theorem Two.below {M K : AV} {q r : AP} {ga gb b1 b2 : Nat} {W W' : World} (h : Two M K q r ga gb b1 b2 W) (hb : Below W.heap.size W W') : Two M K q r ga gb b1 b2 W' :=
  ⟨h.xa.below hb h.xa.lt, h.xb.below hb h.xb.lt, h.oa.stay hb (Nat.le_refl _), h.ob.stay hb (Nat.le_refl _), h.l0, h.l1, h.ab, h.lb⟩

theorem Two.set {M : AV} {l E : List Int} {k : Int} {q r : AP} {ga gb b1 b2 g N : Nat} {W : World} (h : Two M ⟨k, l, E⟩ q r ga gb b1 b2 W) (hr : r.A1 = some ⟨g, 0, none⟩) (z : Int) : Two M ⟨k, l, E.set N z⟩ q r ga gb b1 b2 (W.setCell ⟨g, N, none⟩ (.int .i64 z)) := by
  obtain ⟨R0, r0, R1, r1⟩ := r
  subst hr
  have hg := arown_lt h.ob.o1 g (by simp [Value.ownBlock])
  have hgb := h.lb g (by simp [Value.ownBlock])
  have hs : Below b2 W (W.setCell ⟨g, N, none⟩ (.int .i64 z)) := (Below.refl b2 W).setCell hg.1 _
  have hk : Keep (fun i => i = g) W (W.setCell ⟨g, N, none⟩ (.int .i64 z)) := (Keep.refl _ _).setCell _ _ (fun _ => rfl)
  refine ⟨h.xa.below hs h.ab, ?_, ⟨arown_stay h.oa.o0 hs (fun b hb => Nat.lt_trans (h.l0 b hb) h.ab), arown_stay h.oa.o1 hs (fun b hb => Nat.lt_trans (h.l1 b hb) h.ab)⟩, ⟨?_, ?_⟩, h.l0, h.l1, h.ab, ?_⟩
  · have hx := hk.blk h.xb (by omega)
    unfold arC at hx ⊢
    simp only [List.length_set]
    exact hx
  · refine hk.own h.ob.o0 (fun b hb e => ?_)
    subst e
    rcases h.ob.o0.2 with ⟨e1, _⟩ | ⟨g', cap, cur, e1, _, hh, _⟩
    · have e1 : Value.slice R0 l.length r0 = .slice none 0 0 := e1
      rw [e1] at hb
      simp [Value.ownBlock] at hb
    · have e1 : Value.slice R0 l.length r0 = .slice (some ⟨g', 0, none⟩) l.length cap := e1
      rw [e1] at hb
      simp [Value.ownBlock] at hb
      subst hb
      rcases h.ob.o1.2 with ⟨e2, _⟩ | ⟨g2, cap2, cur2, e2, _, hh2, _⟩
      · cases e2
      · injection e2 with e2 _ _
        injection e2 with e2
        injection e2 with e2 _ _
        subst e2
        rw [hh] at hh2
        injection hh2 with hh2
        injection hh2 with _ hh2
        cases hh2
  · have := own_put (j := N) h.ob.o1 (.int .i64 z)
    have e : (E.map iv).set N (.int .i64 z) = (E.set N z).map iv := by rw [List.map_set]; rfl
    show World.ownsRow _ b2 2 1 (.slice (some ⟨g, 0, none⟩) (E.set N z).length r1) (E.set N z).length ((E.set N z).map iv)
    rw [List.length_set, ← e]
    exact this
  · intro b hb
    exact h.lb b hb

set_option maxRecDepth 100000 in
set_option maxHeartbeats 8000000 in
theorem walk (A : Option Addr) (c : Nat) (l : List Int) (s x : Int) (w : World) (ht : Tab w) (ha : Reads w w.heap.size 1 A l.length (l.map iv)) (hc : l.length ≤ c) (hn : l.length ≤ 9223372036854775807) :
    Calls Tryd.prog 6 #[.slice A l.length c, .int .i64 s, .int .i64 x] w fun e w' => e = .returned (.bool true) ∧ Below w.heap.size w w' := by
  obtain ⟨w1, hw1⟩ : ∃ w1, w.alloc (.cells #[.int .i64 s] 2) = w1 := ⟨_, rfl⟩
  have hb1 : Below w.heap.size w w1 := hw1 ▸ (Below.refl _ w).alloc (Nat.le_refl _) _
  have h1 : MW w A l s w1 := ⟨(ha.below hb1).more hb1.size, hw1 ▸ Blk.new w _ _, hb1⟩
  have HT := Lib.hid (ht.below hb1)
  have H1 := Lib.hid h1
  have HC := Lib.hid (fun W (h : MW w A l s W) => arcount_any A c l.length l W rfl h.ra hn)
  by_cases h10 : 10 < l.length
  · have d1 : (10 : Int) < (l.length : Int) := by omega
    clear ha ht hb1 h1
    go_enter Tryd.func6, Tryd.ntmps6
    go_wp2_with (first
      | (go_at_call 21; (try rw [hw1]); refine (aralive_any w1 HT.out).mono ?_; rintro e w2 ⟨rfl, b2⟩; have H2 := Lib.hid (H1.out.next b2); clear b2)
      | (go_at_call 7; refine (HC.out w2 H2.out).mono ?_; rintro e _ ⟨rfl, rfl⟩))
    go_ret
    exact ⟨rfl, H2.out.bw⟩
  have d1 : ¬ (10 : Int) < (l.length : Int) := by omega
  have HM : Hid (∀ W, MW w A l s W → Calls Tryd.prog 11 #[.int .i64 1, .slice A l.length c, .func (.func 25) #[] #[.pointer (some ⟨w.heap.size, 0, none⟩)]] W (MakeA 1 l (mf s) W)) := Lib.hid (fun W h =>
    armake_any 1 A l.length c l 25 _ (enters_of Tryd.func25 (by kernel_rfl) rfl) (mf s) W rfl h.ra hn (fun z => wrap_bounds _) (fun i W' hb => m1_any _ _ _ _ (h.sd.below hb h.sd.lt)))
  cases hok : okShape l
  · obtain ⟨e1, e2⟩ := cnt_no hok
    rw [e1, e2] at HC
    have hno : okA (makeA 1 l (mf s)) = false := by unfold okA makeA; simp [hok]
    have HM2 : Hid (∀ W, MW w A l s W → Calls Tryd.prog 11 #[.int .i64 1, .slice A l.length c, .func (.func 25) #[] #[.pointer (some ⟨w.heap.size, 0, none⟩)]] W fun e w' => ∃ A0 c0 A1 c1, e = .returned (.tuple #[.agg #[.int .i64 0, .slice A0 0 c0, .slice A1 0 c1], .int .i64 110]) ∧ Below W.heap.size W w') := Lib.hid (fun W h => (HM.out W h).mono (by
      rintro e w' ⟨v, rfl, hg⟩
      unfold checkE
      rw [hno] at hg ⊢
      obtain ⟨q, rfl, _, hb⟩ := hg
      exact ⟨q.A0, q.c0, q.A1, q.c1, rfl, hb⟩))
    clear ha ht hb1 h1 hok hno e1 e2 HM
    go_enter Tryd.func6, Tryd.ntmps6
    go_wp2_with (first
      | (go_at_call 21; (try rw [hw1]); refine (aralive_any w1 HT.out).mono ?_; rintro e w2 ⟨rfl, b2⟩; have H2 := Lib.hid (H1.out.next b2); clear b2)
      | (go_at_call 7; refine (HC.out w2 H2.out).mono ?_; rintro e _ ⟨rfl, rfl⟩)
      | (go_at_call 11; refine (HM2.out w2 H2.out).mono ?_; rintro e w3 ⟨A0, c0, A1, c1, rfl, b3⟩; have H3 := Lib.hid (H2.out.next b3); clear b3))
    go_ret
    exact ⟨rfl, (H3.out.bw.alloc H3.out.bw.size _)⟩
  obtain ⟨e1, e2⟩ := cnt_ok hok
  obtain ⟨p0, p1⟩ := prodI_four (l := l) (okShape_iff.1 hok).2.1 (okShape_iff.1 hok).1
  obtain ⟨P, hP⟩ := Int.eq_ofNat_of_zero_le p0
  have hP4 : P ≤ 4096 := by have := (okShape_iff.1 hok).2.2; omega
  obtain ⟨E, hE⟩ : ∃ E, fL (mf s) P = E := ⟨_, rfl⟩
  have hEl : E.length = P := by rw [← hE, fL_length]
  have hm : makeA 1 l (mf s) = ⟨1, l, E⟩ := by unfold makeA; rw [hP, Int.toNat_natCast, hE]
  have hoA : okA ⟨1, l, E⟩ = true := by
    unfold okA
    show (okShape l && (decide ((E.length : Int) = prodI l) && Go.Proofs.YtiiapljjopcabaaDoor.arr.kindOk 1 E)) = true
    rw [hok, hEl, hP]
    simp [Go.Proofs.YtiiapljjopcabaaDoor.arr.kindOk]
  have hE1 : ∀ z ∈ E, -9223372036854775808 ≤ z ∧ z ≤ 9223372036854775807 := fun z hz => by
    rw [← hE] at hz
    unfold fL at hz
    obtain ⟨i, _, rfl⟩ := List.mem_map.1 hz
    exact wrap_bounds _
  have hEat : ∀ i, i < P → E[i]? = some (mf s (i : Int)) := fun i hi => by
    rw [← hE]
    unfold fL
    rw [List.getElem?_map, List.getElem?_range hi]
    rfl
  rw [e1, e2, hP] at HC
  have HL4 := Lib.hid (And.intro (okShape_iff.1 hok).1 hP4)
  have HM2 : Hid (∀ W, MW w A l s W → Calls Tryd.prog 11 #[.int .i64 1, .slice A l.length c, .func (.func 25) #[] #[.pointer (some ⟨w.heap.size, 0, none⟩)]] W fun e w' => ∃ A0 c0 A1 c1, e = .returned (.tuple #[.agg #[.int .i64 1, .slice A0 l.length c0, .slice A1 P c1], .int .i64 0]) ∧ AOwn W.heap.size w' ⟨1, l, E⟩ ⟨A0, c0, A1, c1⟩ ∧ Below W.heap.size W w') := Lib.hid (fun W h => (HM.out W h).mono (by
    rintro e w' ⟨v, rfl, hg⟩
    unfold checkE
    rw [hm, hoA] at hg ⊢
    obtain ⟨q, rfl, ho, hb⟩ := hg
    exact ⟨q.A0, q.c0, q.A1, q.c1, by unfold arC; rw [← hEl]; rfl, ho, hb⟩))
  have HEL : Hid (∀ (W : World) (B : Nat) (A0 A1 : Option Addr) (c0 c1 : Nat), AOwn B W ⟨1, l, E⟩ ⟨A0, c0, A1, c1⟩ → AEl W ⟨1, l, E⟩ ⟨A0, c0, A1, c1⟩) := Lib.hid (fun W B A0 A1 c0 c1 h => h.el (by have := HL4.out.1; show l.length ≤ _; omega) (by have := HL4.out.2; show E.length ≤ _; omega) hE1)
  have HCP : Hid (∀ (W : World) (A0 A1 : Option Addr) (c0 c1 : Nat), AEl W ⟨1, l, E⟩ ⟨A0, c0, A1, c1⟩ → Calls Tryd.prog 26 #[.agg #[.int .i64 1, .slice A0 l.length c0, .slice A1 P c1]] W fun e w' => ∃ B0 d0 B1 d1, e = .returned (.agg #[.int .i64 1, .slice B0 l.length d0, .slice B1 P d1]) ∧ AOwn W.heap.size w' ⟨1, l, E⟩ ⟨B0, d0, B1, d1⟩ ∧ Below W.heap.size W w') := Lib.hid (fun W A0 A1 c0 c1 h => by
    have := arcopy_any _ _ W h (by have := HL4.out.1; show l.length ≤ _; omega) (by have := HL4.out.2; show E.length ≤ _; omega)
    unfold arC at this
    simp only [hEl] at this
    refine this.mono ?_
    rintro e w' ⟨v, rfl, q, rfl, ho, hb⟩
    exact ⟨q.A0, q.c0, q.A1, q.c1, by unfold arC; simp only [hEl], ho, hb⟩)
  have HCK : Hid (∀ (W : World) (A0 A1 : Option Addr) (c0 c1 : Nat), AEl W ⟨1, l, E⟩ ⟨A0, c0, A1, c1⟩ → Calls Tryd.prog 20 #[.agg #[.int .i64 1, .slice A0 l.length c0, .slice A1 P c1]] W fun e w' => e = .returned (.int .i64 0) ∧ Below W.heap.size W w') := Lib.hid (fun W A0 A1 c0 c1 h => by
    have := archeck_any _ _ W h
    unfold arC checkE at this
    rw [hoA, if_pos rfl] at this
    simp only [hEl] at this
    exact this)
  have HSM : Hid (∀ (W : World) (k : List Int) (A0 A1 B0 B1 : Option Addr) (c0 c1 d0 d1 : Nat), k.length = P → AEl W ⟨1, l, E⟩ ⟨A0, c0, A1, c1⟩ → AEl W ⟨1, l, k⟩ ⟨B0, d0, B1, d1⟩ → Calls Tryd.prog 24 #[.agg #[.int .i64 1, .slice A0 l.length c0, .slice A1 P c1], .agg #[.int .i64 1, .slice B0 l.length d0, .slice B1 P d1]] W fun e w' => e = .returned (.bool (decide (E = k))) ∧ Below W.heap.size W w') := Lib.hid (fun W k A0 A1 B0 B1 c0 c1 d0 d1 hk h h' => by
    have := arsame_any _ _ _ _ W h h'
    unfold arC at this
    simp only [hEl, hk] at this
    have hs : sameA ⟨1, l, E⟩ ⟨1, l, k⟩ = decide (E = k) := by
      rw [Bool.eq_iff_iff, sameA_iff, decide_eq_true_eq]
      simp
    rw [hs] at this
    exact this)
  have HST : Hid (∀ (W : World) (A0 A1 B0 B1 : Option Addr) (c0 c1 d0 d1 : Nat), AEl W ⟨1, l, E⟩ ⟨A0, c0, A1, c1⟩ → AEl W ⟨1, l, E⟩ ⟨B0, d0, B1, d1⟩ → Calls Tryd.prog 24 #[.agg #[.int .i64 1, .slice A0 l.length c0, .slice A1 P c1], .agg #[.int .i64 1, .slice B0 l.length d0, .slice B1 P d1]] W fun e w' => e = .returned (.bool true) ∧ Below W.heap.size W w') := Lib.hid (fun W A0 A1 B0 B1 c0 c1 d0 d1 h h' => by
    have := HSM.out W E A0 A1 B0 B1 c0 c1 d0 d1 hEl h h'
    rw [decide_eq_true rfl] at this
    exact this)
  have HEl := Lib.hid hEl
  have HEat := Lib.hid hEat
  have HOK := Lib.hid hok
  have HP := Lib.hid hP
  have HT4 : Hid (∀ (w2 w3 w4 w5 : World) (A0 A1 B0 B1 : Option Addr) (c0 c1 d0 d1 : Nat), AOwn w2.heap.size w3 ⟨1, l, E⟩ ⟨A0, c0, A1, c1⟩ → w3.alloc (.cells #[.int .i64 1, .slice A0 l.length c0, .slice A1 P c1] 33) = w4 → AOwn w4.heap.size w5 ⟨1, l, E⟩ ⟨B0, d0, B1, d1⟩ → Below w4.heap.size w4 w5 →
      Two ⟨1, l, E⟩ ⟨1, l, E⟩ ⟨A0, c0, A1, c1⟩ ⟨B0, d0, B1, d1⟩ w3.heap.size w5.heap.size w2.heap.size w4.heap.size (w5.alloc (.cells #[.int .i64 1, .slice B0 l.length d0, .slice B1 P d1] 33))) := Lib.hid (by
    intro w2 w3 w4 w5 A0 A1 B0 B1 c0 c1 d0 d1 o3 hw4 o5 b5
    have ha3 : ∀ B0 d0 B1 d1, arC ⟨1, l, E⟩ ⟨B0, d0, B1, d1⟩ = #[.int .i64 1, .slice B0 l.length d0, .slice B1 P d1] := fun B0 d0 B1 d1 => by unfold arC; simp only [hEl]
    have hx : Blk w4 w3.heap.size 33 (arC ⟨1, l, E⟩ ⟨A0, c0, A1, c1⟩) := by rw [ha3, ← hw4]; exact Blk.new _ _ _
    have o4 : AOwn w2.heap.size w4 ⟨1, l, E⟩ ⟨A0, c0, A1, c1⟩ := by rw [← hw4]; exact o3.stay ((Below.refl _ _).alloc (Nat.le_refl _) _) (Nat.le_refl _)
    have hy := Blk.new w5 33 (arC ⟨1, l, E⟩ ⟨B0, d0, B1, d1⟩)
    have hx6 := (hx.below b5 hx.lt).alloc (.cells #[.int .i64 1, .slice B0 l.length d0, .slice B1 P d1] 33)
    have hb6 := (Below.refl w5.heap.size w5).alloc (Nat.le_refl _) (.cells #[.int .i64 1, .slice B0 l.length d0, .slice B1 P d1] 33)
    have o6 := (o4.stay b5 (Nat.le_refl _)).stay hb6 (Nat.le_refl _)
    have p6 := o5.stay hb6 (Nat.le_refl _)
    rw [ha3] at hy
    exact ⟨hx6, by rw [ha3]; exact hy, o6, p6, fun b hb => (arown_lt o3.o0 b hb).2, fun b hb => (arown_lt o3.o1 b hb).2, by rw [← hw4]; simp, fun b hb => (arown_lt o5.o1 b hb).2⟩)
  have HCELL : Hid (∀ (K : List Int) (A0 A1 B0 B1 : Option Addr) (c0 c1 d0 d1 ga gb b1 b2 : Nat) (W : World), K.length = P → Two ⟨1, l, E⟩ ⟨1, l, K⟩ ⟨A0, c0, A1, c1⟩ ⟨B0, d0, B1, d1⟩ ga gb b1 b2 W → (W.cell? ⟨ga, 0, none⟩ = some (.int .i64 1) ∧ W.cell? ⟨ga, 1, none⟩ = some (.slice A0 l.length c0) ∧ W.cell? ⟨ga, 2, none⟩ = some (.slice A1 P c1)) ∧
      (W.cell? ⟨gb, 0, none⟩ = some (.int .i64 1) ∧ W.cell? ⟨gb, 1, none⟩ = some (.slice B0 l.length d0) ∧ W.cell? ⟨gb, 2, none⟩ = some (.slice B1 P d1))) := Lib.hid (by
    intro K A0 A1 B0 B1 c0 c1 d0 d1 ga gb b1 b2 W hK h
    have h1 := h.xa
    have h2 := h.xb
    unfold arC at h1 h2
    simp only [hEl, hK] at h1 h2
    exact ⟨⟨h1.cell 0, h1.cell 1, h1.cell 2⟩, h2.cell 0, h2.cell 1, h2.cell 2⟩)
  clear ha ht hb1 h1 hok e1 e2 HM p0 p1 hP hP4 hE hEl hm hoA hE1 hEat
  go_enter Tryd.func6, Tryd.ntmps6
  go_upto_region 11 with (first
      | (go_at_call 21; (try rw [hw1]); refine (aralive_any w1 HT.out).mono ?_; rintro e w2 ⟨rfl, b2⟩; have H2 := Lib.hid (H1.out.next b2); clear b2)
      | (go_at_call 7; refine (HC.out w2 H2.out).mono ?_; rintro e _ ⟨rfl, rfl⟩)
      | (go_at_call 11; refine (HM2.out w2 H2.out).mono ?_; rintro e w3 ⟨A0, c0, A1, c1, rfl, o3, b3⟩
         have h3 := H2.out.next b3
         obtain ⟨w4, hw4⟩ : ∃ w4, w3.alloc (.cells #[.int .i64 1, .slice A0 l.length c0, .slice A1 P c1] 33) = w4 := ⟨_, rfl⟩
         have hb4 : Below w3.heap.size w3 w4 := hw4 ▸ (Below.refl _ w3).alloc (Nat.le_refl _) _
         have H4 := Lib.hid (h3.next hb4)
         have hx4 : Blk w4 w3.heap.size 33 #[.int .i64 1, .slice A0 l.length c0, .slice A1 P c1] := hw4 ▸ Blk.new _ _ _
         have x0 := hx4.cell 0
         have x1 := hx4.cell 1
         have x2 := hx4.cell 2
         have O3 := Lib.hid o3
         have O4 := Lib.hid (o3.stay hb4 (Nat.le_refl _))
         clear o3 b3 hb4 h3 hx4)
      | (go_at_call 26; (try rw [hw4]); refine (HCP.out w4 A0 A1 c0 c1 (HEL.out _ _ _ _ _ _ O4.out)).mono ?_; rintro e w5 ⟨B0, d0, B1, d1, rfl, o5, b5⟩
         have h5 := H4.out.next b5
         clear x0 x1 x2
         have t6 := HT4.out w2 w3 w4 w5 A0 A1 B0 B1 c0 c1 d0 d1 O3.out hw4 o5 b5
         have H6 := Lib.hid (h5.next ((Below.refl _ w5).alloc (Nat.le_refl _) (.cells #[.int .i64 1, .slice B0 l.length d0, .slice B1 P d1] 33)))
         obtain ⟨⟨x0, x1, x2⟩, y0, y1, y2⟩ := HCELL.out E A0 A1 B0 B1 c0 c1 d0 d1 w3.heap.size w5.heap.size w2.heap.size w4.heap.size _ HEl.out t6
         have T6 := Lib.hid t6
         clear o5 b5 h5 t6)
      | (go_at_call 20; refine (HCK.out _ A0 A1 c0 c1 (HEL.out _ _ _ _ _ _ T6.out.oa)).mono ?_; rintro e w7 ⟨rfl, b7⟩
         have t7 := T6.out.below b7
         have H7 := Lib.hid (H6.out.next b7)
         clear x0 x1 x2 y0 y1 y2
         obtain ⟨⟨x0, x1, x2⟩, y0, y1, y2⟩ := HCELL.out E A0 A1 B0 B1 c0 c1 d0 d1 w3.heap.size w5.heap.size w2.heap.size w4.heap.size _ HEl.out t7
         have T7 := Lib.hid t7
         clear b7 t7)
      | (go_at_call 24; refine (HST.out _ A0 A1 B0 B1 c0 c1 d0 d1 (HEL.out _ _ _ _ _ _ T7.out.oa) (HEL.out _ _ _ _ _ _ T7.out.ob)).mono ?_; rintro e w8 ⟨rfl, b8⟩
         have t8 := T7.out.below b8
         have H8 := Lib.hid (H7.out.next b8)
         clear x0 x1 x2 y0 y1 y2
         obtain ⟨⟨x0, x1, x2⟩, y0, y1, y2⟩ := HCELL.out E A0 A1 B0 B1 c0 c1 d0 d1 w3.heap.size w5.heap.size w2.heap.size w4.heap.size _ HEl.out t8
         have T8 := Lib.hid t8
         clear b8 t8))
  have HB4 : Hid (w.heap.size < w4.heap.size) := Lib.hid H4.out.sd.lt
  clear HM2 HCP HCK HST HT4 H2 H4 H6 H7 T6 T7 O3 O4
  cases hat : atB l x
  · clear x0 x1 x2 y0 y1 y2
    go_wp2_with (go_at_call 8; refine (arat_any A c l.length l x w8 rfl H8.out.ra hc hn).mono ?_; rintro e w9 ⟨A3, c3, rfl, o9, b9⟩; rw [hat]; have H9 := Lib.hid (H8.out.next b9); clear o9 b9)
    go_ret
    exact ⟨rfl, H9.out.bw⟩
  obtain ⟨N, rfl, hN⟩ : ∃ N : Nat, x = (N : Int) ∧ N < P := by
    have h := hat
    unfold atB at h
    rw [Bool.and_eq_true, Bool.and_eq_true, decide_eq_true_eq, decide_eq_true_eq, HP.out] at h
    obtain ⟨N, rfl⟩ := Int.eq_ofNat_of_zero_le h.2.1
    exact ⟨N, rfl, by omega⟩
  obtain ⟨g1, rfl⟩ : ∃ g, A1 = some ⟨g, 0, none⟩ := by
    rcases T8.out.oa.o1.2 with ⟨_, h0⟩ | ⟨g, cap, cur, e, _⟩
    · have h0 : E.length = 0 := h0
      have := HEl.out; omega
    · injection e with e _ _
      exact ⟨g, e⟩
  obtain ⟨g2, rfl⟩ : ∃ g, B1 = some ⟨g, 0, none⟩ := by
    rcases T8.out.ob.o1.2 with ⟨_, h0⟩ | ⟨g, cap, cur, e, _⟩
    · have h0 : E.length = 0 := h0
      have := HEl.out; omega
    · injection e with e _ _
      exact ⟨g, e⟩
  have HAT := Lib.hid hat
  have hNP : (N : Int) < (P : Int) := by omega
  have HE2 : Hid ((E.map iv)[N]? = some (.int .i64 (wrap64 (s + (N : Int))))) := Lib.hid (by rw [List.getElem?_map, HEat.out N hN]; rfl)
  have HPL : Hid (placeB l (atL l (N : Int)) = true ∧ placeV l (atL l (N : Int)) = (N : Int)) := Lib.hid (at_place hat)
  have hlen := tup_len (at_place hat).1
  have HLN := Lib.hid hlen
  clear hat hlen x0 x1 x2 y0 y1 y2
  go_upto_region 15 with (first
    | (go_at_call 8; refine (arat_any A c l.length l (N : Int) w8 rfl H8.out.ra hc hn).mono ?_; rintro e w9 ⟨A3, c3, rfl, o9, b9⟩; rw [HAT.out]; rw [HLN.out] at o9 ⊢
       have t9 := T8.out.below b9
       have h9 := H8.out.next b9
       have H9 := Lib.hid h9
       have s0 := h9.sd.cell 0
       obtain ⟨⟨x0, x1, x2⟩, y0, y1, y2⟩ := HCELL.out E A0 _ B0 _ c0 c1 d0 d1 w3.heap.size w5.heap.size w2.heap.size w4.heap.size _ HEl.out t9
       obtain ⟨v1, _⟩ := own_at t9.oa.o1 HE2.out
       obtain ⟨v2, k2⟩ := own_at t9.ob.o1 HE2.out
       have O9 := Lib.hid o9
       have T9 := Lib.hid t9
       clear o9 b9 t9 h9)
    | (go_at_call 9; refine (arplace_any A A3 c l.length c3 l.length l (atL l (N : Int)) w9 rfl H9.out.ra hn HLN.out (Reads.of_own O9.out) hn).mono ?_; rintro e _ ⟨rfl, rfl⟩; rw [HPL.out.1, HPL.out.2]))
  go_quiet (fail)
  go_wp2
  obtain ⟨Z, hZ⟩ : ∃ Z, wrap64 (wrap64 (s + (N : Int)) + 1) = Z := ⟨_, rfl⟩
  have hZb : -9223372036854775808 ≤ Z ∧ Z ≤ 9223372036854775807 := hZ ▸ wrap_bounds _
  have hZn : ¬ E = E.set N Z := fun e => by
    have h1 := HEat.out N hN
    have hl := HEl.out
    rw [e, List.getElem?_set_self (by omega)] at h1
    injection h1 with h1
    exact wrap_more (wrap64 (s + (N : Int))) (hZ.trans h1)
  rw [hZ]
  obtain ⟨W10, hW10⟩ : ∃ W10, (w9.drewN nq).setCell ⟨g2, N, none⟩ (.int .i64 Z) = W10 := ⟨_, rfl⟩
  have hD := below_drewN (Below.refl w9.heap.size w9) nq
  have t10 := (T9.out.below hD).set (N := N) rfl Z
  rw [hW10] at t10
  have hg2 := arown_lt T9.out.ob.o1 g2 (by simp [Value.ownBlock])
  have hD4 : Below w4.heap.size w9 (w9.drewN nq) := hD.mono (by omega)
  have hS : Below w4.heap.size w9 W10 := hW10 ▸ hD4.setCell (p := ⟨g2, N, none⟩) hg2.1 (.int .i64 Z)
  have HBW := Lib.hid (H9.out.bw.trans (hS.mono (Nat.le_of_lt HB4.out)))
  have hsd := H9.out.sd.below hS HB4.out
  have HF : Hid (∀ W, Below W10.heap.size W10 W → ((W.cell? ⟨w3.heap.size, 0, none⟩ = some (.int .i64 1) ∧ W.cell? ⟨w3.heap.size, 1, none⟩ = some (.slice A0 l.length c0) ∧ W.cell? ⟨w3.heap.size, 2, none⟩ = some (.slice (some ⟨g1, 0, none⟩) P c1)) ∧
      (W.cell? ⟨w5.heap.size, 0, none⟩ = some (.int .i64 1) ∧ W.cell? ⟨w5.heap.size, 1, none⟩ = some (.slice B0 l.length d0) ∧ W.cell? ⟨w5.heap.size, 2, none⟩ = some (.slice (some ⟨g2, 0, none⟩) P d1))) ∧ W.cell? ⟨g1, N, none⟩ = some (.int .i64 (wrap64 (s + (N : Int)))) ∧ W.cell? ⟨w.heap.size, 0, none⟩ = some (.int .i64 s)) := Lib.hid (fun W hb =>
    ⟨HCELL.out (E.set N Z) A0 _ B0 _ c0 c1 d0 d1 _ _ _ _ W (by rw [List.length_set]; exact HEl.out) (t10.below hb), (own_at (t10.below hb).oa.o1 HE2.out).1, (hsd.below hb hsd.lt).cell 0⟩)
  have HS2 : Hid (∀ W, Below W10.heap.size W10 W → Calls Tryd.prog 24 #[.agg #[.int .i64 1, .slice A0 l.length c0, .slice (some ⟨g1, 0, none⟩) P c1], .agg #[.int .i64 1, .slice B0 l.length d0, .slice (some ⟨g2, 0, none⟩) P d1]] W fun e w' => e = .returned (.bool false) ∧ Below W.heap.size W w') := Lib.hid (fun W hb => by
    have h1 := (t10.below hb).oa
    have h2 := (t10.below hb).ob
    have h3 : AEl W ⟨1, l, E.set N Z⟩ ⟨B0, d0, some ⟨g2, 0, none⟩, d1⟩ := h2.el (by have := HL4.out.1; show l.length ≤ _; omega) (by have := HL4.out.2; show (E.set N Z).length ≤ _; rw [List.length_set]; have := HEl.out; omega) (fun z hz => by
      rcases List.mem_or_eq_of_mem_set hz with h | h
      · exact (HEL.out _ _ _ _ _ _ h1).f1 z h
      · rw [h]; exact hZb)
    have := HSM.out W (E.set N Z) A0 _ B0 _ c0 c1 d0 d1 (by rw [List.length_set]; exact HEl.out) (HEL.out _ _ _ _ _ _ h1) h3
    rw [decide_eq_false hZn] at this
    exact this)
  have HU : GU (fun (i : Nat) (v : Value) (_ : World) => v = .bool false) := fun _ _ _ _ _ h => h
  rw [hW10]
  clear hW10 hD t10 hg2 hD4 hS hsd hZ hZb hZn x0 x1 x2 y0 y1 y2 v1 v2 k2 s0 hw4 hw1 T8 T9 O9 H8 H9
  refine wp_region_done_on (GS _) (GR [4] (fun (_ : Nat) (v : Value) (_ : World) => v = .bool false) [.bool true, .bool true, .agg #[.int .i64 1, .slice A0 l.length c0, .slice (some ⟨g1, 0, none⟩) P c1], .agg #[.int .i64 1, .slice B0 l.length d0, .slice (some ⟨g2, 0, none⟩) P d1], undef, .bool true, .bool true, .bool true, .pointer (some ⟨w3.heap.size, 2, none⟩), .slice (some ⟨g1, 0, none⟩) P c1, .int .i64 (N : Int), .pointer (some ⟨g1, N, none⟩), .int .i64 (wrap64 (s + (N : Int))), .int .i64 s, .int .i64 (N : Int), .int .i64 (wrap64 (s + (N : Int))), .bool true, .bool true, .bool true]) (by kernel_rfl) 125 rfl (by kernel_rfl) ((Below.refl _ _).drew) ?_ ?_
  · intro i hi
    have hi2 : i < 19 := hi
    clear hi
    rcases i with _ | i
    · refine gr_value rfl (by decide) (.bool true) rfl ?_
      intro a8 w8 hb8 ho hn
      have o7 : a8.tmps[7]? = some _ := (ho 7 (by kernel_rfl)).trans rfl
      clear ho hn
      refine ⟨wanted_free rfl, ?_⟩
      go_simp
    rcases i with _ | i
    · refine gr_value rfl (by decide) (.bool true) rfl ?_
      intro a8 w8 hb8 ho hn
      obtain ⟨v107, n107, hq107⟩ := hn 0 107 (by kernel_rfl) rfl
      obtain rfl := hq107.1 (by decide)
      clear ho hn
      refine ⟨wanted_free rfl, ?_⟩
      go_simp
    rcases i with _ | i
    · refine gr_value rfl (by decide) (.agg #[.int .i64 1, .slice A0 l.length c0, .slice (some ⟨g1, 0, none⟩) P c1]) rfl ?_
      intro a8 w8 hb8 ho hn
      have o10 : a8.tmps[10]? = some _ := (ho 10 (by kernel_rfl)).trans rfl
      obtain ⟨v108, n108, hq108⟩ := hn 1 108 (by kernel_rfl) rfl
      obtain rfl := hq108.1 (by decide)
      clear ho hn
      refine ⟨wanted_of 1 108 rfl rfl n108, ?_⟩
      obtain ⟨⟨⟨x0, x1, x2⟩, y0, y1, y2⟩, v1, s0⟩ := HF.out _ hb8
      go_simp
    rcases i with _ | i
    · refine gr_value rfl (by decide) (.agg #[.int .i64 1, .slice B0 l.length d0, .slice (some ⟨g2, 0, none⟩) P d1]) rfl ?_
      intro a8 w8 hb8 ho hn
      have o12 : a8.tmps[12]? = some _ := (ho 12 (by kernel_rfl)).trans rfl
      obtain ⟨v108, n108, hq108⟩ := hn 1 108 (by kernel_rfl) rfl
      obtain rfl := hq108.1 (by decide)
      clear ho hn
      refine ⟨wanted_of 1 108 rfl rfl n108, ?_⟩
      obtain ⟨⟨⟨x0, x1, x2⟩, y0, y1, y2⟩, v1, s0⟩ := HF.out _ hb8
      go_simp
    rcases i with _ | i
    · refine gr_call HU 24 rfl (by decide) ?_
      intro a8 w8 hb8 ho hn
      obtain ⟨v109, n109, hq109⟩ := hn 2 109 (by kernel_rfl) rfl
      obtain rfl := hq109.1 (by decide)
      obtain ⟨v110, n110, hq110⟩ := hn 3 110 (by kernel_rfl) rfl
      obtain rfl := hq110.1 (by decide)
      obtain ⟨v108, n108, hq108⟩ := hn 1 108 (by kernel_rfl) rfl
      obtain rfl := hq108.1 (by decide)
      clear ho hn
      refine ⟨wanted_of 1 108 rfl rfl n108, ?_⟩
      refine ⟨#[.agg #[.int .i64 1, .slice A0 l.length c0, .slice (some ⟨g1, 0, none⟩) P c1], .agg #[.int .i64 1, .slice B0 l.length d0, .slice (some ⟨g2, 0, none⟩) P d1]], (by go_simp), (HS2.out _ hb8).mono ?_⟩
      rintro e w9 ⟨rfl, b9⟩
      exact ⟨_, rfl, b9, rfl⟩
    rcases i with _ | i
    · refine gr_value rfl (by decide) (.bool true) rfl ?_
      intro a8 w8 hb8 ho hn
      obtain ⟨v111, n111, hq111⟩ := hn 4 111 (by kernel_rfl) rfl
      have hv111 := hq111.2 (by decide)
      obtain ⟨v108, n108, hq108⟩ := hn 1 108 (by kernel_rfl) rfl
      obtain rfl := hq108.1 (by decide)
      clear ho hn
      refine ⟨wanted_of 1 108 rfl rfl n108, ?_⟩
      obtain rfl : v111 = .bool false := hv111
      go_simp
    rcases i with _ | i
    · refine gr_value rfl (by decide) (.bool true) rfl ?_
      intro a8 w8 hb8 ho hn
      obtain ⟨v108, n108, hq108⟩ := hn 1 108 (by kernel_rfl) rfl
      obtain rfl := hq108.1 (by decide)
      obtain ⟨v112, n112, hq112⟩ := hn 5 112 (by kernel_rfl) rfl
      obtain rfl := hq112.1 (by decide)
      clear ho hn
      refine ⟨wanted_free rfl, ?_⟩
      go_simp
    rcases i with _ | i
    · refine gr_value rfl (by decide) (.bool true) rfl ?_
      intro a8 w8 hb8 ho hn
      obtain ⟨v113, n113, hq113⟩ := hn 6 113 (by kernel_rfl) rfl
      obtain rfl := hq113.1 (by decide)
      clear ho hn
      refine ⟨wanted_free rfl, ?_⟩
      go_simp
    rcases i with _ | i
    · refine gr_value rfl (by decide) (.pointer (some ⟨w3.heap.size, 2, none⟩)) rfl ?_
      intro a8 w8 hb8 ho hn
      have o10 : a8.tmps[10]? = some _ := (ho 10 (by kernel_rfl)).trans rfl
      obtain ⟨v114, n114, hq114⟩ := hn 7 114 (by kernel_rfl) rfl
      obtain rfl := hq114.1 (by decide)
      clear ho hn
      refine ⟨wanted_of 7 114 rfl rfl n114, ?_⟩
      go_simp
    rcases i with _ | i
    · refine gr_value rfl (by decide) (.slice (some ⟨g1, 0, none⟩) P c1) rfl ?_
      intro a8 w8 hb8 ho hn
      obtain ⟨v115, n115, hq115⟩ := hn 8 115 (by kernel_rfl) rfl
      obtain rfl := hq115.1 (by decide)
      obtain ⟨v114, n114, hq114⟩ := hn 7 114 (by kernel_rfl) rfl
      obtain rfl := hq114.1 (by decide)
      clear ho hn
      refine ⟨wanted_of 7 114 rfl rfl n114, ?_⟩
      obtain ⟨⟨⟨x0, x1, x2⟩, y0, y1, y2⟩, v1, s0⟩ := HF.out _ hb8
      go_simp
    rcases i with _ | i
    · refine gr_value rfl (by decide) (.int .i64 (N : Int)) rfl ?_
      intro a8 w8 hb8 ho hn
      have o15 : a8.tmps[15]? = some _ := (ho 15 (by kernel_rfl)).trans rfl
      obtain ⟨v114, n114, hq114⟩ := hn 7 114 (by kernel_rfl) rfl
      obtain rfl := hq114.1 (by decide)
      clear ho hn
      refine ⟨wanted_of 7 114 rfl rfl n114, ?_⟩
      go_simp
    rcases i with _ | i
    · refine gr_value rfl (by decide) (.pointer (some ⟨g1, N, none⟩)) rfl ?_
      intro a8 w8 hb8 ho hn
      obtain ⟨v116, n116, hq116⟩ := hn 9 116 (by kernel_rfl) rfl
      obtain rfl := hq116.1 (by decide)
      obtain ⟨v117, n117, hq117⟩ := hn 10 117 (by kernel_rfl) rfl
      obtain rfl := hq117.1 (by decide)
      obtain ⟨v114, n114, hq114⟩ := hn 7 114 (by kernel_rfl) rfl
      obtain rfl := hq114.1 (by decide)
      clear ho hn
      refine ⟨wanted_of 7 114 rfl rfl n114, ?_⟩
      go_simp
    rcases i with _ | i
    · refine gr_value rfl (by decide) (.int .i64 (wrap64 (s + (N : Int)))) rfl ?_
      intro a8 w8 hb8 ho hn
      obtain ⟨v118, n118, hq118⟩ := hn 11 118 (by kernel_rfl) rfl
      obtain rfl := hq118.1 (by decide)
      obtain ⟨v114, n114, hq114⟩ := hn 7 114 (by kernel_rfl) rfl
      obtain rfl := hq114.1 (by decide)
      clear ho hn
      refine ⟨wanted_of 7 114 rfl rfl n114, ?_⟩
      obtain ⟨⟨⟨x0, x1, x2⟩, y0, y1, y2⟩, v1, s0⟩ := HF.out _ hb8
      go_simp
    rcases i with _ | i
    · refine gr_value rfl (by decide) (.int .i64 s) rfl ?_
      intro a8 w8 hb8 ho hn
      have o4 : a8.tmps[4]? = some _ := (ho 4 (by kernel_rfl)).trans rfl
      obtain ⟨v114, n114, hq114⟩ := hn 7 114 (by kernel_rfl) rfl
      obtain rfl := hq114.1 (by decide)
      clear ho hn
      refine ⟨wanted_of 7 114 rfl rfl n114, ?_⟩
      obtain ⟨⟨⟨x0, x1, x2⟩, y0, y1, y2⟩, v1, s0⟩ := HF.out _ hb8
      go_simp
    rcases i with _ | i
    · refine gr_value rfl (by decide) (.int .i64 (N : Int)) rfl ?_
      intro a8 w8 hb8 ho hn
      have o2 : a8.tmps[2]? = some _ := (ho 2 (by kernel_rfl)).trans rfl
      obtain ⟨v114, n114, hq114⟩ := hn 7 114 (by kernel_rfl) rfl
      obtain rfl := hq114.1 (by decide)
      clear ho hn
      refine ⟨wanted_of 7 114 rfl rfl n114, ?_⟩
      go_simp
    rcases i with _ | i
    · refine gr_value rfl (by decide) (.int .i64 (wrap64 (s + (N : Int)))) rfl ?_
      intro a8 w8 hb8 ho hn
      obtain ⟨v120, n120, hq120⟩ := hn 13 120 (by kernel_rfl) rfl
      obtain rfl := hq120.1 (by decide)
      obtain ⟨v121, n121, hq121⟩ := hn 14 121 (by kernel_rfl) rfl
      obtain rfl := hq121.1 (by decide)
      obtain ⟨v114, n114, hq114⟩ := hn 7 114 (by kernel_rfl) rfl
      obtain rfl := hq114.1 (by decide)
      clear ho hn
      refine ⟨wanted_of 7 114 rfl rfl n114, ?_⟩
      go_simp
      exact IntWalk.i64_left _
    rcases i with _ | i
    · refine gr_value rfl (by decide) (.bool true) rfl ?_
      intro a8 w8 hb8 ho hn
      obtain ⟨v119, n119, hq119⟩ := hn 12 119 (by kernel_rfl) rfl
      obtain rfl := hq119.1 (by decide)
      obtain ⟨v122, n122, hq122⟩ := hn 15 122 (by kernel_rfl) rfl
      obtain rfl := hq122.1 (by decide)
      obtain ⟨v114, n114, hq114⟩ := hn 7 114 (by kernel_rfl) rfl
      obtain rfl := hq114.1 (by decide)
      clear ho hn
      refine ⟨wanted_of 7 114 rfl rfl n114, ?_⟩
      go_simp
    rcases i with _ | i
    · refine gr_value rfl (by decide) (.bool true) rfl ?_
      intro a8 w8 hb8 ho hn
      obtain ⟨v114, n114, hq114⟩ := hn 7 114 (by kernel_rfl) rfl
      obtain rfl := hq114.1 (by decide)
      obtain ⟨v123, n123, hq123⟩ := hn 16 123 (by kernel_rfl) rfl
      obtain rfl := hq123.1 (by decide)
      clear ho hn
      refine ⟨wanted_free rfl, ?_⟩
      go_simp
    rcases i with _ | i
    · refine gr_value rfl (by decide) (.bool true) rfl ?_
      intro a8 w8 hb8 ho hn
      obtain ⟨v124, n124, hq124⟩ := hn 17 124 (by kernel_rfl) rfl
      obtain rfl := hq124.1 (by decide)
      clear ho hn
      refine ⟨wanted_free rfl, ?_⟩
      go_simp
    omega
  · intro dn fv w5 hb5 hR5 hall
    have h6 : fv 6 = _ := (hR5 18 6 rfl).1 (by decide)
    simp only [putAll, List.foldl_cons, List.foldl_nil, Act.put, List.setIfInBounds_toArray, List.set_cons_succ, List.set_cons_zero, h6, List.getD_cons_zero, List.getD_cons_succ]
    clear hR5 hall
    go_wp2
    go_ret
    exact ⟨rfl, HBW.out.trans (hb5.mono HBW.out.size)⟩

theorem call {W : World} (A : Option Addr) (c : Nat) (l : List Int) (h : IArg W A c l) (s x : Int) (ht : Tab W) :
    Calls Tryd.prog 6 #[.slice A l.length c, .int .i64 s, .int .i64 x] W fun e w' => e = .returned (.bool true) ∧ Below W.heap.size W w' :=
  walk A c l s x W ht h.reads h.cap (by have := h.cap; have := h.big; omega)
end Go.Proofs.YtiiapljjopcabaaDoor.arrayMade

/-
  Layer 13 (mold): the laws' is and matrix.
  Layer 13 (mold): the laws' alive.
-/
import Derived.Test.YtenpohnccnlngaaMoCatE
import Derived.Test.YtenpohnccnlngaaArSame
import Derived.Test.YtenpohnccnlngaaMoTake
import Derived.Test.YtenpohnccnlngaaArAlive
import Derived.Test.YtenpohnccnlngaaDone
namespace Go.Proofs.Ytenpohnccnlngaa.mo
open Go.RowKit Go.Proofs.Ytenpohnccnlngaa.arr

set_option maxRecDepth 100000 in
set_option maxHeartbeats 4000000 in
theorem l13is_any (a b : AV) (p q : AP) (e : Int) (w : World) (ha : AEl w a p) (hb : AEl w b q) :
    Calls Try.prog 20 #[.agg (arC a p), .int .i64 e, .agg (arC b q)] w fun r w' => r = .returned (.bool (decide (e = 0) && sameA a b)) ∧ Below w.heap.size w w' := by
  have hx := (Blk.new w 25 (arC a p)).alloc (.cells (arC b q) 25)
  have hy := Blk.new (w.alloc (.cells (arC a p) 25)) 25 (arC b q)
  have hb2 := mobelow2 (w := w) (.cells (arC a p) 25) (.cells (arC b q) 25)
  have hS := arsame_any a b p q _ (ha.below hb2) (hb.below hb2)
  rw [World.size_alloc] at hy
  have hLC : arC a p = #[.int .i64 a.kind, .slice p.A0 a.sh.length p.c0, .slice p.A1 a.el.length p.c1] := rfl
  have hAC : arC b q = #[.int .i64 b.kind, .slice q.A0 b.sh.length q.c0, .slice q.A1 b.el.length q.c1] := rfl
  obtain ⟨w1, hw1⟩ : ∃ w1, (w.alloc (.cells (arC a p) 25)).alloc (.cells (arC b q) 25) = w1 := ⟨_, rfl⟩
  rw [hw1] at hx hy hb2 hS
  rw [hLC] at hx hS hw1
  rw [hAC] at hy hS hw1
  have x0 := hx.cell 0
  have x1 := hx.cell 1
  have x2 := hx.cell 2
  have y0 := hy.cell 0
  have y1 := hy.cell 1
  have y2 := hy.cell 2
  have HS := Lib.hid hS
  have HB := Lib.hid hb2
  generalize sameA a b = s at *
  rw [hLC, hAC]
  clear ha hb hx hy hb2 hS hLC hAC
  by_cases h0 : e = 0
  · subst h0
    go_enter Try.func20, Try.ntmps20
    go_wp2_with (go_at_call 66; (try rw [hw1]); refine HS.out.mono ?_; rintro e w2 ⟨rfl, b2⟩)
    go_ret
    exact ⟨rfl, bon HB.out b2⟩
  · have h1 : (e == 0) = false := by simp [h0]
    rw [decide_eq_false h0, Bool.false_and]
    clear HS h0
    go_enter Try.func20, Try.ntmps20
    go_wp2
    go_ret
    exact ⟨rfl, HB.out⟩
theorem reads_blk {W : World} {g n : Nat} {t : TypeId} {xs : List Value} (h : Blk W g t xs.toArray) (hn : xs.length = n) : Reads W W.heap.size 1 (some ⟨g, 0, none⟩) n xs := by
  subst hn
  refine ⟨by rw [Nat.mul_one], fun _ => ⟨_, rfl, h.lt, fun j u hu => ?_⟩⟩
  rw [Addr.add_mid, Nat.zero_add, h.cell j, List.getElem?_toArray]
  exact hu
/-- An array that a call answers. -/
def GiveX (a : AV) (w : World) (e : Ending) (w' : World) : Prop := ∃ p, e = .returned (.agg (arC a p)) ∧ AEl w' a p ∧ Cap a p ∧ Below w.heap.size w w'
theorem l13scalar (n : Int) (h0 : -9223372036854775808 ≤ n) (h1 : n ≤ 9223372036854775807) (w : World) : Calls Try.prog 16 #[.int .i64 n] w (GiveX ⟨1, [], [n]⟩ w) :=
  (arscalar_any n w).mono (by
    rintro e w' ⟨v, rfl, p, rfl, o, b⟩
    exact ⟨p, rfl, o.el (by simp) (by simp) (fun z hz => by rw [List.mem_singleton] at hz; omega), Cap.of o, b⟩)
theorem l13vector (l : List Int) (hl : l.length ≤ 1000000) (hf : ∀ z ∈ l, -9223372036854775808 ≤ z ∧ z ≤ 9223372036854775807) (A : Option Addr) (n c : Nat) (w : World) (hn : l.length = n) (hr : Reads w w.heap.size 1 A n (l.map iv)) : Calls Try.prog 18 #[.slice A n c] w (GiveX ⟨1, [(l.length : Int)], l⟩ w) := by
  subst hn
  refine (arvector_any A l.length c l w rfl hr hl).mono ?_
  rintro e w' ⟨v, rfl, p, rfl, o, b⟩
  exact ⟨p, rfl, o.el (by simp) (by show l.length ≤ _; omega) hf, Cap.of o, b⟩
set_option maxRecDepth 100000 in
set_option maxHeartbeats 4000000 in
theorem l13matrix (l : List Int) (k : Nat) (hk : 0 < k) (hk2 : k ≤ 1000000) (hl : l.length ≤ 1000000) (hf : ∀ z ∈ l, -9223372036854775808 ≤ z ∧ z ≤ 9223372036854775807) (A : Option Addr) (n c : Nat) (w : World) (hn : l.length = n) (hr : Reads w w.heap.size 1 A n (l.map iv)) :
    Calls Try.prog 19 #[.int .i64 (k : Int), .slice A n c] w (GiveX ⟨1, [((l.length / k : Nat) : Int), (k : Int)], l⟩ w) := by
  have hx := Blk.new w 25 #[.int .i64 0, .slice none 0 0, .slice none 0 0]
  have hb := albel w (.cells #[.int .i64 0, .slice none 0 0, .slice none 0 0] 25)
  have hd : (n : Int).tdiv (k : Int) = ((n / k : Nat) : Int) := (Int.ofNat_tdiv n k).symm
  have hdle : n / k ≤ n := Nat.div_le_self n k
  rw [hn] at hl ⊢
  have HN := Lib.hid hn
  have HR := Lib.hid hr
  obtain ⟨d, hdd⟩ : ∃ d, n / k = d := ⟨_, rfl⟩
  rw [hdd] at hd hdle ⊢
  have wd : IntKind.i64.wrap (d : Int) = (d : Int) := by rw [IntKind.wrap_i64]; omega
  have hk0 : ¬ k = 0 := by omega
  obtain ⟨w1, hw1⟩ : ∃ w1, w.alloc (.cells #[.int .i64 0, .slice none 0 0, .slice none 0 0] 25) = w1 := ⟨_, rfl⟩
  rw [hw1] at hx hb
  have hx1 := hx.alloc (.cells #[.int .i64 (d : Int), .int .i64 (k : Int)] 3)
  have hb1 := hb.alloc hb.size (.cells #[.int .i64 (d : Int), .int .i64 (k : Int)] 3)
  have ho := Blk.new w1 3 #[.int .i64 (d : Int), .int .i64 (k : Int)]
  have hsz : w1.heap.size = w.heap.size + 1 := by rw [← hw1]; simp
  have x0 := hx1.cell 0
  have x1 := hx1.cell 1
  have x2 := hx1.cell 2
  have f0 := hx1.frozen 0
  have f1 := hx1.frozen 1
  have f2 := hx1.frozen 2
  have HX := Lib.hid hx1
  have HB := Lib.hid hb1
  have HO := Lib.hid ho
  have HSZ := Lib.hid hsz
  clear hx hb hx1 hb1 ho hr hn hsz hdd
  go_enter Try.func19, Try.ntmps19
  go_wp2
  refine bodyPost_ret (results_arr rfl rfl (arblk_three _ _ _ HX.out)) rfl ?_
  have hk3 := arkeep_three (w1.alloc (.cells #[.int .i64 (d : Int), .int .i64 (k : Int)] 3)) w.heap.size (.int .i64 1) (.slice (some ⟨w1.heap.size, 0, none⟩) 2 2) (.slice A n c)
  have hfin := HB.out.trans (hk3.below HB.out.size (fun i hi e => by omega))
  have ho := hk3.blk HO.out (by have := HSZ.out; omega)
  refine ⟨⟨some ⟨w1.heap.size, 0, none⟩, 2, A, c⟩, (by unfold arC; rw [HN.out]; rfl), ⟨reads_blk ho rfl, ?_, (by simp), (by show l.length ≤ _; rw [HN.out]; omega), hf⟩, ⟨Nat.le_refl _, fun h => (by cases h)⟩, hfin⟩
  show Reads _ _ 1 A l.length (l.map iv)
  rw [HN.out]
  exact (HR.out.below hfin).more hfin.size
theorem l13is_yes (a : AV) (p q : AP) (w : World) (ha : AEl w a p) (hb : AEl w a q) :
    Calls Try.prog 20 #[.agg (arC a p), .int .i64 0, .agg (arC a q)] w fun r w' => r = .returned (.bool true) ∧ Below w.heap.size w w' := by
  have h := l13is_any a a p q 0 w ha hb
  rw [sameA_iff.2 rfl] at h
  exact h
/-- An array that a call answers with an error. -/
def GiveT (X : AV) (E : Int) (w : World) (e : Ending) (w' : World) : Prop := ∃ p, e = .returned (.tuple #[.agg (arC X p), .int .i64 E]) ∧ AEl w' X p ∧ Cap X p ∧ Below w.heap.size w w'
def fineA (X : AV) : Bool := decide (X.sh.length ≤ 1000000) && (decide (X.el.length ≤ 1000000) && X.el.all (fun z => decide (-9223372036854775808 ≤ z) && decide (z ≤ 9223372036854775807)))
theorem GiveE.t {X Y : AV} {E F : Int} {w w' : World} {e : Ending} (h : GiveE X E w e w') (hX : X = Y) (hE : E = F) (hf : fineA Y = true) : GiveT Y F w e w' := by
  subst hX
  subst hE
  unfold fineA at hf
  rw [Bool.and_eq_true, Bool.and_eq_true, decide_eq_true_eq, decide_eq_true_eq, List.all_eq_true] at hf
  obtain ⟨f1, f2, f3⟩ := hf
  obtain ⟨p, rfl, o, b⟩ := h
  exact ⟨p, rfl, o.el (by omega) (by omega) (fun z hz => by
    have := f3 z hz
    rw [Bool.and_eq_true, decide_eq_true_eq, decide_eq_true_eq] at this
    exact this), Cap.of o, b⟩
theorem blk_up {W W' : World} {g : Nat} {t : TypeId} {cs : Array Value} (h : Blk W g t cs) (hb : Below W.heap.size W W') : Blk W' g t cs := h.below hb h.lt
/-- What is known of each value that a region makes. -/
def lookU : List (Nat × (Value → World → Prop)) → Nat → Value → World → Prop
  | [], _, _, _ => True
  | (k, P) :: l, j, v, W => if j = k then P v W else lookU l j v W
def stk (P : Value → World → Prop) : Prop := ∀ v W W', Below W.heap.size W W' → P v W → P v W'
theorem lookU_stay : ∀ {l : List (Nat × (Value → World → Prop))}, (∀ x ∈ l, stk x.2) → GU (lookU l)
  | [], _ => fun _ _ _ _ _ h => h
  | (k, P) :: l, hl => fun j v W W' hb h => by
    unfold lookU at *
    by_cases hk : j = k
    · rw [if_pos hk] at h ⊢
      exact hl (k, P) (List.mem_cons_self ..) v W W' hb h
    · rw [if_neg hk] at h ⊢
      exact lookU_stay (fun x hx => hl x (List.mem_cons_of_mem _ hx)) j v W W' hb h
def sl (n : Nat) (xs : Array Value) : Value → World → Prop := fun v W => ∃ g, v = .slice (some ⟨g, 0, none⟩) n n ∧ Blk W g 2 xs
def xa (a : AV) : Value → World → Prop := fun v W => ∃ p, v = .agg (arC a p) ∧ AEl W a p ∧ Cap a p
def xt (a : AV) (E : Int) : Value → World → Prop := fun v W => ∃ p, v = .tuple #[.agg (arC a p), .int .i64 E] ∧ AEl W a p ∧ Cap a p
def xv (x : Value) : Value → World → Prop := fun v _ => v = x
theorem sl_stk (n : Nat) (xs : Array Value) : stk (sl n xs) := fun v W W' hb h => by
  obtain ⟨g, h1, h2⟩ := h
  exact ⟨g, h1, blk_up h2 hb⟩
theorem xa_stk (a : AV) : stk (xa a) := fun v W W' hb h => by
  obtain ⟨p, h1, h2, h3⟩ := h
  exact ⟨p, h1, h2.below hb, h3⟩
theorem xt_stk (a : AV) (E : Int) : stk (xt a E) := fun v W W' hb h => by
  obtain ⟨p, h1, h2, h3⟩ := h
  exact ⟨p, h1, h2.below hb, h3⟩
theorem xv_stk (x : Value) : stk (xv x) := fun _ _ _ _ h => h
end Go.Proofs.Ytenpohnccnlngaa.mo

namespace Go.Proofs.Ytenpohnccnlngaa.mo
open Go.RowKit Go.Proofs.Ytenpohnccnlngaa.arr

theorem lit_at {w W : World} {g : Nat} {t : TypeId} {xs : List Value} (hW : W = w.alloc (.cells xs.toArray t)) (hg : g = w.heap.size) : Reads W W.heap.size 1 (some ⟨g, 0, none⟩) xs.length xs := by
  subst hW
  subst hg
  exact lit_reads w t xs
theorem al_r1 (p q : AP) (W : World) (h : AEl W ⟨1, [2], [2, 3]⟩ p) (k : AEl W ⟨1, [2], [1, 2]⟩ q) : Calls Try.prog 15 #[.agg (arC ⟨1, [2], [2, 3]⟩ p), .agg (arC ⟨1, [2], [1, 2]⟩ q)] W (GiveT ⟨1, [2, 3], [1, 2, 1, 2, 1, 2]⟩ 0 W) :=
  (moreshape_any _ _ p q W h k).mono (fun e w' g => g.t (by kernel_rfl) (by kernel_rfl) (by kernel_rfl))
theorem al_r2 (p q : AP) (W : World) (h : AEl W ⟨1, [], [-3]⟩ p) (k : AEl W ⟨1, [2], [1, 2]⟩ q) : Calls Try.prog 21 #[.agg (arC ⟨1, [], [-3]⟩ p), .agg (arC ⟨1, [2], [1, 2]⟩ q)] W (GiveT ⟨1, [3], [0, 1, 2]⟩ 0 W) :=
  (motake_any _ _ p q W h k).mono (fun e w' g => g.t (by kernel_rfl) (by kernel_rfl) (by kernel_rfl))
theorem al_r3 (p q : AP) (W : World) (h : AEl W ⟨1, [2], [1, 2]⟩ p) (k : AEl W ⟨1, [], [3]⟩ q) (c : Cap ⟨1, [2], [1, 2]⟩ p) (d : Cap ⟨1, [], [3]⟩ q) : Calls Try.prog 23 #[.agg (arC ⟨1, [2], [1, 2]⟩ p), .agg (arC ⟨1, [], [3]⟩ q)] W (GiveT ⟨1, [3], [1, 2, 3]⟩ 0 W) :=
  (mocat_any _ _ p q W h k c d).mono (fun e w' g => g.t (by kernel_rfl) (by kernel_rfl) (by kernel_rfl))
set_option maxRecDepth 100000 in
set_option maxHeartbeats 8000000 in
theorem l13alive (w : World) : Calls Try.prog 30 #[] w fun e w' => e = .returned (.bool true) ∧ Below w.heap.size w w' := by
  have HU : GU (lookU [(2, sl 6 #[.int .i64 1, .int .i64 2, .int .i64 1, .int .i64 2, .int .i64 1, .int .i64 2]), (3, xa ⟨1, [2, 3], [1, 2, 1, 2, 1, 2]⟩), (4, xv (.bool true)), (8, sl 3 #[.int .i64 0, .int .i64 1, .int .i64 2]), (9, xa ⟨1, [3], [0, 1, 2]⟩), (10, xv (.bool true)), (15, sl 3 #[.int .i64 1, .int .i64 2, .int .i64 3]), (16, xa ⟨1, [3], [1, 2, 3]⟩), (17, xv (.bool true))]) := lookU_stay (by
    intro x hx
    simp only [List.mem_cons, List.not_mem_nil, or_false] at hx
    rcases hx with rfl | rfl | rfl | rfl | rfl | rfl | rfl | rfl | rfl <;> first | exact sl_stk _ _ | exact xa_stk _ | exact xv_stk _)
  go_enter Try.func30, Try.ntmps30
  go_upto_region 4 with (first
    | ((have l0 := Z8.out; clear l0)
       go_at_call 23
       refine (al_r3 p7 p8 _ (by (first | with_reducible exact Hid.out (by assumption) | ((with_reducible refine AEl.below ?_ (albel _ _)); (first | with_reducible exact Hid.out (by assumption) | ((with_reducible refine AEl.below ?_ (albel _ _)); (first | with_reducible exact Hid.out (by assumption) | ((with_reducible refine AEl.below ?_ (albel _ _)); (first | with_reducible exact Hid.out (by assumption) | ((with_reducible refine AEl.below ?_ (albel _ _)); (first | with_reducible exact Hid.out (by assumption))))))))))) (by (first | with_reducible exact Hid.out (by assumption) | ((with_reducible refine AEl.below ?_ (albel _ _)); (first | with_reducible exact Hid.out (by assumption) | ((with_reducible refine AEl.below ?_ (albel _ _)); (first | with_reducible exact Hid.out (by assumption) | ((with_reducible refine AEl.below ?_ (albel _ _)); (first | with_reducible exact Hid.out (by assumption) | ((with_reducible refine AEl.below ?_ (albel _ _)); (first | with_reducible exact Hid.out (by assumption))))))))))) C7.out C8.out).mono ?_
       rintro e w9 ⟨p9, rfl, h9, c9, b9⟩
       have BW : Hid (Below w.heap.size w w9) := Lib.hid (bon (by (first | with_reducible exact Hid.out (by assumption) | with_reducible exact Below.refl _ _ | ((with_reducible refine bon ?_ (albel _ _)); (first | with_reducible exact Hid.out (by assumption) | with_reducible exact Below.refl _ _ | ((with_reducible refine bon ?_ (albel _ _)); (first | with_reducible exact Hid.out (by assumption) | with_reducible exact Below.refl _ _ | ((with_reducible refine bon ?_ (albel _ _)); (first | with_reducible exact Hid.out (by assumption) | with_reducible exact Below.refl _ _ | ((with_reducible refine bon ?_ (albel _ _)); (first | with_reducible exact Hid.out (by assumption) | with_reducible exact Below.refl _ _)))))))))) b9)
       have E3 := Lib.hid (AEl.below (a := ⟨1, [2, 3], [1, 2, 1, 2, 1, 2]⟩) (p := p3) (by (first | with_reducible exact Hid.out (by assumption) | ((with_reducible refine AEl.below ?_ (albel _ _)); (first | with_reducible exact Hid.out (by assumption) | ((with_reducible refine AEl.below ?_ (albel _ _)); (first | with_reducible exact Hid.out (by assumption) | ((with_reducible refine AEl.below ?_ (albel _ _)); (first | with_reducible exact Hid.out (by assumption) | ((with_reducible refine AEl.below ?_ (albel _ _)); (first | with_reducible exact Hid.out (by assumption))))))))))) b9)
       have E6 := Lib.hid (AEl.below (a := ⟨1, [3], [0, 1, 2]⟩) (p := p6) (by (first | with_reducible exact Hid.out (by assumption) | ((with_reducible refine AEl.below ?_ (albel _ _)); (first | with_reducible exact Hid.out (by assumption) | ((with_reducible refine AEl.below ?_ (albel _ _)); (first | with_reducible exact Hid.out (by assumption) | ((with_reducible refine AEl.below ?_ (albel _ _)); (first | with_reducible exact Hid.out (by assumption) | ((with_reducible refine AEl.below ?_ (albel _ _)); (first | with_reducible exact Hid.out (by assumption))))))))))) b9)
       have X1 := Lib.hid (blk_up (g := w3.heap.size) (t := 25) (cs := #[.int .i64 1, .slice p3.A0 2 p3.c0, .slice p3.A1 6 p3.c1]) (by (first | with_reducible exact Hid.out (by assumption) | with_reducible exact Blk.new _ _ _ | ((with_reducible refine Blk.alloc ?_ _); (first | with_reducible exact Hid.out (by assumption) | with_reducible exact Blk.new _ _ _ | ((with_reducible refine Blk.alloc ?_ _); (first | with_reducible exact Hid.out (by assumption) | with_reducible exact Blk.new _ _ _ | ((with_reducible refine Blk.alloc ?_ _); (first | with_reducible exact Hid.out (by assumption) | with_reducible exact Blk.new _ _ _ | ((with_reducible refine Blk.alloc ?_ _); (first | with_reducible exact Hid.out (by assumption) | with_reducible exact Blk.new _ _ _)))))))))) b9)
       have X2 := Lib.hid (blk_up (g := w6.heap.size) (t := 25) (cs := #[.int .i64 1, .slice p6.A0 1 p6.c0, .slice p6.A1 3 p6.c1]) (by (first | with_reducible exact Hid.out (by assumption) | with_reducible exact Blk.new _ _ _ | ((with_reducible refine Blk.alloc ?_ _); (first | with_reducible exact Hid.out (by assumption) | with_reducible exact Blk.new _ _ _ | ((with_reducible refine Blk.alloc ?_ _); (first | with_reducible exact Hid.out (by assumption) | with_reducible exact Blk.new _ _ _ | ((with_reducible refine Blk.alloc ?_ _); (first | with_reducible exact Hid.out (by assumption) | with_reducible exact Blk.new _ _ _ | ((with_reducible refine Blk.alloc ?_ _); (first | with_reducible exact Hid.out (by assumption) | with_reducible exact Blk.new _ _ _)))))))))) b9)
       have E9 : Hid (AEl w9 ⟨1, [3], [1, 2, 3]⟩ p9) := Lib.hid h9
       have C9 : Hid (Cap ⟨1, [3], [1, 2, 3]⟩ p9) := Lib.hid c9
       have Z9 : Hid True := Lib.hid trivial
       rw [show arC ⟨1, [3], [1, 2, 3]⟩ p9 = #[.int .i64 1, .slice p9.A0 1 p9.c0, .slice p9.A1 3 p9.c1] from rfl]
       clear h9 c9 b9)
    | ((have l0 := Z7.out; clear l0)
       go_at_call 16
       refine (l13scalar 3 (by decide) (by decide) _).mono ?_
       rintro e w8 ⟨p8, rfl, h8, c8, b8⟩
       have BW : Hid (Below w.heap.size w w8) := Lib.hid (bon (by (first | with_reducible exact Hid.out (by assumption) | with_reducible exact Below.refl _ _ | ((with_reducible refine bon ?_ (albel _ _)); (first | with_reducible exact Hid.out (by assumption) | with_reducible exact Below.refl _ _ | ((with_reducible refine bon ?_ (albel _ _)); (first | with_reducible exact Hid.out (by assumption) | with_reducible exact Below.refl _ _ | ((with_reducible refine bon ?_ (albel _ _)); (first | with_reducible exact Hid.out (by assumption) | with_reducible exact Below.refl _ _ | ((with_reducible refine bon ?_ (albel _ _)); (first | with_reducible exact Hid.out (by assumption) | with_reducible exact Below.refl _ _)))))))))) b8)
       have E3 := Lib.hid (AEl.below (a := ⟨1, [2, 3], [1, 2, 1, 2, 1, 2]⟩) (p := p3) (by (first | with_reducible exact Hid.out (by assumption) | ((with_reducible refine AEl.below ?_ (albel _ _)); (first | with_reducible exact Hid.out (by assumption) | ((with_reducible refine AEl.below ?_ (albel _ _)); (first | with_reducible exact Hid.out (by assumption) | ((with_reducible refine AEl.below ?_ (albel _ _)); (first | with_reducible exact Hid.out (by assumption) | ((with_reducible refine AEl.below ?_ (albel _ _)); (first | with_reducible exact Hid.out (by assumption))))))))))) b8)
       have E6 := Lib.hid (AEl.below (a := ⟨1, [3], [0, 1, 2]⟩) (p := p6) (by (first | with_reducible exact Hid.out (by assumption) | ((with_reducible refine AEl.below ?_ (albel _ _)); (first | with_reducible exact Hid.out (by assumption) | ((with_reducible refine AEl.below ?_ (albel _ _)); (first | with_reducible exact Hid.out (by assumption) | ((with_reducible refine AEl.below ?_ (albel _ _)); (first | with_reducible exact Hid.out (by assumption) | ((with_reducible refine AEl.below ?_ (albel _ _)); (first | with_reducible exact Hid.out (by assumption))))))))))) b8)
       have E7 := Lib.hid (AEl.below (a := ⟨1, [2], [1, 2]⟩) (p := p7) (by (first | with_reducible exact Hid.out (by assumption) | ((with_reducible refine AEl.below ?_ (albel _ _)); (first | with_reducible exact Hid.out (by assumption) | ((with_reducible refine AEl.below ?_ (albel _ _)); (first | with_reducible exact Hid.out (by assumption) | ((with_reducible refine AEl.below ?_ (albel _ _)); (first | with_reducible exact Hid.out (by assumption) | ((with_reducible refine AEl.below ?_ (albel _ _)); (first | with_reducible exact Hid.out (by assumption))))))))))) b8)
       have X1 := Lib.hid (blk_up (g := w3.heap.size) (t := 25) (cs := #[.int .i64 1, .slice p3.A0 2 p3.c0, .slice p3.A1 6 p3.c1]) (by (first | with_reducible exact Hid.out (by assumption) | with_reducible exact Blk.new _ _ _ | ((with_reducible refine Blk.alloc ?_ _); (first | with_reducible exact Hid.out (by assumption) | with_reducible exact Blk.new _ _ _ | ((with_reducible refine Blk.alloc ?_ _); (first | with_reducible exact Hid.out (by assumption) | with_reducible exact Blk.new _ _ _ | ((with_reducible refine Blk.alloc ?_ _); (first | with_reducible exact Hid.out (by assumption) | with_reducible exact Blk.new _ _ _ | ((with_reducible refine Blk.alloc ?_ _); (first | with_reducible exact Hid.out (by assumption) | with_reducible exact Blk.new _ _ _)))))))))) b8)
       have X2 := Lib.hid (blk_up (g := w6.heap.size) (t := 25) (cs := #[.int .i64 1, .slice p6.A0 1 p6.c0, .slice p6.A1 3 p6.c1]) (by (first | with_reducible exact Hid.out (by assumption) | with_reducible exact Blk.new _ _ _ | ((with_reducible refine Blk.alloc ?_ _); (first | with_reducible exact Hid.out (by assumption) | with_reducible exact Blk.new _ _ _ | ((with_reducible refine Blk.alloc ?_ _); (first | with_reducible exact Hid.out (by assumption) | with_reducible exact Blk.new _ _ _ | ((with_reducible refine Blk.alloc ?_ _); (first | with_reducible exact Hid.out (by assumption) | with_reducible exact Blk.new _ _ _ | ((with_reducible refine Blk.alloc ?_ _); (first | with_reducible exact Hid.out (by assumption) | with_reducible exact Blk.new _ _ _)))))))))) b8)
       have E8 : Hid (AEl w8 ⟨1, [], [3]⟩ p8) := Lib.hid h8
       have C8 : Hid (Cap ⟨1, [], [3]⟩ p8) := Lib.hid c8
       have Z8 : Hid True := Lib.hid trivial
       clear h8 c8 b8)
    | ((have l0 := Z6.out; clear l0)
       go_at_call 18
       refine (l13vector [1, 2] (by decide) (by decide) _ 2 2 _ rfl (lit_at (xs := [.int .i64 1, .int .i64 2]) rfl (by simp))).mono ?_
       rintro e w7 ⟨p7, rfl, h7, c7, b7⟩
       have BW : Hid (Below w.heap.size w w7) := Lib.hid (bon (by (first | with_reducible exact Hid.out (by assumption) | with_reducible exact Below.refl _ _ | ((with_reducible refine bon ?_ (albel _ _)); (first | with_reducible exact Hid.out (by assumption) | with_reducible exact Below.refl _ _ | ((with_reducible refine bon ?_ (albel _ _)); (first | with_reducible exact Hid.out (by assumption) | with_reducible exact Below.refl _ _ | ((with_reducible refine bon ?_ (albel _ _)); (first | with_reducible exact Hid.out (by assumption) | with_reducible exact Below.refl _ _ | ((with_reducible refine bon ?_ (albel _ _)); (first | with_reducible exact Hid.out (by assumption) | with_reducible exact Below.refl _ _)))))))))) b7)
       have E3 := Lib.hid (AEl.below (a := ⟨1, [2, 3], [1, 2, 1, 2, 1, 2]⟩) (p := p3) (by (first | with_reducible exact Hid.out (by assumption) | ((with_reducible refine AEl.below ?_ (albel _ _)); (first | with_reducible exact Hid.out (by assumption) | ((with_reducible refine AEl.below ?_ (albel _ _)); (first | with_reducible exact Hid.out (by assumption) | ((with_reducible refine AEl.below ?_ (albel _ _)); (first | with_reducible exact Hid.out (by assumption) | ((with_reducible refine AEl.below ?_ (albel _ _)); (first | with_reducible exact Hid.out (by assumption))))))))))) b7)
       have E6 := Lib.hid (AEl.below (a := ⟨1, [3], [0, 1, 2]⟩) (p := p6) (by (first | with_reducible exact Hid.out (by assumption) | ((with_reducible refine AEl.below ?_ (albel _ _)); (first | with_reducible exact Hid.out (by assumption) | ((with_reducible refine AEl.below ?_ (albel _ _)); (first | with_reducible exact Hid.out (by assumption) | ((with_reducible refine AEl.below ?_ (albel _ _)); (first | with_reducible exact Hid.out (by assumption) | ((with_reducible refine AEl.below ?_ (albel _ _)); (first | with_reducible exact Hid.out (by assumption))))))))))) b7)
       have X1 := Lib.hid (blk_up (g := w3.heap.size) (t := 25) (cs := #[.int .i64 1, .slice p3.A0 2 p3.c0, .slice p3.A1 6 p3.c1]) (by (first | with_reducible exact Hid.out (by assumption) | with_reducible exact Blk.new _ _ _ | ((with_reducible refine Blk.alloc ?_ _); (first | with_reducible exact Hid.out (by assumption) | with_reducible exact Blk.new _ _ _ | ((with_reducible refine Blk.alloc ?_ _); (first | with_reducible exact Hid.out (by assumption) | with_reducible exact Blk.new _ _ _ | ((with_reducible refine Blk.alloc ?_ _); (first | with_reducible exact Hid.out (by assumption) | with_reducible exact Blk.new _ _ _ | ((with_reducible refine Blk.alloc ?_ _); (first | with_reducible exact Hid.out (by assumption) | with_reducible exact Blk.new _ _ _)))))))))) b7)
       have X2 := Lib.hid (blk_up (g := w6.heap.size) (t := 25) (cs := #[.int .i64 1, .slice p6.A0 1 p6.c0, .slice p6.A1 3 p6.c1]) (by (first | with_reducible exact Hid.out (by assumption) | with_reducible exact Blk.new _ _ _ | ((with_reducible refine Blk.alloc ?_ _); (first | with_reducible exact Hid.out (by assumption) | with_reducible exact Blk.new _ _ _ | ((with_reducible refine Blk.alloc ?_ _); (first | with_reducible exact Hid.out (by assumption) | with_reducible exact Blk.new _ _ _ | ((with_reducible refine Blk.alloc ?_ _); (first | with_reducible exact Hid.out (by assumption) | with_reducible exact Blk.new _ _ _ | ((with_reducible refine Blk.alloc ?_ _); (first | with_reducible exact Hid.out (by assumption) | with_reducible exact Blk.new _ _ _)))))))))) b7)
       have E7 : Hid (AEl w7 ⟨1, [2], [1, 2]⟩ p7) := Lib.hid h7
       have C7 : Hid (Cap ⟨1, [2], [1, 2]⟩ p7) := Lib.hid c7
       have Z7 : Hid True := Lib.hid trivial
       clear h7 c7 b7)
    | ((have l0 := Z5.out; clear l0)
       go_at_call 21
       refine (al_r2 p4 p5 _ (by (first | with_reducible exact Hid.out (by assumption) | ((with_reducible refine AEl.below ?_ (albel _ _)); (first | with_reducible exact Hid.out (by assumption) | ((with_reducible refine AEl.below ?_ (albel _ _)); (first | with_reducible exact Hid.out (by assumption) | ((with_reducible refine AEl.below ?_ (albel _ _)); (first | with_reducible exact Hid.out (by assumption) | ((with_reducible refine AEl.below ?_ (albel _ _)); (first | with_reducible exact Hid.out (by assumption))))))))))) (by (first | with_reducible exact Hid.out (by assumption) | ((with_reducible refine AEl.below ?_ (albel _ _)); (first | with_reducible exact Hid.out (by assumption) | ((with_reducible refine AEl.below ?_ (albel _ _)); (first | with_reducible exact Hid.out (by assumption) | ((with_reducible refine AEl.below ?_ (albel _ _)); (first | with_reducible exact Hid.out (by assumption) | ((with_reducible refine AEl.below ?_ (albel _ _)); (first | with_reducible exact Hid.out (by assumption)))))))))))).mono ?_
       rintro e w6 ⟨p6, rfl, h6, c6, b6⟩
       have BW : Hid (Below w.heap.size w w6) := Lib.hid (bon (by (first | with_reducible exact Hid.out (by assumption) | with_reducible exact Below.refl _ _ | ((with_reducible refine bon ?_ (albel _ _)); (first | with_reducible exact Hid.out (by assumption) | with_reducible exact Below.refl _ _ | ((with_reducible refine bon ?_ (albel _ _)); (first | with_reducible exact Hid.out (by assumption) | with_reducible exact Below.refl _ _ | ((with_reducible refine bon ?_ (albel _ _)); (first | with_reducible exact Hid.out (by assumption) | with_reducible exact Below.refl _ _ | ((with_reducible refine bon ?_ (albel _ _)); (first | with_reducible exact Hid.out (by assumption) | with_reducible exact Below.refl _ _)))))))))) b6)
       have E3 := Lib.hid (AEl.below (a := ⟨1, [2, 3], [1, 2, 1, 2, 1, 2]⟩) (p := p3) (by (first | with_reducible exact Hid.out (by assumption) | ((with_reducible refine AEl.below ?_ (albel _ _)); (first | with_reducible exact Hid.out (by assumption) | ((with_reducible refine AEl.below ?_ (albel _ _)); (first | with_reducible exact Hid.out (by assumption) | ((with_reducible refine AEl.below ?_ (albel _ _)); (first | with_reducible exact Hid.out (by assumption) | ((with_reducible refine AEl.below ?_ (albel _ _)); (first | with_reducible exact Hid.out (by assumption))))))))))) b6)
       have X1 := Lib.hid (blk_up (g := w3.heap.size) (t := 25) (cs := #[.int .i64 1, .slice p3.A0 2 p3.c0, .slice p3.A1 6 p3.c1]) (by (first | with_reducible exact Hid.out (by assumption) | with_reducible exact Blk.new _ _ _ | ((with_reducible refine Blk.alloc ?_ _); (first | with_reducible exact Hid.out (by assumption) | with_reducible exact Blk.new _ _ _ | ((with_reducible refine Blk.alloc ?_ _); (first | with_reducible exact Hid.out (by assumption) | with_reducible exact Blk.new _ _ _ | ((with_reducible refine Blk.alloc ?_ _); (first | with_reducible exact Hid.out (by assumption) | with_reducible exact Blk.new _ _ _ | ((with_reducible refine Blk.alloc ?_ _); (first | with_reducible exact Hid.out (by assumption) | with_reducible exact Blk.new _ _ _)))))))))) b6)
       have E6 : Hid (AEl w6 ⟨1, [3], [0, 1, 2]⟩ p6) := Lib.hid h6
       have C6 : Hid (Cap ⟨1, [3], [0, 1, 2]⟩ p6) := Lib.hid c6
       have Z6 : Hid True := Lib.hid trivial
       rw [show arC ⟨1, [3], [0, 1, 2]⟩ p6 = #[.int .i64 1, .slice p6.A0 1 p6.c0, .slice p6.A1 3 p6.c1] from rfl]
       clear h6 c6 b6)
    | ((have l0 := Z4.out; clear l0)
       go_at_call 18
       refine (l13vector [1, 2] (by decide) (by decide) _ 2 2 _ rfl (lit_at (xs := [.int .i64 1, .int .i64 2]) rfl (by simp))).mono ?_
       rintro e w5 ⟨p5, rfl, h5, c5, b5⟩
       have BW : Hid (Below w.heap.size w w5) := Lib.hid (bon (by (first | with_reducible exact Hid.out (by assumption) | with_reducible exact Below.refl _ _ | ((with_reducible refine bon ?_ (albel _ _)); (first | with_reducible exact Hid.out (by assumption) | with_reducible exact Below.refl _ _ | ((with_reducible refine bon ?_ (albel _ _)); (first | with_reducible exact Hid.out (by assumption) | with_reducible exact Below.refl _ _ | ((with_reducible refine bon ?_ (albel _ _)); (first | with_reducible exact Hid.out (by assumption) | with_reducible exact Below.refl _ _ | ((with_reducible refine bon ?_ (albel _ _)); (first | with_reducible exact Hid.out (by assumption) | with_reducible exact Below.refl _ _)))))))))) b5)
       have E3 := Lib.hid (AEl.below (a := ⟨1, [2, 3], [1, 2, 1, 2, 1, 2]⟩) (p := p3) (by (first | with_reducible exact Hid.out (by assumption) | ((with_reducible refine AEl.below ?_ (albel _ _)); (first | with_reducible exact Hid.out (by assumption) | ((with_reducible refine AEl.below ?_ (albel _ _)); (first | with_reducible exact Hid.out (by assumption) | ((with_reducible refine AEl.below ?_ (albel _ _)); (first | with_reducible exact Hid.out (by assumption) | ((with_reducible refine AEl.below ?_ (albel _ _)); (first | with_reducible exact Hid.out (by assumption))))))))))) b5)
       have E4 := Lib.hid (AEl.below (a := ⟨1, [], [-3]⟩) (p := p4) (by (first | with_reducible exact Hid.out (by assumption) | ((with_reducible refine AEl.below ?_ (albel _ _)); (first | with_reducible exact Hid.out (by assumption) | ((with_reducible refine AEl.below ?_ (albel _ _)); (first | with_reducible exact Hid.out (by assumption) | ((with_reducible refine AEl.below ?_ (albel _ _)); (first | with_reducible exact Hid.out (by assumption) | ((with_reducible refine AEl.below ?_ (albel _ _)); (first | with_reducible exact Hid.out (by assumption))))))))))) b5)
       have X1 := Lib.hid (blk_up (g := w3.heap.size) (t := 25) (cs := #[.int .i64 1, .slice p3.A0 2 p3.c0, .slice p3.A1 6 p3.c1]) (by (first | with_reducible exact Hid.out (by assumption) | with_reducible exact Blk.new _ _ _ | ((with_reducible refine Blk.alloc ?_ _); (first | with_reducible exact Hid.out (by assumption) | with_reducible exact Blk.new _ _ _ | ((with_reducible refine Blk.alloc ?_ _); (first | with_reducible exact Hid.out (by assumption) | with_reducible exact Blk.new _ _ _ | ((with_reducible refine Blk.alloc ?_ _); (first | with_reducible exact Hid.out (by assumption) | with_reducible exact Blk.new _ _ _ | ((with_reducible refine Blk.alloc ?_ _); (first | with_reducible exact Hid.out (by assumption) | with_reducible exact Blk.new _ _ _)))))))))) b5)
       have E5 : Hid (AEl w5 ⟨1, [2], [1, 2]⟩ p5) := Lib.hid h5
       have C5 : Hid (Cap ⟨1, [2], [1, 2]⟩ p5) := Lib.hid c5
       have Z5 : Hid True := Lib.hid trivial
       clear h5 c5 b5)
    | ((have l0 := Z3.out; clear l0)
       go_at_call 16
       refine (l13scalar (-3) (by decide) (by decide) _).mono ?_
       rintro e w4 ⟨p4, rfl, h4, c4, b4⟩
       have BW : Hid (Below w.heap.size w w4) := Lib.hid (bon (by (first | with_reducible exact Hid.out (by assumption) | with_reducible exact Below.refl _ _ | ((with_reducible refine bon ?_ (albel _ _)); (first | with_reducible exact Hid.out (by assumption) | with_reducible exact Below.refl _ _ | ((with_reducible refine bon ?_ (albel _ _)); (first | with_reducible exact Hid.out (by assumption) | with_reducible exact Below.refl _ _ | ((with_reducible refine bon ?_ (albel _ _)); (first | with_reducible exact Hid.out (by assumption) | with_reducible exact Below.refl _ _ | ((with_reducible refine bon ?_ (albel _ _)); (first | with_reducible exact Hid.out (by assumption) | with_reducible exact Below.refl _ _)))))))))) b4)
       have E3 := Lib.hid (AEl.below (a := ⟨1, [2, 3], [1, 2, 1, 2, 1, 2]⟩) (p := p3) (by (first | with_reducible exact Hid.out (by assumption) | ((with_reducible refine AEl.below ?_ (albel _ _)); (first | with_reducible exact Hid.out (by assumption) | ((with_reducible refine AEl.below ?_ (albel _ _)); (first | with_reducible exact Hid.out (by assumption) | ((with_reducible refine AEl.below ?_ (albel _ _)); (first | with_reducible exact Hid.out (by assumption) | ((with_reducible refine AEl.below ?_ (albel _ _)); (first | with_reducible exact Hid.out (by assumption))))))))))) b4)
       have X1 := Lib.hid (blk_up (g := w3.heap.size) (t := 25) (cs := #[.int .i64 1, .slice p3.A0 2 p3.c0, .slice p3.A1 6 p3.c1]) (by (first | with_reducible exact Hid.out (by assumption) | with_reducible exact Blk.new _ _ _ | ((with_reducible refine Blk.alloc ?_ _); (first | with_reducible exact Hid.out (by assumption) | with_reducible exact Blk.new _ _ _ | ((with_reducible refine Blk.alloc ?_ _); (first | with_reducible exact Hid.out (by assumption) | with_reducible exact Blk.new _ _ _ | ((with_reducible refine Blk.alloc ?_ _); (first | with_reducible exact Hid.out (by assumption) | with_reducible exact Blk.new _ _ _ | ((with_reducible refine Blk.alloc ?_ _); (first | with_reducible exact Hid.out (by assumption) | with_reducible exact Blk.new _ _ _)))))))))) b4)
       have E4 : Hid (AEl w4 ⟨1, [], [-3]⟩ p4) := Lib.hid h4
       have C4 : Hid (Cap ⟨1, [], [-3]⟩ p4) := Lib.hid c4
       have Z4 : Hid True := Lib.hid trivial
       clear h4 c4 b4)
    | ((have l0 := Z2.out; clear l0)
       go_at_call 15
       refine (al_r1 p1 p2 _ (by (first | with_reducible exact Hid.out (by assumption) | ((with_reducible refine AEl.below ?_ (albel _ _)); (first | with_reducible exact Hid.out (by assumption) | ((with_reducible refine AEl.below ?_ (albel _ _)); (first | with_reducible exact Hid.out (by assumption) | ((with_reducible refine AEl.below ?_ (albel _ _)); (first | with_reducible exact Hid.out (by assumption) | ((with_reducible refine AEl.below ?_ (albel _ _)); (first | with_reducible exact Hid.out (by assumption))))))))))) (by (first | with_reducible exact Hid.out (by assumption) | ((with_reducible refine AEl.below ?_ (albel _ _)); (first | with_reducible exact Hid.out (by assumption) | ((with_reducible refine AEl.below ?_ (albel _ _)); (first | with_reducible exact Hid.out (by assumption) | ((with_reducible refine AEl.below ?_ (albel _ _)); (first | with_reducible exact Hid.out (by assumption) | ((with_reducible refine AEl.below ?_ (albel _ _)); (first | with_reducible exact Hid.out (by assumption)))))))))))).mono ?_
       rintro e w3 ⟨p3, rfl, h3, c3, b3⟩
       have BW : Hid (Below w.heap.size w w3) := Lib.hid (bon (by (first | with_reducible exact Hid.out (by assumption) | with_reducible exact Below.refl _ _ | ((with_reducible refine bon ?_ (albel _ _)); (first | with_reducible exact Hid.out (by assumption) | with_reducible exact Below.refl _ _ | ((with_reducible refine bon ?_ (albel _ _)); (first | with_reducible exact Hid.out (by assumption) | with_reducible exact Below.refl _ _ | ((with_reducible refine bon ?_ (albel _ _)); (first | with_reducible exact Hid.out (by assumption) | with_reducible exact Below.refl _ _ | ((with_reducible refine bon ?_ (albel _ _)); (first | with_reducible exact Hid.out (by assumption) | with_reducible exact Below.refl _ _)))))))))) b3)
       have E1 := Lib.hid (AEl.below (a := ⟨1, [2], [2, 3]⟩) (p := p1) (by (first | with_reducible exact Hid.out (by assumption) | ((with_reducible refine AEl.below ?_ (albel _ _)); (first | with_reducible exact Hid.out (by assumption) | ((with_reducible refine AEl.below ?_ (albel _ _)); (first | with_reducible exact Hid.out (by assumption) | ((with_reducible refine AEl.below ?_ (albel _ _)); (first | with_reducible exact Hid.out (by assumption) | ((with_reducible refine AEl.below ?_ (albel _ _)); (first | with_reducible exact Hid.out (by assumption))))))))))) b3)
       have E2 := Lib.hid (AEl.below (a := ⟨1, [2], [1, 2]⟩) (p := p2) (by (first | with_reducible exact Hid.out (by assumption) | ((with_reducible refine AEl.below ?_ (albel _ _)); (first | with_reducible exact Hid.out (by assumption) | ((with_reducible refine AEl.below ?_ (albel _ _)); (first | with_reducible exact Hid.out (by assumption) | ((with_reducible refine AEl.below ?_ (albel _ _)); (first | with_reducible exact Hid.out (by assumption) | ((with_reducible refine AEl.below ?_ (albel _ _)); (first | with_reducible exact Hid.out (by assumption))))))))))) b3)
       have E3 : Hid (AEl w3 ⟨1, [2, 3], [1, 2, 1, 2, 1, 2]⟩ p3) := Lib.hid h3
       have C3 : Hid (Cap ⟨1, [2, 3], [1, 2, 1, 2, 1, 2]⟩ p3) := Lib.hid c3
       have Z3 : Hid True := Lib.hid trivial
       rw [show arC ⟨1, [2, 3], [1, 2, 1, 2, 1, 2]⟩ p3 = #[.int .i64 1, .slice p3.A0 2 p3.c0, .slice p3.A1 6 p3.c1] from rfl]
       clear h3 c3 b3)
    | ((have l0 := Z1.out; clear l0)
       go_at_call 18
       refine (l13vector [1, 2] (by decide) (by decide) _ 2 2 _ rfl (lit_at (xs := [.int .i64 1, .int .i64 2]) rfl (by simp))).mono ?_
       rintro e w2 ⟨p2, rfl, h2, c2, b2⟩
       have BW : Hid (Below w.heap.size w w2) := Lib.hid (bon (by (first | with_reducible exact Hid.out (by assumption) | with_reducible exact Below.refl _ _ | ((with_reducible refine bon ?_ (albel _ _)); (first | with_reducible exact Hid.out (by assumption) | with_reducible exact Below.refl _ _ | ((with_reducible refine bon ?_ (albel _ _)); (first | with_reducible exact Hid.out (by assumption) | with_reducible exact Below.refl _ _ | ((with_reducible refine bon ?_ (albel _ _)); (first | with_reducible exact Hid.out (by assumption) | with_reducible exact Below.refl _ _ | ((with_reducible refine bon ?_ (albel _ _)); (first | with_reducible exact Hid.out (by assumption) | with_reducible exact Below.refl _ _)))))))))) b2)
       have E1 := Lib.hid (AEl.below (a := ⟨1, [2], [2, 3]⟩) (p := p1) (by (first | with_reducible exact Hid.out (by assumption) | ((with_reducible refine AEl.below ?_ (albel _ _)); (first | with_reducible exact Hid.out (by assumption) | ((with_reducible refine AEl.below ?_ (albel _ _)); (first | with_reducible exact Hid.out (by assumption) | ((with_reducible refine AEl.below ?_ (albel _ _)); (first | with_reducible exact Hid.out (by assumption) | ((with_reducible refine AEl.below ?_ (albel _ _)); (first | with_reducible exact Hid.out (by assumption))))))))))) b2)
       have E2 : Hid (AEl w2 ⟨1, [2], [1, 2]⟩ p2) := Lib.hid h2
       have C2 : Hid (Cap ⟨1, [2], [1, 2]⟩ p2) := Lib.hid c2
       have Z2 : Hid True := Lib.hid trivial
       clear h2 c2 b2)
    | (go_at_call 18
       refine (l13vector [2, 3] (by decide) (by decide) _ 2 2 _ rfl (lit_at (xs := [.int .i64 2, .int .i64 3]) rfl (by simp))).mono ?_
       rintro e w1 ⟨p1, rfl, h1, c1, b1⟩
       have BW : Hid (Below w.heap.size w w1) := Lib.hid (bon (by (first | with_reducible exact Hid.out (by assumption) | with_reducible exact Below.refl _ _ | ((with_reducible refine bon ?_ (albel _ _)); (first | with_reducible exact Hid.out (by assumption) | with_reducible exact Below.refl _ _ | ((with_reducible refine bon ?_ (albel _ _)); (first | with_reducible exact Hid.out (by assumption) | with_reducible exact Below.refl _ _ | ((with_reducible refine bon ?_ (albel _ _)); (first | with_reducible exact Hid.out (by assumption) | with_reducible exact Below.refl _ _ | ((with_reducible refine bon ?_ (albel _ _)); (first | with_reducible exact Hid.out (by assumption) | with_reducible exact Below.refl _ _)))))))))) b1)
       have E1 : Hid (AEl w1 ⟨1, [2], [2, 3]⟩ p1) := Lib.hid h1
       have C1 : Hid (Cap ⟨1, [2], [2, 3]⟩ p1) := Lib.hid c1
       have Z1 : Hid True := Lib.hid trivial
       clear h1 c1 b1))
  obtain ⟨w0, hw0⟩ : ∃ w0, w9.alloc (.cells #[.int .i64 1, .slice p9.A0 1 p9.c0, .slice p9.A1 3 p9.c1] 25) = w0 := ⟨_, rfl⟩
  have K1 : Blk w0 w3.heap.size 25 #[.int .i64 1, .slice p3.A0 2 p3.c0, .slice p3.A1 6 p3.c1] := by rw [← hw0]; (first | with_reducible exact Hid.out (by assumption) | with_reducible exact Blk.new _ _ _ | ((with_reducible refine Blk.alloc ?_ _); (first | with_reducible exact Hid.out (by assumption) | with_reducible exact Blk.new _ _ _ | ((with_reducible refine Blk.alloc ?_ _); (first | with_reducible exact Hid.out (by assumption) | with_reducible exact Blk.new _ _ _ | ((with_reducible refine Blk.alloc ?_ _); (first | with_reducible exact Hid.out (by assumption) | with_reducible exact Blk.new _ _ _ | ((with_reducible refine Blk.alloc ?_ _); (first | with_reducible exact Hid.out (by assumption) | with_reducible exact Blk.new _ _ _)))))))))
  have HE1 : Hid (∀ W, Below w0.heap.size w0 W → AEl W ⟨1, [2, 3], [1, 2, 1, 2, 1, 2]⟩ p3) := Lib.hid (fun W hb => AEl.below (a := ⟨1, [2, 3], [1, 2, 1, 2, 1, 2]⟩) (p := p3) (by rw [← hw0]; (first | with_reducible exact Hid.out (by assumption) | ((with_reducible refine AEl.below ?_ (albel _ _)); (first | with_reducible exact Hid.out (by assumption) | ((with_reducible refine AEl.below ?_ (albel _ _)); (first | with_reducible exact Hid.out (by assumption) | ((with_reducible refine AEl.below ?_ (albel _ _)); (first | with_reducible exact Hid.out (by assumption) | ((with_reducible refine AEl.below ?_ (albel _ _)); (first | with_reducible exact Hid.out (by assumption))))))))))) hb)
  have HX1 : Hid (∀ W, Below w0.heap.size w0 W → W.cell? ⟨w3.heap.size, 0, none⟩ = some (.int .i64 1) ∧ W.cell? ⟨w3.heap.size, 1, none⟩ = some (.slice p3.A0 2 p3.c0) ∧ W.cell? ⟨w3.heap.size, 2, none⟩ = some (.slice p3.A1 6 p3.c1)) := Lib.hid (fun W hb => ⟨(blk_up K1 hb).cell 0, (blk_up K1 hb).cell 1, (blk_up K1 hb).cell 2⟩)
  have K2 : Blk w0 w6.heap.size 25 #[.int .i64 1, .slice p6.A0 1 p6.c0, .slice p6.A1 3 p6.c1] := by rw [← hw0]; (first | with_reducible exact Hid.out (by assumption) | with_reducible exact Blk.new _ _ _ | ((with_reducible refine Blk.alloc ?_ _); (first | with_reducible exact Hid.out (by assumption) | with_reducible exact Blk.new _ _ _ | ((with_reducible refine Blk.alloc ?_ _); (first | with_reducible exact Hid.out (by assumption) | with_reducible exact Blk.new _ _ _ | ((with_reducible refine Blk.alloc ?_ _); (first | with_reducible exact Hid.out (by assumption) | with_reducible exact Blk.new _ _ _ | ((with_reducible refine Blk.alloc ?_ _); (first | with_reducible exact Hid.out (by assumption) | with_reducible exact Blk.new _ _ _)))))))))
  have HE2 : Hid (∀ W, Below w0.heap.size w0 W → AEl W ⟨1, [3], [0, 1, 2]⟩ p6) := Lib.hid (fun W hb => AEl.below (a := ⟨1, [3], [0, 1, 2]⟩) (p := p6) (by rw [← hw0]; (first | with_reducible exact Hid.out (by assumption) | ((with_reducible refine AEl.below ?_ (albel _ _)); (first | with_reducible exact Hid.out (by assumption) | ((with_reducible refine AEl.below ?_ (albel _ _)); (first | with_reducible exact Hid.out (by assumption) | ((with_reducible refine AEl.below ?_ (albel _ _)); (first | with_reducible exact Hid.out (by assumption) | ((with_reducible refine AEl.below ?_ (albel _ _)); (first | with_reducible exact Hid.out (by assumption))))))))))) hb)
  have HX2 : Hid (∀ W, Below w0.heap.size w0 W → W.cell? ⟨w6.heap.size, 0, none⟩ = some (.int .i64 1) ∧ W.cell? ⟨w6.heap.size, 1, none⟩ = some (.slice p6.A0 1 p6.c0) ∧ W.cell? ⟨w6.heap.size, 2, none⟩ = some (.slice p6.A1 3 p6.c1)) := Lib.hid (fun W hb => ⟨(blk_up K2 hb).cell 0, (blk_up K2 hb).cell 1, (blk_up K2 hb).cell 2⟩)
  have K3 : Blk w0 w9.heap.size 25 #[.int .i64 1, .slice p9.A0 1 p9.c0, .slice p9.A1 3 p9.c1] := by rw [← hw0]; (first | with_reducible exact Hid.out (by assumption) | with_reducible exact Blk.new _ _ _ | ((with_reducible refine Blk.alloc ?_ _); (first | with_reducible exact Hid.out (by assumption) | with_reducible exact Blk.new _ _ _ | ((with_reducible refine Blk.alloc ?_ _); (first | with_reducible exact Hid.out (by assumption) | with_reducible exact Blk.new _ _ _ | ((with_reducible refine Blk.alloc ?_ _); (first | with_reducible exact Hid.out (by assumption) | with_reducible exact Blk.new _ _ _ | ((with_reducible refine Blk.alloc ?_ _); (first | with_reducible exact Hid.out (by assumption) | with_reducible exact Blk.new _ _ _)))))))))
  have HE3 : Hid (∀ W, Below w0.heap.size w0 W → AEl W ⟨1, [3], [1, 2, 3]⟩ p9) := Lib.hid (fun W hb => AEl.below (a := ⟨1, [3], [1, 2, 3]⟩) (p := p9) (by rw [← hw0]; (first | with_reducible exact Hid.out (by assumption) | ((with_reducible refine AEl.below ?_ (albel _ _)); (first | with_reducible exact Hid.out (by assumption) | ((with_reducible refine AEl.below ?_ (albel _ _)); (first | with_reducible exact Hid.out (by assumption) | ((with_reducible refine AEl.below ?_ (albel _ _)); (first | with_reducible exact Hid.out (by assumption) | ((with_reducible refine AEl.below ?_ (albel _ _)); (first | with_reducible exact Hid.out (by assumption))))))))))) hb)
  have HX3 : Hid (∀ W, Below w0.heap.size w0 W → W.cell? ⟨w9.heap.size, 0, none⟩ = some (.int .i64 1) ∧ W.cell? ⟨w9.heap.size, 1, none⟩ = some (.slice p9.A0 1 p9.c0) ∧ W.cell? ⟨w9.heap.size, 2, none⟩ = some (.slice p9.A1 3 p9.c1)) := Lib.hid (fun W hb => ⟨(blk_up K3 hb).cell 0, (blk_up K3 hb).cell 1, (blk_up K3 hb).cell 2⟩)
  have BW : Hid (Below w.heap.size w w0) := Lib.hid (by rw [← hw0]; (first | with_reducible exact Hid.out (by assumption) | with_reducible exact Below.refl _ _ | ((with_reducible refine bon ?_ (albel _ _)); (first | with_reducible exact Hid.out (by assumption) | with_reducible exact Below.refl _ _ | ((with_reducible refine bon ?_ (albel _ _)); (first | with_reducible exact Hid.out (by assumption) | with_reducible exact Below.refl _ _ | ((with_reducible refine bon ?_ (albel _ _)); (first | with_reducible exact Hid.out (by assumption) | with_reducible exact Below.refl _ _ | ((with_reducible refine bon ?_ (albel _ _)); (first | with_reducible exact Hid.out (by assumption) | with_reducible exact Below.refl _ _))))))))))
  rw [hw0]
  clear K1 K2 K3
  refine wp_region_done_on (GS _) (GR [2, 3, 4, 8, 9, 10, 15, 16, 17] (lookU [(2, sl 6 #[.int .i64 1, .int .i64 2, .int .i64 1, .int .i64 2, .int .i64 1, .int .i64 2]), (3, xa ⟨1, [2, 3], [1, 2, 1, 2, 1, 2]⟩), (4, xv (.bool true)), (8, sl 3 #[.int .i64 0, .int .i64 1, .int .i64 2]), (9, xa ⟨1, [3], [0, 1, 2]⟩), (10, xv (.bool true)), (15, sl 3 #[.int .i64 1, .int .i64 2, .int .i64 3]), (16, xa ⟨1, [3], [1, 2, 3]⟩), (17, xv (.bool true))]) [.agg #[.int .i64 1, .slice p3.A0 2 p3.c0, .slice p3.A1 6 p3.c1], .int .i64 0, undef, undef, undef, .bool true, .agg #[.int .i64 1, .slice p6.A0 1 p6.c0, .slice p6.A1 3 p6.c1], .int .i64 0, undef, undef, undef, .bool true, .bool true, .agg #[.int .i64 1, .slice p9.A0 1 p9.c0, .slice p9.A1 3 p9.c1], .int .i64 0, undef, undef, undef, .bool true, .bool true]) (by kernel_rfl) 48 rfl (by kernel_rfl) ((Below.refl _ _).drew) ?_ ?_
  · intro i hi
    have hi2 : i < 20 := hi
    clear hi
    rcases i with _ | i
    · refine gr_value rfl (by decide) (.agg #[.int .i64 1, .slice p3.A0 2 p3.c0, .slice p3.A1 6 p3.c1]) rfl ?_
      intro a8 w8 hb8 ho hn
      have o1 : a8.tmps[1]? = some _ := (ho 1 (by kernel_rfl)).trans rfl
      clear ho hn
      refine ⟨wanted_free rfl, ?_⟩
      obtain ⟨x0, x1, x2⟩ := HX1.out w8 hb8
      go_simp
    rcases i with _ | i
    · refine gr_value rfl (by decide) (.int .i64 0) rfl ?_
      intro a8 w8 hb8 ho hn
      have o2 : a8.tmps[2]? = some _ := (ho 2 (by kernel_rfl)).trans rfl
      clear ho hn
      refine ⟨wanted_free rfl, ?_⟩
      go_simp
    rcases i with _ | i
    · refine gr_make HU rfl (by decide) ?_
      intro a8 w8 hb8 ho hn
      clear ho hn
      refine ⟨wanted_free rfl, ?_⟩
      refine ⟨.slice (some ⟨w8.heap.size, 0, none⟩) 6 6, w8.alloc (.cells #[.int .i64 1, .int .i64 2, .int .i64 1, .int .i64 2, .int .i64 1, .int .i64 2] 2), (by go_simp), albel _ _, ⟨w8.heap.size, rfl, Blk.new w8 _ _⟩⟩
    rcases i with _ | i
    · refine gr_call HU 19 rfl (by decide) ?_
      intro a8 w8 hb8 ho hn
      obtain ⟨v31, n31, hq31⟩ := hn 2 31 (by kernel_rfl) rfl
      have hv31 : sl 6 #[.int .i64 1, .int .i64 2, .int .i64 1, .int .i64 2, .int .i64 1, .int .i64 2] v31 w8 := hq31.2 (by decide)
      clear ho hn
      refine ⟨wanted_free rfl, ?_⟩
      obtain ⟨g, rfl, hg⟩ := hv31
      refine ⟨#[.int .i64 3, .slice (some ⟨g, 0, none⟩) 6 6], (by go_simp), (l13matrix [1, 2, 1, 2, 1, 2] 3 (by decide) (by decide) (by decide) (by decide) _ 6 6 w8 rfl (reads_blk hg rfl)).mono ?_⟩
      rintro e w9 ⟨p, rfl, h9, c9, b9⟩
      exact ⟨_, rfl, b9, p, rfl, h9, c9⟩
    rcases i with _ | i
    · refine gr_call HU 20 rfl (by decide) ?_
      intro a8 w8 hb8 ho hn
      obtain ⟨v29, n29, hq29⟩ := hn 0 29 (by kernel_rfl) rfl
      obtain rfl := hq29.1 (by decide)
      obtain ⟨v30, n30, hq30⟩ := hn 1 30 (by kernel_rfl) rfl
      obtain rfl := hq30.1 (by decide)
      obtain ⟨v32, n32, hq32⟩ := hn 3 32 (by kernel_rfl) rfl
      have hv32 : xa ⟨1, [2, 3], [1, 2, 1, 2, 1, 2]⟩ v32 w8 := hq32.2 (by decide)
      clear ho hn
      refine ⟨wanted_free rfl, ?_⟩
      obtain ⟨p, rfl, h9, c9⟩ := hv32
      refine ⟨#[.agg #[.int .i64 1, .slice p3.A0 2 p3.c0, .slice p3.A1 6 p3.c1], .int .i64 0, .agg (arC ⟨1, [2, 3], [1, 2, 1, 2, 1, 2]⟩ p)], (by go_simp), (l13is_yes ⟨1, [2, 3], [1, 2, 1, 2, 1, 2]⟩ p3 p w8 (HE1.out w8 hb8) h9).mono ?_⟩
      rintro e w9 ⟨rfl, b9⟩
      exact ⟨_, rfl, b9, rfl⟩
    rcases i with _ | i
    · refine gr_value rfl (by decide) (.bool true) rfl ?_
      intro a8 w8 hb8 ho hn
      obtain ⟨v33, n33, hq33⟩ := hn 4 33 (by kernel_rfl) rfl
      have hv33 := hq33.2 (by decide)
      clear ho hn
      refine ⟨wanted_free rfl, ?_⟩
      obtain rfl : v33 = .bool true := hv33
      go_simp
    rcases i with _ | i
    · refine gr_value rfl (by decide) (.agg #[.int .i64 1, .slice p6.A0 1 p6.c0, .slice p6.A1 3 p6.c1]) rfl ?_
      intro a8 w8 hb8 ho hn
      have o3 : a8.tmps[3]? = some _ := (ho 3 (by kernel_rfl)).trans rfl
      obtain ⟨v34, n34, hq34⟩ := hn 5 34 (by kernel_rfl) rfl
      obtain rfl := hq34.1 (by decide)
      clear ho hn
      refine ⟨wanted_of 5 34 rfl rfl n34, ?_⟩
      obtain ⟨x0, x1, x2⟩ := HX2.out w8 hb8
      go_simp
    rcases i with _ | i
    · refine gr_value rfl (by decide) (.int .i64 0) rfl ?_
      intro a8 w8 hb8 ho hn
      have o4 : a8.tmps[4]? = some _ := (ho 4 (by kernel_rfl)).trans rfl
      obtain ⟨v34, n34, hq34⟩ := hn 5 34 (by kernel_rfl) rfl
      obtain rfl := hq34.1 (by decide)
      clear ho hn
      refine ⟨wanted_of 5 34 rfl rfl n34, ?_⟩
      go_simp
    rcases i with _ | i
    · refine gr_make HU rfl (by decide) ?_
      intro a8 w8 hb8 ho hn
      obtain ⟨v34, n34, hq34⟩ := hn 5 34 (by kernel_rfl) rfl
      obtain rfl := hq34.1 (by decide)
      clear ho hn
      refine ⟨wanted_of 5 34 rfl rfl n34, ?_⟩
      refine ⟨.slice (some ⟨w8.heap.size, 0, none⟩) 3 3, w8.alloc (.cells #[.int .i64 0, .int .i64 1, .int .i64 2] 2), (by go_simp), albel _ _, ⟨w8.heap.size, rfl, Blk.new w8 _ _⟩⟩
    rcases i with _ | i
    · refine gr_call HU 18 rfl (by decide) ?_
      intro a8 w8 hb8 ho hn
      obtain ⟨v37, n37, hq37⟩ := hn 8 37 (by kernel_rfl) rfl
      have hv37 : sl 3 #[.int .i64 0, .int .i64 1, .int .i64 2] v37 w8 := hq37.2 (by decide)
      obtain ⟨v34, n34, hq34⟩ := hn 5 34 (by kernel_rfl) rfl
      obtain rfl := hq34.1 (by decide)
      clear ho hn
      refine ⟨wanted_of 5 34 rfl rfl n34, ?_⟩
      obtain ⟨g, rfl, hg⟩ := hv37
      refine ⟨#[.slice (some ⟨g, 0, none⟩) 3 3], (by go_simp), (l13vector [0, 1, 2] (by decide) (by decide) _ 3 3 w8 rfl (reads_blk hg rfl)).mono ?_⟩
      rintro e w9 ⟨p, rfl, h9, c9, b9⟩
      exact ⟨_, rfl, b9, p, rfl, h9, c9⟩
    rcases i with _ | i
    · refine gr_call HU 20 rfl (by decide) ?_
      intro a8 w8 hb8 ho hn
      obtain ⟨v35, n35, hq35⟩ := hn 6 35 (by kernel_rfl) rfl
      obtain rfl := hq35.1 (by decide)
      obtain ⟨v36, n36, hq36⟩ := hn 7 36 (by kernel_rfl) rfl
      obtain rfl := hq36.1 (by decide)
      obtain ⟨v38, n38, hq38⟩ := hn 9 38 (by kernel_rfl) rfl
      have hv38 : xa ⟨1, [3], [0, 1, 2]⟩ v38 w8 := hq38.2 (by decide)
      obtain ⟨v34, n34, hq34⟩ := hn 5 34 (by kernel_rfl) rfl
      obtain rfl := hq34.1 (by decide)
      clear ho hn
      refine ⟨wanted_of 5 34 rfl rfl n34, ?_⟩
      obtain ⟨p, rfl, h9, c9⟩ := hv38
      refine ⟨#[.agg #[.int .i64 1, .slice p6.A0 1 p6.c0, .slice p6.A1 3 p6.c1], .int .i64 0, .agg (arC ⟨1, [3], [0, 1, 2]⟩ p)], (by go_simp), (l13is_yes ⟨1, [3], [0, 1, 2]⟩ p6 p w8 (HE2.out w8 hb8) h9).mono ?_⟩
      rintro e w9 ⟨rfl, b9⟩
      exact ⟨_, rfl, b9, rfl⟩
    rcases i with _ | i
    · refine gr_value rfl (by decide) (.bool true) rfl ?_
      intro a8 w8 hb8 ho hn
      obtain ⟨v34, n34, hq34⟩ := hn 5 34 (by kernel_rfl) rfl
      obtain rfl := hq34.1 (by decide)
      obtain ⟨v39, n39, hq39⟩ := hn 10 39 (by kernel_rfl) rfl
      have hv39 := hq39.2 (by decide)
      clear ho hn
      refine ⟨wanted_free rfl, ?_⟩
      obtain rfl : v39 = .bool true := hv39
      go_simp
    rcases i with _ | i
    · refine gr_value rfl (by decide) (.bool true) rfl ?_
      intro a8 w8 hb8 ho hn
      obtain ⟨v40, n40, hq40⟩ := hn 11 40 (by kernel_rfl) rfl
      obtain rfl := hq40.1 (by decide)
      clear ho hn
      refine ⟨wanted_free rfl, ?_⟩
      go_simp
    rcases i with _ | i
    · refine gr_value rfl (by decide) (.agg #[.int .i64 1, .slice p9.A0 1 p9.c0, .slice p9.A1 3 p9.c1]) rfl ?_
      intro a8 w8 hb8 ho hn
      have o5 : a8.tmps[5]? = some _ := (ho 5 (by kernel_rfl)).trans rfl
      obtain ⟨v41, n41, hq41⟩ := hn 12 41 (by kernel_rfl) rfl
      obtain rfl := hq41.1 (by decide)
      clear ho hn
      refine ⟨wanted_of 12 41 rfl rfl n41, ?_⟩
      obtain ⟨x0, x1, x2⟩ := HX3.out w8 hb8
      go_simp
    rcases i with _ | i
    · refine gr_value rfl (by decide) (.int .i64 0) rfl ?_
      intro a8 w8 hb8 ho hn
      have o6 : a8.tmps[6]? = some _ := (ho 6 (by kernel_rfl)).trans rfl
      obtain ⟨v41, n41, hq41⟩ := hn 12 41 (by kernel_rfl) rfl
      obtain rfl := hq41.1 (by decide)
      clear ho hn
      refine ⟨wanted_of 12 41 rfl rfl n41, ?_⟩
      go_simp
    rcases i with _ | i
    · refine gr_make HU rfl (by decide) ?_
      intro a8 w8 hb8 ho hn
      obtain ⟨v41, n41, hq41⟩ := hn 12 41 (by kernel_rfl) rfl
      obtain rfl := hq41.1 (by decide)
      clear ho hn
      refine ⟨wanted_of 12 41 rfl rfl n41, ?_⟩
      refine ⟨.slice (some ⟨w8.heap.size, 0, none⟩) 3 3, w8.alloc (.cells #[.int .i64 1, .int .i64 2, .int .i64 3] 2), (by go_simp), albel _ _, ⟨w8.heap.size, rfl, Blk.new w8 _ _⟩⟩
    rcases i with _ | i
    · refine gr_call HU 18 rfl (by decide) ?_
      intro a8 w8 hb8 ho hn
      obtain ⟨v44, n44, hq44⟩ := hn 15 44 (by kernel_rfl) rfl
      have hv44 : sl 3 #[.int .i64 1, .int .i64 2, .int .i64 3] v44 w8 := hq44.2 (by decide)
      obtain ⟨v41, n41, hq41⟩ := hn 12 41 (by kernel_rfl) rfl
      obtain rfl := hq41.1 (by decide)
      clear ho hn
      refine ⟨wanted_of 12 41 rfl rfl n41, ?_⟩
      obtain ⟨g, rfl, hg⟩ := hv44
      refine ⟨#[.slice (some ⟨g, 0, none⟩) 3 3], (by go_simp), (l13vector [1, 2, 3] (by decide) (by decide) _ 3 3 w8 rfl (reads_blk hg rfl)).mono ?_⟩
      rintro e w9 ⟨p, rfl, h9, c9, b9⟩
      exact ⟨_, rfl, b9, p, rfl, h9, c9⟩
    rcases i with _ | i
    · refine gr_call HU 20 rfl (by decide) ?_
      intro a8 w8 hb8 ho hn
      obtain ⟨v42, n42, hq42⟩ := hn 13 42 (by kernel_rfl) rfl
      obtain rfl := hq42.1 (by decide)
      obtain ⟨v43, n43, hq43⟩ := hn 14 43 (by kernel_rfl) rfl
      obtain rfl := hq43.1 (by decide)
      obtain ⟨v45, n45, hq45⟩ := hn 16 45 (by kernel_rfl) rfl
      have hv45 : xa ⟨1, [3], [1, 2, 3]⟩ v45 w8 := hq45.2 (by decide)
      obtain ⟨v41, n41, hq41⟩ := hn 12 41 (by kernel_rfl) rfl
      obtain rfl := hq41.1 (by decide)
      clear ho hn
      refine ⟨wanted_of 12 41 rfl rfl n41, ?_⟩
      obtain ⟨p, rfl, h9, c9⟩ := hv45
      refine ⟨#[.agg #[.int .i64 1, .slice p9.A0 1 p9.c0, .slice p9.A1 3 p9.c1], .int .i64 0, .agg (arC ⟨1, [3], [1, 2, 3]⟩ p)], (by go_simp), (l13is_yes ⟨1, [3], [1, 2, 3]⟩ p9 p w8 (HE3.out w8 hb8) h9).mono ?_⟩
      rintro e w9 ⟨rfl, b9⟩
      exact ⟨_, rfl, b9, rfl⟩
    rcases i with _ | i
    · refine gr_value rfl (by decide) (.bool true) rfl ?_
      intro a8 w8 hb8 ho hn
      obtain ⟨v41, n41, hq41⟩ := hn 12 41 (by kernel_rfl) rfl
      obtain rfl := hq41.1 (by decide)
      obtain ⟨v46, n46, hq46⟩ := hn 17 46 (by kernel_rfl) rfl
      have hv46 := hq46.2 (by decide)
      clear ho hn
      refine ⟨wanted_free rfl, ?_⟩
      obtain rfl : v46 = .bool true := hv46
      go_simp
    rcases i with _ | i
    · refine gr_value rfl (by decide) (.bool true) rfl ?_
      intro a8 w8 hb8 ho hn
      obtain ⟨v47, n47, hq47⟩ := hn 18 47 (by kernel_rfl) rfl
      obtain rfl := hq47.1 (by decide)
      clear ho hn
      refine ⟨wanted_free rfl, ?_⟩
      go_simp
    omega
  · intro dn fv w5 hb5 hR5 hall
    have h0 : fv 0 = _ := (hR5 19 0 rfl).1 (by decide)
    simp only [putAll, List.foldl_cons, List.foldl_nil, Act.put, List.setIfInBounds_toArray, List.set_cons_succ, List.set_cons_zero, h0, List.getD_cons_zero, List.getD_cons_succ]
    clear hR5 hall
    go_wp2
    go_ret
    exact ⟨rfl, bon BW.out hb5⟩
end Go.Proofs.Ytenpohnccnlngaa.mo

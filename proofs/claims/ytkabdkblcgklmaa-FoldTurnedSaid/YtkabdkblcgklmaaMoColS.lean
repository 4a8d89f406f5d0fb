/-
  Layer 13 (mold): elem: the element that comes to a position.
  Layer 13 (mold): collect and Make of a function that turns one bool's box.
-/
import Derived.Test.YtkabdkblcgklmaaMoReW
import Derived.Deep.DeepCutAuto
namespace Go.Proofs.Ytkabdkblcgklmaa.mo
open Go.RowKit Go.Proofs.Ytkabdkblcgklmaa.arr

/-- Arrays in a slice. -/
structure Els (W : World) (A : Option Addr) (ls : List AV) : Prop where
  at_ : ∀ (i : Nat) (a : AV), ls[i]? = some a → ∃ ad p, A = some ad ∧ ad.block < W.heap.size ∧ AEl W a p ∧ W.cell? (ad.add (i * 3 + 2)) = some (.slice p.A1 a.el.length p.c1)
theorem Els.below {W W' : World} {A : Option Addr} {ls : List AV} (h : Els W A ls) (hb : Below W.heap.size W W') : Els W' A ls :=
  ⟨fun i a ha => by
    obtain ⟨ad, p, e, hl, hp, hc⟩ := h.at_ i a ha
    exact ⟨ad, p, e, Nat.lt_of_lt_of_le hl hb.size, hp.below hb, (hb.cell (by rw [block_of_add]; exact hl)).trans hc⟩⟩

theorem moadd3 (ad : Addr) (i j : Nat) : ad.add (i + (j + 1)) = ⟨(ad.add i).block, (ad.add i).off + (j + 1), none⟩ := by
  rw [← add_of_add]
  generalize ad.add i = a
  unfold Addr.add
  rw [if_neg (by omega)]
theorem elem1_idle (w : World) :
    CallsD Try.prog 208 #[] .returning w fun e u' w' => e = .returned (.tuple #[]) ∧ u' = .returning ∧ w' = w := by
  refine callsD_of_wpS Try.func208 rfl fun c₀ cs hu => ?_
  apply wpS_region
  simp [wpOpsS, go_sem, recoverD, hu, Try.ntmps208]
  cases c₀
  simp_all [bodyPostS, results, Try.results208]

def ElemA (x : Option Int) (w : World) (e : Ending) (w' : World) : Prop := e = .returned (.tuple #[.int .i64 (x.getD 0), .bool x.isSome]) ∧ Below w.heap.size w w'

set_option maxRecDepth 100000 in
set_option maxHeartbeats 4000000 in
theorem moelem_any (sv : Value) (gf : Nat) (cap : Array Value) (hgf : ∀ args w, (callFunc gf args).run Try.prog w = .ok (.enter gf args) w) (n : Nat) (k : Int) (A : Option Addr) (c : Nat) (ls : List AV) (s : Int × Int) (w : World) (S : Option Addr) (m cs : Nat) (hsv : sv = .slice S m cs)
    (hl : Els w A ls)
    (hc : ∀ W, Below w.heap.size w W → Calls Try.prog gf (#[.int .i64 (n : Int)] ++ cap) W fun e w' => e = .returned (.tuple #[.int .i64 s.1, .int .i64 s.2]) ∧ Below W.heap.size W w') :
    Calls Try.prog 174 #[.agg #[sv, .func (.func gf) #[] cap], .int .i64 (n : Int), .int .i64 k, .slice A ls.length c] w (ElemA (elF k ls s) w) := by
  subst hsv
  have hx := Blk.new w 87 #[.slice S m cs, .func (.func gf) #[] cap]
  have hb := albel w (.cells #[.slice S m cs, .func (.func gf) #[] cap] 87)
  have HC := Lib.hid (hc _ hb)
  obtain ⟨w1, hw1⟩ : ∃ w1, w.alloc (.cells #[.slice S m cs, .func (.func gf) #[] cap] 87) = w1 := ⟨_, rfl⟩
  rw [hw1] at hx hb HC
  have x0 := hx.cell 0
  have x1 := hx.cell 1
  have HB := Lib.hid hb
  have HL := Lib.hid (hl.below hb)
  have HF := Lib.hid (fun W => mofill_any k W)
  obtain ⟨of_, pl⟩ := s
  simp only at HC
  obtain ⟨r, hr⟩ : ∃ r, elF k ls (of_, pl) = r := ⟨_, rfl⟩
  rw [hr]
  unfold elF at hr
  simp only at hr
  clear hx hb hl hc
  by_cases h1 : of_ = -1
  · subst h1
    rw [if_pos rfl] at hr
    subst hr
    go_enter_defers Try.func174, Try.ntmps174
    go_wp2_with (first
      | ((with_reducible refine HC.out.mono ?_); rintro e w2 ⟨rfl, b2⟩; have HB2 := Lib.hid (bon HB.out b2); clear b2)
      | (go_at_call 209; refine (HF.out _).mono ?_; rintro e _ ⟨rfl, rfl⟩))
    refine leaves_cons (f := 208) (args := #[]) (by simp) (by simp [go_sem]) ?_
    refine (elem1_idle _).mono ?_
    rintro e u' w'' ⟨rfl, rfl, rfl⟩
    refine ⟨.tuple #[.int .i64 (fillV k), .bool true], ?_, rfl, HB2.out⟩
    simp [results, Try.results174, go_sem]
  have n1 : (of_ == -1) = false := by rw [beq_eq_false_iff_ne]; exact h1
  rw [if_neg h1] at hr
  by_cases h2 : 0 ≤ of_
  case neg =>
    have n2 : decide (of_ < 0) = true := decide_eq_true (by omega)
    rw [if_neg h2] at hr
    subst hr
    clear h1 h2 HF
    go_enter_defers Try.func174, Try.ntmps174
    go_wp2_with (first
      | ((with_reducible refine HC.out.mono ?_); rintro e w2 ⟨rfl, b2⟩; have HB2 := Lib.hid (bon HB.out b2); clear b2))
    refine leaves_cons (f := 208) (args := #[]) (by simp) (by simp [go_sem]) ?_
    refine (elem1_idle _).mono ?_
    rintro e u' w'' ⟨rfl, rfl, rfl⟩
    refine ⟨.tuple #[.int .i64 (0), .bool false], ?_, rfl, HB2.out⟩
    simp [results, Try.results174, go_sem]
  rw [if_pos h2] at hr
  obtain ⟨o, rfl⟩ := Int.eq_ofNat_of_zero_le h2
  rw [Int.toNat_natCast] at hr
  have n2 : decide ((o : Int) < 0) = false := decide_eq_false (by omega)
  cases hlo : ls[o]? with
  | none =>
    have n3 : decide (ls.length ≤ o) = true := decide_eq_true (List.getElem?_eq_none_iff.1 hlo)
    rw [hlo] at hr
    simp only at hr
    subst hr
    clear h1 h2 HF hlo HL
    go_enter_defers Try.func174, Try.ntmps174
    go_wp2_with (((with_reducible refine HC.out.mono ?_); rintro e w2 ⟨rfl, b2⟩; have HB2 := Lib.hid (bon HB.out b2); clear b2))
    refine leaves_cons (f := 208) (args := #[]) (by simp) (by simp [go_sem]) ?_
    refine (elem1_idle _).mono ?_
    rintro e u' w'' ⟨rfl, rfl, rfl⟩
    refine ⟨.tuple #[.int .i64 (0), .bool false], ?_, rfl, HB2.out⟩
    simp [results, Try.results174, go_sem]
  | some a =>
    have hol := (List.getElem?_eq_some_iff.1 hlo).1
    have n3 : decide (ls.length ≤ o) = false := decide_eq_false (by omega)
    have n3b : (o : Int) < (ls.length : Int) := by omega
    rw [hlo] at hr
    simp only at hr
    have HLO := Lib.hid hlo
    by_cases h3 : 0 ≤ pl
    case neg =>
      have n4 : decide (pl < 0) = true := decide_eq_true (by omega)
      rw [if_neg h3] at hr
      subst hr
      clear h1 h2 HF hlo HL h3
      go_enter_defers Try.func174, Try.ntmps174
      go_wp2_with (((with_reducible refine HC.out.mono ?_); rintro e w2 ⟨rfl, b2⟩; have HB2 := Lib.hid (bon HB.out b2); clear b2))
      refine leaves_cons (f := 208) (args := #[]) (by simp) (by simp [go_sem]) ?_
      refine (elem1_idle _).mono ?_
      rintro e u' w'' ⟨rfl, rfl, rfl⟩
      refine ⟨.tuple #[.int .i64 (0), .bool false], ?_, rfl, HB2.out⟩
      simp [results, Try.results174, go_sem]
    rw [if_pos h3] at hr
    obtain ⟨q, rfl⟩ := Int.eq_ofNat_of_zero_le h3
    rw [Int.toNat_natCast] at hr
    have n4 : decide ((q : Int) < 0) = false := decide_eq_false (by omega)
    have HAT : Hid (∀ W, Below w1.heap.size w1 W → ∃ ad p, A = some ad ∧ AEl W a p ∧ W.cell? (ad.add (o * 3 + 2)) = some (.slice p.A1 a.el.length p.c1)) := Lib.hid (fun W hb => by
      obtain ⟨ad, p, h5, _, h6, h7⟩ := (HL.out.below hb).at_ o a HLO.out
      exact ⟨ad, p, h5, h6, h7⟩)
    clear h1 h2 h3 HF hlo HL
    cases hq : a.el[q]? with
    | none =>
      have n5 : decide (a.el.length ≤ q) = true := by
        have := List.getElem?_eq_none_iff.1 hq
        exact decide_eq_true this
      rw [hq] at hr
      subst hr
      clear hq
      go_enter_defers Try.func174, Try.ntmps174
      go_wp2_with (((with_reducible refine HC.out.mono ?_); rintro e w2 ⟨rfl, b2⟩; have HB2 := Lib.hid (bon HB.out b2); obtain ⟨ad, p, rfl, _, y2⟩ := HAT.out w2 b2; rw [show o * 3 + 2 = o * 3 + (1 + 1) from rfl, moadd3] at y2; clear b2))
      refine leaves_cons (f := 208) (args := #[]) (by simp) (by simp [go_sem]) ?_
      refine (elem1_idle _).mono ?_
      rintro e u' w'' ⟨rfl, rfl, rfl⟩
      refine ⟨.tuple #[.int .i64 (0), .bool false], ?_, rfl, HB2.out⟩
      simp [results, Try.results174, go_sem]
    | some x =>
      have hql := (List.getElem?_eq_some_iff.1 hq).1
      have n5 : decide (a.el.length ≤ q) = false := decide_eq_false (by omega)
      have n5b : (q : Int) < (a.el.length : Int) := by omega
      rw [hq] at hr
      subst hr
      have HQ : Hid (∀ W p, AEl W a p → ∃ ad, p.A1 = some ad ∧ W.cell? (ad.add q) = some (.int .i64 x)) := Lib.hid (fun W p h => by
        obtain ⟨ad, u, e, _, hu, hc⟩ := h.r1.at_ hql
        rw [List.getElem?_map, hq] at hu
        injection hu with hu
        subst hu
        exact ⟨ad, e, hc⟩)
      have HQL := Lib.hid hql
      clear hq hql
      go_enter_defers Try.func174, Try.ntmps174
      go_wp2_with (((with_reducible refine HC.out.mono ?_); rintro e w2 ⟨rfl, b2⟩; have HB2 := Lib.hid (bon HB.out b2); obtain ⟨ad, p, rfl, hp, y2⟩ := HAT.out w2 b2; rw [show o * 3 + 2 = o * 3 + (1 + 1) from rfl, moadd3] at y2; obtain ⟨ad2, e2, y3⟩ := HQ.out w2 p hp; rw [e2] at y2; clear b2 e2 hp))
      refine leaves_cons (f := 208) (args := #[]) (by simp) (by simp [go_sem]) ?_
      refine (elem1_idle _).mono ?_
      rintro e u' w'' ⟨rfl, rfl, rfl⟩
      refine ⟨.tuple #[.int .i64 (x), .bool true], ?_, rfl, HB2.out⟩
      simp [results, Try.results174, go_sem]
end Go.Proofs.Ytkabdkblcgklmaa.mo

namespace Go.Proofs.Ytkabdkblcgklmaa.mo
open Go.RowKit Go.Proofs.Ytkabdkblcgklmaa.arr

abbrev At1 (z : Nat) (w w' : World) : Prop := Keep (fun k => k = z) w w'
theorem At1.on {z : Nat} {w w1 w2 : World} (h : At1 z w w1) (k : At1 z w1 w2) : At1 z w w2 := Keep.trans h k (fun _ _ e => e)
theorem At1.of {z : Nat} {w w' : World} (h : Below w.heap.size w w') : At1 z w w' := Keep.of_below h

set_option maxRecDepth 100000 in
set_option maxHeartbeats 4000000 in
theorem mocollect_any (z : Nat) (bs : Nat → Bool) (gf : Nat) (cap : Array Value) (hgf : ∀ args w, (callFunc gf args).run Try.prog w = .ok (.enter gf args) w) (f : Int → Int) (n : Nat) (w : World) (hn : n ≤ 100000)
    (hz : z < w.heap.size) (h0 : Blk w z 4 #[.bool (bs 0)])
    (hcall : ∀ (i : Nat) (W : World), i < n → At1 z w W → Blk W z 4 #[.bool (bs i)] → Calls Try.prog gf (#[.int .i64 (i : Int)] ++ cap) W fun e w' => e = .returned (.int .i64 (f (i : Int))) ∧ At1 z W w' ∧ Blk w' z 4 #[.bool (bs (i + 1))]) :
    Calls Try.prog 111 #[.int .i64 (n : Int), .func (.func gf) #[] cap] w fun e w' => ∃ A c, e = .returned (.slice A n c) ∧ w'.ownsRow w.heap.size 2 1 (.slice A n c) n ((fL f n).map iv) ∧ At1 z w w' ∧ Blk w' z 4 #[.bool (bs n)] := by
  obtain ⟨i0, hi, hz0, hz1, hz2⟩ := info_parts arInfoI64
  have HC := Lib.hid hcall
  have H0 := Lib.hid h0
  clear hcall h0
  go_enter_defers Try.func111, Try.ntmps111
  go_wp2
  go_loopw [7, 4] (fun i v wr => ∃ (j : Nat) (A1 : Option Addr) (c1 : Nat), j ≤ n ∧ i = .int .i64 (j : Int) ∧ v = .slice A1 j c1 ∧ wr.ownsRow w.heap.size 2 1 (.slice A1 j c1) j ((fL f j).map iv) ∧ At1 z w wr ∧ Blk wr z 4 #[.bool (bs j)]) (fun i _ _ => n - (intOf i).toNat)
  case atStart => exact ⟨0, none, 0, Nat.zero_le _, rfl, rfl, World.ownsRow_nil _ _ _ _, Keep.refl _ _, H0.out⟩
  case round =>
    obtain ⟨j, A1, c1, hj, rfl, rfl, ho, hbw, hbz⟩ := hrel
    by_cases hlt : j < n
    · have hd : (j : Int) < (n : Int) := by omega
      have hnew : ∀ W : World, ∀ k u, [Value.int .i64 (f (j : Int))][k]? = some u → (W.alloc (.cells #[.int .i64 (f (j : Int))] 2)).cell? ((⟨W.heap.size, 0, none⟩ : Addr).add k) = some u := fun W k u hu => by
        rw [Addr.add_mid, Nat.zero_add, (Blk.new W 2 _).cell k, List.getElem?_toArray]
        exact hu
      have HNEW := Lib.hid hnew
      have HO := Lib.hid ho
      have HBW := Lib.hid hbw
      have HCJ := Lib.hid (HC.out j wr hlt hbw hbz)
      clear ho hbw hnew hbz
      go_wp2_with (first
        | (with_reducible refine HCJ.out.mono ?_; rintro e wc ⟨rfl, hk, hbz⟩
           have HO2 := Lib.hid (hk.own HO.out (fun b hb e => by have := (arown_lt HO.out b hb).1; omega))
           have HBW2 := Lib.hid (HBW.out.on hk)
           have HBZ := Lib.hid hbz
           clear hk hbz)
        | (at_builtin; refine wpList_append_own _ rfl _ _ 23 rfl w.heap.size 2 i0 (.int .i64 0) 1 8 Try.underlying23 hi hz0 hz1 hz2 rfl (by decide) _ j _ rfl (arown_stay HO2.out ((Below.refl _ wc).alloc (Nat.le_refl _) _) (fun g hg => (arown_lt HO2.out g hg).2)) ⟨wc.heap.size, 0, none⟩ 1 1 [.int .i64 (f (j : Int))] rfl rfl (HNEW.out wc) (by intro u hu; rw [List.mem_singleton] at hu; subst hu; rfl) (by unfold maxLen; omega) (by omega) (by have h2 := HBW2.out.size; simp; omega) ?_; intro v3 w3 hown hgrow _
           have b3 : Keep (fun i => w.heap.size ≤ i) wc w3 := Keep.grown ((Keep.refl _ wc).alloc _) hgrow (fun g e _ => (arown_lt HO2.out g e).1)
           have B3 := Lib.hid b3
           have O3 := Lib.hid hown
           clear hown hgrow b3))
      obtain ⟨A3, c3, rfl⟩ : ∃ A3 c3, v3 = .slice A3 (j + 1) c3 := by
        rcases O3.out.2 with ⟨_, h0⟩ | ⟨g, cap, cur, e, _⟩
        · omega
        · exact ⟨_, cap, e⟩
      refine ⟨⟨j + 1, A3, c3, by omega, by go_num, rfl, ?_, HBW2.out.trans B3.out (fun i hi h => by omega), B3.out.blk HBZ.out (by omega)⟩, by simp [intOf]; omega⟩
      rw [fL_succ, List.map_append]
      exact O3.out
    · obtain rfl : j = n := by omega
      have HO := Lib.hid ho
      have HBW := Lib.hid hbw
      have HBZ := Lib.hid hbz
      clear ho hbw hbz
      go_wp2
      refine leaves_cons (f := 181) (args := #[]) (by simp) (by simp [go_sem]) ?_
      refine (col1_idle wr).mono ?_
      rintro e u' w'' ⟨rfl, rfl, rfl⟩
      refine ⟨.slice A1 j c1, ?_, A1, c1, rfl, HO.out, HBW.out, HBZ.out⟩
      simp [results, Try.results111, go_sem]

/-- What stands while Make works. -/
structure MkS (z : Nat) (w : World) (g : Nat) (k : Int) (l : List Int) (A : Option Addr) (c : Nat) (e : Value) (W : World) : Prop where
  hz : Blk W w.heap.size 25 #[.int .i64 0, .slice none 0 0, .slice none 0 0]
  hg : Blk W g 25 #[.int .i64 k, .slice A l.length c, e]
  o0 : W.ownsRow (w.heap.size + 1) 3 1 (.slice A l.length c) l.length (l.map iv)
  lt : ∀ b, (Value.slice A l.length c).ownBlock = some b → b < g
  zg : w.heap.size < g
  b : At1 z w W
theorem MkS.at1 {z : Nat} {w W W' : World} {g : Nat} {k : Int} {l : List Int} {A : Option Addr} {c : Nat} {e : Value} (h : MkS z w g k l A c e W) (hz : z < w.heap.size) (hb : At1 z W W') : MkS z w g k l A c e W' :=
  ⟨hb.blk h.hz (by omega), hb.blk h.hg (by have := h.zg; omega), hb.own h.o0 (fun b hb' e => by have := (arown_lt h.o0 b hb').1; omega), h.lt, h.zg, h.b.on hb⟩
theorem MkS.below {z : Nat} {w W W' : World} {g : Nat} {k : Int} {l : List Int} {A : Option Addr} {c : Nat} {e : Value} (h : MkS z w g k l A c e W) (hz : z < w.heap.size) (hb : Below W.heap.size W W') : MkS z w g k l A c e W' := h.at1 hz (At1.of hb)
theorem MkS.set {z : Nat} {w W : World} {g : Nat} {k : Int} {l : List Int} {A : Option Addr} {c : Nat} {e : Value} (h : MkS z w g k l A c e W) (v : Value) : MkS z w g k l A c v (W.setCell ⟨g, 2, none⟩ v) := by
  have hk : Keep (fun i => i = g) W (W.setCell ⟨g, 2, none⟩ v) := (Keep.refl _ _).setCell _ _ (fun _ => rfl)
  exact ⟨hk.blk h.hz (by have := h.zg; omega), h.hg.set_ 2 v, hk.own h.o0 (fun b hb e => by have := h.lt b hb; omega), h.lt, h.zg, h.b.trans hk (fun i hi e => by have := h.zg; omega)⟩
theorem MkS.start {z : Nat} {w w2 : World} {k : Int} {l : List Int} {A : Option Addr} {c : Nat} (o : w2.ownsRow (w.alloc (.cells #[.int .i64 0, .slice none 0 0, .slice none 0 0] 25)).heap.size 3 1 (.slice A l.length c) l.length (l.map iv)) (b : Below (w.alloc (.cells #[.int .i64 0, .slice none 0 0, .slice none 0 0] 25)).heap.size (w.alloc (.cells #[.int .i64 0, .slice none 0 0, .slice none 0 0] 25)) w2) :
    MkS z w w2.heap.size k l A c (.slice none 0 0) (w2.alloc (.cells #[.int .i64 k, .slice A l.length c, .slice none 0 0] 25)) := by
  have h := Mk.start (k := k) o b
  exact ⟨h.hz, h.hg, h.o0, h.lt, h.zg, Keep.of_below h.b⟩

/-- What such a Make answers. -/
def MakeS (z : Nat) (bz : Bool) (k : Int) (l : List Int) (f : Int → Int) (w : World) (e : Ending) (w' : World) : Prop :=
  ∃ p, e = .returned (.tuple #[.agg (arC (if okA (makeA k l f) = true then makeA k l f else noA) p), .int .i64 (checkE (makeA k l f))]) ∧ AOwn w.heap.size w' (if okA (makeA k l f) = true then makeA k l f else noA) p ∧ At1 z w w' ∧ Blk w' z 4 #[.bool bz]

set_option maxRecDepth 100000 in
set_option maxHeartbeats 4000000 in
theorem momake_any (z : Nat) (bs : Nat → Bool) (k : Int) (A : Option Addr) (c : Nat) (l : List Int) (gf : Nat) (cap : Array Value) (hgf : ∀ args w, (callFunc gf args).run Try.prog w = .ok (.enter gf args) w) (f : Int → Int) (w : World)
    (hok : okShape l = true) (ha : Reads w w.heap.size 1 A l.length (l.map iv)) (hf : ∀ z, -9223372036854775808 ≤ f z ∧ f z ≤ 9223372036854775807)
    (hz : z < w.heap.size) (h0 : Blk w z 4 #[.bool (bs 0)])
    (hcall : ∀ (i : Nat) (W : World), (i : Int) < prodI l → At1 z w W → Blk W z 4 #[.bool (bs i)] → Calls Try.prog gf (#[.int .i64 (i : Int)] ++ cap) W fun e w' => e = .returned (.int .i64 (f (i : Int))) ∧ At1 z W w' ∧ Blk w' z 4 #[.bool (bs (i + 1))]) :
    Calls Try.prog 60 #[.int .i64 k, .slice A l.length c, .func (.func gf) #[] cap] w (MakeS z (bs (prodI l).toNat) k l f w) := by
  have hb1 := (Below.refl w.heap.size w).alloc (Nat.le_refl _) (.cells #[.int .i64 0, .slice none 0 0, .slice none 0 0] 25)
  have HC := Lib.hid (arcount_any A c l.length l _ rfl ((ha.below hb1).more hb1.size) (by have := (okShape_iff.1 hok).1; omega))
  obtain ⟨e1, e2⟩ := cnt_ok hok
  rw [e1, e2] at HC
  obtain ⟨p0, p1⟩ := prodI_four (l := l) (okShape_iff.1 hok).2.1 (okShape_iff.1 hok).1
  obtain ⟨P, hP⟩ := Int.eq_ofNat_of_zero_le p0
  have hP4 : P ≤ 4096 := by have := (okShape_iff.1 hok).2.2; omega
  have hm : makeA k l f = ⟨k, l, fL f P⟩ := by unfold makeA; rw [hP, Int.toNat_natCast]
  have hM : MakeS z (bs (prodI l).toNat) k l f w = MakeS z (bs P) k l f w := by rw [hP, Int.toNat_natCast]
  rw [hM]
  unfold MakeS
  rw [hm]
  rw [hP] at HC hcall
  have HCL := Lib.hid (arcloneI_any A l.length c l _ rfl ((ha.below hb1).more hb1.size) (by have := (okShape_iff.1 hok).1; omega))
  have HCO : Hid (∀ W, At1 z w W → w.heap.size ≤ W.heap.size → Blk W z 4 #[.bool (bs 0)] → Calls Try.prog 111 #[.int .i64 (P : Int), .func (.func gf) #[] cap] W fun e w' => ∃ A c, e = .returned (.slice A P c) ∧ w'.ownsRow W.heap.size 2 1 (.slice A P c) P ((fL f P).map iv) ∧ At1 z W w' ∧ Blk w' z 4 #[.bool (bs P)]) := Lib.hid (fun W hb hs hz0 => mocollect_any z bs gf cap hgf f P W (by omega) (by omega) hz0 (fun i W' hi hb' hbz => hcall i W' (by omega) (hb.on hb') hbz))
  have HCK : Hid (∀ (W : World) (A2 A4 : Option Addr) (c2 c4 : Nat), AEl W ⟨k, l, fL f P⟩ ⟨A2, c2, A4, c4⟩ → Calls Try.prog 21 #[.agg #[.int .i64 k, .slice A2 l.length c2, .slice A4 P c4]] W fun e w' => e = .returned (.int .i64 (checkE ⟨k, l, fL f P⟩)) ∧ Below W.heap.size W w') := Lib.hid (fun W A2 A4 c2 c4 h => by
    have := archeck_any _ _ W h
    unfold arC at this
    rw [fL_length] at this
    exact this)
  have HCE : Hid ((checkE ⟨k, l, fL f P⟩ = 0 ∧ okA ⟨k, l, fL f P⟩ = true) ∨ (checkE ⟨k, l, fL f P⟩ = 110 ∧ okA ⟨k, l, fL f P⟩ = false)) := Lib.hid (by unfold checkE; cases okA ⟨k, l, fL f P⟩ <;> simp)
  have H0 := Lib.hid h0
  have HN : Hid (l.length ≤ 4 ∧ P ≤ 4096 ∧ ∀ z ∈ fL f P, -9223372036854775808 ≤ z ∧ z ≤ 9223372036854775807) := Lib.hid ⟨(okShape_iff.1 hok).1, hP4, fun z hz => by
    unfold fL at hz
    obtain ⟨i, _, rfl⟩ := List.mem_map.1 hz
    exact hf _⟩
  clear ha hb1 e1 e2 hcall p0 p1 hP hP4 hm hM hok hf h0
  go_enter Try.func60, Try.ntmps60
  go_upto_region 7 with (first
    | (go_at_call 63; refine HC.out.mono ?_; rintro e _ ⟨rfl, rfl⟩)
    | (go_at_call 82; refine HCL.out.mono ?_; rintro e w2 ⟨A2, c2, rfl, o2, b2⟩; have M3 := Lib.hid (MkS.start (z := z) (k := k) o2 b2)
       have Z3 := Lib.hid (((H0.out.alloc (.cells #[.int .i64 0, .slice none 0 0, .slice none 0 0] 25)).below b2 (by simp; omega)).alloc (.cells #[.int .i64 k, .slice A2 l.length c2, .slice none 0 0] 25))
       clear o2 b2)
    | (go_at_call 111; refine (HCO.out _ M3.out.b M3.out.b.size Z3.out).mono ?_; rintro e w4 ⟨A4, c4, rfl, o4, b4, z4⟩
       have m4 := M3.out.at1 hz b4
       have hgz := m4.zg
       have M5 := Lib.hid (m4.set (.slice A4 P c4))
       have O5 := Lib.hid (((Keep.refl (fun i => i = w2.heap.size) w4).setCell ⟨w2.heap.size, 2, none⟩ (.slice A4 P c4) (fun _ => rfl)).own o4 (fun b hb e => by have := (arown_lt o4 b hb).1; simp at this; omega))
       have Z5 := Lib.hid (z4.far (p := ⟨w2.heap.size, 2, none⟩) (by simp; omega) (.slice A4 P c4))
       have x0 := m4.hg.cell 0
       have x1 := m4.hg.cell 1
       have x2 := m4.hg.cell 2
       have f2 := m4.hg.frozen 2
       have y0 := M5.out.hg.cell 0
       have y1 := M5.out.hg.cell 1
       have y2 := M5.out.hg.cell 2
       clear o4 b4 m4 z4 hgz)
    | (go_at_call 21; refine (HCK.out _ A2 A4 c2 c4 ⟨Reads.of_own M5.out.o0, by rw [fL_length]; exact Reads.of_own O5.out, by have := HN.out.1; show l.length ≤ _; omega, by have := HN.out.2.1; show (fL f P).length ≤ _; rw [fL_length]; omega, HN.out.2.2⟩).mono ?_; rintro e w6 ⟨rfl, b6⟩
       have m6 := M5.out.below hz b6
       have O6 := Lib.hid (arown_stay O5.out b6 (fun g hg => (arown_lt O5.out g hg).2))
       have Z6 := Lib.hid (Z5.out.below b6 Z5.out.lt)
       have u0 := m6.hg.cell 0
       have u1 := m6.hg.cell 1
       have u2 := m6.hg.cell 2
       have v0 := m6.hz.cell 0
       have v1 := m6.hz.cell 1
       have v2 := m6.hz.cell 2
       have k0 := m6.hz.frozen 0
       have k1 := m6.hz.frozen 1
       have k2 := m6.hz.frozen 2
       have M6 := Lib.hid m6
       clear m6 b6 x0 x1 x2 f2 y0 y1 y2))
  rcases HCE.out with ⟨c0, c1⟩ | ⟨c0, c1⟩
  · rw [c0]
    go_wp2
    refine bodyPost_ret (results_arr2 rfl rfl rfl (arblk_three _ _ _ M6.out.hz)) rfl ?_
    have hk := arkeep_three w6 w.heap.size (.int .i64 k) (.slice A2 l.length c2) (.slice A4 P c4)
    refine ⟨⟨A2, c2, A4, c4⟩, (by unfold arC; rw [fL_length]; rfl), ⟨?_, ?_⟩, M6.out.b.trans hk (fun i hi e => by omega), hk.blk Z6.out (by omega)⟩
    · exact arown_mono (hk.own M6.out.o0 (fun b hb e => by have := (arown_lt M6.out.o0 b hb).1; omega)) (by omega)
    · show World.ownsRow _ w.heap.size 2 1 (.slice A4 (fL f P).length c4) (fL f P).length ((fL f P).map iv)
      rw [fL_length]
      have h3 := M3.out.hz.lt
      exact arown_mono (hk.own O6.out (fun b hb e => by have := (arown_lt O6.out b hb).1; omega)) (by omega)
  · rw [c0]
    go_wp2
    all_goals (
      refine bodyPost_ret (results_arr2 rfl rfl rfl (arblk_three _ _ _ M6.out.hz)) rfl ?_
      have hk := arkeep_three w6 w.heap.size (.int .i64 0) (.slice none 0 0) (.slice none 0 0)
      exact ⟨⟨none, 0, none, 0⟩, rfl, noA_own _ _, M6.out.b.trans hk (fun i hi e => by omega), hk.blk Z6.out (by omega)⟩)
end Go.Proofs.Ytkabdkblcgklmaa.mo

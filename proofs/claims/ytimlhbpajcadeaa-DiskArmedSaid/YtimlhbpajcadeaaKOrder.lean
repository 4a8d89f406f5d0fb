/-
  The statement DiskOrder: two disks that were written the same last.
-/
import Derived.Test.YtimlhbpajcadeaaKAlive
import Derived.Test.YtimlhbpajcadeaaDOpen
namespace Go.Proofs.Ytimlhbpajcadeaa
open Go.RowKit Go.Maps

/-- A disk of six sectors, all zeroes, with C waiting, behind m writes. -/
def cs6 (C : List (List UInt8)) (m : Int) : RSt := { newSt 6 with cache := C, many := m }
theorem cs6_new : newSt 6 = cs6 (List.replicate 6 []) 0 := rfl
theorem has_cs6 (C : List (List UInt8)) (m a : Int) : has3 (cs6 C m) a = decide (0 ≤ a ∧ a < 6) := rfl
theorem write6 (C : List (List UInt8)) (m a : Int) (l : List UInt8) :
    (writeErr (cs6 C m) a l = 0 ∧ writeK (cs6 C m) a l = cs6 (C.set a.toNat l) (m + 1) ∧ 0 ≤ a ∧ a < 6 ∧ l.length = 128) ∨
    (writeErr (cs6 C m) a l = 30 ∧ writeK (cs6 C m) a l = cs6 C m) := by
  by_cases h : takes3 (cs6 C m) a l.length = true
  · have h2 : (0 ≤ a ∧ a < 6) ∧ l.length = 128 := by
      unfold takes3 at h
      rw [has_cs6] at h
      simpa using h
    refine .inl ⟨?_, ?_, h2.1.1, h2.1.2, h2.2⟩
    · unfold writeErr
      rw [if_neg (by simp [cs6, newSt]), if_pos h, if_neg (by simp [cs6, newSt])]
    · unfold writeK
      rw [if_neg (by simp [cs6, newSt]), if_pos h, if_pos (by simp [cs6, newSt])]
      rfl
  · refine .inr ⟨?_, ?_⟩
    · unfold writeErr
      rw [if_neg (by simp [cs6, newSt]), if_neg h]
    · unfold writeK
      rw [if_neg (by simp [cs6, newSt]), if_neg h]
theorem down6_err (C : List (List UInt8)) (m : Int) : (if (cs6 C m).down then (31 : Int) else 0) = 0 := rfl
theorem read6_err (C : List (List UInt8)) (m : Int) (c : DCrash) (k : Nat) (hk : k < 6) : readErr3 (bootSt (downK (cs6 C m) c)) (k : Int) = 0 := by
  have h : has3 (bootSt (downK (cs6 C m) c)) (k : Int) = true := by
    unfold has3
    have : (bootSt (downK (cs6 C m) c)).stays.length = 6 := rfl
    rw [this]
    simpa using by omega
  unfold readErr3
  rw [if_neg (by simp [bootSt]), if_pos h]
theorem read6_out (C : List (List UInt8)) (m m' : Int) (c : DCrash) (k : Int) : readOut3 (bootSt (downK (cs6 C m) c)) k = readOut3 (bootSt (downK (cs6 C m') c)) k := rfl
theorem waits6_few (C : List (List UInt8)) (m : Int) : (waits3 (cs6 C m)).length ≤ 6 := by
  unfold waits3
  rw [pendTo_waits]
  exact pendTo_length _ _
/-- C's last ones, from the sector j on. -/
def fill (C : List (List UInt8)) (j : Nat) : List (List UInt8) := List.replicate j [] ++ C.drop j
theorem fill_six {C : List (List UInt8)} (h : C.length = 6) : fill C 6 = List.replicate 6 [] := by
  unfold fill
  rw [List.drop_eq_nil_of_le (by omega), List.append_nil]
theorem fill_zero (C : List (List UInt8)) : fill C 0 = C := rfl
theorem fill_set {C : List (List UInt8)} {j : Nat} {x : List UInt8} (h : C[j]? = some x) : (fill C (j + 1)).set j x = fill C j := by
  obtain ⟨hlt, rfl⟩ := List.getElem?_eq_some_iff.1 h
  unfold fill
  rw [List.replicate_succ', List.append_assoc, List.set_append_right _ _ (by simp), List.drop_eq_getElem_cons hlt]
  simp
theorem fill_none {C : List (List UInt8)} {j : Nat} (h : C[j]? = some []) : fill C (j + 1) = fill C j := by
  obtain ⟨hlt, e⟩ := List.getElem?_eq_some_iff.1 h
  unfold fill
  rw [List.replicate_succ', List.append_assoc, List.drop_eq_getElem_cons hlt, e]
  rfl
theorem waits6 (C : List (List UInt8)) (m m' : Int) : waits3 (cs6 C m) = waits3 (cs6 C m') := rfl

theorem DOps.more {w : World} {B B' n : Nat} {A : Option Addr} {l : List DOp} (h : DOps w B A n l) (hB : B ≤ B') : DOps w B' A n l :=
  ⟨h.1, h.2.1, fun h0 => by
    obtain ⟨ad, e, hb, hc⟩ := h.2.2 h0
    refine ⟨ad, e, by omega, fun i o ho => ?_⟩
    obtain ⟨BA, Bc, KA, Kc, d⟩ := hc i o ho
    exact ⟨BA, Bc, KA, Kc, d.kind, d.at_, d.b, d.write, d.keep, d.torn, d.cat, d.bs.more hB, d.ks.more hB⟩⟩

theorem Lives.all_lt {N : Nat} {w0 w : World} {d : DAt} {s : RSt} (L : Lives N w0 w d s) : ∀ k, d.foot k → k < w.heap.size := by
  obtain ⟨kv, h⟩ := L.dk
  exact h.lt

/-- Two disks, and what was written last: C waits on the one, D on the other; block g has C's slices. -/
structure OI (w1 : World) (B g : Nat) (dA dB : DAt) (wr : World) (C : List (List UInt8)) (m : Int) (D : List (List UInt8)) (m2 : Int) : Prop where
  la : Lives w1.heap.size w1 wr dA (cs6 C m)
  lb : Lives w1.heap.size w1 wr dB (cs6 D m2)
  len : C.length = 6
  arr : ∃ cs : List Value, Blk wr g 65 cs.toArray ∧ cs.length = 6 ∧ ∀ (j : Nat) (x : List UInt8), C[j]? = some x → ∃ Aj cj, cs[j]? = some (.slice Aj x.length cj) ∧ Reads wr B 1 Aj x.length (x.map bv)

/-- Where the two lie, and the array. -/
structure Apart (w1 : World) (B g : Nat) (dA dB : DAt) : Prop where
  a : ∀ k, dA.foot k → k < g
  b : ∀ k, dB.foot k → k < g
  d : ∀ k, dA.foot k → ¬ dB.foot k
  n : w1.heap.size ≤ g
  B : B ≤ w1.heap.size

section
variable {w1 wr w' : World} {B g : Nat} {dA dB : DAt} {C D : List (List UInt8)} {m m2 : Int}

theorem OI.next (h : OI w1 B g dA dB wr C m D m2) (P : Apart w1 B g dA dB) (hb : Below wr.heap.size wr w') : OI w1 B g dA dB w' C m D m2 := by
  obtain ⟨cs, h1, h2, h3⟩ := h.arr
  have hs := h.la.below.size
  refine ⟨h.la.next h.la.lt hb, h.lb.next h.lb.lt hb, h.len, cs, h1.below hb h1.lt, h2, fun j x hx => ?_⟩
  obtain ⟨Aj, cj, e, hr⟩ := h3 j x hx
  exact ⟨Aj, cj, e, hr.below (hb.mono (by have := P.B; omega))⟩
/-- A call of the first disk. -/
theorem OI.callA {C' : List (List UInt8)} {m' : Int} (h : OI w1 B g dA dB wr C m D m2) (P : Apart w1 B g dA dB) (hk : Keep dA.foot wr w') (hl : Lives w1.heap.size w1 w' dA (cs6 C' m')) (hC : C' = C) : OI w1 B g dA dB w' C' m' D m2 := by
  subst hC
  obtain ⟨cs, h1, h2, h3⟩ := h.arr
  have hs := h.la.below.size
  refine ⟨hl, h.lb.other h.la (fun k h1 h2 => P.d k h2 h1) hk (fun _ h => h), h.len, cs, hk.blk h1 (fun hf => by have := P.a g hf; omega), h2, fun j x hx => ?_⟩
  obtain ⟨Aj, cj, e, hr⟩ := h3 j x hx
  exact ⟨Aj, cj, e, hr.below ((hk.far h.la.lt h.la.foot).mono P.B)⟩
theorem OI.callB {D' : List (List UInt8)} {m' : Int} (h : OI w1 B g dA dB wr C m D m2) (P : Apart w1 B g dA dB) (hk : Keep dB.foot wr w') (hl : Lives w1.heap.size w1 w' dB (cs6 D' m')) : OI w1 B g dA dB w' C m D' m' := by
  obtain ⟨cs, h1, h2, h3⟩ := h.arr
  have hs := h.la.below.size
  refine ⟨h.la.other h.lb P.d hk (fun _ h => h), hl, h.len, cs, hk.blk h1 (fun hf => by have := P.b g hf; omega), h2, fun j x hx => ?_⟩
  obtain ⟨Aj, cj, e, hr⟩ := h3 j x hx
  exact ⟨Aj, cj, e, hr.below ((hk.far h.lb.lt h.lb.foot).mono P.B)⟩
theorem OI.at_ {wx : World} {t : Nat} (h : OI w1 B g dA dB wr C m D m2) (P : Apart w1 B g dA dB) (hk : Keep dA.foot wr wx) (ht : t < 6) : ∃ v, wx.cell? ⟨g, t, none⟩ = some v ∧ wx.frozen? ⟨g, t, none⟩ = false := by
  obtain ⟨cs, h1, h2, h3⟩ := h.arr
  have hblk : Blk wx g 65 cs.toArray := hk.blk h1 (fun hf => by have := P.a g hf; omega)
  exact ⟨cs[t]'(by omega), (hblk.cell t).trans (by simp), hblk.frozen t⟩
theorem OI.lt (h : OI w1 B g dA dB wr C m D m2) : g < wr.heap.size := by
  obtain ⟨cs, h1, _⟩ := h.arr
  exact h1.lt
/-- The array is written, and the first disk was. -/
theorem OI.store {t : Nat} {m' : Int} {A : Option Addr} {c : Nat} {l : List UInt8} {wx : World} (h : OI w1 B g dA dB wr C m D m2) (P : Apart w1 B g dA dB) (hk : Keep dA.foot wr wx) (hl : Lives w1.heap.size w1 wx dA (cs6 (C.set t l) m')) (ht : t < 6) (hr : Reads wr B 1 A l.length (l.map bv)) :
    OI w1 B g dA dB (wx.setCell ⟨g, t, none⟩ (.slice A l.length c)) (C.set t l) m' D m2 := by
  obtain ⟨cs, h1, h2, h3⟩ := h.arr
  have hlb := h.lb.other h.la (fun k h1 h2 => P.d k h2 h1) hk (fun _ h => h)
  have hblk : Blk wx g 65 cs.toArray := hk.blk h1 (fun hf => by have := P.a g hf; omega)
  have hkS : Keep (fun k => k = g) wx (wx.setCell ⟨g, t, none⟩ (.slice A l.length c)) := (Keep.refl _ _).setCell _ _ (fun _ => rfl)
  have hti : ∀ k, k = g → ¬ Typ wx k 3 := fun k e => by subst e; exact fun e => absurd (hblk.typ.ne e) (by decide)
  have hfar : Below w1.heap.size wx (wx.setCell ⟨g, t, none⟩ (.slice A l.length c)) := hkS.far hl.lt (fun k e => by rw [e]; exact P.n)
  have keepL : ∀ {d : DAt} {s : RSt}, (∀ k, d.foot k → k < g) → Lives w1.heap.size w1 wx d s → Lives w1.heap.size w1 (wx.setCell ⟨g, t, none⟩ (.slice A l.length c)) d s := fun hd L => by
    obtain ⟨kv, hdk⟩ := L.dk
    exact ⟨L.below.trans hfar, L.foot, kv, hdk.keep hkS (fun k hf e => by have := hd k hf; omega) hti⟩
  have hB1 : Below B wr wx := (hk.far h.la.lt h.la.foot).mono P.B
  have hB2 : Below B wr (wx.setCell ⟨g, t, none⟩ (.slice A l.length c)) := hB1.trans (hfar.mono P.B)
  refine ⟨keepL P.a hl, keepL P.b hlb, by rw [List.length_set]; exact h.len, cs.set t (.slice A l.length c), ?_, by rw [List.length_set]; exact h2, fun j x hx => ?_⟩
  · have := hblk.set_ t (.slice A l.length c)
    rwa [List.setIfInBounds_toArray] at this
  · by_cases hj : t = j
    · subst hj
      rw [List.getElem?_set_self (by rw [h.len]; exact ht)] at hx
      injection hx with hx
      subst hx
      exact ⟨A, c, by rw [List.getElem?_set_self (by omega)], hr.below hB2⟩
    · rw [List.getElem?_set_ne hj] at hx
      obtain ⟨Aj, cj, e, hrj⟩ := h3 j x hx
      exact ⟨Aj, cj, by rw [List.getElem?_set_ne hj]; exact e, hrj.below hB2⟩
end

set_option maxRecDepth 100000 in
set_option maxHeartbeats 4000000 in
theorem order_walk (A : Option Addr) (n c : Nat) (l : List DOp) (cr : DCrash) (KA : Option Addr) (Kc : Nat) (W : World) (H : DOps W W.heap.size A n l) (hn : n ≤ 9223372036854775807) (hk : Sl W W.heap.size KA Kc (cr.keep.map iv)) :
    Calls Try.prog 6 #[.slice A n c, .agg #[.int .i64 cr.write, .slice KA cr.keep.length Kc, .int .i64 cr.torn, .int .i64 cr.at_]] W fun e w' => e = .returned (.bool true) ∧ Below W.heap.size W w' := by
  obtain ⟨X, hX⟩ : ∃ X, (#[.int .i64 cr.write, .slice KA cr.keep.length Kc, .int .i64 cr.torn, .int .i64 cr.at_] : Array Value) = X := ⟨_, rfl⟩
  obtain ⟨W1, hW1⟩ : ∃ W1, W.alloc (.cells X 36) = W1 := ⟨_, rfl⟩
  have hB1 : Below W.heap.size W W1 := by rw [← hW1]; exact (Below.refl _ W).alloc (Nat.le_refl _) _
  have hN1 : Blk W1 W.heap.size 36 X := by rw [← hW1]; exact Blk.new W _ _
  rw [hX]
  have HB1 := Lib.hid hB1
  have HN1 := Lib.hid hN1
  have HX := Lib.hid hX
  have HH := Lib.hid H
  have HK := Lib.hid hk
  have hal := alive_any W1
  have HGA : Hid (∀ w', Below W.heap.size W w' → Calls Try.prog 8 #[.slice A n c] w' fun e w2 => e = .returned (.bool (dgreat l)) ∧ w' = w2) := Lib.hid (fun w' hb => dgreat_any A c n l w' ((H.below hb).more hb.size) hn)
  have HAL := Lib.hid hal
  clear hal H hk hB1 hN1 hX
  generalize hkl : cr.keep.length = kl at *
  by_cases hg : dgreat l = true
  · rw [hg] at HGA
    clear hg
    go_enter Try.func6, Try.ntmps6
    go_wp2_with (first
      | (go_at_call 27; refine HAL.out.mono ?_; rintro e w1 ⟨rfl, b0⟩; have HB := Lib.hid (HB1.out.trans (b0.mono HB1.out.size)); clear b0)
      | (go_at_call 8; refine (HGA.out w1 HB.out).mono ?_; rintro e _ ⟨rfl, rfl⟩))
    go_ret
    exact ⟨rfl, HB.out⟩
  · have hg' : dgreat l = false := by simpa using hg
    rw [hg'] at HGA
    clear hg hg'
    have HL1 : Hid (∀ w1, Below W1.heap.size W1 w1 → w1.cell? ⟨W.heap.size, 1, none⟩ = some (.slice KA kl Kc)) := Lib.hid (fun w1 b0 => ((HN1.out.below b0 HN1.out.lt).cell 1).trans (by rw [← HX.out]; rfl))
    by_cases h50 : 50 < n
    · go_enter Try.func6, Try.ntmps6
      go_wp2_with (first
        | (go_at_call 27; refine HAL.out.mono ?_; rintro e w1 ⟨rfl, b0⟩; have HB := Lib.hid (HB1.out.trans (b0.mono HB1.out.size)); clear b0)
        | (go_at_call 8; refine (HGA.out w1 HB.out).mono ?_; rintro e _ ⟨rfl, rfl⟩))
      go_ret
      exact ⟨rfl, HB.out⟩
    · by_cases h100 : 100 < kl
      · go_enter Try.func6, Try.ntmps6
        go_wp2_with (first
          | (go_at_call 27; refine HAL.out.mono ?_; rintro e w1 ⟨rfl, b0⟩; have HB := Lib.hid (HB1.out.trans (b0.mono HB1.out.size)); have c1 := HL1.out w1 b0; clear b0)
          | (go_at_call 8; refine (HGA.out w1 HB.out).mono ?_; rintro e _ ⟨rfl, rfl⟩))
        go_ret
        exact ⟨rfl, HB.out⟩
      · have L0 : Hid True := Lib.hid trivial
        go_enter Try.func6, Try.ntmps6
        go_wp2_with (first
          | (go_at_call 27; refine HAL.out.mono ?_; rintro e w1 ⟨rfl, b0⟩; have HB := Lib.hid (HB1.out.trans (b0.mono HB1.out.size)); have c1 := HL1.out w1 b0; have HBX := Lib.hid (HN1.out.below b0 HN1.out.lt); clear b0)
          | (go_at_call 8; refine (HGA.out w1 HB.out).mono ?_; rintro e _ ⟨rfl, rfl⟩)
          | (go_at_call 9; have l0 := L0.out; clear l0; refine (lnew (N := w1.heap.size) (w0 := w1) 6 (Nat.le_refl _) (Below.refl _ _) (by omega) (by omega) rfl).mono ?_; rintro e w2 ⟨dA, rfl, la, ba, -⟩; have LA := Lib.hid la; have BA := Lib.hid ba; clear la ba c1 L0)
          | (go_at_call 9; have l0 := LA.out; clear l0; refine (lnew (N := w1.heap.size) (w0 := w1) 6 BA.out.size BA.out (by omega) (by omega) rfl).mono ?_; rintro e w3 ⟨dB, rfl, lb, bb, fb⟩; have LB := Lib.hid lb; have LA2 := Lib.hid (LA.out.next LA.out.lt bb); have HD : Hid (∀ k, dA.foot k → ¬ dB.foot k) := Lib.hid (fun k h1 h2 => by have := LA.out.all_lt k h1; have := fb k h2; omega); clear lb bb fb LA BA))
        have HP : Hid (Apart w1 W.heap.size w3.heap.size dA dB) := Lib.hid ⟨LA2.out.all_lt, LB.out.all_lt, HD.out, LA2.out.lt, HB.out.size⟩
        have HO : Hid (OI w1 W.heap.size w3.heap.size dA dB (w3.alloc (.cells #[.slice none 0 0, .slice none 0 0, .slice none 0 0, .slice none 0 0, .slice none 0 0, .slice none 0 0] 65)) (List.replicate 6 []) 0 (List.replicate 6 []) 0) := Lib.hid
          ⟨LA2.out.next LA2.out.lt ((Below.refl _ _).alloc (Nat.le_refl _) _), LB.out.next LB.out.lt ((Below.refl _ _).alloc (Nat.le_refl _) _), rfl, List.replicate 6 (.slice none 0 0), Blk.new w3 65 _, rfl, fun j x hx => by
            rw [List.getElem?_replicate] at hx
            split at hx
            · injection hx with hx
              subst hx
              exact ⟨none, 0, by rw [List.getElem?_replicate, if_pos (by assumption)]; rfl, Reads.none_⟩
            · cases hx⟩
        have HL := Lib.hid HH.out.1
        obtain ⟨g, hgg⟩ : ∃ g, w3.heap.size = g := ⟨_, rfl⟩
        rw [hgg] at HP HO ⊢
        clear LA2 LB HD
        have hg0 : Below W.heap.size W w1 := HB.out
        have HB0 := Lib.hid hg0
        clear hg0 hgg
        go_loopw [55] (fun i wr => ∃ (k : Nat) (C : List (List UInt8)) (m : Nat), k ≤ n ∧ i = .int .i64 ((k : Nat) : Int) ∧ m ≤ k ∧ OI w1 W.heap.size g dA dB wr C (m : Int) (List.replicate 6 []) 0) (fun i _ => n - (intOf i).toNat)
        case atStart => exact ⟨0, _, 0, Nat.zero_le _, rfl, Nat.le_refl _, HO.out⟩
        case round =>
          obtain ⟨k, C, m, hkn, rfl, hmk, hO⟩ := hrel
          by_cases hlt : k < n
          · have hBw : Below W.heap.size W wr := HB.out.trans (hO.la.below.mono HP.out.B)
            obtain ⟨ad, BA, Bc, KA2, Kc2, rfl, hadb, dc⟩ := (HH.out.below hBw).at_ hlt
            have hkl : k < l.length := by have := HL.out; omega
            generalize l[k]'(by have := HL.out; omega) = o at dc
            obtain ⟨kd, at_, bb, cw⟩ := o
            have x0 := dc.kind
            have x1 := dc.at_
            have x2 := dc.b
            have x3 := dc.write
            have x4 := dc.keep
            have x5 := dc.torn
            have x6 := dc.cat
            have hbs : Reads wr W.heap.size 1 BA bb.length (bb.map bv) := by have := dc.bs.reads; rwa [List.length_map] at this
            simp only at x0 x1 x2 x3 x4 x5 x6
            obtain ⟨cww, cwk, cwt, cwa⟩ := cw
            simp only at x3 x4 x5 x6
            clear dc
            have hbx : Below wr.heap.size wr (wr.alloc (.cells #[.int .i64 kd, .int .i64 at_, .slice BA bb.length Bc, .int .i64 cww, .slice KA2 cwk.length Kc2, .int .i64 cwt, .int .i64 cwa] 38)) := (Below.refl _ _).alloc (Nat.le_refl _) _
            have hx := Blk.new wr 38 #[.int .i64 kd, .int .i64 at_, .slice BA bb.length Bc, .int .i64 cww, .slice KA2 cwk.length Kc2, .int .i64 cwt, .int .i64 cwa]
            have hO2 := hO.next HP.out hbx
            have hfew : Few (cs6 C (m : Int)) := ⟨by show (m : Int) < _; omega⟩
            have hrw : Reads (wr.alloc (.cells #[.int .i64 kd, .int .i64 at_, .slice BA bb.length Bc, .int .i64 cww, .slice KA2 cwk.length Kc2, .int .i64 cwt, .int .i64 cwa] 38)) W.heap.size 1 BA bb.length (bb.map bv) := hbs.below (hbx.mono hBw.size)
            have hWle : W.heap.size ≤ (wr.alloc (.cells #[.int .i64 kd, .int .i64 at_, .slice BA bb.length Bc, .int .i64 cww, .slice KA2 cwk.length Kc2, .int .i64 cwt, .int .i64 cwa] 38)).heap.size := Nat.le_trans hBw.size hbx.size
            have HHX := Lib.hid hx
            have HO2 := Lib.hid hO2
            have HFEW := Lib.hid hfew
            have HRW := Lib.hid hrw
            have HWL := Lib.hid hWle
            clear hx hO2 hfew hrw hWle hbs hbx hBw
            rcases write6 C m at_ bb with ⟨he, hw, h0, h6, h128⟩ | ⟨he, hw⟩
            · obtain ⟨t, rfl⟩ : ∃ t : Nat, at_ = (t : Int) := ⟨at_.toNat, by omega⟩
              have ht : t < 6 := by omega
              rw [Int.toNat_natCast] at hw
              have hw2 : writeK (cs6 C (m : Int)) (t : Int) bb = cs6 (C.set t bb) ((m + 1 : Nat) : Int) := hw.trans (by rw [Int.natCast_add]; rfl)
              have HWR := Lib.hid (lwrite (t : Int) BA bb.length Bc bb HO2.out.la rfl (HRW.out.more HWL.out) HFEW.out he hw2)
              have HST : Hid (∀ w9, Keep dA.foot (wr.alloc (.cells #[.int .i64 kd, .int .i64 (t : Int), .slice BA bb.length Bc, .int .i64 cww, .slice KA2 cwk.length Kc2, .int .i64 cwt, .int .i64 cwa] 38)) w9 → Lives w1.heap.size w1 w9 dA (cs6 (C.set t bb) ((m + 1 : Nat) : Int)) → OI w1 W.heap.size g dA dB (w9.setCell ⟨g, t, none⟩ (.slice BA bb.length Bc)) (C.set t bb) ((m + 1 : Nat) : Int) (List.replicate 6 []) 0) := Lib.hid (fun w9 k9 l9 => HO2.out.store HP.out k9 l9 ht HRW.out)
              have HNF : Hid (¬ dA.foot wr.heap.size) := Lib.hid (fun hf => by have := HP.out.a _ hf; have := hO.lt; omega)
              have HAT : Hid (∀ w9, Keep dA.foot (wr.alloc (.cells #[.int .i64 kd, .int .i64 (t : Int), .slice BA bb.length Bc, .int .i64 cww, .slice KA2 cwk.length Kc2, .int .i64 cwt, .int .i64 cwa] 38)) w9 → ∃ v, w9.cell? ⟨g, t, none⟩ = some v ∧ w9.frozen? ⟨g, t, none⟩ = false) := Lib.hid (fun w9 k9 => HO2.out.at_ HP.out k9 ht)
              clear he hw hw2 h0 h6 h128
              generalize bb.length = bl at *
              go_wp2_with (go_at_call 16; refine HWR.out.mono ?_; rintro e w9 ⟨rfl, l9, k9⟩; have HS9 := Lib.hid (HST.out w9 k9 l9); have hb9 := k9.blk HHX.out HNF.out; have y1 := hb9.cell 1; have y2 := hb9.cell 2; obtain ⟨v9, g9, f9⟩ := HAT.out w9 k9; clear l9 k9 hb9)
              exact ⟨⟨k + 1, C.set t bb, m + 1, by omega, by go_num, by omega, HS9.out⟩, by simp [intOf]; omega⟩
            · have HWR := Lib.hid (lwrite at_ BA bb.length Bc bb HO2.out.la rfl (HRW.out.more HWL.out) HFEW.out he hw)
              clear he hw
              generalize bb.length = bl at *
              go_wp2_with (go_at_call 16; refine HWR.out.mono ?_; rintro e w9 ⟨rfl, l9, k9⟩; have HO9 := Lib.hid (HO2.out.callA HP.out k9 l9 rfl); clear l9 k9)
              exact ⟨⟨k + 1, C, m, by omega, by go_num, by omega, HO9.out⟩, by simp [intOf]; omega⟩
          · obtain rfl : k = n := by omega
            have hOF : OI w1 W.heap.size g dA dB wr C (m : Int) (fill C 6) ((0 : Nat) : Int) := by rw [fill_six hO.len]; exact hO
            have HOF := Lib.hid hOF
            have hm50 : m ≤ 50 := by omega
            clear hO hOF HO
            go_wp2
            go_loopw [13] (fun i wr => ∃ (j m2 : Nat) (z : Int), j ≤ 6 ∧ i = .int .i64 z ∧ z = (j : Int) - 1 ∧ m2 + j ≤ 6 ∧ OI w1 W.heap.size g dA dB wr C (m : Int) (fill C j) (m2 : Int)) (fun i _ => (intOf i + 1).toNat)
            case atStart => exact ⟨6, 0, 5, Nat.le_refl _, rfl, rfl, Nat.le_refl _, HOF.out⟩
            case round =>
              obtain ⟨j, m2, z, hj6, rfl, hz, hm2, hO⟩ := hrel
              rcases j with _ | q
              · obtain rfl : z = -1 := by omega
                obtain ⟨ws, hws⟩ : ∃ ws, waits3 (cs6 C 0) = ws := ⟨_, rfl⟩
                have hwa : waits3 (cs6 C (m : Int)) = ws := (waits6 C _ _).trans hws
                have hwb : waits3 (cs6 (fill C 0) (m2 : Int)) = ws := (waits6 C _ _).trans hws
                have hwf : ws.length ≤ 6 := by rw [← hws]; exact waits6_few C 0
                have O1 := Lib.hid hO
                clear hO hws hz HOF
                go_wp2_with (first
                  | (go_at_call 25; have l0 := O1.out; clear l0; refine (lwaits O1.out.la hwa rfl).mono ?_; rintro e w5 ⟨A5, c5, rfl, r5, b5, -⟩; have R5 := Lib.hid r5; have O2 := Lib.hid (O1.out.next HP.out b5); clear r5 b5 O1)
                  | (go_at_call 25; have l0 := O2.out; clear l0; refine (lwaits O2.out.lb hwb rfl).mono ?_; rintro e w6 ⟨A6, c6, rfl, r6, b6, -⟩; have R6 := Lib.hid r6; replace R5 := Lib.hid ((R5.out.below b6).more b6.size); have O3 := Lib.hid (O2.out.next HP.out b6); clear r6 b6 O2)
                  | (go_at_call 30; have l0 := O3.out; clear l0; have hint := ints_any A5 A6 c5 c6 ws.length ws.length ws ws w6 rfl rfl R5.out R6.out (by omega) (by omega); rw [decide_eq_true rfl] at hint; refine hint.mono ?_; clear hint; rintro e w7 ⟨rfl, b7⟩; have O4 := Lib.hid (O3.out.next HP.out b7); clear b7 O3 R5 R6))
                have hXX := HX.out
                subst hXX
                have HBL : Hid (W.heap.size < w1.heap.size) := Lib.hid HBX.out.lt
                have HSL : Hid (∀ w8, Below w1.heap.size w1 w8 → Sl w8 w8.heap.size KA Kc (cr.keep.map iv)) := Lib.hid (fun w8 hb => ((HK.out.below (HB0.out.trans (hb.mono HB0.out.size))).more (Nat.le_trans HB0.out.size hb.size)))
                have LA7 := Lib.hid O4.out.la
                have LB7 : Hid (Lives w1.heap.size w1 w7 dB (cs6 C (m2 : Int))) := Lib.hid O4.out.lb
                clear O4 hwa hwb HGA HAL HL1 hW1 HN1 HB1 HH HL
                refine wp_region_done_on (fun dn w' => Lives w1.heap.size w1 w' dA (if dn 2 = true then downK (cs6 C (m : Int)) cr else cs6 C (m : Int)) ∧ Lives w1.heap.size w1 w' dB (if dn 5 = true then downK (cs6 C (m2 : Int)) cr else cs6 C (m2 : Int)))
                  (fun _ i v _ => v = ([.pointer (some ⟨dA.b, 0, none⟩), .agg #[.int .i64 cr.write, .slice KA kl Kc, .int .i64 cr.torn, .int .i64 cr.at_], .int .i64 0, .pointer (some ⟨dB.b, 0, none⟩), .agg #[.int .i64 cr.write, .slice KA kl Kc, .int .i64 cr.torn, .int .i64 cr.at_], .int .i64 0, .int .i64 0, .int .i64 0] : List Value).getD i undef) (by kernel_rfl) 133 rfl (by kernel_rfl) ⟨LA7.out.drew', LB7.out.drew'⟩ ?_ ?_
                · intro i hi
                  have hi2 : i < 8 := hi
                  clear hi
                  rcases i with _ | i
                  · refine done_value (fun _ _ h => h) (fun _ _ _ _ h => h) (.pointer (some ⟨dA.b, 0, none⟩)) rfl ?_
                    intro dn a8 w8 hS ho hn
                    have o6 : a8.tmps[6]? = some _ := (ho 6 (by kernel_rfl)).trans rfl
                    clear ho hn
                    refine ⟨wanted_free rfl, ?_, rfl⟩
                    go_simp
                  rcases i with _ | i
                  · refine done_value (fun _ _ h => h) (fun _ _ _ _ h => h) (.agg #[.int .i64 cr.write, .slice KA kl Kc, .int .i64 cr.torn, .int .i64 cr.at_]) rfl ?_
                    intro dn a8 w8 hS ho hn
                    have o3 : a8.tmps[3]? = some _ := (ho 3 (by kernel_rfl)).trans rfl
                    clear ho hn
                    refine ⟨wanted_free rfl, ?_, rfl⟩
                    have hbx := HBX.out.below hS.1.below HBL.out
                    have d0 := hbx.cell 0
                    have d1 := hbx.cell 1
                    have d2 := hbx.cell 2
                    have d3 := hbx.cell 3
                    go_simp
                  rcases i with _ | i
                  · refine done_call 20 #[.pointer (some ⟨dA.b, 0, none⟩), .agg #[.int .i64 cr.write, .slice KA kl Kc, .int .i64 cr.torn, .int .i64 cr.at_]] rfl ?_
                    intro dn a8 w8 hS hd hx ho hn
                    obtain ⟨_, n95, rfl⟩ := hn 0 95 (by kernel_rfl) rfl
                    obtain ⟨_, n96, rfl⟩ := hn 1 96 (by kernel_rfl) rfl
                    clear ho hn
                    refine ⟨wanted_free rfl, by go_simp, ?_⟩
                    have hS1 : Lives w1.heap.size w1 w8 dA (cs6 C (m : Int)) := by
                      have h := hS.1
                      have hd2 : dn 2 = false := hd
                      simpa only [hd2, Bool.false_eq_true, if_false] using h
                    refine (ldown cr KA kl Kc hS1 hkl (HSL.out w8 hS1.below) rfl rfl).mono ?_
                    rintro e w9 ⟨rfl, l9, k9⟩
                    exact ⟨_, rfl, ⟨l9, hS.2.other hS1 (fun k h1 h2 => HP.out.d k h2 h1) k9 (fun _ h => h)⟩, rfl, fun j u _ _ hR => hR⟩
                  rcases i with _ | i
                  · refine done_value (fun _ _ h => h) (fun _ _ _ _ h => h) (.pointer (some ⟨dB.b, 0, none⟩)) rfl ?_
                    intro dn a8 w8 hS ho hn
                    have o8 : a8.tmps[8]? = some _ := (ho 8 (by kernel_rfl)).trans rfl
                    clear ho hn
                    refine ⟨wanted_free rfl, ?_, rfl⟩
                    go_simp
                  rcases i with _ | i
                  · refine done_value (fun _ _ h => h) (fun _ _ _ _ h => h) (.agg #[.int .i64 cr.write, .slice KA kl Kc, .int .i64 cr.torn, .int .i64 cr.at_]) rfl ?_
                    intro dn a8 w8 hS ho hn
                    have o3 : a8.tmps[3]? = some _ := (ho 3 (by kernel_rfl)).trans rfl
                    clear ho hn
                    refine ⟨wanted_free rfl, ?_, rfl⟩
                    have hbx := HBX.out.below hS.1.below HBL.out
                    have d0 := hbx.cell 0
                    have d1 := hbx.cell 1
                    have d2 := hbx.cell 2
                    have d3 := hbx.cell 3
                    go_simp
                  rcases i with _ | i
                  · refine done_call 20 #[.pointer (some ⟨dB.b, 0, none⟩), .agg #[.int .i64 cr.write, .slice KA kl Kc, .int .i64 cr.torn, .int .i64 cr.at_]] rfl ?_
                    intro dn a8 w8 hS hd hx ho hn
                    obtain ⟨_, n98, rfl⟩ := hn 3 98 (by kernel_rfl) rfl
                    obtain ⟨_, n99, rfl⟩ := hn 4 99 (by kernel_rfl) rfl
                    clear ho hn
                    refine ⟨wanted_free rfl, by go_simp, ?_⟩
                    have hS2 : Lives w1.heap.size w1 w8 dB (cs6 C (m2 : Int)) := by
                      have h := hS.2
                      have hd2 : dn 5 = false := hd
                      simpa only [hd2, Bool.false_eq_true, if_false] using h
                    refine (ldown cr KA kl Kc hS2 hkl (HSL.out w8 hS2.below) rfl rfl).mono ?_
                    rintro e w9 ⟨rfl, l9, k9⟩
                    exact ⟨_, rfl, ⟨hS.1.other hS2 HP.out.d k9 (fun _ h => h), l9⟩, rfl, fun j u _ _ hR => hR⟩
                  rcases i with _ | i
                  · refine done_value (fun _ _ h => h) (fun _ _ _ _ h => h) (.int .i64 0) rfl ?_
                    intro dn a8 w8 hS ho hn
                    obtain ⟨_, n97, rfl⟩ := hn 2 97 (by kernel_rfl) rfl
                    clear ho hn
                    refine ⟨wanted_free rfl, ?_, rfl⟩
                    go_simp
                  rcases i with _ | i
                  · refine done_value (fun _ _ h => h) (fun _ _ _ _ h => h) (.int .i64 0) rfl ?_
                    intro dn a8 w8 hS ho hn
                    obtain ⟨_, n100, rfl⟩ := hn 5 100 (by kernel_rfl) rfl
                    clear ho hn
                    refine ⟨wanted_free rfl, ?_, rfl⟩
                    go_simp
                  omega
                · intro done f w8 hS hR hall
                  have e15 : f 15 = .int .i64 0 := hR 6 15 rfl
                  have e16 : f 16 = .int .i64 0 := hR 7 16 rfl
                  have LA8 : Hid (Lives w1.heap.size w1 w8 dA (downK (cs6 C (m : Int)) cr)) := Lib.hid (by have h := hS.1; rwa [if_pos (hall 2 (by decide))] at h)
                  have LB8 : Hid (Lives w1.heap.size w1 w8 dB (downK (cs6 C (m2 : Int)) cr)) := Lib.hid (by have h := hS.2; rwa [if_pos (hall 5 (by decide))] at h)
                  clear hR hS hall
                  simp only [putAll, List.foldl_cons, List.foldl_nil, Act.put, List.setIfInBounds_toArray, List.set_cons_succ, List.set_cons_zero]
                  rw [e15, e16]
                  clear e15 e16
                  go_wp2_with (first
                    | (go_at_call 12; have l0 := LA8.out; clear l0; refine (lboot LA8.out rfl).mono ?_; rintro e w9 ⟨rfl, l9, k9⟩; have LA9 := Lib.hid l9; have LB9 := Lib.hid (LB8.out.other LA8.out (fun k h1 h2 => HP.out.d k h2 h1) k9 (fun _ h => h)); clear l9 k9 LA8 LB8)
                    | (go_at_call 12; have l0 := LB9.out; clear l0; refine (lboot LB9.out rfl).mono ?_; rintro e w10 ⟨rfl, l9, k9⟩; have LA10 := Lib.hid (LA9.out.other LB9.out HP.out.d k9 (fun _ h => h)); have LB10 := Lib.hid l9; clear l9 k9 LA9 LB9))
                  have hro : ∀ k : Int, readOut3 (bootSt (downK (cs6 C (m : Int)) cr)) k = readOut3 (bootSt (downK (cs6 C (m2 : Int)) cr)) k := read6_out C _ _ cr
                  have hea : ∀ k : Nat, k < 6 → readErr3 (bootSt (downK (cs6 C (m : Int)) cr)) (k : Int) = 0 := read6_err C _ cr
                  have heb : ∀ k : Nat, k < 6 → readErr3 (bootSt (downK (cs6 C (m2 : Int)) cr)) (k : Int) = 0 := read6_err C _ cr
                  generalize bootSt (downK (cs6 C (m : Int)) cr) = sA at *
                  generalize bootSt (downK (cs6 C (m2 : Int)) cr) = sB at *
                  go_loopw [17] (fun i wr => ∃ k : Nat, k ≤ 6 ∧ i = .int .i64 (k : Int) ∧ Lives w1.heap.size w1 wr dA sA ∧ Lives w1.heap.size w1 wr dB sB) (fun i _ => 6 - (intOf i).toNat)
                  case atStart => exact ⟨0, by omega, rfl, LA10.out, LB10.out⟩
                  case round =>
                    obtain ⟨q, hq, rfl, la, lb⟩ := hrel
                    by_cases hq6 : q < 6
                    · have HR := Lib.hid (lread (q : Int) lb (heb q hq6) rfl)
                      have hdec : decide (readErr3 sA (q : Int) = 0 ∧ readOut3 sA (q : Int) = readOut3 sB (q : Int)) = true := decide_eq_true ⟨hea q hq6, hro q⟩
                      have HLA := Lib.hid la
                      have HDE := Lib.hid hdec
                      generalize readOut3 sB (q : Int) = x at *
                      clear la lb hdec hro
                      go_wp2_with (first
                        | (go_at_call 13; have l0 := HR.out; clear l0; refine HR.out.mono ?_; rintro e w11 ⟨v, rfl, ro, lb⟩; obtain ⟨Ar, cr2, rfl, rr⟩ := ro.reads; have cv := conv_reads cr2 rr; have HLB := Lib.hid lb; have HLA2 := Lib.hid (HLA.out.next HLA.out.lt ro.1); clear ro rr lb HR HLA)
                        | (go_at_call 22; refine (reads_any (q : Int) x true HLA2.out HDE.out).mono ?_; rintro e w12 ⟨rfl, b9⟩; have HLA3 := Lib.hid (HLA2.out.next HLA2.out.lt b9); have HLB3 := Lib.hid (HLB.out.next HLB.out.lt b9); clear b9 HLA2 HLB))
                      exact ⟨⟨q + 1, by omega, by go_num, HLA3.out, HLB3.out⟩, by simp [intOf]; omega⟩
                    · obtain rfl : q = 6 := by omega
                      have HF := Lib.hid (HB0.out.trans (la.below.mono HB0.out.size))
                      clear la lb hro hea heb
                      go_wp2
                      go_ret
                      exact ⟨rfl, HF.out⟩
              · obtain rfl : z = (q : Int) := by omega
                clear hz
                obtain ⟨cs, hb, hcl, har⟩ := hO.arr
                have hql : q < C.length := by rw [hO.len]; omega
                obtain ⟨x, hx⟩ : ∃ x, C[q]? = some x := ⟨_, List.getElem?_eq_getElem hql⟩
                obtain ⟨Aj, cj, hcs, hrj⟩ := har q x hx
                have cx : wr.cell? ⟨g, q, none⟩ = some (.slice Aj x.length cj) := (hb.cell q).trans (by rw [List.getElem?_toArray]; exact hcs)
                have hwt : x.length = 0 ∨ x.length = 128 := by
                  obtain ⟨kv, hdk⟩ := hO.la.dk
                  exact hdk.ok.wait x (List.mem_of_getElem? hx)
                rcases hwt with hx0 | hx1
                · have hxn : x = [] := List.eq_nil_of_length_eq_zero hx0
                  subst hxn
                  have HN := Lib.hid (fill_none hx ▸ hO)
                  rw [List.length_nil] at cx
                  clear hb har hcs hrj hO
                  go_wp2
                  exact ⟨⟨q, m2, (q : Int) - 1, by omega, by go_num, rfl, by omega, HN.out⟩, by simp [intOf] <;> omega⟩
                · have hfew : Few (cs6 (fill C (q + 1)) (m2 : Int)) := ⟨by show (m2 : Int) < _; omega⟩
                  have hws : writeErr (cs6 (fill C (q + 1)) (m2 : Int)) (q : Int) x = 0 ∧ writeK (cs6 (fill C (q + 1)) (m2 : Int)) (q : Int) x = cs6 (fill C q) ((m2 + 1 : Nat) : Int) := by
                    rcases write6 (fill C (q + 1)) (m2 : Int) (q : Int) x with ⟨he, hw, _⟩ | ⟨he, _⟩
                    · rw [Int.toNat_natCast, fill_set hx] at hw
                      exact ⟨he, hw.trans (by rw [Int.natCast_add]; rfl)⟩
                    · exfalso
                      unfold writeErr at he
                      rw [if_neg (by simp [cs6, newSt])] at he
                      unfold takes3 at he
                      rw [has_cs6, decide_eq_true (by omega), hx1] at he
                      exact absurd he (by simp [cs6, newSt])
                  have hBw : W.heap.size ≤ wr.heap.size := Nat.le_trans HP.out.B (Nat.le_trans hO.la.below.size (Nat.le_refl _))
                  have HWR := Lib.hid (lwrite (q : Int) Aj x.length cj x hO.lb rfl (hrj.more hBw) hfew hws.1 hws.2)
                  have HO1 := Lib.hid hO
                  clear hb har hcs hrj hO hws hfew hBw hx
                  rw [hx1] at cx HWR
                  go_wp2_with (go_at_call 16; refine HWR.out.mono ?_; rintro e w9 ⟨rfl, l9, k9⟩; have HO9 := Lib.hid (HO1.out.callB HP.out k9 l9); clear l9 k9)
                  exact ⟨⟨q, m2 + 1, (q : Int) - 1, by omega, by go_num, rfl, by omega, HO9.out⟩, by simp [intOf] <;> omega⟩
end Go.Proofs.Ytimlhbpajcadeaa

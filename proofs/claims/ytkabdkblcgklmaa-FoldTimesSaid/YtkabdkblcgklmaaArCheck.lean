/-
  Layer 11 (array): which arrays may be: isNoCharacter, ContainsFunc, isOfKind, Check; how an array lies.
-/
import Derived.Test.YtkabdkblcgklmaaArChars
namespace Go.Proofs.Ytkabdkblcgklmaa.arr
open Go.RowKit

theorem arvalid_any (r : Int) (w : World) : Calls Try.prog 184 #[.int .i32 r] w fun e w' => e = .returned (.bool (Lib.validRune r)) ∧ w = w' := by
  have h : Calls Try.prog 184 #[.int .i32 r] w fun e w' => e = .returned (.bool (Lib.validRune r)) ∧ w' = w := Any.utf8_ValidRune Try.vrA r w
  refine h.mono ?_
  rintro e w' ⟨rfl, rfl⟩
  exact ⟨rfl, rfl⟩
theorem valid_char {x : Int} (h0 : 0 ≤ x) (h1 : x ≤ 1114111) : Lib.validRune x = charOk x := by
  rw [Bool.eq_iff_iff, charOk_iff]
  unfold Lib.validRune
  rw [decide_eq_true_eq]
  omega
theorem arnochar_any (x : Int) (w : World) : Calls Try.prog 116 #[.int .i64 x] w fun e w' => e = .returned (.bool (!charOk x)) ∧ w = w' := by
  by_cases h1 : 0 ≤ x
  · have hd : decide (x < 0) = false := decide_eq_false (by omega)
    by_cases h2 : x ≤ 1114111
    · have hd2 : decide (1114111 < x) = false := decide_eq_false (by omega)
      have hwr := wrap32 h1 h2
      have HV := Lib.hid (arvalid_any x w)
      rw [valid_char h1 h2] at HV
      generalize charOk x = b at *
      go_enter Try.func116, Try.ntmps116
      go_wp2_with (go_at_call 184; refine HV.out.mono ?_; rintro e _ ⟨rfl, rfl⟩)
      go_ret
      exact ⟨rfl, rfl⟩
    · have hd2 : decide (1114111 < x) = true := decide_eq_true (by omega)
      have hc : charOk x = false := by unfold charOk; rw [decide_eq_false h2, Bool.and_false, Bool.false_and]
      rw [hc]
      go_enter Try.func116, Try.ntmps116
      go_wp2
      go_ret
      exact ⟨rfl, rfl⟩
  · have hd : decide (x < 0) = true := decide_eq_true (by omega)
    have hc : charOk x = false := by unfold charOk; rw [decide_eq_false h1, Bool.false_and, Bool.false_and]
    rw [hc]
    go_enter Try.func116, Try.ntmps116
    go_wp2
    go_ret
    exact ⟨rfl, rfl⟩

set_option maxHeartbeats 1000000 in
/-- Where the first one that is no character stands. -/
theorem arindexL_any (A : Option Addr) (c n : Nat) (l : List Int) (w : World) (hl : l.length = n) (ha : Reads w w.heap.size 1 A n (l.map iv)) (hn : n ≤ 9223372036854775807) :
    Calls Try.prog 183 #[.slice A n c, .func (.func 116) #[] #[]] w fun e w' => ∃ k : Int, e = .returned (.int .i64 k) ∧ (decide (k ≥ 0) = !(l.all charOk)) ∧ w = w' := by
  have HA := Lib.hid ha
  have HL := Lib.hid hl
  clear ha hl
  go_enter Try.func183, Try.ntmps183
  go_wp2
  go_loopw [8] (fun i wr => ∃ j, j ≤ n ∧ i = .int .i64 ((j : Nat) : Int) ∧ (l.take j).all charOk = true ∧ wr = w) (fun i _ => n - (intOf i).toNat)
  case atStart => exact ⟨0, Nat.zero_le _, rfl, by simp, rfl⟩
  case round =>
    obtain ⟨j, hj, rfl, hni, rfl⟩ := hrel
    by_cases hlt : j < n
    · obtain ⟨adA, rfl, _, cA⟩ := HA.out.int_at hlt HL.out
      have hjl : j < l.length := by have := HL.out; omega
      have hin : l[j] ∈ l := List.getElem_mem hjl
      have hstep : charOk l[j] = true → (l.take (j + 1)).all charOk = true := fun h => by
        rw [List.take_succ_eq_append_getElem hjl, List.all_append, hni]
        simpa using h
      have hno : charOk l[j] = false → l.all charOk = false := fun h => by
        rw [List.all_eq_false]
        exact ⟨_, hin, by rw [h]; decide⟩
      generalize l[j] = y at *
      have HST := Lib.hid hstep
      have HNO := Lib.hid hno
      have HC := Lib.hid (arnochar_any y wr)
      clear hin hstep hno hni
      cases hy : charOk y
      · rw [hy] at HC
        have HY := Lib.hid hy
        clear hy
        go_wp2_with (go_at_call 116; refine HC.out.mono ?_; rintro e _ ⟨rfl, rfl⟩)
        go_ret
        refine ⟨_, rfl, ?_, rfl⟩
        rw [HNO.out HY.out, decide_eq_true (by omega)]
        rfl
      · rw [hy] at HC
        have HY := Lib.hid hy
        clear hy
        go_wp2_with (go_at_call 116; refine HC.out.mono ?_; rintro e _ ⟨rfl, rfl⟩)
        exact ⟨⟨j + 1, by omega, by go_num, HST.out HY.out, trivial⟩, by simp [intOf]; omega⟩
    · obtain rfl : j = n := by omega
      have hall : l.all charOk = true := by
        rwa [List.take_of_length_le (by have := HL.out; omega)] at hni
      have HALL := Lib.hid hall
      clear hall hni
      go_wp2
      go_ret
      refine ⟨_, rfl, ?_, rfl⟩
      rw [HALL.out]
      rfl

theorem arhasL_any (A : Option Addr) (c n : Nat) (l : List Int) (w : World) (hl : l.length = n) (ha : Reads w w.heap.size 1 A n (l.map iv)) (hn : n ≤ 9223372036854775807) :
    Calls Try.prog 115 #[.slice A n c, .func (.func 116) #[] #[]] w fun e w' => e = .returned (.bool (!(l.all charOk))) ∧ w = w' := by
  have H := Lib.hid (arindexL_any A c n l w hl ha hn)
  clear ha hl
  go_enter Try.func115, Try.ntmps115
  go_wp2_with (go_at_call 183; refine H.out.mono ?_; rintro e _ ⟨k, rfl, hk, rfl⟩)
  go_ret
  exact ⟨by rw [← hk]; rfl, rfl⟩

theorem arkind_any (k : Int) (A : Option Addr) (c n : Nat) (l : List Int) (w : World) (hl : l.length = n) (ha : Reads w w.heap.size 1 A n (l.map iv)) (hn : n ≤ 9223372036854775807) :
    Calls Try.prog 64 #[.int .i64 k, .slice A n c] w fun e w' => e = .returned (.bool (kindOk k l)) ∧ w = w' := by
  have H := Lib.hid (arhasL_any A c n l w hl ha hn)
  clear ha hl
  unfold kindOk
  by_cases h1 : k = 1
  · subst h1
    clear H
    rw [decide_eq_true rfl, Bool.true_or]
    go_enter Try.func64, Try.ntmps64
    go_wp2
    go_ret
    exact ⟨rfl, rfl⟩
  · by_cases h2 : k = 2
    · subst h2
      generalize l.all charOk = b at *
      go_enter Try.func64, Try.ntmps64
      go_wp2_with (go_at_call 115; refine H.out.mono ?_; rintro e _ ⟨rfl, rfl⟩)
      go_ret
      exact ⟨by simp, rfl⟩
    · have b1 : (k == 1) = false := by simpa using h1
      have b2 : (k == 2) = false := by simpa using h2
      rw [decide_eq_false h1, decide_eq_false h2]
      clear H
      go_enter Try.func64, Try.ntmps64
      go_wp2
      go_ret
      exact ⟨rfl, rfl⟩

/-- An array as a value, its lists in memory. -/
structure AP where
  A0 : Option Addr
  c0 : Nat
  A1 : Option Addr
  c1 : Nat
def arC (a : AV) (p : AP) : Array Value := #[.int .i64 a.kind, .slice p.A0 a.sh.length p.c0, .slice p.A1 a.el.length p.c1]
structure AEl (W : World) (a : AV) (p : AP) : Prop where
  r0 : Reads W W.heap.size 1 p.A0 a.sh.length (a.sh.map iv)
  r1 : Reads W W.heap.size 1 p.A1 a.el.length (a.el.map iv)
  b0 : a.sh.length ≤ 9223372036854775807
  b1 : a.el.length ≤ 9223372036854775807
  f1 : ∀ z ∈ a.el, -9223372036854775808 ≤ z ∧ z ≤ 9223372036854775807
theorem AEl.below {W W' : World} {a : AV} {p : AP} (h : AEl W a p) (hb : Below W.heap.size W W') : AEl W' a p := ⟨(h.r0.below hb).more hb.size, (h.r1.below hb).more hb.size, h.b0, h.b1, h.f1⟩

/-- The box into which a function lays an array that it was handed. -/
structure ABox (w : World) (a : AV) (p : AP) (w1 : World) : Prop where
  blk : Blk w1 w.heap.size 25 (arC a p)
  b : Below w.heap.size w w1
  el : AEl w1 a p
theorem AEl.box {w : World} {a : AV} {p : AP} (h : AEl w a p) : ABox w a p (w.alloc (.cells (arC a p) 25)) :=
  ⟨Blk.new w _ _, (Below.refl _ _).alloc (Nat.le_refl _) _, h.below ((Below.refl _ _).alloc (Nat.le_refl _) _)⟩

set_option maxHeartbeats 2000000 in
theorem archeck_any (a : AV) (p : AP) (w : World) (h : AEl w a p) :
    Calls Try.prog 21 #[.agg (arC a p)] w fun e w' => e = .returned (.int .i64 (checkE a)) ∧ Below w.heap.size w w' := by
  obtain ⟨k, sh, el⟩ := a
  obtain ⟨A0, c0, A1, c1⟩ := p
  have hbx := h.box
  have HC := Lib.hid (arcount_any A0 c0 sh.length sh _ rfl hbx.el.r0 h.b0)
  have HK := Lib.hid (fun W (hb : Below w.heap.size w W) => arkind_any k A1 c1 el.length el W rfl ((h.below hb).r1) h.b1)
  have HB := Lib.hid hbx.b
  have hx := hbx.blk
  have hE : checkE ⟨k, sh, el⟩ = if (okShape sh && (decide ((el.length : Int) = prodI sh) && kindOk k el)) = true then 0 else 110 := rfl
  rw [hE]
  clear h hbx hE
  unfold arC at *
  simp only at *
  obtain ⟨w1, hw1⟩ : ∃ w1, w.alloc (.cells #[.int .i64 k, .slice A0 sh.length c0, .slice A1 el.length c1] 25) = w1 := ⟨_, rfl⟩
  rw [hw1] at HC HB hx
  obtain ⟨z, hz⟩ : ∃ z, w.heap.size = z := ⟨_, rfl⟩
  rw [hz] at hx
  have x0 := hx.cell 0
  have x1 := hx.cell 1
  have x2 := hx.cell 2
  have HKK := Lib.hid (HK.out w1 HB.out)
  clear hx HK
  generalize el.length = m at *
  cases hok : okShape sh
  · obtain ⟨e1, e2⟩ := cnt_no hok
    rw [e1, e2] at HC
    simp only [Bool.false_and, Bool.false_eq_true, if_false]
    clear hok e1 e2
    go_enter Try.func21, Try.ntmps21
    go_wp2_with (go_at_call 63; (try rw [hw1]); refine HC.out.mono ?_; rintro e _ ⟨rfl, rfl⟩)
    go_ret
    exact ⟨rfl, HB.out⟩
  obtain ⟨e1, e2⟩ := cnt_ok hok
  rw [e1, e2] at HC
  obtain ⟨q, hq⟩ : ∃ q, prodI sh = q := ⟨_, rfl⟩
  rw [hq] at HC ⊢
  clear e1 e2 hok hq
  by_cases hmq : (m : Int) = q
  case neg =>
    have hne : ((m : Int) != q) = true := by rw [bne_iff_ne]; exact hmq
    rw [decide_eq_false hmq]
    simp only [Bool.true_and, Bool.false_and, Bool.false_eq_true, if_false]
    clear hmq HKK
    go_enter Try.func21, Try.ntmps21
    go_wp2_with (go_at_call 63; (try rw [hw1]); refine HC.out.mono ?_; rintro e _ ⟨rfl, rfl⟩)
    go_ret
    exact ⟨rfl, HB.out⟩
  subst hmq
  rw [decide_eq_true rfl]
  obtain ⟨kb, hkb⟩ : ∃ kb, kindOk k el = kb := ⟨_, rfl⟩
  rw [hkb] at HKK ⊢
  clear hkb
  cases kb
  all_goals
    simp only [Bool.true_and, Bool.false_eq_true, if_false, if_true]
    go_enter Try.func21, Try.ntmps21
    go_wp2_with (first
      | (go_at_call 63; (try rw [hw1]); refine HC.out.mono ?_; rintro e _ ⟨rfl, rfl⟩)
      | (go_at_call 64; (try rw [hw1]); refine HKK.out.mono ?_; rintro e _ ⟨rfl, rfl⟩))
    go_ret
    exact ⟨rfl, HB.out⟩
end Go.Proofs.Ytkabdkblcgklmaa.arr

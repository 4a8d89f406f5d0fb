/-
  Layer 11 (array): slices.Equal, Same; the statements' Great.
-/
import Derived.Test.YtkabdkblcgklmaaArAlive
namespace Go.Proofs.Ytkabdkblcgklmaa.arr
open Go.RowKit

set_option maxHeartbeats 1000000 in
theorem arequalI_any (A B : Option Addr) (c d n m : Nat) (l k : List Int) (w : World) (hl : l.length = n) (hk : k.length = m) (ha : Reads w w.heap.size 1 A n (l.map iv)) (hb : Reads w w.heap.size 1 B m (k.map iv)) (hn : n ≤ 9223372036854775807) (hm : m ≤ 9223372036854775807) :
    Calls Try.prog 121 #[.slice A n c, .slice B m d] w fun e w' => e = .returned (.bool (decide (l = k))) ∧ Below w.heap.size w w' := by
  by_cases hnm : n = m
  · subst hnm
    have HA := Lib.hid ha
    have HB := Lib.hid hb
    have HL := Lib.hid hl
    have HK := Lib.hid hk
    clear ha hb hl hk
    go_enter Try.func121, Try.ntmps121
    go_wp2
    go_loopw [13] (fun i wr => ∃ j, j ≤ n ∧ i = .int .i64 ((j : Nat) : Int) ∧ l.take j = k.take j ∧ Below w.heap.size w wr) (fun i _ => n - (intOf i).toNat)
    case atStart => exact ⟨0, Nat.zero_le _, rfl, by simp, Below.refl _ _⟩
    case round =>
      obtain ⟨j, hj, rfl, heq, hbw⟩ := hrel
      by_cases hlt : j < n
      · obtain ⟨adA, rfl, _, cA⟩ := (HA.out.below hbw).int_at hlt HL.out
        obtain ⟨adB, rfl, _, cB⟩ := (HB.out.below hbw).int_at hlt HK.out
        have hjl : j < l.length := by have := HL.out; omega
        have hjk : j < k.length := by have := HK.out; omega
        have hstep : l.take (j + 1) = k.take (j + 1) ↔ l[j] = k[j] := by
          rw [List.take_succ_eq_append_getElem hjl, List.take_succ_eq_append_getElem hjk, heq]
          constructor
          · intro h
            have h := List.append_cancel_left h
            injection h
          · intro h
            rw [h]
        have hno : ¬ l[j] = k[j] → ¬ l = k := fun h e => h (by subst e; rfl)
        generalize l[j] = x at *
        generalize k[j] = y at *
        have HST := Lib.hid hstep
        have HNO := Lib.hid hno
        have HBW := Lib.hid hbw
        clear hstep hno hbw heq
        by_cases hxy : x = y
        · have hne : (x != y) = false := by simp [hxy]
          have HXY := Lib.hid hxy
          clear hxy
          go_wp2
          go_quiet (fail)
          go_wp2
          exact ⟨⟨j + 1, by omega, by go_num, HST.out.2 HXY.out, below_drewN HBW.out _⟩, by simp [intOf]; omega⟩
        · have hne : (x != y) = true := by simp [hxy]
          have HXY := Lib.hid hxy
          clear hxy
          go_wp2
          go_quiet (fail)
          go_wp2
          go_ret
          exact ⟨by rw [decide_eq_false (HNO.out HXY.out)]; rfl, below_drewN HBW.out _⟩
      · obtain rfl : j = n := by omega
        have hlk : l = k := by
          rw [List.take_of_length_le (by have := HL.out; omega), List.take_of_length_le (by have := HK.out; omega)] at heq
          exact heq
        have HLK := Lib.hid hlk
        have HBW := Lib.hid hbw
        clear hlk heq hbw
        go_wp2
        go_ret
        exact ⟨by rw [decide_eq_true HLK.out]; rfl, HBW.out⟩
  · have hne : ((n : Int) != (m : Int)) = true := by rw [bne_iff_ne]; omega
    have hlk : ¬ l = k := fun e => hnm (by rw [← hl, ← hk, e])
    clear ha hb hl hk
    go_enter Try.func121, Try.ntmps121
    go_wp2
    go_ret
    exact ⟨by rw [decide_eq_false hlk]; rfl, Below.refl _ _⟩

set_option maxHeartbeats 1000000 in
theorem arequalL_any (A B : Option Addr) (c d n m : Nat) (l k : List Int) (w : World) (hl : l.length = n) (hk : k.length = m) (ha : Reads w w.heap.size 1 A n (l.map iv)) (hb : Reads w w.heap.size 1 B m (k.map iv)) (hn : n ≤ 9223372036854775807) (hm : m ≤ 9223372036854775807) :
    Calls Try.prog 122 #[.slice A n c, .slice B m d] w fun e w' => e = .returned (.bool (decide (l = k))) ∧ Below w.heap.size w w' := by
  by_cases hnm : n = m
  · subst hnm
    have HA := Lib.hid ha
    have HB := Lib.hid hb
    have HL := Lib.hid hl
    have HK := Lib.hid hk
    clear ha hb hl hk
    go_enter Try.func122, Try.ntmps122
    go_wp2
    go_loopw [13] (fun i wr => ∃ j, j ≤ n ∧ i = .int .i64 ((j : Nat) : Int) ∧ l.take j = k.take j ∧ Below w.heap.size w wr) (fun i _ => n - (intOf i).toNat)
    case atStart => exact ⟨0, Nat.zero_le _, rfl, by simp, Below.refl _ _⟩
    case round =>
      obtain ⟨j, hj, rfl, heq, hbw⟩ := hrel
      by_cases hlt : j < n
      · obtain ⟨adA, rfl, _, cA⟩ := (HA.out.below hbw).int_at hlt HL.out
        obtain ⟨adB, rfl, _, cB⟩ := (HB.out.below hbw).int_at hlt HK.out
        have hjl : j < l.length := by have := HL.out; omega
        have hjk : j < k.length := by have := HK.out; omega
        have hstep : l.take (j + 1) = k.take (j + 1) ↔ l[j] = k[j] := by
          rw [List.take_succ_eq_append_getElem hjl, List.take_succ_eq_append_getElem hjk, heq]
          constructor
          · intro h
            have h := List.append_cancel_left h
            injection h
          · intro h
            rw [h]
        have hno : ¬ l[j] = k[j] → ¬ l = k := fun h e => h (by subst e; rfl)
        generalize l[j] = x at *
        generalize k[j] = y at *
        have HST := Lib.hid hstep
        have HNO := Lib.hid hno
        have HBW := Lib.hid hbw
        clear hstep hno hbw heq
        by_cases hxy : x = y
        · have hne : (x != y) = false := by simp [hxy]
          have HXY := Lib.hid hxy
          clear hxy
          go_wp2
          go_quiet (fail)
          go_wp2
          exact ⟨⟨j + 1, by omega, by go_num, HST.out.2 HXY.out, below_drewN HBW.out _⟩, by simp [intOf]; omega⟩
        · have hne : (x != y) = true := by simp [hxy]
          have HXY := Lib.hid hxy
          clear hxy
          go_wp2
          go_quiet (fail)
          go_wp2
          go_ret
          exact ⟨by rw [decide_eq_false (HNO.out HXY.out)]; rfl, below_drewN HBW.out _⟩
      · obtain rfl : j = n := by omega
        have hlk : l = k := by
          rw [List.take_of_length_le (by have := HL.out; omega), List.take_of_length_le (by have := HK.out; omega)] at heq
          exact heq
        have HLK := Lib.hid hlk
        have HBW := Lib.hid hbw
        clear hlk heq hbw
        go_wp2
        go_ret
        exact ⟨by rw [decide_eq_true HLK.out]; rfl, HBW.out⟩
  · have hne : ((n : Int) != (m : Int)) = true := by rw [bne_iff_ne]; omega
    have hlk : ¬ l = k := fun e => hnm (by rw [← hl, ← hk, e])
    clear ha hb hl hk
    go_enter Try.func122, Try.ntmps122
    go_wp2
    go_ret
    exact ⟨by rw [decide_eq_false hlk]; rfl, Below.refl _ _⟩



def sameA (a b : AV) : Bool := decide (a.kind = b.kind) && (decide (a.sh = b.sh) && decide (a.el = b.el))
theorem sameA_iff {a b : AV} : sameA a b = true ↔ a = b := by
  unfold sameA
  rw [Bool.and_eq_true, Bool.and_eq_true, decide_eq_true_eq, decide_eq_true_eq, decide_eq_true_eq]
  constructor
  · rintro ⟨h1, h2, h3⟩
    cases a
    cases b
    simp_all
  · rintro rfl
    exact ⟨rfl, rfl, rfl⟩

set_option maxHeartbeats 2000000 in
theorem arsame_any (a b : AV) (p q : AP) (w : World) (h : AEl w a p) (k : AEl w b q) :
    Calls Try.prog 68 #[.agg (arC a p), .agg (arC b q)] w fun e w' => e = .returned (.bool (sameA a b)) ∧ Below w.heap.size w w' := by
  have hx := Blk.new w 25 (arC a p)
  have hb := (Below.refl w.heap.size w).alloc (Nat.le_refl _) (.cells (arC a p) 25)
  have hy := Blk.new (w.alloc (.cells (arC a p) 25)) 25 (arC b q)
  have hx2 := hx.alloc (.cells (arC b q) 25)
  have hb2 := hb.alloc hb.size (.cells (arC b q) 25)
  rw [World.size_alloc] at hy
  obtain ⟨w1, hw1⟩ : ∃ w1, (w.alloc (.cells (arC a p) 25)).alloc (.cells (arC b q) 25) = w1 := ⟨_, rfl⟩
  rw [hw1] at hx2 hy hb2
  have h1 := h.below hb2
  have k1 := k.below hb2
  have HEI := Lib.hid (arequalI_any p.A0 q.A0 p.c0 q.c0 _ _ a.sh b.sh w1 rfl rfl h1.r0 k1.r0 h1.b0 k1.b0)
  have HEL := Lib.hid (fun W (hb : Below w1.heap.size w1 W) => arequalL_any p.A1 q.A1 p.c1 q.c1 _ _ a.el b.el W rfl rfl ((h1.below hb).r1) ((k1.below hb).r1) h1.b1 k1.b1)
  have HB := Lib.hid hb2
  have HX := Lib.hid hx2
  have HY := Lib.hid hy
  have hS : sameA a b = (decide (a.kind = b.kind) && (decide (a.sh = b.sh) && decide (a.el = b.el))) := rfl
  rw [hS]
  obtain ⟨z, hz⟩ : ∃ z, w.heap.size = z := ⟨_, rfl⟩
  rw [hz] at hx2 hy
  rw [hz] at HX HY
  clear h k h1 k1 hb hb2 hS hx
  obtain ⟨b1, hb1⟩ : ∃ b1, decide (a.sh = b.sh) = b1 := ⟨_, rfl⟩
  obtain ⟨b2, hb2⟩ : ∃ b2, decide (a.el = b.el) = b2 := ⟨_, rfl⟩
  rw [hb1] at HEI
  rw [hb2] at HEL
  rw [hb1, hb2]
  clear hb1 hb2
  unfold arC at *
  have x0 := hx2.cell 0
  have x1 := hx2.cell 1
  have x2 := hx2.cell 2
  have y0 := hy.cell 0
  have y1 := hy.cell 1
  have y2 := hy.cell 2
  clear hx2 hy
  by_cases hk : a.kind = b.kind
  case neg =>
    have hne : (a.kind == b.kind) = false := by rw [beq_eq_false_iff_ne]; exact hk
    rw [decide_eq_false hk, Bool.false_and]
    clear hk HEI HEL
    go_enter Try.func68, Try.ntmps68
    go_wp2
    go_ret
    first | exact ⟨rfl, HB.out⟩ | exact ⟨rfl, hz ▸ HB.out⟩
  have hne : (a.kind == b.kind) = true := by rw [beq_iff_eq]; exact hk
  rw [decide_eq_true hk, Bool.true_and]
  clear hk
  cases b1
  · rw [Bool.false_and]
    clear HEL
    go_enter Try.func68, Try.ntmps68
    go_wp2_with (go_at_call 121; (try rw [hw1]); refine HEI.out.mono ?_; rintro e w2 ⟨rfl, b2⟩; have HB2 := Lib.hid (HB.out.trans (b2.mono HB.out.size)); clear b2)
    go_ret
    first | exact ⟨rfl, HB2.out⟩ | exact ⟨rfl, hz ▸ HB2.out⟩
  · rw [Bool.true_and]
    go_enter Try.func68, Try.ntmps68
    go_wp2_with (first
      | (go_at_call 121; (try rw [hw1]); refine HEI.out.mono ?_; rintro e w2 ⟨rfl, b2⟩; have HB2 := Lib.hid b2; have hx := HX.out.below b2 HX.out.lt; have hy := HY.out.below b2 HY.out.lt; have u0 := hx.cell 0; have u1 := hx.cell 1; have u2 := hx.cell 2; have v0 := hy.cell 0; have v1 := hy.cell 1; have v2 := hy.cell 2; clear b2 hx hy)
      | (go_at_call 122; refine (HEL.out w2 HB2.out).mono ?_; rintro e w3 ⟨rfl, b3⟩; have HB3 := Lib.hid (HB.out.trans ((HB2.out.trans (b3.mono HB2.out.size)).mono HB.out.size)); clear b3))
    go_ret
    first | exact ⟨rfl, HB3.out⟩ | exact ⟨rfl, hz ▸ HB3.out⟩

def greatA (a : AV) : Int := if 5000 < a.el.length ∨ 100 < a.sh.length then 1 else 0
end Go.Proofs.Ytkabdkblcgklmaa.arr

/-
  Layer 9, the document's answers of a log: Same, File, Steps.
-/
import Derived.Test.YtdjneiboeehclaaNtRows
namespace Go.Proofs.Ytdjneiboeehclaa.note
open Go.RowKit Go.Maps Go.Proofs.Ytdjneiboeehclaa.crc Go.Proofs.Ytdjneiboeehclaa.root

theorem neq_note (x y : NV) (W : World) : (binOp .neq 23 (.agg #[.int .i64 x.k, .int .i64 x.a, .int .i64 x.b, .int .i64 x.n]) (.agg #[.int .i64 y.k, .int .i64 y.a, .int .i64 y.b, .int .i64 y.n])).run Try.prog W = .ok (.bool (!decide (x = y))) W := by
  obtain ⟨a, b, c, d⟩ := x
  obtain ⟨a', b', c', d'⟩ := y
  go_simp
  by_cases h1 : a = a' <;> by_cases h2 : b = b' <;> by_cases h3 : c = c' <;> by_cases h4 : d = d' <;> simp [h1, h2, h3, h4]

theorem wmk {w wr : World} (h : ∃ z, w.drewN z = wr) : Below w.heap.size w wr := by
  obtain ⟨z, rfl⟩ := h
  exact below_drewN (Below.refl _ _) z

set_option maxRecDepth 100000 in
set_option maxHeartbeats 2000000 in
theorem r9same_any (A B : Option Addr) (c d n m : Nat) (l k : List NV) (w : World) (hl : l.length = n) (hk : k.length = m) (ha : Reads w w.heap.size 4 A n (l.flatMap nc)) (hb : Reads w w.heap.size 4 B m (k.flatMap nc)) (hn : n ≤ 9223372036854775807) (hm : m ≤ 9223372036854775807) :
    Calls Try.prog 17 #[.slice A n c, .slice B m d] w fun e w' => e = .returned (.bool (decide (l = k))) ∧ Below w.heap.size w w' := by
  by_cases hnm : n = m
  · subst hnm
    have HA := Lib.hid ha
    have HB := Lib.hid hb
    have HL := Lib.hid hl
    have HK := Lib.hid hk
    clear ha hb hl hk
    go_enter Try.func17, Try.ntmps17
    go_wp2
    go_loopw [5] (fun i wr => ∃ j, j ≤ n ∧ i = .int .i64 ((j : Nat) : Int) ∧ l.take j = k.take j ∧ Below w.heap.size w wr) (fun i _ => n - (intOf i).toNat)
    case atStart => exact ⟨0, Nat.zero_le _, rfl, by simp, Below.refl _ _⟩
    case round =>
      obtain ⟨j, hj, rfl, heq, hbw⟩ := hrel
      by_cases hlt : j < n
      · have hjl : j < l.length := by have := HL.out; omega
        have hjk : j < k.length := by have := HK.out; omega
        obtain ⟨adA, rfl, _, cA, cA1, cA2, cA3⟩ := note_at (HA.out.below hbw) (List.getElem?_eq_getElem hjl) HL.out
        obtain ⟨adB, rfl, _, cB, cB1, cB2, cB3⟩ := note_at (HB.out.below hbw) (List.getElem?_eq_getElem hjk) HK.out
        have hstep : l.take (j + 1) = k.take (j + 1) ↔ l[j] = k[j] := by
          rw [List.take_succ_eq_append_getElem hjl, List.take_succ_eq_append_getElem hjk, heq]
          constructor
          · intro h
            have h := List.append_cancel_left h
            injection h
          · intro h
            rw [h]
        have hno : ¬ l[j] = k[j] → ¬ l = k := fun h e => h (by subst e; rfl)
        generalize l[j] = x at *
        generalize k[j] = y at *
        have q := neq_note x y
        have HST := Lib.hid hstep
        have HNO := Lib.hid hno
        have HBW := Lib.hid hbw
        clear hstep hno hbw heq
        by_cases hxy : x = y
        · rw [decide_eq_true hxy, Bool.not_true] at q
          have HXY := Lib.hid hxy
          clear hxy
          go_wp2
          go_quiet (fail)
          go_wp2
          exact ⟨⟨j + 1, by omega, by go_num, HST.out.2 HXY.out, below_drewN HBW.out _⟩, by simp [intOf]; omega⟩
        · rw [decide_eq_false hxy, Bool.not_false] at q
          have HXY := Lib.hid hxy
          clear hxy
          go_wp2
          go_quiet (fail)
          go_wp2
          go_ret
          exact ⟨by rw [decide_eq_false (HNO.out HXY.out)]; rfl, below_drewN HBW.out _⟩
      · obtain rfl : j = n := by omega
        have he : l = k := by
          have h1 : l.take j = l := by rw [← HL.out]; exact List.take_length
          have h2 : k.take j = k := by rw [← HK.out]; exact List.take_length
          rw [h1, h2] at heq
          exact heq
        have HE := Lib.hid he
        have HBW := Lib.hid hbw
        clear heq he hbw
        go_wp2
        go_ret
        exact ⟨by rw [decide_eq_true HE.out]; rfl, HBW.out⟩
  · have hne : ¬ l = k := fun e => hnm (by rw [← hl, ← hk, e])
    have hq : ((n : Int) != (m : Int)) = true := by rw [bne_iff_ne]; omega
    have HNE := Lib.hid hne
    clear hne ha hb hl hk hnm
    go_enter Try.func17, Try.ntmps17
    go_wp2
    go_ret
    exact ⟨by rw [decide_eq_false HNE.out]; rfl, Below.refl _ _⟩

theorem fileN_take {l : List NV} {m : Nat} {x : NV} (h : l[m]? = some x) (k s p : Int) : fileN (l.take (m + 1)) k s p = if x.k = k ∧ x.a = s ∧ x.b = p then some x.n else fileN (l.take m) k s p := by
  rw [List.take_add_one, h]
  exact fileN_snoc _ _ _ _ _
theorem stepsN_take {l : List NV} {m : Nat} {x : NV} (h : l[m]? = some x) : stepsN (l.take (m + 1)) = if x.k ≤ 3 then max (stepsN (l.take m)) (x.a + 1) else stepsN (l.take m) := by
  rw [List.take_add_one, h]
  exact stepsN_snoc _ _
theorem doneN_take {l : List NV} {m : Nat} {x : NV} (h : l[m]? = some x) (s : Int) : doneN (l.take (m + 1)) s = doneN (l.take m) s + if x.k = 2 ∧ x.a = s ∧ fileN (l.take m) 2 x.a x.b = none then 1 else 0 := by
  rw [List.take_add_one, h]
  exact doneN_snoc _ _ _

set_option maxRecDepth 100000 in
set_option maxHeartbeats 2000000 in
theorem r9file_any (A : Option Addr) (c n : Nat) (l : List NV) (k s p : Int) (w : World) (hl : l.length = n) (ha : Reads w w.heap.size 4 A n (l.flatMap nc)) (hn : n ≤ 100000) :
    Calls Try.prog 19 #[.slice A n c, .int .i64 k, .int .i64 s, .int .i64 p] w fun e w' => e = .returned (.tuple #[.int .i64 ((fileN l k s p).getD 0), .bool (fileN l k s p).isSome]) ∧ w = w' := by
  have HA := Lib.hid ha
  have HL := Lib.hid hl
  have hm1 : IntKind.i64.wrap ((n : Int) - 1) = (n : Int) - 1 := IntWalk.i64_in _ (by omega)
  obtain ⟨F, hF⟩ : ∃ F, fileN l k s p = F := ⟨_, rfl⟩
  rw [hF]
  have hF0 : fileN (l.take n) k s p = F := by rw [← hF, ← hl, List.take_length]
  have HF0 := Lib.hid hF0
  clear ha hl hF hF0
  go_enter Try.func19, Try.ntmps19
  go_wp2
  go_loop [10] (fun i => ∃ (j : Nat) (z : Int), i = .int .i64 z ∧ z + 1 = (j : Int) ∧ j ≤ n ∧ fileN (l.take j) k s p = F) (fun i => (intOf i + 1).toNat)
  case atStart => exact ⟨n, _, rfl, by omega, Nat.le_refl _, HF0.out⟩
  case round =>
    obtain ⟨j, z, rfl, hz, hj, hf⟩ := hrel
    by_cases h0 : j = 0
    · obtain rfl : z = -1 := by omega
      subst h0
      have hF : F = none := by rw [← hf]; rfl
      subst hF
      clear hf hz hm1
      go_wp2
      go_ret2
      exact ⟨rfl, rfl⟩
    · obtain ⟨m, rfl⟩ : ∃ m, j = m + 1 := ⟨j - 1, by omega⟩
      obtain rfl : z = (m : Int) := by omega
      have hml : m < l.length := by have := HL.out; omega
      obtain ⟨x, hx⟩ : ∃ x, l[m]? = some x := ⟨_, List.getElem?_eq_getElem hml⟩
      rw [fileN_take hx] at hf
      obtain ⟨ad, rfl, _, c0, c1, c2, c3⟩ := note_at HA.out hx HL.out
      obtain ⟨xk, xa, xb, xn⟩ := x
      simp only at c0 c1 c2 c3 hf
      have hmn : (m : Int) < (n : Int) := by omega
      have hm2 : IntKind.i64.wrap ((m : Int) - 1) = (m : Int) - 1 := IntWalk.i64_in _ (by omega)
      have HMN : Hid (m ≤ n) := Lib.hid (by omega)
      clear h0 hz hj hx hml hm1
      by_cases h1 : xk = k
      · have b1 : (xk == k) = true := by rw [beq_iff_eq]; exact h1
        by_cases h2 : xa = s
        · have b2 : (xa == s) = true := by rw [beq_iff_eq]; exact h2
          by_cases h3 : xb = p
          · have b3 : (xb == p) = true := by rw [beq_iff_eq]; exact h3
            rw [if_pos ⟨h1, h2, h3⟩] at hf
            subst hf
            clear h1 h2 h3
            go_wp2
            go_ret2
            exact ⟨rfl, rfl⟩
          · have b3 : (xb == p) = false := by rw [beq_eq_false_iff_ne]; exact h3
            rw [if_neg (fun e => h3 e.2.2)] at hf
            have HF := Lib.hid hf
            clear h1 h2 h3 hf
            go_wp2
            go_round
            case rel => exact ⟨m, _, rfl, by omega, HMN.out, HF.out⟩
            case measure => simp [intOf]
        · have b2 : (xa == s) = false := by rw [beq_eq_false_iff_ne]; exact h2
          rw [if_neg (fun e => h2 e.2.1)] at hf
          have HF := Lib.hid hf
          clear h1 h2 hf
          go_wp2
          go_round
          case rel => exact ⟨m, _, rfl, by omega, HMN.out, HF.out⟩
          case measure => simp [intOf]
      · have b1 : (xk == k) = false := by rw [beq_eq_false_iff_ne]; exact h1
        rw [if_neg (fun e => h1 e.1)] at hf
        have HF := Lib.hid hf
        clear h1 hf
        go_wp2
        go_round
        case rel => exact ⟨m, _, rfl, by omega, HMN.out, HF.out⟩
        case measure => simp [intOf]

set_option maxRecDepth 100000 in
set_option maxHeartbeats 2000000 in
theorem r9steps_any (A : Option Addr) (c n : Nat) (l : List NV) (w : World) (hl : l.length = n) (ha : Reads w w.heap.size 4 A n (l.flatMap nc)) (hok : NotesOk l) (hn : n ≤ 100000) :
    Calls Try.prog 25 #[.slice A n c] w fun e w' => e = .returned (.int .i64 (stepsN l)) ∧ w = w' := by
  have HA := Lib.hid ha
  have HL := Lib.hid hl
  have HOK := Lib.hid hok
  clear ha hl hok
  go_enter Try.func25, Try.ntmps25
  go_wp2
  go_loop [3, 4] (fun q i => ∃ j : Nat, j ≤ n ∧ i = .int .i64 (j : Int) ∧ q = .int .i64 (stepsN (l.take j))) (fun _ i => n - (intOf i).toNat)
  case atStart => exact ⟨0, Nat.zero_le _, rfl, rfl⟩
  case round =>
    obtain ⟨j, hj, rfl, rfl⟩ := hrel
    by_cases hlt : j < n
    · have hml : j < l.length := by have := HL.out; omega
      obtain ⟨x, hx⟩ : ∃ x, l[j]? = some x := ⟨_, List.getElem?_eq_getElem hml⟩
      have hs := stepsN_take hx
      have hxo := (okN_iff.1 (HOK.out x (List.mem_of_getElem? hx)).1).1
      have hsr := stepsN_range (l.take j) (fun y hy => (HOK.out y (List.mem_of_mem_take hy)).1)
      obtain ⟨ad, rfl, _, c0, c1, c2, c3⟩ := note_at HA.out hx HL.out
      obtain ⟨xk, xa, xb, xn⟩ := x
      simp only at c0 c1 c2 c3 hs hxo
      generalize stepsN (l.take j) = S at *
      have hjn : (j : Int) < (n : Int) := by omega
      by_cases h3 : xk ≤ 3
      · rw [if_pos h3] at hs
        by_cases hg : S ≤ xa
        · have HS : Hid (stepsN (l.take (j + 1)) = xa + 1) := Lib.hid (by rw [hs]; omega)
          clear hs hml hx
          go_wp2
          go_round
          case rel => exact ⟨j + 1, by omega, by go_num, by rw [HS.out]⟩
          case measure => simp [intOf]; omega
        · have HS : Hid (stepsN (l.take (j + 1)) = S) := Lib.hid (by rw [hs]; omega)
          clear hs hml hx
          go_wp2
          go_round
          case rel => exact ⟨j + 1, by omega, by go_num, by rw [HS.out]⟩
          case measure => simp [intOf]; omega
      · rw [if_neg h3] at hs
        have HS := Lib.hid hs
        clear hs hml hx
        go_wp2
        go_round
        case rel => exact ⟨j + 1, by omega, by go_num, by rw [HS.out]⟩
        case measure => simp [intOf]; omega
    · obtain rfl : j = n := by omega
      have ht : l.take j = l := by rw [← HL.out]; exact List.take_length
      rw [ht]
      clear ht
      go_wp2
      go_ret
      exact ⟨rfl, rfl⟩
end Go.Proofs.Ytdjneiboeehclaa.note

/-
  Layer 9, the document's answers of a log: Done.
-/
import Derived.Test.YtdjneiboeehclaaNtRefN
namespace Go.Proofs.Ytdjneiboeehclaa.note
open Go.RowKit Go.Maps Go.Proofs.Ytdjneiboeehclaa.crc Go.Proofs.Ytdjneiboeehclaa.root

theorem file_some {l : List NV} {m : Nat} {y : NV} (h : l[m]? = some y) (s p : Int) : (fileN (l.take (m + 1)) 2 s p).isSome = ((decide (y.k = 2) && (decide (y.a = s) && decide (y.b = p))) || (fileN (l.take m) 2 s p).isSome) := by
  rw [fileN_take h]
  by_cases h1 : y.k = 2 <;> by_cases h2 : y.a = s <;> by_cases h3 : y.b = p <;> simp [h1, h2, h3]

set_option maxRecDepth 100000 in
set_option maxHeartbeats 4000000 in
theorem r9done_any (A : Option Addr) (c n : Nat) (l : List NV) (s : Int) (w : World) (hl : l.length = n) (ha : Reads w w.heap.size 4 A n (l.flatMap nc)) (hn : n ≤ 100000) :
    Calls Try.prog 23 #[.slice A n c, .int .i64 s] w fun e w' => e = .returned (.int .i64 (doneN l s : Int)) ∧ Below w.heap.size w w' := by
  have HA := Lib.hid ha
  have HL := Lib.hid hl
  clear ha hl
  go_enter Try.func23, Try.ntmps23
  go_wp2
  go_loopw [5, 6] (fun q i wr => ∃ j : Nat, j ≤ n ∧ i = .int .i64 (j : Int) ∧ q = .int .i64 (doneN (l.take j) s : Int) ∧ Below w.heap.size w wr) (fun _ i _ => n - (intOf i).toNat)
  case atStart => exact ⟨0, Nat.zero_le _, rfl, rfl, Below.refl _ _⟩
  case round =>
    obtain ⟨j, hj, rfl, rfl, hbw⟩ := hrel
    have HBW0 := Lib.hid hbw
    clear hbw
    by_cases hlt : j < n
    · have hml : j < l.length := by have := HL.out; omega
      obtain ⟨x, hx⟩ : ∃ x, l[j]? = some x := ⟨_, List.getElem?_eq_getElem hml⟩
      have hd := doneN_take hx s
      have hdl := doneN_le (l.take j) s
      have hdl2 : doneN (l.take j) s ≤ j := by rw [List.length_take] at hdl; omega
      have HX := Lib.hid hx
      obtain ⟨xk, xa, xb, xn⟩ := x
      simp only at hd
      have HD := Lib.hid hd
      generalize doneN (l.take j) s = D at *
      have hjn : (j : Int) < (n : Int) := by omega
      have HML := Lib.hid hml
      clear hd hdl hx hml
      go_wp2
      go_loopw [7, 8] (fun ag k wr => ∃ q : Nat, q ≤ j ∧ k = .int .i64 (q : Int) ∧ ag = .bool (fileN (l.take q) 2 xa xb).isSome ∧ Below w.heap.size w wr) (fun _ k _ => j - (intOf k).toNat)
      case atStart => exact ⟨0, Nat.zero_le _, rfl, rfl, HBW0.out⟩
      case round =>
        obtain ⟨q, hq, rfl, rfl, hbw⟩ := hrel
        obtain ⟨ad, rfl, _, c0, c1, c2, c3⟩ := note_at ((HA.out.below hbw).more hbw.size) HX.out HL.out
        have HBW := Lib.hid hbw
        clear hbw
        by_cases hqj : q < j
        · have hmq : q < l.length := by have := HML.out; omega
          obtain ⟨y, hy⟩ : ∃ y, l[q]? = some y := ⟨_, List.getElem?_eq_getElem hmq⟩
          have hs := file_some hy xa xb
          obtain ⟨ad', e', _, d0, d1, d2, d3⟩ := note_at ((HA.out.below HBW.out).more HBW.out.size) hy HL.out
          injection e' with e'
          subst e'
          obtain ⟨yk, ya, yb, yn⟩ := y
          simp only at c0 c1 c2 d0 d1 d2 hs
          generalize (fileN (l.take q) 2 xa xb).isSome = F at *
          have hqji : (q : Int) < (j : Int) := by omega
          have hqn : (q : Int) < (n : Int) := by omega
          clear c3 d3 hy hmq
          by_cases h1 : yk = 2
          · have b1 : (yk == 2) = true := by rw [beq_iff_eq]; exact h1
            by_cases h2 : ya = xa
            · have b2 : (ya == xa) = true := by rw [beq_iff_eq]; exact h2
              by_cases h3 : yb = xb
              · have b3 : (yb == xb) = true := by rw [beq_iff_eq]; exact h3
                have HS : Hid ((fileN (l.take (q + 1)) 2 xa xb).isSome = true) := Lib.hid (by rw [hs]; simp [h1, h2, h3])
                clear h1 h2 h3 hs
                go_wp2
                go_quiet (fail)
                go_wp2
                go_roundw
                case rel => exact ⟨q + 1, by omega, by go_num, by rw [HS.out], below_drewN HBW.out _⟩
                case measure => simp [intOf]; omega
              · have b3 : (yb == xb) = false := by rw [beq_eq_false_iff_ne]; exact h3
                have HS : Hid ((fileN (l.take (q + 1)) 2 xa xb).isSome = F) := Lib.hid (by rw [hs]; simp [h3])
                clear h1 h2 h3 hs
                go_wp2
                go_quiet (fail)
                go_wp2
                go_roundw
                case rel => exact ⟨q + 1, by omega, by go_num, by rw [HS.out], below_drewN HBW.out _⟩
                case measure => simp [intOf]; omega
            · have b2 : (ya == xa) = false := by rw [beq_eq_false_iff_ne]; exact h2
              have HS : Hid ((fileN (l.take (q + 1)) 2 xa xb).isSome = F) := Lib.hid (by rw [hs]; simp [h2])
              clear h1 h2 hs
              go_wp2
              go_quiet (fail)
              go_wp2
              go_roundw
              case rel => exact ⟨q + 1, by omega, by go_num, by rw [HS.out], below_drewN HBW.out _⟩
              case measure => simp [intOf]; omega
          · have b1 : (yk == 2) = false := by rw [beq_eq_false_iff_ne]; exact h1
            have HS : Hid ((fileN (l.take (q + 1)) 2 xa xb).isSome = F) := Lib.hid (by rw [hs]; simp [h1])
            clear h1 hs
            go_wp2
            go_quiet (fail)
            go_wp2
            go_roundw
            case rel => exact ⟨q + 1, by omega, by go_num, by rw [HS.out], below_drewN HBW.out _⟩
            case measure => simp [intOf]; omega
        · obtain rfl : q = j := by omega
          simp only at c0 c1 c2
          have hf : (fileN (l.take q) 2 xa xb = none) ↔ (fileN (l.take q) 2 xa xb).isSome = false := by
            cases fileN (l.take q) 2 xa xb <;> simp
          have hd2 : doneN (l.take (q + 1)) s = D + if xk = 2 ∧ xa = s ∧ (fileN (l.take q) 2 xa xb).isSome = false then 1 else 0 := by
            rw [HD.out]
            by_cases hc : fileN (l.take q) 2 xa xb = none
            · simp [hc]
            · have : ¬ (fileN (l.take q) 2 xa xb).isSome = false := fun e => hc (hf.2 e)
              simp [this, hc]
          generalize (fileN (l.take q) 2 xa xb).isSome = F at *
          clear hf c3
          by_cases h1 : xk = 2
          · have b1 : (xk == 2) = true := by rw [beq_iff_eq]; exact h1
            by_cases h2 : xa = s
            · have b2 : (xa == s) = true := by rw [beq_iff_eq]; exact h2
              cases F
              · have HS : Hid (doneN (l.take (q + 1)) s = D + 1) := Lib.hid (by rw [hd2]; simp [h1, h2])
                clear h1 h2 hd2
                go_wp2
                go_roundw
                case rel => exact ⟨q + 1, by omega, by go_num, by rw [HS.out]; go_num, HBW.out⟩
                case measure => simp [intOf]; omega
              · have HS : Hid (doneN (l.take (q + 1)) s = D) := Lib.hid (by rw [hd2]; simp)
                clear h1 h2 hd2
                go_wp2
                go_roundw
                case rel => exact ⟨q + 1, by omega, by go_num, by rw [HS.out], HBW.out⟩
                case measure => simp [intOf]; omega
            · have b2 : (xa == s) = false := by rw [beq_eq_false_iff_ne]; exact h2
              have HS : Hid (doneN (l.take (q + 1)) s = D) := Lib.hid (by rw [hd2]; simp [h2])
              clear h1 h2 hd2
              go_wp2
              go_roundw
              case rel => exact ⟨q + 1, by omega, by go_num, by rw [HS.out], HBW.out⟩
              case measure => simp [intOf]; omega
          · have b1 : (xk == 2) = false := by rw [beq_eq_false_iff_ne]; exact h1
            have HS : Hid (doneN (l.take (q + 1)) s = D) := Lib.hid (by rw [hd2]; simp [h1])
            clear h1 hd2
            go_wp2
            go_roundw
            case rel => exact ⟨q + 1, by omega, by go_num, by rw [HS.out], HBW.out⟩
            case measure => simp [intOf]; omega
    · obtain rfl : j = n := by omega
      have ht : l.take j = l := by rw [← HL.out]; exact List.take_length
      rw [ht]
      clear ht
      go_wp2
      go_ret
      exact ⟨rfl, HBW0.out⟩
end Go.Proofs.Ytdjneiboeehclaa.note

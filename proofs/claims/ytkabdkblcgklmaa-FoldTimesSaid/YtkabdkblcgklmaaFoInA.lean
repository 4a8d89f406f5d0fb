/-
  Layer 16 (fold): inner products: what is asked of shapes.
-/
import Derived.Test.YtkabdkblcgklmaaFoMadeR
import Derived.Test.YtkabdkblcgklmaaFoOuter
import Derived.BigQuiet
namespace Go.Proofs.Ytkabdkblcgklmaa.fo
open Go.RowKit Go.Proofs.Ytkabdkblcgklmaa.arr Go.Proofs.Ytkabdkblcgklmaa.sc

theorem fobehind_any (ad : Addr) (n c : Nat) (w : World) (hc : n + 1 ≤ c) (hn : n ≤ 100) :
    Calls Try.prog 87 #[.slice (some ad) (n + 1) c] w fun e w' => e = .returned (.slice (if c = 1 then some ad else (some ad).map (·.add 1)) n (c - 1)) ∧ w = w' := by
  have h1 : ((n + 1 : Nat) : Int) = (n : Int) + 1 := by omega
  have h2 : min ((n : Int) + 1) 1 = 1 := by omega
  by_cases hc1 : c = 1
  · subst hc1
    obtain rfl : n = 0 := by omega
    go_enter Try.func87, Try.ntmps87
    go_wp2
    go_ret
    exact ⟨rfl, rfl⟩
  · rw [if_neg hc1]
    go_enter Try.func87, Try.ntmps87
    go_wp2
    go_ret
    exact ⟨rfl, rfl⟩
set_option maxRecDepth 100000 in
set_option maxHeartbeats 4000000 in
theorem fopairs_any (A B : Option Addr) (n m ca cb : Nat) (l k : List Int) (w : World) (hl : l.length = n + 1) (hk : k.length = m + 1) (ha : Reads w w.heap.size 1 A (n + 1) (l.map iv)) (hb : Reads w w.heap.size 1 B (m + 1) (k.map iv)) (hn : n ≤ 100) (hm : m ≤ 100) :
    Calls Try.prog 137 #[.slice A (n + 1) ca, .slice B (m + 1) cb] w fun e w' => e = .returned (.tuple #[.int .i64 (if k.getD 0 0 = l.getD n 0 then l.getD n 0 else 0), .int .i64 (if k.getD 0 0 = l.getD n 0 then 0 else 4)]) ∧ Below w.heap.size w w' := by
  obtain ⟨aA, rfl, _, hx⟩ := Reads.int_at (l := l) ha (show n < n + 1 by omega) hl
  obtain ⟨aB, rfl, _, hy⟩ := Reads.int_at (l := k) hb (show 0 < m + 1 by omega) hk
  have e1 : l.getD n 0 = l[n] := by rw [List.getD_eq_getElem?_getD, List.getElem?_eq_getElem (by omega)]; rfl
  have e2 : k.getD 0 0 = k[0] := by rw [List.getD_eq_getElem?_getD, List.getElem?_eq_getElem (by omega)]; rfl
  rw [e1, e2]
  clear e1 e2 ha hb
  generalize l[n] = x at *
  generalize k[0] = y at *
  have hy0 : w.cell? aB = some (.int .i64 y) := by simpa [Addr.add] using hy
  have h1 : ((n + 1 : Nat) : Int) = (n : Int) + 1 := by omega
  have h2 : ((m + 1 : Nat) : Int) = (m : Int) + 1 := by omega
  have hw : IntKind.i64.wrap (n : Int) = (n : Int) := by rw [IntKind.wrap_i64]; omega
  have hB := Below.refl w.heap.size w
  have d1 : ¬ (n : Int) + 1 = 0 := by omega
  have d2 : ¬ (m : Int) + 1 = 0 := by omega
  have d3 : (0 : Int) < (m : Int) + 1 := by omega
  have d4 : (0 : Int) ≤ (n : Int) := by omega
  clear hl hk
  by_cases hxy : y = x
  · rw [if_pos hxy, if_pos hxy]
    subst hxy
    go_enter Try.func137, Try.ntmps137
    go_upto_region 5 with (fail)
    go_quiet (fail)
    go_wp2
    go_ret2
    exact ⟨rfl, below_drewN hB _⟩
  · rw [if_neg hxy, if_neg hxy]
    go_enter Try.func137, Try.ntmps137
    go_upto_region 5 with (fail)
    go_quiet (fail)
    go_wp2
    go_ret2
    exact ⟨rfl, below_drewN hB _⟩
end Go.Proofs.Ytkabdkblcgklmaa.fo

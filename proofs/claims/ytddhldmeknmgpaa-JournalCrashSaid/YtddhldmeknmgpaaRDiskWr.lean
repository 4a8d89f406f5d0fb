/-
  The given disk of layer 3: it goes down by a crash.
  The given disk of layer 3: Down and Arm.
  The given disk of layer 3: Write.
-/
import Derived.Test.YtddhldmeknmgpaaRDiskD
import Derived.Deep.CutBlock
import Derived.Deep.DeepCutAuto
namespace Go.Proofs.Ytddhldmeknmgpaa
open Go.RowKit

theorem infoU8x : (Try.prog.info? 5).map (fun i => (i.zero, i.size, i.bytes)) = some (some (.int .u8 0), 1, 1) := by kernel_rfl
theorem keep_self (wr : World) (b : Nat) (v2 v3 v4 v5 v7 : Value) : Keep (fun i => i = b) wr (((((wr.setCell ⟨b, 2, none⟩ v2).setCell ⟨b, 3, none⟩ v3).setCell ⟨b, 4, none⟩ v4).setCell ⟨b, 5, none⟩ v5).setCell ⟨b, 7, none⟩ v7) :=
  (((((Keep.refl (fun i => i = b) wr).setCell ⟨b, 2, none⟩ v2 (fun _ => rfl)).setCell ⟨b, 3, none⟩ v3 (fun _ => rfl)).setCell ⟨b, 4, none⟩ v4 (fun _ => rfl)).setCell ⟨b, 5, none⟩ v5 (fun _ => rfl)).setCell ⟨b, 7, none⟩ v7 (fun _ => rfl)
theorem own_slice3 {w : World} {base e size n : Nat} {v : Value} {xs : List Value} (h : w.ownsRow base e size v n xs) : ∃ A c, v = .slice A n c := by
  rcases h.2 with ⟨e1, h0⟩ | ⟨g, cap, cur, e1, _⟩
  · subst h0
    exact ⟨_, _, e1⟩
  · exact ⟨_, _, e1⟩
theorem reads_one3 (w : World) (t : TypeId) (v : Value) : Reads (w.alloc (.cells #[v] t)) (w.heap.size + 1) 1 (some ⟨w.heap.size, 0, none⟩) 1 [v] := by
  refine ⟨rfl, fun _ => ⟨_, rfl, by show w.heap.size < w.heap.size + 1; omega, fun j u hu => ?_⟩⟩
  rcases j with _ | j
  · injection hu with hu
    subst hu
    exact (Blk.new w t #[v]).cell 0
  · simp at hu
section
variable {b gS gC cS cC : Nat} {kv : Value} {vs ws : List Value} {s : RSt} {w : World}

end

end Go.Proofs.Ytddhldmeknmgpaa

namespace Go.Proofs.Ytddhldmeknmgpaa
open Go.RowKit

section
variable {b gS gC cS cC : Nat} {kv : Value} {vs ws : List Value} {s : RSt} {w : World}

def downSt3 (s : RSt) (c : DCrash) : RSt := if s.down then s else fallSt s c
def downErr3 (s : RSt) : Int := if s.down then 31 else 0

theorem infoIx : (Try.prog.info? 3).map (fun i => (i.zero, i.size, i.bytes)) = some (some (.int .i64 0), 1, 8) := by kernel_rfl
end
end Go.Proofs.Ytddhldmeknmgpaa

namespace Go.Proofs.Ytddhldmeknmgpaa
open Go.RowKit

def takenR (s : RSt) (a : Int) (l : List UInt8) : RSt := { s with cache := s.cache.set a.toNat l, many := s.many + 1 }
def writeErr3 (s : RSt) (a : Int) (l : List UInt8) : Int := if s.down then 31 else if has3 s a && l.length == 128 then (if s.write = 1 then 31 else 0) else 30
def writeSt3 (s : RSt) (a : Int) (l : List UInt8) : RSt := if s.down then s else if has3 s a && l.length == 128 then (if s.write = 0 then takenR s a l else if s.write = 1 then fallSt { takenR s a l with write := 0 } ⟨0, s.keep, s.torn, s.at_⟩ else { takenR s a l with write := s.write - 1 }) else s

section
variable {b gS gC cS cC : Nat} {kv : Value} {vs ws : List Value} {s : RSt} {w : World}

end
end Go.Proofs.Ytddhldmeknmgpaa

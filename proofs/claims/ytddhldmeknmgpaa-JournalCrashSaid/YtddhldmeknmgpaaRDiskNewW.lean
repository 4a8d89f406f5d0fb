/-
  The given disk of layer 3: a new one, as it grows.
  The given disk of layer 3: New.
-/
import Derived.Test.YtddhldmeknmgpaaRDiskWr
import Derived.Maps.AppendAt
import Derived.Test.YtddhldmeknmgpaaRtDec
import Derived.Test.YtddhldmeknmgpaaDone
namespace Go.Proofs.Ytddhldmeknmgpaa
open Go.RowKit

def newSt3 (n : Nat) : RSt := ⟨List.replicate n (List.replicate 128 0), List.replicate n [], 0, [], 0, 0, 0, false⟩

theorem Heads.snoc {w : World} {ls : List (List UInt8)} {vs : List Value} (h : Heads w ls vs) {l : List UInt8} {v : Value} (hv : Head w 5 (l.map bv) v) : Heads w (ls ++ [l]) (vs ++ [v]) := by
  refine ⟨by rw [List.length_append, List.length_append, h.1]; rfl, fun i m hm => ?_⟩
  by_cases hi : i < ls.length
  · rw [List.getElem?_append_left hi] at hm
    obtain ⟨u, hu, hh⟩ := h.2 i m hm
    exact ⟨u, by rw [List.getElem?_append_left (by rw [h.1]; exact hi)]; exact hu, hh⟩
  · rw [List.getElem?_append_right (by omega)] at hm
    have h0 : i - ls.length = 0 := by
      have := (List.getElem?_eq_some_iff.1 hm).1
      simp at this
      omega
    rw [h0] at hm
    injection hm with hm
    subst hm
    exact ⟨v, by rw [List.getElem?_append_right (by rw [h.1]; omega), h.1, h0]; rfl, hv⟩
theorem info_rows : (Try.prog.info? 23).map (fun i => (i.zero, i.size, i.bytes)) = some (some (.slice none 0 0), 1, 24) := by kernel_rfl
theorem own_typ2 {w : World} {base e n : Nat} {v : Value} {xs : List Value} (h : w.ownsRow base e 1 v n xs) : ∀ g, v.ownBlock = some g → Typ w g e ∧ g < w.heap.size := by
  intro g hg
  rcases h.2 with ⟨rfl, h0⟩ | ⟨g', cap, cur, rfl, hb, hh, _⟩
  · simp [Value.ownBlock] at hg
  · have : g' = g := by simpa [Value.ownBlock] using hg
    subst this
    exact ⟨⟨_, _, hh⟩, (show Blk w g' e cur from hh).lt⟩
theorem rep_snoc {α : Type} (i : Nat) (x : α) : List.replicate (i + 1) x = List.replicate i x ++ [x] := List.replicate_succ'

section
variable {w W W2 : World} {b i j : Nat} {vS vC : Value} {vs ws : List Value}

end
end Go.Proofs.Ytddhldmeknmgpaa

namespace Go.Proofs.Ytddhldmeknmgpaa
open Go.RowKit Go.Proofs.Ytddhldmeknmgpaa.root Go.Proofs.Ytddhldmeknmgpaa.crc

def pick5 (W0 W1 W2 W3 W4 : World) (a b c d : Nat) (dn : Nat → Bool) : World := if dn d = true then W4 else if dn c = true then W3 else if dn b = true then W2 else if dn a = true then W1 else W0

theorem wpList_append_run {ops : Array Oper} {rest : List Oper} {o : Oper} {a : Act} {Q : Exit → Act → World → Prop} {w w' : World} {u y v' : Value} (hgd : o.guard = none) (s x : Operand) (t : TypeId)
    (ho : o.op = .call { callee := .builtin .append, args := #[s, x], argTypes := #[t, t] }) (hs : a.eval s = u) (hx : a.eval x = y) (hrun : (Builtin.append_ #[t, t] o.type #[u, y]).run Try.prog w = .ok v' w') (h : wpList Try.prog ops Q rest (a.put o.dst v') w') : wpList Try.prog ops Q (o :: rest) a w :=
  wpList_plain hgd fun _ hK => by
    unfold Oper.wp execOp
    simp only [ho, resolve, invoke, builtin, Sem.run_bind, Sem.run_pure, Result.andThen_ok, List.map_toArray, List.map_cons, List.map_nil, hs, hx, hrun]
    exact hK _ _ h

end Go.Proofs.Ytddhldmeknmgpaa

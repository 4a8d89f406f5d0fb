/-
  The pool of layer 10: the iterator of its frames, and the first one that passes a test.
-/
import Derived.Test.YtlmdijijlbmddaaPlLook
namespace Go.Proofs.Ytlmdijijlbmddaa.pool
open Go.RowKit

def plAt (bs : List Nat) (k : Nat) : Array Value := #[.pointer (some ⟨bs.getD k 0, 0, none⟩)]
/-- What the iterator needs: its pool, the slice of frames, and each frame's place. -/
structure PlPre (C p n c : Nat) (A : Option Addr) (bs : List Nat) (k : Nat) (W : World) : Prop where
  le : k ≤ n
  len : bs.length = n
  box : W.cell? ⟨C, 0, none⟩ = some (.pointer (some ⟨p, 0, none⟩))
  held : W.cell? ⟨p, 3, none⟩ = some (.slice A n c)
  at_ : ∀ j, j < n → ∃ g, A = some ⟨g, 0, none⟩ ∧ W.cell? ⟨g, j, none⟩ = some (.pointer (some ⟨bs.getD j 0, 0, none⟩))
theorem PlPre.to {C p n c k k' : Nat} {A : Option Addr} {bs : List Nat} {W W' : World} (h : PlPre C p n c A bs k W) (hk : k' ≤ n) (hb : Below W.heap.size W W') : PlPre C p n c A bs k' W' :=
  ⟨hk, h.len, (hb.cell (block_lt_of_cell h.box)).trans h.box, (hb.cell (block_lt_of_cell h.held)).trans h.held, fun j hj => by
    obtain ⟨g, hA, hc⟩ := h.at_ j hj
    exact ⟨g, hA, (hb.cell (block_lt_of_cell hc)).trans hc⟩⟩
def plX (n k : Nat) (W W' : World) : Prop := k < n ∧ W' = W
def plZ (n k : Nat) (W W' : World) : Prop := k = n ∧ W' = W

section
attribute [local go_sem] Oper.semAt_some
set_option maxRecDepth 100000 in
set_option maxHeartbeats 4000000 in
theorem oldest_moves (f : Nat) (h1 : 1 ≤ f) (C p n c : Nat) (A : Option Addr) (bs : List Nat) (hn : (n : Int) ≤ 9223372036854775807) (w : World) :
    SeqMoves Fence.wide f Try.prog 87 #[.pointer (some ⟨C, 0, none⟩)] (plAt bs) (PlPre C p n c A bs) (plX n) (plZ n) w := by
  intro lp J Jm Jx Jz W hW hP hX hZ hY h0
  have x0 := (hP 0 W h0).box
  have x1 := (hP 0 W h0).held
  have HP := Lib.hid hP
  have HX := Lib.hid hX
  have HZ := Lib.hid hZ
  have HY := Lib.hid hY
  have H0 := Lib.hid h0
  have HN := Lib.hid hn
  clear hP hX hZ hY h0 hW
  refine callsIn_of_wp Try.func87 rfl trivial ?_ rfl
  simp only [Try.ntmps87, List.size_toArray, List.length_cons, List.length_nil, Nat.reduceAdd, Nat.reduceSub, Array.replicate_succ, Array.replicate_zero, List.push_toArray, List.append_toArray, List.nil_append, List.cons_append]
  gi_wp2
  gi_loopw [10] (fun q wr => ∃ k : Nat, q = .int .i64 (k : Int) ∧ k ≤ n ∧ J k wr) (fun i _ => n + 1 - (RowKit.intOf i).toNat)
  case atStart => exact ⟨0, rfl, Nat.zero_le _, H0.out⟩
  case round =>
    obtain ⟨k, rfl, hkM, hJ⟩ := hrel
    have hpre := HP.out k wr hJ
    have HJ := Lib.hid hJ
    by_cases hk : k < n
    · have hd : (k : Int) < (n : Int) := by omega
      obtain ⟨g, rfl, ck⟩ := hpre.at_ k hk
      have HAT : Hid (plAt bs k = #[.pointer (some ⟨bs.getD k 0, 0, none⟩)]) := Lib.hid rfl
      have HK := Lib.hid hk
      generalize bs.getD k 0 = fb at *
      obtain ⟨fn, tmps, assign, body, hy, hR⟩ := HY.out k wr (HX.out k wr wr HJ.out ⟨HK.out, rfl⟩)
      have HRO := Lib.hid hR
      rw [HAT.out] at hy
      clear hpre hk hkM hJ x0 x1 hR
      gi_wp2
      refine HRO.out.mono ?_
      rintro e W3 (⟨rfl, hJ3⟩ | ⟨rfl, hJx3⟩)
      · gi_wp2
        go_roundw
        case rel => exact ⟨k + 1, by go_num, by have := HK.out; omega, hJ3⟩
        case measure => have := HK.out; simp [RowKit.intOf]; omega
      · gi_wp2
        refine bodyPost_ret (results_none rfl _ _ _) rfl ?_
        exact ⟨⟨_, rfl⟩, .inl hJx3⟩
    · obtain rfl : k = n := by omega
      have HE := Lib.hid (HZ.out k wr wr HJ.out ⟨rfl, rfl⟩)
      clear hk hkM hpre hJ x0 x1
      gi_wp2
      go_end0
      exact ⟨⟨_, rfl⟩, .inr HE.out⟩
end
end Go.Proofs.Ytlmdijijlbmddaa.pool

/-
  The tile of layer 5: its iterator of elements, which reads on.
-/
import Derived.Test.YtpededkfgjmhcaaTForm
import Derived.Test.YtpededkfgjmhcaaMoves
import Derived.Test.YtpededkfgjmhcaaReader
namespace Go.Proofs.Ytpededkfgjmhcaa.tile
open Go.RowKit

/-- The Reader at b, with l left, its row below B. -/
def RdB (w : World) (b B : Nat) (l : List UInt8) : Prop := ∃ A c, Rd w b A c l ∧ ∀ ad, A = some ad → ad.block < B
theorem RdB.took {w w' : World} {b B : Nat} {A : Option Addr} {l' : List UInt8} (hA : ∀ ad, A = some ad → ad.block < B) (h : Took w w' b A l') : RdB w' b B l' ∧ Keep (fun k => k = b) w w' := by
  obtain ⟨A', c', h1, h2, h3⟩ := h
  refine ⟨⟨A', c', h1, fun ad e => ?_⟩, h3⟩
  obtain ⟨ad0, e0, f0⟩ := h2 ad e
  rw [f0]
  exact hA ad0 e0
theorem RdB.keep {w w' : World} {b B : Nat} {l : List UInt8} {S : Nat → Prop} (h : RdB w b B l) (hk : Keep S w w') (hb : ¬ S b) (hB : ∀ k, k < B → ¬ S k) : RdB w' b B l := by
  obtain ⟨A, c, h1, h2⟩ := h
  exact ⟨A, c, h1.keep hk hb (fun ad e => hB _ (h2 ad e)), h2⟩

/-- What the iterator of l's elements needs ahead of its k-th one; what it turns ahead of yielding it; and with what it ends. -/
def elPre (C b B : Nat) (l : List UInt8) (k : Nat) (w : World) : Prop := w.cell? ⟨C, 0, none⟩ = some (.pointer (some ⟨b, 0, none⟩)) ∧ RdB w b B (l.drop (8 * k))
def elX (b B : Nat) (l : List UInt8) (k : Nat) (w w' : World) : Prop := 8 * k + 8 ≤ l.length ∧ RdB w' b B (l.drop (8 * (k + 1))) ∧ Keep (fun k => k = b) w w'
def elZ (b : Nat) (l : List UInt8) (k : Nat) (w w' : World) : Prop := l.length < 8 * k + 8 ∧ Keep (fun k => k = b) w w'
def elAt (l : List UInt8) (k : Nat) : Array Value := #[.int .i64 (k : Int), .int .i64 (wrap64 (num ((l.drop (8 * k)).take 8)))]

section
attribute [local go_sem] Oper.semAt_some
set_option maxRecDepth 100000 in
set_option maxHeartbeats 4000000 in
theorem els_moves (n : Nat) (h1 : 1 ≤ n) (C b B : Nat) (l : List UInt8) (hl : l.length ≤ 140737488355328) (w : World) :
    SeqMoves Fence.wide n Try.prog 61 #[.pointer (some ⟨C, 0, none⟩)] (elAt l) (elPre C b B l) (elX b B l) (elZ b l) w := by
  intro lp J Jm Jx Jz W hW hP hX hZ hY h0
  have HP := Lib.hid hP
  have HX := Lib.hid hX
  have HZ := Lib.hid hZ
  have HY := Lib.hid hY
  have H0 := Lib.hid h0
  have hfw : Fence.wide.fn 62 := trivial
  clear hP hX hZ hY h0 hW
  refine callsIn_of_wp Try.func61 rfl trivial ?_ rfl
  simp only [Try.ntmps61, List.size_toArray, List.length_cons, List.length_nil, Nat.reduceAdd, Nat.reduceSub, Array.replicate_succ, Array.replicate_zero, List.push_toArray, List.append_toArray, List.nil_append, List.cons_append]
  gi_wp2
  gi_loopw [3] (fun p wr => ∃ k : Nat, p = .int .i64 (k : Int) ∧ k ≤ l.length ∧ J k wr) (fun i _ => l.length + 1 - (RowKit.intOf i).toNat)
  case atStart => exact ⟨0, rfl, Nat.zero_le _, H0.out⟩
  case round =>
    obtain ⟨k, rfl, hkl, hJ⟩ := hrel
    obtain ⟨c0, A, c, hrd, hA⟩ := HP.out k wr hJ
    have hri := rint_any wr b c A _ hrd
    have hdl : (l.drop (8 * k)).length = l.length - 8 * k := List.length_drop ..
    have HJ := Lib.hid hJ
    have HA := Lib.hid hA
    clear hJ hrd hA
    by_cases hk : 8 * k + 8 ≤ l.length
    · have e0 : rnumErr 8 (l.drop (8 * k)) = 0 := by
        unfold rnumErr
        rw [if_pos (by decide), if_neg (by rw [hdl]; show ¬ (l.length - 8 * k < 8); omega)]
      have et : taken 0 8 = 8 := rfl
      have ed : (l.drop (8 * k)).drop 8 = l.drop (8 * (k + 1)) := by rw [List.drop_drop]; congr 1
      rw [e0, et, ed] at hri
      have HRI := Lib.hid hri
      have HK := Lib.hid hk
      generalize hx : wrap64 (num ((l.drop (8 * k)).take 8)) = x at *
      have HXX := Lib.hid hx
      clear hri e0 et ed hdl hk hx
      gi_wp2_with (gi_at_call 62; go_loud (refine (callsIn_wide.2 HRI.out).mono ?_; rintro e w2 ⟨rfl, ht⟩; obtain ⟨hr2, hk2⟩ := RdB.took HA.out ht; obtain ⟨fn, tmps, assign, body, hy, hR⟩ := HY.out k w2 (HX.out k wr w2 HJ.out ⟨HK.out, hr2, hk2⟩); have HR := Lib.hid hR; unfold elAt at hy; rw [HXX.out] at hy; clear ht hr2 hk2 hR))
      refine HR.out.mono ?_
      rintro e W3 (⟨rfl, hJ3⟩ | ⟨rfl, hJx3⟩)
      · gi_wp2
        go_roundw
        case rel => exact ⟨k + 1, by go_num, by have := HK.out; omega, hJ3⟩
        case measure => have := HK.out; simp [RowKit.intOf]; omega
      · gi_wp2
        refine bodyPost_ret (results_none rfl _ _ _) rfl ?_
        exact ⟨⟨_, rfl⟩, .inl hJx3⟩
    · have e0 : rnumErr 8 (l.drop (8 * k)) = 10 := by
        unfold rnumErr
        rw [if_pos (by decide), if_pos (by rw [hdl]; show (l.length - 8 * k < 8); omega)]
      rw [e0] at hri
      have HRI := Lib.hid hri
      have HK := Lib.hid hk
      clear hri e0 hdl hk
      gi_wp2_with (gi_at_call 62; refine (callsIn_wide.2 HRI.out).mono ?_; rintro e w2 ⟨rfl, ht⟩; obtain ⟨hr2, hk2⟩ := RdB.took HA.out ht; have HE := Lib.hid (HZ.out k wr w2 HJ.out ⟨by have := HK.out; omega, hk2⟩); clear ht hr2 hk2)
      · refine ⟨(fun f e => by cases e), ?_⟩
        gi_wp2
        refine bodyPost_ret (results_none rfl _ _ _) rfl ?_
        exact ⟨⟨_, rfl⟩, .inr HE.out⟩
end
end Go.Proofs.Ytpededkfgjmhcaa.tile

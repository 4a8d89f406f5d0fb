/-
  The log of layer 9: the iterator of what payloads tell.
-/
import Derived.Test.YtdjneiboeehclaaNtDec
import Derived.Test.YtdjneiboeehclaaMovesV
namespace Go.Proofs.Ytdjneiboeehclaa.note
open Go.RowKit Go.Proofs.Ytdjneiboeehclaa.crc Go.Proofs.Ytdjneiboeehclaa.root

/-- Payloads that lie below block M. -/
structure Rws (M : Nat) (W : World) (A : Option Addr) (n : Nat) (ls : List (List UInt8)) (us : List Value) : Prop where
  reads : Reads W M 1 A n us
  len : ls.length = n
  heads : ∀ (i : Nat) (l : List UInt8), ls[i]? = some l → ∃ B d, us[i]? = some (.slice B l.length d) ∧ Reads W M 1 B l.length (l.map bv)
theorem Rws.below {M n : Nat} {W W' : World} {A : Option Addr} {ls : List (List UInt8)} {us : List Value} (h : Rws M W A n ls us) (hb : Below M W W') : Rws M W' A n ls us :=
  ⟨h.reads.below hb, h.len, fun i l hl => by obtain ⟨B, d, h1, h2⟩ := h.heads i l hl; exact ⟨B, d, h1, h2.below hb⟩⟩
theorem Rws.more {M M' n : Nat} {W : World} {A : Option Addr} {ls : List (List UInt8)} {us : List Value} (h : Rws M W A n ls us) (hM : M ≤ M') : Rws M' W A n ls us :=
  ⟨h.reads.more hM, h.len, fun i l hl => by obtain ⟨B, d, h1, h2⟩ := h.heads i l hl; exact ⟨B, d, h1, h2.more hM⟩⟩
/-- One of them. -/
theorem Rws.one {M n k : Nat} {W : World} {A : Option Addr} {ls : List (List UInt8)} {us : List Value} (h : Rws M W A n ls us) (hk : k < n) :
    ∃ ad B d, A = some ad ∧ ad.block < M ∧ W.cell? (ad.add k) = some (.slice B (ls.getD k []).length d) ∧ Reads W M 1 B (ls.getD k []).length ((ls.getD k []).map bv) := by
  have hkl : k < ls.length := by rw [h.len]; exact hk
  have hl : ls[k]? = some (ls.getD k []) := by rw [List.getD_eq_getElem?_getD, List.getElem?_eq_getElem hkl]; rfl
  obtain ⟨B, d, h1, h2⟩ := h.heads k _ hl
  obtain ⟨ad, e, hb, hc⟩ := h.reads.2 (by omega)
  exact ⟨ad, B, d, e, hb, hc k _ h1, h2⟩

def ntAt (ls : List (List UInt8)) (k : Nat) (_ : Unit) : Array Value := #[nv (decN (ls.getD k [])), .int .i64 (decErrN (ls.getD k []))]
def ntPre (C M n c : Nat) (A : Option Addr) (ls : List (List UInt8)) (us : List Value) (k : Nat) (W : World) : Prop := k ≤ n ∧ W.cell? ⟨C, 0, none⟩ = some (.slice A n c) ∧ Rws M W A n ls us ∧ M ≤ W.heap.size
def ntX (n k : Nat) (_ : Unit) (W W' : World) : Prop := k < n ∧ Below W.heap.size W W'
def ntZ (n k : Nat) (W W' : World) : Prop := k = n ∧ W' = W

set_option maxRecDepth 100000 in
theorem ndecoded_any (A : Option Addr) (n c : Nat) (w : World) : Calls Try.prog 51 #[.slice A n c] w fun e w' => e = .returned (.func (.func 57) #[] #[.pointer (some ⟨w.heap.size, 0, none⟩)]) ∧ w.alloc (.cells #[.slice A n c] 35) = w' := by
  go_enter Try.func51, Try.ntmps51
  go_wp2
  go_ret
  exact ⟨rfl, rfl⟩

section
attribute [local go_sem] Oper.semAt_some
set_option maxRecDepth 100000 in
set_option maxHeartbeats 4000000 in
theorem ndecoded_moves (f : Nat) (h1 : 1 ≤ f) (C M n c : Nat) {A : Option Addr} {ls : List (List UInt8)} {us : List Value} (hn : (n : Int) ≤ 9223372036854775807) (w : World) :
    SeqMovesV Fence.wide f Try.prog 57 #[.pointer (some ⟨C, 0, none⟩)] (ntAt ls) (ntPre C M n c A ls us) (ntX n) (ntZ n) w := by
  intro lp J Jm Jx Jz W hW hP hX hZ hY h0
  obtain ⟨_, x0, _, _⟩ := hP 0 W h0
  have HP := Lib.hid hP
  have HX := Lib.hid hX
  have HZ := Lib.hid hZ
  have HY := Lib.hid hY
  have H0 := Lib.hid h0
  have HN := Lib.hid hn
  have hfx : Fence.wide.fn 11 := trivial
  clear hP hX hZ hY h0 hW
  refine callsIn_of_wp Try.func57 rfl trivial ?_ rfl
  simp only [Try.ntmps57, List.size_toArray, List.length_cons, List.length_nil, Nat.reduceAdd, Nat.reduceSub, Array.replicate_succ, Array.replicate_zero, List.push_toArray, List.append_toArray, List.nil_append, List.cons_append]
  gi_wp2
  gi_loopw [9] (fun q wr => ∃ k : Nat, q = .int .i64 (k : Int) ∧ k ≤ n ∧ J k wr) (fun i _ => n + 1 - (RowKit.intOf i).toNat)
  case atStart => exact ⟨0, rfl, Nat.zero_le _, H0.out⟩
  case round =>
    obtain ⟨k, rfl, hkM, hJ⟩ := hrel
    obtain ⟨_, _, hR, hMs⟩ := HP.out k wr hJ
    have HJ := Lib.hid hJ
    by_cases hk : k < n
    · have hd : (k : Int) < (n : Int) := by omega
      obtain ⟨ad, B, d, rfl, hadM, ck, hrk⟩ := hR.one hk
      obtain ⟨l, hl⟩ : ∃ l, ls.getD k [] = l := ⟨_, rfl⟩
      rw [hl] at ck hrk
      obtain ⟨m, hm⟩ : ∃ m, l.length = m := ⟨_, rfl⟩
      rw [hm] at ck hrk
      have HDC := Lib.hid (ndecode_any B d m l wr hm (hrk.more hMs))
      obtain ⟨⟨tk, ta, tb, tn⟩, hT⟩ : ∃ T, decN l = T := ⟨_, rfl⟩
      obtain ⟨E, hE⟩ : ∃ E, decErrN l = E := ⟨_, rfl⟩
      rw [hT, hE] at HDC
      have HAT : Hid (ntAt ls k () = #[.agg #[.int .i64 tk, .int .i64 ta, .int .i64 tb, .int .i64 tn], .int .i64 E]) := Lib.hid (by unfold ntAt; rw [hl, hT, hE]; rfl)
      have HK := Lib.hid hk
      clear hR hMs hadM hrk hl hm hT hE hk hkM hJ x0
      unfold nv at HDC
      simp only at HDC
      gi_wp2_with (first
        | (gi_at_call 11; refine (callsIn_wide.2 HDC.out).mono ?_; rintro e w6 ⟨rfl, b6⟩
           have hb9 := Blk.new w6 23 #[.int .i64 tk, .int .i64 ta, .int .i64 tb, .int .i64 tn]
           have y0 := hb9.cell 0; have y1 := hb9.cell 1; have y2 := hb9.cell 2; have y3 := hb9.cell 3
           have b9 : Below wr.heap.size wr (w6.alloc (.cells #[.int .i64 tk, .int .i64 ta, .int .i64 tb, .int .i64 tn] 23)) := b6.alloc b6.size _
           obtain ⟨fn, tmps, assign, body, hy, hR⟩ := HY.out k () _ (HX.out k () wr _ HJ.out ⟨HK.out, b9⟩)
           have HRO := Lib.hid hR
           rw [HAT.out] at hy
           clear hb9 b6 b9 hR))
      refine HRO.out.mono ?_
      rintro e W3 (⟨rfl, hJ3⟩ | ⟨rfl, hJx3⟩)
      · gi_wp2
        go_roundw
        case rel => exact ⟨k + 1, by go_num, by have := HK.out; omega, hJ3⟩
        case measure => have := HK.out; simp [RowKit.intOf]; omega
      · gi_wp2
        refine bodyPost_ret (results_none rfl _ _ _) rfl ?_
        exact ⟨⟨_, rfl⟩, .inl hJx3⟩
    · obtain rfl : k = n := by omega
      have HE := Lib.hid (HZ.out k wr wr HJ.out ⟨rfl, rfl⟩)
      clear hk hkM
      gi_wp2
      go_end0
      exact ⟨⟨_, rfl⟩, .inr HE.out⟩
end
end Go.Proofs.Ytdjneiboeehclaa.note

/-
  The Writer's other calls: Int, Raw, Text, Len, Bytes.
-/
import Derived.Test.YtoiopoghcjkgcaaGreatWNum
namespace Go.Proofs.YtoiopoghcjkgcaaGreat
open Go.RowKit

/-- The Writer at b (row A, count u) has written l' behind what it did from w to w'; nothing else that lay there has turned. -/
def Wrote (w w' : World) (b : Nat) (A u : Option Addr) (l' : List UInt8) : Prop :=
  ∃ A' c' u', Wr w' b A' c' u' l' ∧ (∀ k, foot b A' u' k → foot b A u k ∨ w.heap.size ≤ k) ∧ Keep (foot b A u) w w'

theorem Wrote.same {w : World} {b c : Nat} {A u : Option Addr} {l : List UInt8} (h : Wr w b A c u l) : Wrote w w b A u l := ⟨A, c, u, h, fun _ h => .inl h, Keep.refl _ _⟩

theorem Wrote.trans {w w1 w2 w3 : World} {b : Nat} {A A1 u u1 : Option Addr} {l2 : List UInt8} (hf : ∀ k, foot b A1 u1 k → foot b A u k ∨ w.heap.size ≤ k) (hk : Keep (foot b A u) w w1) (hb : Below w1.heap.size w1 w2)
    (h2 : Wrote w2 w3 b A1 u1 l2) : Wrote w w3 b A u l2 := by
  obtain ⟨A', c', u', h3, h4, h5⟩ := h2
  refine ⟨A', c', u', h3, fun k h => ?_, ((hk.trans (Keep.of_below (S := foot b A u) hb) (fun _ _ h => h)).trans h5 (fun k hlt h => ?_))⟩
  · rcases h4 k h with h | h
    · exact hf k h
    · exact .inr (Nat.le_trans hk.size (Nat.le_trans hb.size h))
  · rcases hf k h with h | h
    · exact h
    · omega

theorem wrap_u64 (n : Int) : IntKind.u64.wrap n = ((n % 18446744073709551616).toNat : Int) := by
  rw [Int.toNat_of_nonneg (by omega)]
  simp [IntKind.wrap, IntKind.bits, IntKind.signed]

theorem wraw_nil (B : Option Addr) (m d : Nat) (w : World) : Calls Tryz.prog 43 #[.pointer none, .slice B m d] w fun e w' => e = .returned (.int .i64 1) ∧ w = w' := by
  go_enter Tryz.func43, Tryz.ntmps43
  go_wp2
  go_ret
  exact ⟨rfl, rfl⟩

theorem wraw_any0 (w : World) (b : Nat) (A : Option Addr) (c : Nat) (u : Option Addr) (l : List UInt8) (hw : Wr w b A c u l) (B : Option Addr) (m d : Nat) (bs : List UInt8)
    (hr : Reads w w.heap.size 1 B m (bs.map bv)) (hsep : 0 < m → ∀ ad, B = some ad → ad.block ≠ b) (hn : l.length + m ≤ 140737488355328) :
    Calls Tryz.prog 43 #[.pointer (some ⟨b, 0, none⟩), .slice B m d] w fun e w' => e = .returned (.int .i64 0) ∧ Wrote w w' b A u (l ++ bs) := by
  have hp := put_any0 w b A c u l B m d bs hw hr hsep hn
  have H := Lib.hid hp
  clear hp hw hr hsep
  go_enter Tryz.func43, Tryz.ntmps43
  go_wp2_with (go_at_call 68; refine H.out.mono ?_; rintro e w' ⟨⟨x, rfl⟩, hq⟩)
  go_ret
  exact ⟨rfl, hq⟩

theorem wraw_any (w : World) (b : Nat) (A : Option Addr) (c : Nat) (u : Option Addr) (l : List UInt8) (hw : Wr w b A c u l) (B : Option Addr) (m d : Nat) (bs : List UInt8)
    (hr : Reads w w.heap.size 1 B m (bs.map bv)) (hsep : ∀ ad, B = some ad → ad.block ≠ b) (hn : l.length + m ≤ 140737488355328) :
    Calls Tryz.prog 43 #[.pointer (some ⟨b, 0, none⟩), .slice B m d] w fun e w' => e = .returned (.int .i64 0) ∧ Wrote w w' b A u (l ++ bs) :=
  wraw_any0 w b A c u l hw B m d bs hr (fun _ => hsep) hn

theorem wlen_nil (w : World) : Calls Tryz.prog 70 #[.pointer none] w fun e w' => e = .returned (.int .i64 0) ∧ w = w' := by
  go_enter Tryz.func70, Tryz.ntmps70
  go_wp2
  go_ret
  exact ⟨rfl, rfl⟩

theorem wlen_any (w : World) (b : Nat) (A : Option Addr) (c : Nat) (u : Option Addr) (l : List UInt8) (hw : Wr w b A c u l) :
    Calls Tryz.prog 70 #[.pointer (some ⟨b, 0, none⟩)] w fun e w' => e = .returned (.int .i64 l.length) ∧ w = w' := by
  have c0 : w.cell? ⟨b, 0, none⟩ = some (.slice A l.length c) := hw.blk.cell 0
  clear hw
  go_enter Tryz.func70, Tryz.ntmps70
  go_wp2
  go_ret
  exact ⟨rfl, rfl⟩

theorem wbytes_nil (w : World) : Calls Tryz.prog 47 #[.pointer none] w fun e w' => e = .returned (.slice none 0 0) ∧ w = w' := by
  go_enter Tryz.func47, Tryz.ntmps47
  go_wp2
  go_ret
  exact ⟨rfl, rfl⟩

theorem wbytes_any (w : World) (b : Nat) (A : Option Addr) (c : Nat) (u : Option Addr) (l : List UInt8) (hw : Wr w b A c u l) (hn : l.length ≤ 140737488355328) :
    Calls Tryz.prog 47 #[.pointer (some ⟨b, 0, none⟩)] w fun e w' => ∃ A' c', e = .returned (.slice A' l.length c') ∧ w'.ownsRow w.heap.size 5 1 (.slice A' l.length c') l.length (l.map bv) ∧ Below w.heap.size w w' := by
  have c0 : w.cell? ⟨b, 0, none⟩ = some (.slice A l.length c) := hw.blk.cell 0
  have hc := clone_any A l.length c l w hw.reads hn
  have H := Lib.hid hc
  clear hc hw
  go_enter Tryz.func47, Tryz.ntmps47
  go_wp2_with (go_at_call 74; refine H.out.mono ?_; rintro e w' ⟨A', c', rfl, h1, h2⟩)
  go_ret
  exact ⟨A', c', rfl, h1, h2⟩

end Go.Proofs.YtoiopoghcjkgcaaGreat

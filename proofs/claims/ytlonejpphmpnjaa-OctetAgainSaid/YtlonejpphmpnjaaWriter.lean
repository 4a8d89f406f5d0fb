/-
  The Writer's other calls: Int, Raw, Text, Len, Bytes.
-/
import Derived.Test.YtlonejpphmpnjaaWNum
namespace Go.Proofs.Ytlonejpphmpnjaa
open Go.RowKit

/-- The Writer at b (row A, count u) has written l' behind what it did from w to w'; nothing else that lay there has turned. -/
def Wrote (w w' : World) (b : Nat) (A u : Option Addr) (l' : List UInt8) : Prop :=
  ∃ A' c' u', Wr w' b A' c' u' l' ∧ (∀ k, foot b A' u' k → foot b A u k ∨ w.heap.size ≤ k) ∧ Keep (foot b A u) w w'

theorem Wrote.same {w : World} {b c : Nat} {A u : Option Addr} {l : List UInt8} (h : Wr w b A c u l) : Wrote w w b A u l := ⟨A, c, u, h, fun _ h => .inl h, Keep.refl _ _⟩

theorem Wrote.trans {w w1 w2 w3 : World} {b : Nat} {A A1 u u1 : Option Addr} {l2 : List UInt8} (hf : ∀ k, foot b A1 u1 k → foot b A u k ∨ w.heap.size ≤ k) (hk : Keep (foot b A u) w w1) (hb : Below w1.heap.size w1 w2)
    (h2 : Wrote w2 w3 b A1 u1 l2) : Wrote w w3 b A u l2 := by
  obtain ⟨A', c', u', h3, h4, h5⟩ := h2
  refine ⟨A', c', u', h3, fun k h => ?_, ((hk.trans (Keep.of_below (S := foot b A u) hb) (fun _ _ h => h)).trans h5 (fun k hlt h => ?_))⟩
  · rcases h4 k h with h | h
    · exact hf k h
    · exact .inr (Nat.le_trans hk.size (Nat.le_trans hb.size h))
  · rcases hf k h with h | h
    · exact h
    · omega

theorem wrap_u64 (n : Int) : IntKind.u64.wrap n = ((n % 18446744073709551616).toNat : Int) := by
  rw [Int.toNat_of_nonneg (by omega)]
  simp [IntKind.wrap, IntKind.bits, IntKind.signed]

theorem wint_any (w : World) (b : Nat) (A : Option Addr) (c : Nat) (u : Option Addr) (l : List UInt8) (hw : Wr w b A c u l) (n : Int) (hlen : l.length + 8 ≤ 140737488355328) :
    Calls Try.prog 12 #[.pointer (some ⟨b, 0, none⟩), .int .i64 n] w fun e w' => e = .returned (.int .i64 0) ∧ Wrote w w' b A u (l ++ be 8 (n % 18446744073709551616).toNat) := by
  have hc := wnum_ok w b A c u l hw 8 (n % 18446744073709551616).toNat (.inr (.inr (.inr rfl))) (by simp [fitsB]; omega) (by omega) hlen
  rw [← wrap_u64] at hc
  have H := Lib.hid hc
  clear hc hw
  go_enter Try.func12, Try.ntmps12
  go_wp2_with (go_at_call 10; refine H.out.mono ?_; rintro e w' ⟨rfl, hq⟩)
  go_ret
  exact ⟨rfl, hq⟩

theorem wint_nil (n : Int) (w : World) : Calls Try.prog 12 #[.pointer none, .int .i64 n] w fun e w' => e = .returned (.int .i64 1) ∧ w = w' := by
  go_enter Try.func12, Try.ntmps12
  go_wp2_with (go_at_call 10; refine (wnum_nil _ _ _).mono ?_; rintro e w' ⟨rfl, rfl⟩)
  go_ret
  exact ⟨rfl, rfl⟩

theorem wraw_nil (B : Option Addr) (m d : Nat) (w : World) : Calls Try.prog 16 #[.pointer none, .slice B m d] w fun e w' => e = .returned (.int .i64 1) ∧ w = w' := by
  go_enter Try.func16, Try.ntmps16
  go_wp2
  go_ret
  exact ⟨rfl, rfl⟩

theorem wraw_any (w : World) (b : Nat) (A : Option Addr) (c : Nat) (u : Option Addr) (l : List UInt8) (hw : Wr w b A c u l) (B : Option Addr) (m d : Nat) (bs : List UInt8)
    (hr : Reads w w.heap.size 1 B m (bs.map bv)) (hsep : ∀ ad, B = some ad → ad.block ≠ b) (hn : l.length + m ≤ 140737488355328) :
    Calls Try.prog 16 #[.pointer (some ⟨b, 0, none⟩), .slice B m d] w fun e w' => e = .returned (.int .i64 0) ∧ Wrote w w' b A u (l ++ bs) := by
  have hp := put_any w b A c u l B m d bs hw hr hsep hn
  have H := Lib.hid hp
  clear hp hw hr hsep
  go_enter Try.func16, Try.ntmps16
  go_wp2_with (go_at_call 35; refine H.out.mono ?_; rintro e w' ⟨⟨x, rfl⟩, hq⟩)
  go_ret
  exact ⟨rfl, hq⟩

theorem wlen_nil (w : World) : Calls Try.prog 17 #[.pointer none] w fun e w' => e = .returned (.int .i64 0) ∧ w = w' := by
  go_enter Try.func17, Try.ntmps17
  go_wp2
  go_ret
  exact ⟨rfl, rfl⟩

theorem wlen_any (w : World) (b : Nat) (A : Option Addr) (c : Nat) (u : Option Addr) (l : List UInt8) (hw : Wr w b A c u l) :
    Calls Try.prog 17 #[.pointer (some ⟨b, 0, none⟩)] w fun e w' => e = .returned (.int .i64 l.length) ∧ w = w' := by
  have c0 : w.cell? ⟨b, 0, none⟩ = some (.slice A l.length c) := hw.blk.cell 0
  clear hw
  go_enter Try.func17, Try.ntmps17
  go_wp2
  go_ret
  exact ⟨rfl, rfl⟩

theorem wbytes_nil (w : World) : Calls Try.prog 18 #[.pointer none] w fun e w' => e = .returned (.slice none 0 0) ∧ w = w' := by
  go_enter Try.func18, Try.ntmps18
  go_wp2
  go_ret
  exact ⟨rfl, rfl⟩

theorem clone_any (A : Option Addr) (n c : Nat) (l : List UInt8) (w : World) (hr : Reads w w.heap.size 1 A n (l.map bv)) (hn : n ≤ 140737488355328) :
    Calls Try.prog 37 #[.slice A n c] w fun e w' => ∃ A' c', e = .returned (.slice A' n c') ∧ w'.ownsRow w.heap.size 5 1 (.slice A' n c') n (l.map bv) ∧ Below w.heap.size w w' := by
  rcases A with _ | ad
  · have h0 : n = 0 := by
      rcases Nat.eq_zero_or_pos n with h0 | h0
      · exact h0
      · obtain ⟨ad, h, _⟩ := hr.2 h0
        cases h
    subst h0
    have hl : l.map bv = [] := List.eq_nil_of_length_eq_zero (by simpa using hr.1)
    refine (clone_nil 0 c w).mono ?_
    rintro e w' ⟨rfl, rfl⟩
    exact ⟨none, 0, rfl, by rw [hl]; exact World.ownsRow_nil _ _ _ _, Below.refl _ _⟩
  · refine (clone_some ad n c l w hr hn).mono ?_
    rintro e w' ⟨g, c', rfl, h1, h2, _⟩
    exact ⟨_, _, rfl, h1, h2⟩

theorem wbytes_any (w : World) (b : Nat) (A : Option Addr) (c : Nat) (u : Option Addr) (l : List UInt8) (hw : Wr w b A c u l) (hn : l.length ≤ 140737488355328) :
    Calls Try.prog 18 #[.pointer (some ⟨b, 0, none⟩)] w fun e w' => ∃ A' c', e = .returned (.slice A' l.length c') ∧ w'.ownsRow w.heap.size 5 1 (.slice A' l.length c') l.length (l.map bv) ∧ Below w.heap.size w w' := by
  have c0 : w.cell? ⟨b, 0, none⟩ = some (.slice A l.length c) := hw.blk.cell 0
  have hc := clone_any A l.length c l w hw.reads hn
  have H := Lib.hid hc
  clear hc hw
  go_enter Try.func18, Try.ntmps18
  go_wp2_with (go_at_call 37; refine H.out.mono ?_; rintro e w' ⟨A', c', rfl, h1, h2⟩)
  go_ret
  exact ⟨A', c', rfl, h1, h2⟩

theorem wtext_nil (s : ByteArray) (w : World) : Calls Try.prog 14 #[.pointer none, .string s] w fun e w' => e = .returned (.int .i64 1) ∧ w = w' := by
  go_enter Try.func14, Try.ntmps14
  go_wp2
  go_ret
  exact ⟨rfl, rfl⟩

theorem wtext_long (b : Nat) (s : ByteArray) (w : World) (h : 65535 < s.size) (hs : s.size ≤ 140737488355328) : Calls Try.prog 14 #[.pointer (some ⟨b, 0, none⟩), .string s] w fun e w' => e = .returned (.int .i64 10) ∧ w = w' := by
  go_enter Try.func14, Try.ntmps14
  go_wp2
  go_ret
  exact ⟨rfl, rfl⟩

theorem size_list (s : ByteArray) : s.data.toList.length = s.size := by rw [Array.length_toList]; rfl

theorem bytesWorld_below (w : World) (e : TypeId) (s : ByteArray) : Below w.heap.size w (Lib.bytesWorld w e s) :=
  ⟨rfl, rfl, rfl, by rw [Lib.bytesWorld_size]; omega, fun k hk => Lib.bytesWorld_at_old w e s k hk⟩

theorem bytesWorld_reads (w : World) (e : TypeId) (s : ByteArray) : Reads (Lib.bytesWorld w e s) (Lib.bytesWorld w e s).heap.size 1 (some ⟨w.heap.size, 0, none⟩) s.size (s.data.toList.map bv) := by
  refine ⟨by rw [List.length_map, size_list]; omega, fun h0 => ⟨_, rfl, by rw [Lib.bytesWorld_size]; simp, fun j u hu => ?_⟩⟩
  have hj : j < s.size := by
    have := (List.getElem?_eq_some_iff.1 hu).1
    rwa [List.length_map, size_list] at this
  have hp : (⟨w.heap.size, 0, none⟩ : Addr).add j = ⟨w.heap.size, j, none⟩ := by unfold Addr.add; split <;> simp_all
  rw [hp, Lib.bytesWorld_cell w e s j hj]
  rw [List.getElem?_map] at hu
  have hj' : j < s.data.toList.length := by rw [size_list]; exact hj
  rw [List.getElem?_eq_getElem hj', Option.map_some] at hu
  rw [← hu]
  unfold bv List.getD
  rw [List.getElem?_eq_getElem hj']
  rfl

set_option maxHeartbeats 1000000 in
theorem wtext_any (w : World) (b : Nat) (A : Option Addr) (c : Nat) (u : Option Addr) (l : List UInt8) (hw : Wr w b A c u l) (s : ByteArray) (h : s.size ≤ 65535) (hlen : l.length + 2 + s.size ≤ 140737488355328) :
    Calls Try.prog 14 #[.pointer (some ⟨b, 0, none⟩), .string s] w fun e w' => e = .returned (.int .i64 0) ∧ Wrote w w' b A u (l ++ be 2 s.size ++ s.data.toList) := by
  have hc := wnum_ok w b A c u l hw 2 s.size (.inr (.inl rfl)) (by simp [fitsB]; omega) (by omega) (by omega)
  have H := Lib.hid hc
  have HW := Lib.hid hw
  clear hc hw
  have cv := fun W => Lib.run_convert_string_bytes (P := Try.prog) W 9 24 5 s Try.underlying9 Try.underlying24 Try.underlying5
  go_enter Try.func14, Try.ntmps14
  go_wp2_with (go_at_call 10; refine H.out.mono ?_; rintro e w1 ⟨rfl, A1, c1, u1, g1, g2, g3⟩)
  have hb := bytesWorld_below w1 5 s
  have hr := wraw_any (Lib.bytesWorld w1 5 s) b A1 c1 u1 _ (g1.keep (Keep.of_below (S := fun _ => False) hb) (fun _ _ h => h)) (some ⟨w1.heap.size, 0, none⟩) s.size (grownCap w1 s.size 0 5) s.data.toList (bytesWorld_reads _ _ _) (fun ad e => by cases e; have := g1.blk.lt; simp; omega)
    (by simp [be_length]; omega)
  have HR := Lib.hid hr
  have HB := Lib.hid hb
  have G1 := Lib.hid g1
  clear hr hb g1
  go_wp2_with (go_at_call 16; refine HR.out.mono ?_; rintro e w3 ⟨rfl, hq⟩)
  go_ret
  exact ⟨rfl, Wrote.trans g2 g3 HB.out hq⟩

end Go.Proofs.Ytlonejpphmpnjaa

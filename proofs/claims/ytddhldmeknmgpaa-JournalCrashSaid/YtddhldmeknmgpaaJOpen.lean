/-
  The journal of layer 8: Open, of whatever disk, and as statements call it.
-/
import Derived.Test.YtddhldmeknmgpaaJLoad
namespace Go.Proofs.Ytddhldmeknmgpaa.journal
open Go.RowKit Go.Proofs.Ytddhldmeknmgpaa.crc Go.Proofs.Ytddhldmeknmgpaa.root

theorem jopen_bad (p : Option Addr) (at_ many : Int) (ep : Nat) (w : World) (h : many < 1 ∨ at_ < 0) : Calls Try.prog 14 #[.pointer p, .int .i64 at_, .int .i64 many, .int .u64 ep] w fun e w' => e = .returned (.tuple #[.pointer none, .int .i64 80]) ∧ w = w' := by
  by_cases h1 : many < 1
  · clear h
    go_enter Try.func14, Try.ntmps14
    go_wp2
    go_ret2
    exact ⟨rfl, rfl⟩
  · have h2 : at_ < 0 := by omega
    clear h
    go_enter Try.func14, Try.ntmps14
    go_wp2
    go_ret2
    exact ⟨rfl, rfl⟩

set_option maxRecDepth 100000 in
set_option maxHeartbeats 1000000 in
theorem jopen_any {w : World} {M ep : Nat} {p : Option Addr} {at_ : Int} {er : Int → Int} {L : Int → List UInt8} (hS : Src p (fun W => Below w.heap.size w W) er L) (h1 : 1 ≤ M) (hM : (M : Int) ≤ 9223372036854775807) (ha : 0 ≤ at_) (hlim : ∀ k, k < M → (∀ i, i ≤ k → er (adr at_ i) = 0) → k < 4096) :
    Calls Try.prog 14 #[.pointer p, .int .i64 at_, .int .i64 (M : Int), .int .u64 ep] w fun e w' => Below w.heap.size w w' ∧
      ((errP (fun k => er (adr at_ k)) M = 0 ∧ e = .returned (.tuple #[.pointer (some ⟨w.heap.size, 0, none⟩), .int .i64 0]) ∧ ∃ pv vs, JAt w.heap.size w' w.heap.size p pv vs ⟨at_, M, ep, (pfx ep (fun k => L (adr at_ k)) M).1⟩) ∨
       (errP (fun k => er (adr at_ k)) M ≠ 0 ∧ e = .returned (.tuple #[.pointer none, .int .i64 (errP (fun k => er (adr at_ k)) M)]))) := by
  obtain ⟨b, hb⟩ : ∃ b, w.heap.size = b := ⟨_, rfl⟩
  obtain ⟨w1, hw1⟩ : ∃ w1, w.alloc (.cells #[.pointer none, .pointer p, .int .i64 at_, .int .i64 (M : Int), .int .u64 (ep : Int), .slice none 0 0] 46) = w1 := ⟨_, rfl⟩
  have hx1 : Blk w1 b 46 #[.pointer none, .pointer p, .int .i64 at_, .int .i64 (M : Int), .int .u64 (ep : Int), .slice none 0 0] := by rw [← hw1, ← hb]; exact Blk.new w _ _
  have hx2 := hx1.set_ 0 (.pointer (some ⟨b, 0, none⟩))
  have x0 := hx1.cell 0
  have f0 := hx1.frozen 0
  have hb1 : Below w.heap.size w w1 := by rw [← hw1]; exact (Below.refl _ _).alloc (Nat.le_refl _) _
  have hb2 : Below w.heap.size w (w1.setCell ⟨b, 0, none⟩ (.pointer (some ⟨b, 0, none⟩))) := hb1.setCell (by show w.heap.size ≤ b; omega) _
  have HL := Lib.hid (jload_any hS hb2 (b := b) (ep := ep) ⟨by omega, by show 0 ≤ 4096; omega, hx2, World.ownsRow_nil _ _ _ _, ⟨rfl, fun i l hl => by simp at hl⟩⟩ hM hlim)
  obtain ⟨E, hE⟩ : ∃ E, errP (fun k => er (adr at_ k)) M = E := ⟨_, rfl⟩
  rw [hE] at HL ⊢
  have d1 : ¬ (M : Int) < 1 := by omega
  have d2 : ¬ at_ < 0 := by omega
  have HB := Lib.hid hb
  rw [hb] at HL ⊢
  clear hE hS hb2 hb1 hx1 hx2 hlim h1 ha hM
  by_cases h0 : E = 0
  · subst h0
    go_enter Try.func14, Try.ntmps14
    go_wp2_with (go_at_call 36; refine HL.out.mono ?_; rintro e w3 ⟨rfl, hb3, hj⟩; have HB3 := Lib.hid hb3; have HJ := Lib.hid (hj rfl); clear hb3 hj hw1)
    go_ret2
    exact ⟨HB3.out, .inl ⟨trivial, rfl, HJ.out⟩⟩
  · have hn0 : (E != 0) = true := by rw [bne_iff_ne]; exact h0
    have H0 := Lib.hid h0
    clear h0
    go_enter Try.func14, Try.ntmps14
    go_wp2_with (go_at_call 36; refine HL.out.mono ?_; rintro e w3 ⟨rfl, hb3, hj⟩; have HB3 := Lib.hid hb3; clear hb3 hj hw1)
    go_ret2
    exact ⟨HB3.out, .inr ⟨H0.out, rfl⟩⟩

/-! ### On a disk -/
theorem src_dk {w : World} {d : DAt} {kv : Value} {s : RSt} (h : DK w d kv s) : Src (some ⟨d.b, 0, none⟩) (fun W => Below w.heap.size w W) (readErr3 s) (readOut3 s) :=
  ⟨fun X Y hX hY => hX.trans (hY.mono hX.size), fun a X hX => by
    refine (dread_any a (h.below hX)).mono ?_
    rintro e w' ⟨v, rfl, hro⟩
    obtain ⟨A, c, rfl, hr⟩ := hro.reads
    exact ⟨A, c, rfl, hr, hro.1⟩⟩
theorem src_nil (w : World) : Src none (fun W => Below w.heap.size w W) (fun _ => 1) (fun _ => []) :=
  ⟨fun X Y hX hY => hX.trans (hY.mono hX.size), fun a X hX => by
    refine (dread_dead none a X (Dead.nil X)).mono ?_
    rintro e w' ⟨rfl, rfl⟩
    exact ⟨none, 0, rfl, Reads.none_, Below.refl _ _⟩⟩
theorem readErr_in {s : RSt} {a : Int} (h : readErr3 s a = 0) : 0 ≤ a ∧ a < (s.stays.length : Int) := by
  unfold readErr3 at h
  split at h
  · omega
  · split at h
    · rename_i hh
      exact of_decide_eq_true hh
    · omega
theorem adr_small {at_ : Int} {k : Nat} (h0 : 0 ≤ at_) (h : at_ + (k : Int) ≤ 8192) : adr at_ k = at_ + k := by
  unfold adr
  exact IntWalk.i64_in _ (by omega)
theorem adr_lim {s : RSt} {at_ : Int} (h0 : 0 ≤ at_) (h9 : at_ ≤ 9223372036854775807) (hl : s.stays.length ≤ 4096) : ∀ k, (∀ i, i ≤ k → readErr3 s (adr at_ i) = 0) → at_ + (k : Int) < (s.stays.length : Int)
  | 0, h => by
    have h1 := (readErr_in (h 0 (Nat.le_refl _))).2
    have e : adr at_ 0 = at_ := by unfold adr; rw [show at_ + ((0 : Nat) : Int) = at_ by omega]; exact IntWalk.i64_in _ (by omega)
    rw [e] at h1
    omega
  | k + 1, h => by
    have h1 := adr_lim h0 h9 hl k (fun i hi => h i (by omega))
    have h2 := (readErr_in (h (k + 1) (Nat.le_refl _))).2
    rwa [adr_small h0 (by omega)] at h2
/-- What Open answers of a disk. -/
def openE (s : RSt) (at_ many : Int) : Int := if many < 1 ∨ at_ < 0 then 80 else errP (fun k => readErr3 s (adr at_ k)) many.toNat
def openL (s : RSt) (at_ : Int) (many ep : Nat) : List (List UInt8) := (pfx ep (fun k => readOut3 s (at_ + (k : Int))) many).1
theorem errP_all {e : Nat → Int} : ∀ {M}, errP e M = 0 → ∀ i, i < M → e i = 0
  | 0, _, i, hi => by omega
  | M + 1, h, i, hi => by
    have h' : (if errP e M = 0 then e M else errP e M) = 0 := h
    by_cases h0 : errP e M = 0
    · rw [if_pos h0] at h'
      rcases Nat.lt_or_ge i M with hl | hl
      · exact errP_all h0 i hl
      · obtain rfl : i = M := by omega
        exact h'
    · rw [if_neg h0] at h'
      exact absurd h' h0
theorem pfx_cong {ep : Nat} {L L' : Nat → List UInt8} : ∀ {M}, (∀ i, i < M → L i = L' i) → pfx ep L M = pfx ep L' M
  | 0, _ => rfl
  | M + 1, h => by
    unfold pfx
    rw [pfx_cong (M := M) (fun i hi => h i (by omega)), h M (by omega)]
theorem errP_cong {e e' : Nat → Int} : ∀ {M}, (∀ i, i < M → e i = e' i) → errP e M = errP e' M
  | 0, _ => rfl
  | M + 1, h => by
    show (if errP e M = 0 then e M else errP e M) = (if errP e' M = 0 then e' M else errP e' M)
    rw [errP_cong (M := M) (fun i hi => h i (by omega)), h M (by omega)]

section
variable {N : Nat} {w0 w : World} {d : DAt} {s : RSt}
theorem lopen_ok {M ep : Nat} {at_ : Int} {ls : List (List UInt8)} (L : Lives N w0 w d s) (hE : openE s at_ M = 0) (h9 : at_ ≤ 9223372036854775807) (hM : (M : Int) ≤ 9223372036854775807) (hep : ep < 18446744073709551616) (hls : openL s at_ M ep = ls) :
    Calls Try.prog 14 #[.pointer (some ⟨d.b, 0, none⟩), .int .i64 at_, .int .i64 (M : Int), .int .u64 ep] w fun e w' => ∃ b pv vs, e = .returned (.tuple #[.pointer (some ⟨b, 0, none⟩), .int .i64 0]) ∧ w.heap.size ≤ b ∧ Below w.heap.size w w' ∧ Lives N w0 w' d s ∧ JAt w.heap.size w' b (some ⟨d.b, 0, none⟩) pv vs ⟨at_, M, ep, ls⟩ ∧ (⟨at_, M, ep, ls⟩ : JS).Fit := by
  obtain ⟨kv, h⟩ := L.dk
  unfold openE at hE
  have hc : ¬ ((M : Int) < 1 ∨ at_ < 0) := fun h => by rw [if_pos h] at hE; cases hE
  rw [if_neg hc, Int.toNat_natCast] at hE
  refine (jopen_any (ep := ep) (src_dk h) (by omega) hM (by omega) (fun k _ hk => by have := adr_lim (s := s) (at_ := at_) (by omega) h9 h.ok.few k hk; have := h.ok.few; omega)).mono ?_
  have hall := errP_all hE
  have htop : at_ + ((M - 1 : Nat) : Int) < (s.stays.length : Int) := adr_lim (by omega) h9 h.ok.few (M - 1) (fun i hi => hall i (by omega))
  have hfew := h.ok.few
  rintro e w' ⟨hb, ⟨_, rfl, pv, vs, hj⟩ | ⟨h0, _⟩⟩
  · have e2 : (pfx ep (fun k => readOut3 s (adr at_ k)) M).1 = ls := by
      rw [← hls]
      unfold openL
      rw [pfx_cong (L' := fun k => readOut3 s (at_ + (k : Int))) (fun i hi => by rw [adr_small (by omega) (by omega)])]
    rw [e2] at hj
    refine ⟨_, pv, vs, rfl, Nat.le_refl _, hb, L.next L.lt hb, hj, ?_, by show 1 ≤ M; omega, by show 0 ≤ at_; omega, by show at_ + (M : Int) ≤ 4096; omega, hep⟩
    show ls.length ≤ M
    rw [← e2]
    exact pfx_le _ _ _
  · exact absurd hE h0
theorem lopen_no {many : Int} {E : Int} {ep : Nat} {at_ : Int} (L : Lives N w0 w d s) (hE : openE s at_ many = E) (h0 : E ≠ 0) (h9 : at_ ≤ 9223372036854775807) (hM : many ≤ 9223372036854775807) :
    Calls Try.prog 14 #[.pointer (some ⟨d.b, 0, none⟩), .int .i64 at_, .int .i64 many, .int .u64 ep] w fun e w' => e = .returned (.tuple #[.pointer none, .int .i64 E]) ∧ Below w.heap.size w w' ∧ Lives N w0 w' d s := by
  obtain ⟨kv, h⟩ := L.dk
  unfold openE at hE
  by_cases hc : many < 1 ∨ at_ < 0
  · rw [if_pos hc] at hE
    subst hE
    refine (jopen_bad _ at_ many ep w hc).mono ?_
    rintro e _ ⟨rfl, rfl⟩
    exact ⟨rfl, Below.refl _ _, L⟩
  · rw [if_neg hc] at hE
    obtain ⟨M, rfl⟩ := Int.eq_ofNat_of_zero_le (a := many) (by omega)
    rw [Int.toNat_natCast] at hE
    refine (jopen_any (ep := ep) (src_dk h) (by omega) hM (by omega) (fun k _ hk => by have := adr_lim (s := s) (at_ := at_) (by omega) h9 h.ok.few k hk; have := h.ok.few; omega)).mono ?_
    rintro e w' ⟨hb, ⟨h1, _⟩ | ⟨_, rfl⟩⟩
    · exact absurd (hE.symm.trans h1) h0
    · rw [hE]
      exact ⟨rfl, hb, L.next L.lt hb⟩
theorem lopen_nil {ep : Nat} {at_ : Int} {M : Nat} (h1 : 1 ≤ M) (hM : (M : Int) ≤ 9223372036854775807) (ha : 0 ≤ at_) :
    Calls Try.prog 14 #[.pointer none, .int .i64 at_, .int .i64 (M : Int), .int .u64 ep] w fun e w' => e = .returned (.tuple #[.pointer none, .int .i64 1]) ∧ Below w.heap.size w w' := by
  have hE : errP (fun k => (fun _ : Int => (1 : Int)) (adr at_ k)) M = 1 := errP_first (e := fun k => (fun _ : Int => (1 : Int)) (adr at_ k)) (k := 0) (fun i hi => by omega) (show (1 : Int) ≠ 0 by decide) (by omega)
  refine (jopen_any (ep := ep) (src_nil w) h1 hM ha (fun k _ hk => absurd (hk 0 (Nat.zero_le _)) (show (1 : Int) ≠ 0 by decide))).mono ?_
  rintro e w' ⟨hb, ⟨h0, _⟩ | ⟨_, rfl⟩⟩
  · rw [hE] at h0; cases h0
  · rw [hE]
    exact ⟨rfl, hb⟩
end
end Go.Proofs.Ytddhldmeknmgpaa.journal

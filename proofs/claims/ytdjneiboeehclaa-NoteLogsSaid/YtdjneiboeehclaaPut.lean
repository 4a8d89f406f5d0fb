/-
  The contract of slices.Clone at bytes.
  Bytes as cells, the Writer's word 'Wr' (what it has written, where that lies), and the contract of slices.Clone at bytes.
  The Writer's put: what lies in the slice is laid behind what was written; the first call makes the count.
-/
import Derived.Test.YtdjneiboeehclaaByt
namespace Go.Proofs.Ytdjneiboeehclaa
open Go.RowKit

theorem u24 : ∀ w, Sem.run Try.prog (underlying 24) w = .ok (TypeDesc.slice 5) w := run_underlying Try.underlying24

theorem q24 : ∀ (w : World) (a : Option Addr) (n c n' c' : Nat), (binOp .eql 24 (.slice a n c) (.slice none n' c')).run Try.prog w = .ok (.bool a.isNone) w := fun w a n c n' c' => Lib.run_eql_slice_nil w _ _ a n c n' c' Try.underlying24

/-- slices.Clone of nil: nil, and nothing is made. -/
theorem clone_nil (n c : Nat) (w : World) : Calls Try.prog 46 #[.slice none n c] w fun e w' => e = .returned (.slice none 0 0) ∧ w = w' := by
  have q := q24
  go_enter Try.func46, Try.ntmps46
  go_wp2
  go_ret
  exact ⟨rfl, rfl⟩

set_option maxHeartbeats 1000000 in
/-- slices.Clone of a slice that isn't nil: the same bytes in a row of the call's own. -/
theorem clone_some (ad : Addr) (n c : Nat) (l : List UInt8) (w : World) (hr : Reads w w.heap.size 1 (some ad) n (l.map bv)) (hn : n ≤ 140737488355328) :
    Calls Try.prog 46 #[.slice (some ad) n c] w fun e w' => ∃ g c', e = .returned (.slice (some ⟨g, 0, none⟩) n c') ∧ w'.ownsRow w.heap.size 5 1 (.slice (some ⟨g, 0, none⟩) n c') n (l.map bv) ∧ Below w.heap.size w w' ∧ w.heap.size ≤ g := by
  obtain ⟨i0, hi, hz0, hz1, hz2⟩ := info_parts infoU8
  have q := q24
  have z5 : ∀ w, Sem.run Try.prog (Go.sizeOf 5) w = .ok 1 w := fun w => by simp [Go.sizeOf, typeInfo, hi, hz1]
  go_enter Try.func46, Try.ntmps46
  go_wp2_with (at_builtin; refine wpList_append_any _ rfl _ _ 24 rfl w.heap.size 5 i0 (.int .u8 0) 1 1 Try.underlying24 hi hz0 hz1 hz2 rfl (by decide) _ _ _ rfl (World.ownsRow_made w #[] 0 (Nat.le_refl _) (Nat.zero_le _) rfl) w.heap.size (some ad) n c (l.map bv) rfl (hr.alloc (Nat.le_refl _) _) (bv_one l) (by unfold maxLen; omega) (by omega) (by simp) ?_)
  intro v' w1 hown hgrow hat
  have hB : Below w.heap.size w w1 := ((Below.refl _ w).alloc (Nat.le_refl _) _).grown hgrow (by simp) (by intro k hk; simp [Value.ownBlock] at hk; omega)
  obtain ⟨g, c', hv, hg⟩ : ∃ g c', v' = .slice (some ⟨g, 0, none⟩) n c' ∧ w.heap.size ≤ g := by
    rcases hown.2 with ⟨rfl, _⟩ | ⟨g, cap, cur, e, hb, _⟩
    · simp [Value.ownBlock] at hat
    · exact ⟨g, cap, e, hb⟩
  clear hat
  subst hv
  clear hr
  go_wp2
  go_ret
  exact ⟨g, c', rfl, hown, hB, hg⟩

theorem clone_any (A : Option Addr) (n c : Nat) (l : List UInt8) (w : World) (hr : Reads w w.heap.size 1 A n (l.map bv)) (hn : n ≤ 140737488355328) :
    Calls Try.prog 46 #[.slice A n c] w fun e w' => ∃ A' c', e = .returned (.slice A' n c') ∧ w'.ownsRow w.heap.size 5 1 (.slice A' n c') n (l.map bv) ∧ Below w.heap.size w w' := by
  rcases A with _ | ad
  · have h0 : n = 0 := by
      rcases Nat.eq_zero_or_pos n with h0 | h0
      · exact h0
      · obtain ⟨ad, h, _⟩ := hr.2 h0
        cases h
    subst h0
    have hl : l.map bv = [] := List.eq_nil_of_length_eq_zero (by simpa using hr.1)
    refine (clone_nil 0 c w).mono ?_
    rintro e w' ⟨rfl, rfl⟩
    exact ⟨none, 0, rfl, by rw [hl]; exact World.ownsRow_nil _ _ _ _, Below.refl _ _⟩
  · refine (clone_some ad n c l w hr hn).mono ?_
    rintro e w' ⟨g, c', rfl, h1, h2, _⟩
    exact ⟨_, _, rfl, h1, h2⟩

end Go.Proofs.Ytdjneiboeehclaa

namespace Go.Proofs.Ytdjneiboeehclaa
open Go.RowKit

/-- Which blocks a Writer at block b stands on: its own, its row's, its count's. -/
def foot (b : Nat) (A : Option Addr) (u : Option Addr) (k : Nat) : Prop := k = b ∨ (∃ ad, A = some ad ∧ ad.block = k) ∨ (∃ p, u = some p ∧ p.block = k)

/-- THE WRITER at block b has written l. -/
structure Wr (w : World) (b : Nat) (A : Option Addr) (c : Nat) (u : Option Addr) (l : List UInt8) : Prop where
  blk : Blk w b 59 #[.slice A l.length c, .pointer u]
  own : w.ownsRow 0 5 1 (.slice A l.length c) l.length (l.map bv)
  new : u = none → l = [] ∧ A = none ∧ c = 0
  used : ∀ p, u = some p → ∃ g, p = ⟨g, 0, none⟩ ∧ Blk w g 3 #[.int .i64 l.length]

theorem Wr.zero {w : World} {b : Nat} (h : Blk w b 59 #[.slice none 0 0, .pointer none]) : Wr w b none 0 none [] :=
  ⟨h, World.ownsRow_nil _ _ _ _, fun _ => ⟨rfl, rfl, rfl⟩, (fun p e => by cases e)⟩

theorem Wr.foot_lt {w : World} {b c : Nat} {A u : Option Addr} {l : List UInt8} (h : Wr w b A c u l) : ∀ k, foot b A u k → k < w.heap.size := by
  rintro k (rfl | ⟨ad, rfl, rfl⟩ | ⟨p, rfl, rfl⟩)
  · exact h.blk.lt
  · rcases h.own.2 with ⟨e, _⟩ | ⟨g, cap, cur, e, _, hh, _⟩
    · injection e with e; cases e
    · injection e with e; injection e with e; subst e
      exact (Array.getElem?_eq_some_iff.1 hh).1
  · obtain ⟨g, rfl, hg⟩ := h.used p rfl
    exact hg.lt

theorem Wr.keep {w w' : World} {b c : Nat} {A u : Option Addr} {l : List UInt8} {S : Nat → Prop} (h : Wr w b A c u l) (hk : Keep S w w') (hn : ∀ k, foot b A u k → ¬ S k) : Wr w' b A c u l := by
  refine ⟨hk.blk h.blk (hn b (.inl rfl)), hk.own h.own (fun k hk => hn k ?_), h.new, fun p e => ?_⟩
  · cases A with
    | none => simp [Value.ownBlock] at hk
    | some ad => exact .inr (.inl ⟨ad, rfl, by simpa [Value.ownBlock] using hk⟩)
  · obtain ⟨g, rfl, hg⟩ := h.used p e
    exact ⟨g, rfl, hk.blk hg (hn g (.inr (.inr ⟨_, e, rfl⟩)))⟩

theorem Wr.close {w1 : World} {b g n c' : Nat} {A' : Option Addr} {x y : Value} {l' : List UInt8} (hB : Blk w1 b 59 #[x, .pointer (some ⟨g, 0, none⟩)]) (hG : Blk w1 g 3 #[y])
    (hown : w1.ownsRow 0 5 1 (.slice A' n c') n (l'.map bv)) (hn : l'.length = n) (z : Int) (hz : z = n) :
    Wr (((w1.setCell ⟨b, 0, none⟩ (.slice A' n c')).setCell ⟨g, 0, none⟩ (.int .i64 z)).drew) b A' c' (some ⟨g, 0, none⟩) l' := by
  subst hn hz
  have hbg : b ≠ g := hB.ne_ hG (by decide)
  have hneb := own_blk_ne hown hB (by decide)
  have hneg := own_blk_ne hown hG (by decide)
  have hk : Keep (fun k => k = b ∨ k = g) w1 (((w1.setCell ⟨b, 0, none⟩ (.slice A' l'.length c')).setCell ⟨g, 0, none⟩ (.int .i64 l'.length)).drew) :=
    (((Keep.refl _ _).setCell _ _ (fun _ => .inl rfl)).setCell _ _ (fun _ => .inr rfl)).drew
  refine ⟨((hB.set_ 0 (.slice A' l'.length c')).far (p := ⟨g, 0, none⟩) hbg _).drew, hk.own hown ?_, (fun e => by cases e), fun p e => ?_⟩
  · rintro k e (rfl | rfl)
    · exact hneb e
    · exact hneg e
  · injection e with e
    subst e
    exact ⟨g, rfl, ((hG.far (p := ⟨b, 0, none⟩) (Ne.symm hbg) _).set_ 0 _).drew⟩

theorem Wr.reads {w : World} {b c : Nat} {A u : Option Addr} {l : List UInt8} (h : Wr w b A c u l) : Reads w w.heap.size 1 A l.length (l.map bv) := Reads.of_own h.own

end Go.Proofs.Ytdjneiboeehclaa

namespace Go.Proofs.Ytdjneiboeehclaa
open Go.RowKit

theorem foot_row {b k : Nat} {A u : Option Addr} {n c : Nat} (h : (Value.slice A n c).ownBlock = some k) : foot b A u k := by
  cases A with
  | none => simp [Value.ownBlock] at h
  | some ad => exact .inr (.inl ⟨ad, rfl, by simpa [Value.ownBlock] using h⟩)
theorem foot_put {b N n c n' c' : Nat} {A A' u : Option Addr} (h : (Value.slice A' n' c').ownBlock = (Value.slice A n c).ownBlock ∨ (Value.slice A' n' c').ownBlock = some N) :
    ∀ k, foot b A' u k → foot b A u k ∨ N ≤ k := by
  rintro k (rfl | ⟨ad, rfl, rfl⟩ | h3)
  · exact .inl (.inl rfl)
  · rcases h with h | h
    · exact .inl (foot_row (n := n) (c := c) (h ▸ (by simp [Value.ownBlock])))
    · have : ad.block = N := by simpa [Value.ownBlock] using h
      exact .inr (by omega)
  · exact .inl (.inr (.inr h3))

theorem Reads.keepS0 {w w' : World} {S : Nat → Prop} {B size n : Nat} {A : Option Addr} {xs : List Value} (h : Reads w B size A n xs) (hk : Keep S w w') (hB : B ≤ w.heap.size) (hn : 0 < n → ∀ ad, A = some ad → ¬ S ad.block) : Reads w' B size A n xs :=
  ⟨h.1, fun h0 => by
    obtain ⟨ad, e, hb, hc⟩ := h.2 h0
    refine ⟨ad, e, hb, fun j u hu => ?_⟩
    have hj := hc j u hu
    rw [← hj]
    exact World.cell?_of_block (by rw [block_of_add]; exact hk.block ad.block (by omega) (hn h0 ad e))⟩

set_option maxHeartbeats 2000000 in
set_option maxRecDepth 100000 in
/-- put, where something was put before. -/
theorem put_more (w : World) (b : Nat) (A : Option Addr) (c g : Nat) (l : List UInt8) (B : Option Addr) (m d : Nat) (bs : List UInt8) (hw : Wr w b A c (some ⟨g, 0, none⟩) l)
    (hr : Reads w w.heap.size 1 B m (bs.map bv)) (hn : l.length + m ≤ 140737488355328) :
    Calls Try.prog 45 #[.pointer (some ⟨b, 0, none⟩), .slice B m d] w fun e w' => (∃ x, e = .returned x) ∧ ∃ A' c' u', Wr w' b A' c' u' (l ++ bs) ∧
      (∀ k, foot b A' u' k → foot b A (some ⟨g, 0, none⟩) k ∨ w.heap.size ≤ k) ∧ Keep (foot b A (some ⟨g, 0, none⟩)) w w' := by
  obtain ⟨i0, hi, hz0, hz1, hz2⟩ := info_parts infoU8
  have q := q24
  have hm : (l ++ bs).length = l.length + m := by have := hr.1; simp at this; simp [this]
  have HM := Lib.hid hm
  clear hm
  obtain ⟨g', e, hG⟩ := hw.used _ rfl
  obtain rfl : g = g' := by injection e
  clear e
  have hB := hw.blk
  have hown0 := hw.own
  have hneb := own_blk_ne hown0 hB (by decide)
  have hneg := own_blk_ne hown0 hG (by decide)
  have hbg : b ≠ g := hB.ne_ hG (by decide)
  have c0 : w.cell? ⟨b, 0, none⟩ = some (.slice A l.length c) := hB.cell 0
  have c1 : w.cell? ⟨b, 1, none⟩ = some (.pointer (some ⟨g, 0, none⟩)) := hB.cell 1
  have cg : w.cell? ⟨g, 0, none⟩ = some (.int .i64 l.length) := hG.cell 0
  have HN := Lib.hid hneb
  have HG := Lib.hid hneg
  have HBG := Lib.hid hbg
  have HB := Lib.hid hB
  have HGG := Lib.hid hG
  clear hneb hneg hbg hB hG
  go_enter Try.func45, Try.ntmps45
  go_wp2
  go_quiet (fail)
  go_wp2_with (at_builtin; refine wpList_append_any _ rfl _ _ 24 rfl 0 5 i0 (.int .u8 0) 1 1 Try.underlying24 hi hz0 hz1 hz2 rfl (by decide) _ l.length (l.map bv) rfl hown0 w.heap.size B m d (bs.map bv) rfl (hr.drewN nq) (bv_one bs) (by unfold maxLen; omega) (by omega) (Nat.zero_le _) ?_)
  intro v' w1 hown hgrow hat
  obtain ⟨A', c', rfl⟩ : ∃ A' c', v' = .slice A' (l.length + m) c' := by
    rcases hown.2 with ⟨rfl, h0⟩ | ⟨g, cap, cur, e, _⟩
    · exact ⟨none, 0, by rw [h0]⟩
    · exact ⟨_, cap, e⟩
  replace hgrow := grown_drewN hgrow
  have hB1 : Blk w1 b _ _ := HB.out.grown hgrow (Ne.symm HN.out)
  have hG1 : Blk w1 g _ _ := HGG.out.grown hgrow (Ne.symm HG.out)
  have c0' : w1.cell? ⟨b, 0, none⟩ = some (.slice A l.length c) := hB1.cell 0
  have c1' : w1.cell? ⟨b, 1, none⟩ = some (.pointer (some ⟨g, 0, none⟩)) := hB1.cell 1
  have cg' : w1.cell? ⟨g, 0, none⟩ = some (.int .i64 l.length) := hG1.cell 0
  have f0' := hB1.frozen 0
  have fg' := hG1.frozen 0
  have hbg := HBG.out
  have HAT := Lib.hid hat
  have HGR := Lib.hid hgrow
  have HOWN := Lib.hid hown
  have HB1 := Lib.hid hB1
  have HG1 := Lib.hid hG1
  clear hat hgrow hown hB1 hG1 hown0 hr q HN HG HBG
  go_wp2
  go_region
  all_goals go_end0
  all_goals refine ⟨⟨_, rfl⟩, A', c', some ⟨g, 0, none⟩, Wr.close HB1.out HG1.out (by simpa using HOWN.out) HM.out _ (by simp), ?_, ?_⟩
  all_goals first
    | exact foot_put HAT.out
    | exact ((((Keep.refl _ _).grown HGR.out (by intro k e _; exact foot_row e)).setCell _ _ (fun _ => .inl rfl)).setCell _ _ (fun _ => .inr (.inr ⟨_, rfl, rfl⟩))).drew

set_option maxHeartbeats 2000000 in
set_option maxRecDepth 100000 in
/-- put, where nothing was put before: the count is made. -/
theorem put_first (w : World) (b : Nat) (B : Option Addr) (m d : Nat) (bs : List UInt8) (hw : Wr w b none 0 none [])
    (hr : Reads w w.heap.size 1 B m (bs.map bv)) (hsep : 0 < m → ∀ ad, B = some ad → ad.block ≠ b) (hn : m ≤ 140737488355328) :
    Calls Try.prog 45 #[.pointer (some ⟨b, 0, none⟩), .slice B m d] w fun e w' => (∃ x, e = .returned x) ∧ ∃ A' c' u', Wr w' b A' c' u' bs ∧
      (∀ k, foot b A' u' k → foot b none none k ∨ w.heap.size ≤ k) ∧ Keep (foot b none none) w w' := by
  obtain ⟨i0, hi, hz0, hz1, hz2⟩ := info_parts infoU8
  have hm : bs.length = m := by simpa using hr.1
  have q := q24
  have hB := hw.blk
  have hlt := hB.lt
  have c0 : w.cell? ⟨b, 0, none⟩ = some (.slice none 0 0) := hB.cell 0
  have c1 : w.cell? ⟨b, 1, none⟩ = some (.pointer none) := hB.cell 1
  have f0 : w.frozen? ⟨b, 0, none⟩ = false := hB.frozen 0
  have f1 : w.frozen? ⟨b, 1, none⟩ = false := hB.frozen 1
  have HB := Lib.hid hB
  have HM := Lib.hid hm
  clear hB hm
  go_enter Try.func45, Try.ntmps45
  go_wp2
  go_quiet (fail)
  have hk : Keep (fun k => k = b) w ((((w.drewN nq).setCell ⟨b, 0, none⟩ (.slice none 0 0)).setCell ⟨b, 1, none⟩ (.pointer (some ⟨w.heap.size, 0, none⟩))).alloc (.cells #[.int .i64 0] 3)) :=
    (((((Keep.refl (fun k => k = b) w).drewN nq).setCell ⟨b, 0, none⟩ _ (fun _ => rfl)).setCell ⟨b, 1, none⟩ _ (fun _ => rfl)).alloc _)
  have hr2 := hr.keepS0 hk (Nat.le_refl _) hsep
  have HK := Lib.hid hk
  have HR := Lib.hid hr2
  clear hk hr2 hr hsep
  go_wp2_with (first
    | (go_at_call 46; refine (clone_nil _ _ _).mono ?_; rintro e w' ⟨rfl, rfl⟩)
    | (at_builtin; refine wpList_append_any _ rfl _ _ 24 rfl 0 5 i0 (.int .u8 0) 1 1 Try.underlying24 hi hz0 hz1 hz2 rfl (by decide) _ 0 [] rfl (World.ownsRow_nil _ _ _ _) w.heap.size B m d (bs.map bv) rfl (by exact HR.out) (bv_one bs) (by unfold maxLen; omega) (by omega) (Nat.zero_le _) ?_))
  intro v' w1 hown hgrow hat
  obtain ⟨A', c', rfl⟩ : ∃ A' c', v' = .slice A' m c' := by
    rcases hown.2 with ⟨rfl, h0⟩ | ⟨g, cap, cur, e, _⟩
    · exact ⟨none, 0, by rw [h0]⟩
    · exact ⟨_, cap, e⟩
  have hB2 : Blk ((((w.drewN nq).setCell ⟨b, 0, none⟩ (.slice none 0 0)).setCell ⟨b, 1, none⟩ (.pointer (some ⟨w.heap.size, 0, none⟩))).alloc (.cells #[.int .i64 0] 3)) b 59 #[.slice none 0 0, .pointer (some ⟨w.heap.size, 0, none⟩)] :=
    (((HB.out.drewN nq).set_ 0 (.slice none 0 0)).set_ 1 (.pointer (some ⟨w.heap.size, 0, none⟩))).alloc _
  have hG2 : Blk ((((w.drewN nq).setCell ⟨b, 0, none⟩ (.slice none 0 0)).setCell ⟨b, 1, none⟩ (.pointer (some ⟨w.heap.size, 0, none⟩))).alloc (.cells #[.int .i64 0] 3)) w.heap.size 3 #[.int .i64 0] := by
    have := Blk.new (((w.drewN nq).setCell ⟨b, 0, none⟩ (.slice none 0 0)).setCell ⟨b, 1, none⟩ (.pointer (some ⟨w.heap.size, 0, none⟩))) 3 #[.int .i64 0]
    simpa using this
  have hB1 : Blk w1 b _ _ := hB2.grown hgrow (by simp [Value.ownBlock])
  have hG1 : Blk w1 w.heap.size _ _ := hG2.grown hgrow (by simp [Value.ownBlock])
  have c0' : w1.cell? ⟨b, 0, none⟩ = some (.slice none 0 0) := hB1.cell 0
  have c1' : w1.cell? ⟨b, 1, none⟩ = some (.pointer (some ⟨w.heap.size, 0, none⟩)) := hB1.cell 1
  have cg' : w1.cell? ⟨w.heap.size, 0, none⟩ = some (.int .i64 0) := hG1.cell 0
  have f0' := hB1.frozen 0
  have fg' := hG1.frozen 0
  have hbg : b ≠ w.heap.size := by omega
  have hK1 := HK.out.grown hgrow (by intro k e; simp [Value.ownBlock] at e)
  have HK1 := Lib.hid hK1
  have HAT := Lib.hid hat
  have HOWN := Lib.hid hown
  have HB1 := Lib.hid hB1
  have HG1 := Lib.hid hG1
  clear hB2 hG2 hB1 hG1 hK1 HK HR hat hgrow hown q
  go_wp2
  go_region
  all_goals go_end0
  all_goals refine ⟨⟨_, rfl⟩, A', c', some ⟨w.heap.size, 0, none⟩, Wr.close HB1.out HG1.out HOWN.out HM.out _ (by simp), ?_, ?_⟩
  all_goals first
    | (rintro k (rfl | ⟨ad, rfl, rfl⟩ | ⟨p, e, rfl⟩)
       · exact .inl (.inl rfl)
       · rcases HAT.out with h | h
         · simp [Value.ownBlock] at h
         · have : ad.block = w.heap.size + 1 := by simpa [Value.ownBlock] using h
           exact .inr (by omega)
       · injection e with e
         subst e
         exact .inr (Nat.le_refl _))
    | exact (((HK1.out.more (fun i _ e => .inl e)).setCell _ _ (fun _ => .inl rfl)).setCell _ _ (fun h => absurd h (by simp))).drew

/-- put: whatever was put before. -/
theorem put_any0 (w : World) (b : Nat) (A : Option Addr) (c : Nat) (u : Option Addr) (l : List UInt8) (B : Option Addr) (m d : Nat) (bs : List UInt8) (hw : Wr w b A c u l)
    (hr : Reads w w.heap.size 1 B m (bs.map bv)) (hsep : 0 < m → ∀ ad, B = some ad → ad.block ≠ b) (hn : l.length + m ≤ 140737488355328) :
    Calls Try.prog 45 #[.pointer (some ⟨b, 0, none⟩), .slice B m d] w fun e w' => (∃ x, e = .returned x) ∧ ∃ A' c' u', Wr w' b A' c' u' (l ++ bs) ∧
      (∀ k, foot b A' u' k → foot b A u k ∨ w.heap.size ≤ k) ∧ Keep (foot b A u) w w' := by
  rcases u with _ | p
  · obtain ⟨rfl, rfl, rfl⟩ := hw.new rfl
    exact put_first w b B m d bs hw hr hsep (by simpa using hn)
  · obtain ⟨g, rfl, _⟩ := hw.used p rfl
    exact put_more w b A c g l B m d bs hw hr hn

theorem put_any (w : World) (b : Nat) (A : Option Addr) (c : Nat) (u : Option Addr) (l : List UInt8) (B : Option Addr) (m d : Nat) (bs : List UInt8) (hw : Wr w b A c u l)
    (hr : Reads w w.heap.size 1 B m (bs.map bv)) (hsep : ∀ ad, B = some ad → ad.block ≠ b) (hn : l.length + m ≤ 140737488355328) :
    Calls Try.prog 45 #[.pointer (some ⟨b, 0, none⟩), .slice B m d] w fun e w' => (∃ x, e = .returned x) ∧ ∃ A' c' u', Wr w' b A' c' u' (l ++ bs) ∧
      (∀ k, foot b A' u' k → foot b A u k ∨ w.heap.size ≤ k) ∧ Keep (foot b A u) w w' :=
  put_any0 w b A c u l B m d bs hw hr (fun _ => hsep) hn

end Go.Proofs.Ytdjneiboeehclaa

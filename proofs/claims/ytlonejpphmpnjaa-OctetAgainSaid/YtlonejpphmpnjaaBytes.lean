/-
  Bytes as cells, the Writer's word 'Wr' (what it has written, where that lies), and the contract of slices.Clone at bytes.
-/
import Derived.Test.YtlonejpphmpnjaaBase
import Derived.Test.YtlonejpphmpnjaaRows
import Derived.Lib.Hide
import Derived.Lib.ConvBytes
import Derived.Laws.IdiomStrings
import Derived.Laws.BytesArg
import Derived.WalkSpells
import Derived.BigQuiet
import Derived.Deep.QuietTactic
import Derived.Outline
import Derived.Deep.DeepFit
namespace Go.Proofs.Ytlonejpphmpnjaa
open Go.RowKit

/-- A byte as a cell. -/
def bv (b : UInt8) : Value := .int .u8 (b.toNat : Int)
theorem bv_one : ∀ (l : List UInt8), ∀ u ∈ l.map bv, u.oneCell' = true := by
  intro l u hu
  simp only [List.mem_map] at hu
  obtain ⟨b, _, rfl⟩ := hu
  rfl

theorem infoU8 : (Try.prog.info? 5).map (fun i => (i.zero, i.size, i.bytes)) = some (some (.int .u8 0), 1, 1) := by kernel_rfl

/-- Which blocks a Writer at block b stands on: its own, its row's, its count's. -/
def foot (b : Nat) (A : Option Addr) (u : Option Addr) (k : Nat) : Prop := k = b ∨ (∃ ad, A = some ad ∧ ad.block = k) ∨ (∃ p, u = some p ∧ p.block = k)

/-- THE WRITER at block b has written l. -/
structure Wr (w : World) (b : Nat) (A : Option Addr) (c : Nat) (u : Option Addr) (l : List UInt8) : Prop where
  blk : Blk w b 27 #[.slice A l.length c, .pointer u]
  own : w.ownsRow 0 5 1 (.slice A l.length c) l.length (l.map bv)
  new : u = none → l = [] ∧ A = none ∧ c = 0
  used : ∀ p, u = some p → ∃ g, p = ⟨g, 0, none⟩ ∧ Blk w g 3 #[.int .i64 l.length]

theorem Wr.zero {w : World} {b : Nat} (h : Blk w b 27 #[.slice none 0 0, .pointer none]) : Wr w b none 0 none [] :=
  ⟨h, World.ownsRow_nil _ _ _ _, fun _ => ⟨rfl, rfl, rfl⟩, (fun p e => by cases e)⟩

theorem Wr.foot_lt {w : World} {b c : Nat} {A u : Option Addr} {l : List UInt8} (h : Wr w b A c u l) : ∀ k, foot b A u k → k < w.heap.size := by
  rintro k (rfl | ⟨ad, rfl, rfl⟩ | ⟨p, rfl, rfl⟩)
  · exact h.blk.lt
  · rcases h.own.2 with ⟨e, _⟩ | ⟨g, cap, cur, e, _, hh, _⟩
    · injection e with e; cases e
    · injection e with e; injection e with e; subst e
      exact (Array.getElem?_eq_some_iff.1 hh).1
  · obtain ⟨g, rfl, hg⟩ := h.used p rfl
    exact hg.lt

theorem Wr.keep {w w' : World} {b c : Nat} {A u : Option Addr} {l : List UInt8} {S : Nat → Prop} (h : Wr w b A c u l) (hk : Keep S w w') (hn : ∀ k, foot b A u k → ¬ S k) : Wr w' b A c u l := by
  refine ⟨hk.blk h.blk (hn b (.inl rfl)), hk.own h.own (fun k hk => hn k ?_), h.new, fun p e => ?_⟩
  · cases A with
    | none => simp [Value.ownBlock] at hk
    | some ad => exact .inr (.inl ⟨ad, rfl, by simpa [Value.ownBlock] using hk⟩)
  · obtain ⟨g, rfl, hg⟩ := h.used p e
    exact ⟨g, rfl, hk.blk hg (hn g (.inr (.inr ⟨_, e, rfl⟩)))⟩

theorem Wr.close {w1 : World} {b g n c' : Nat} {A' : Option Addr} {x y : Value} {l' : List UInt8} (hB : Blk w1 b 27 #[x, .pointer (some ⟨g, 0, none⟩)]) (hG : Blk w1 g 3 #[y])
    (hown : w1.ownsRow 0 5 1 (.slice A' n c') n (l'.map bv)) (hn : l'.length = n) (z : Int) (hz : z = n) :
    Wr (((w1.setCell ⟨b, 0, none⟩ (.slice A' n c')).setCell ⟨g, 0, none⟩ (.int .i64 z)).drew) b A' c' (some ⟨g, 0, none⟩) l' := by
  subst hn hz
  have hbg : b ≠ g := hB.ne_ hG (by decide)
  have hneb := own_blk_ne hown hB (by decide)
  have hneg := own_blk_ne hown hG (by decide)
  have hk : Keep (fun k => k = b ∨ k = g) w1 (((w1.setCell ⟨b, 0, none⟩ (.slice A' l'.length c')).setCell ⟨g, 0, none⟩ (.int .i64 l'.length)).drew) :=
    (((Keep.refl _ _).setCell _ _ (fun _ => .inl rfl)).setCell _ _ (fun _ => .inr rfl)).drew
  refine ⟨((hB.set_ 0 (.slice A' l'.length c')).far (p := ⟨g, 0, none⟩) hbg _).drew, hk.own hown ?_, (fun e => by cases e), fun p e => ?_⟩
  · rintro k e (rfl | rfl)
    · exact hneb e
    · exact hneg e
  · injection e with e
    subst e
    exact ⟨g, rfl, ((hG.far (p := ⟨b, 0, none⟩) (Ne.symm hbg) _).set_ 0 _).drew⟩

theorem Wr.reads {w : World} {b c : Nat} {A u : Option Addr} {l : List UInt8} (h : Wr w b A c u l) : Reads w w.heap.size 1 A l.length (l.map bv) := Reads.of_own h.own

theorem u24 : ∀ w, Sem.run Try.prog (underlying 24) w = .ok (TypeDesc.slice 5) w := run_underlying Try.underlying24
theorem q24 : ∀ (w : World) (a : Option Addr) (n c n' c' : Nat), (binOp .eql 24 (.slice a n c) (.slice none n' c')).run Try.prog w = .ok (.bool a.isNone) w := fun w a n c n' c' => Lib.run_eql_slice_nil w _ _ a n c n' c' Try.underlying24

/-- slices.Clone of nil: nil, and nothing is made. -/
theorem clone_nil (n c : Nat) (w : World) : Calls Try.prog 37 #[.slice none n c] w fun e w' => e = .returned (.slice none 0 0) ∧ w = w' := by
  have q := q24
  go_enter Try.func37, Try.ntmps37
  go_wp2
  go_ret
  exact ⟨rfl, rfl⟩

set_option maxHeartbeats 1000000 in
/-- slices.Clone of a slice that isn't nil: the same bytes in a row of the call's own. -/
theorem clone_some (ad : Addr) (n c : Nat) (l : List UInt8) (w : World) (hr : Reads w w.heap.size 1 (some ad) n (l.map bv)) (hn : n ≤ 140737488355328) :
    Calls Try.prog 37 #[.slice (some ad) n c] w fun e w' => ∃ g c', e = .returned (.slice (some ⟨g, 0, none⟩) n c') ∧ w'.ownsRow w.heap.size 5 1 (.slice (some ⟨g, 0, none⟩) n c') n (l.map bv) ∧ Below w.heap.size w w' ∧ w.heap.size ≤ g := by
  obtain ⟨i0, hi, hz0, hz1, hz2⟩ := info_parts infoU8
  have q := q24
  have z5 : ∀ w, Sem.run Try.prog (Go.sizeOf 5) w = .ok 1 w := fun w => by simp [Go.sizeOf, typeInfo, hi, hz1]
  go_enter Try.func37, Try.ntmps37
  go_wp2_with (at_builtin; refine wpList_append_any _ rfl _ _ 24 rfl w.heap.size 5 i0 (.int .u8 0) 1 1 Try.underlying24 hi hz0 hz1 hz2 rfl (by decide) _ _ _ rfl (World.ownsRow_made w #[] 0 (Nat.le_refl _) (Nat.zero_le _) rfl) w.heap.size (some ad) n c (l.map bv) rfl (hr.alloc (Nat.le_refl _) _) (bv_one l) (by unfold maxLen; omega) (by omega) (by simp) ?_)
  intro v' w1 hown hgrow hat
  have hB : Below w.heap.size w w1 := ((Below.refl _ w).alloc (Nat.le_refl _) _).grown hgrow (by simp) (by intro k hk; simp [Value.ownBlock] at hk; omega)
  obtain ⟨g, c', hv, hg⟩ : ∃ g c', v' = .slice (some ⟨g, 0, none⟩) n c' ∧ w.heap.size ≤ g := by
    rcases hown.2 with ⟨rfl, _⟩ | ⟨g, cap, cur, e, hb, _⟩
    · simp [Value.ownBlock] at hat
    · exact ⟨g, cap, e, hb⟩
  clear hat
  subst hv
  clear hr
  go_wp2
  go_ret
  exact ⟨g, c', rfl, hown, hB, hg⟩

end Go.Proofs.Ytlonejpphmpnjaa

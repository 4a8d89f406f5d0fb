/-
  Bytes as cells, the Writer's word 'Wr' (what it has written, where that lies), and the contract of slices.Clone at bytes.
-/
import Derived.Test.YtoiopoghcjkgcaaGreatClone
namespace Go.Proofs.YtoiopoghcjkgcaaGreat
open Go.RowKit

/-- Which blocks a Writer at block b stands on: its own, its row's, its count's. -/
def foot (b : Nat) (A : Option Addr) (u : Option Addr) (k : Nat) : Prop := k = b ∨ (∃ ad, A = some ad ∧ ad.block = k) ∨ (∃ p, u = some p ∧ p.block = k)

/-- THE WRITER at block b has written l. -/
structure Wr (w : World) (b : Nat) (A : Option Addr) (c : Nat) (u : Option Addr) (l : List UInt8) : Prop where
  blk : Blk w b 94 #[.slice A l.length c, .pointer u]
  own : w.ownsRow 0 5 1 (.slice A l.length c) l.length (l.map bv)
  new : u = none → l = [] ∧ A = none ∧ c = 0
  used : ∀ p, u = some p → ∃ g, p = ⟨g, 0, none⟩ ∧ Blk w g 3 #[.int .i64 l.length]

theorem Wr.zero {w : World} {b : Nat} (h : Blk w b 94 #[.slice none 0 0, .pointer none]) : Wr w b none 0 none [] :=
  ⟨h, World.ownsRow_nil _ _ _ _, fun _ => ⟨rfl, rfl, rfl⟩, (fun p e => by cases e)⟩

theorem Wr.foot_lt {w : World} {b c : Nat} {A u : Option Addr} {l : List UInt8} (h : Wr w b A c u l) : ∀ k, foot b A u k → k < w.heap.size := by
  rintro k (rfl | ⟨ad, rfl, rfl⟩ | ⟨p, rfl, rfl⟩)
  · exact h.blk.lt
  · rcases h.own.2 with ⟨e, _⟩ | ⟨g, cap, cur, e, _, hh, _⟩
    · injection e with e; cases e
    · injection e with e; injection e with e; subst e
      exact (Array.getElem?_eq_some_iff.1 hh).1
  · obtain ⟨g, rfl, hg⟩ := h.used p rfl
    exact hg.lt

theorem Wr.keep {w w' : World} {b c : Nat} {A u : Option Addr} {l : List UInt8} {S : Nat → Prop} (h : Wr w b A c u l) (hk : Keep S w w') (hn : ∀ k, foot b A u k → ¬ S k) : Wr w' b A c u l := by
  refine ⟨hk.blk h.blk (hn b (.inl rfl)), hk.own h.own (fun k hk => hn k ?_), h.new, fun p e => ?_⟩
  · cases A with
    | none => simp [Value.ownBlock] at hk
    | some ad => exact .inr (.inl ⟨ad, rfl, by simpa [Value.ownBlock] using hk⟩)
  · obtain ⟨g, rfl, hg⟩ := h.used p e
    exact ⟨g, rfl, hk.blk hg (hn g (.inr (.inr ⟨_, e, rfl⟩)))⟩

theorem Wr.close {w1 : World} {b g n c' : Nat} {A' : Option Addr} {x y : Value} {l' : List UInt8} (hB : Blk w1 b 94 #[x, .pointer (some ⟨g, 0, none⟩)]) (hG : Blk w1 g 3 #[y])
    (hown : w1.ownsRow 0 5 1 (.slice A' n c') n (l'.map bv)) (hn : l'.length = n) (z : Int) (hz : z = n) :
    Wr (((w1.setCell ⟨b, 0, none⟩ (.slice A' n c')).setCell ⟨g, 0, none⟩ (.int .i64 z)).drew) b A' c' (some ⟨g, 0, none⟩) l' := by
  subst hn hz
  have hbg : b ≠ g := hB.ne_ hG (by decide)
  have hneb := own_blk_ne hown hB (by decide)
  have hneg := own_blk_ne hown hG (by decide)
  have hk : Keep (fun k => k = b ∨ k = g) w1 (((w1.setCell ⟨b, 0, none⟩ (.slice A' l'.length c')).setCell ⟨g, 0, none⟩ (.int .i64 l'.length)).drew) :=
    (((Keep.refl _ _).setCell _ _ (fun _ => .inl rfl)).setCell _ _ (fun _ => .inr rfl)).drew
  refine ⟨((hB.set_ 0 (.slice A' l'.length c')).far (p := ⟨g, 0, none⟩) hbg _).drew, hk.own hown ?_, (fun e => by cases e), fun p e => ?_⟩
  · rintro k e (rfl | rfl)
    · exact hneb e
    · exact hneg e
  · injection e with e
    subst e
    exact ⟨g, rfl, ((hG.far (p := ⟨b, 0, none⟩) (Ne.symm hbg) _).set_ 0 _).drew⟩

theorem Wr.reads {w : World} {b c : Nat} {A u : Option Addr} {l : List UInt8} (h : Wr w b A c u l) : Reads w w.heap.size 1 A l.length (l.map bv) := Reads.of_own h.own

end Go.Proofs.YtoiopoghcjkgcaaGreat

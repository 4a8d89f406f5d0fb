/-
  The given disk of layer 3: its state, and how it lies in memory; its calls that write no sector.
-/
import Derived.Test.YtomimkackekjkaaHeads
namespace Go.Proofs.Ytomimkackekjkaa
open Go.RowKit

/-- What a disk has: what stays, and what waits (of none: nothing), sector by sector; the crash that is armed; how many writes; whether it is down. -/
structure RSt where
  stays : List (List UInt8)
  cache : List (List UInt8)
  write : Int
  keep : List Int
  torn : Int
  at_ : Int
  many : Int
  down : Bool

structure RSt.Ok (s : RSt) : Prop where
  same : s.cache.length = s.stays.length
  few : s.stays.length ≤ 4096
  stay : ∀ l ∈ s.stays, l.length = 128
  wait : ∀ l ∈ s.cache, l.length = 0 ∨ l.length = 128

/-- The disk's blocks: its own, and its two rows. -/
def rfoot (b gS gC : Nat) (k : Nat) : Prop := k = b ∨ k = gS ∨ k = gC

structure RD (w : World) (b gS gC cS cC : Nat) (kv : Value) (vs ws : List Value) (s : RSt) : Prop where
  ok : s.Ok
  blk : Blk w b 42 #[.slice (some ⟨gS, 0, none⟩) s.stays.length cS, .slice (some ⟨gC, 0, none⟩) s.stays.length cC, .int .i64 s.write, kv, .int .i64 s.torn, .int .i64 s.at_, .int .i64 s.many, .bool s.down]
  sOwn : w.ownsRow 0 33 1 (.slice (some ⟨gS, 0, none⟩) s.stays.length cS) s.stays.length vs
  cOwn : w.ownsRow 0 33 1 (.slice (some ⟨gC, 0, none⟩) s.stays.length cC) s.stays.length ws
  ne : gS ≠ gC
  sHead : Heads w s.stays vs
  cHead : Heads w s.cache ws
  kHead : Head w 3 (s.keep.map iv) kv

theorem RD.foot {w : World} {b gS gC cS cC : Nat} {kv : Value} {vs ws : List Value} {s : RSt} (h : RD w b gS gC cS cC kv vs ws s) : ∀ k, rfoot b gS gC k → ¬ Typ w k 5 ∧ ¬ Typ w k 3 ∧ k < w.heap.size := by
  rintro k (rfl | rfl | rfl)
  · exact ⟨fun e => absurd (h.blk.typ.ne e) (by decide), fun e => absurd (h.blk.typ.ne e) (by decide), h.blk.typ.lt⟩
  · exact ⟨fun e => absurd ((own_typ h.sOwn).ne e) (by decide), fun e => absurd ((own_typ h.sOwn).ne e) (by decide), (own_typ h.sOwn).lt⟩
  · exact ⟨fun e => absurd ((own_typ h.cOwn).ne e) (by decide), fun e => absurd ((own_typ h.cOwn).ne e) (by decide), (own_typ h.cOwn).lt⟩

theorem RD.keep {w w' : World} {S : Nat → Prop} {b gS gC cS cC : Nat} {kv : Value} {vs ws : List Value} {s : RSt} (h : RD w b gS gC cS cC kv vs ws s) (hk : Keep S w w') (hf : ∀ k, rfoot b gS gC k → ¬ S k) (h8 : ∀ k, S k → ¬ Typ w k 5) (hi : ∀ k, S k → ¬ Typ w k 3) : RD w' b gS gC cS cC kv vs ws s :=
  ⟨h.ok, hk.blk h.blk (hf b (.inl rfl)), hk.own h.sOwn (fun k e => by injection e with e; subst e; exact hf gS (.inr (.inl rfl))), hk.own h.cOwn (fun k e => by injection e with e; subst e; exact hf gC (.inr (.inr rfl))), h.ne, h.sHead.keep hk h8, h.cHead.keep hk h8, h.kHead.keep hk hi⟩
theorem RD.below {w w' : World} {b gS gC cS cC : Nat} {kv : Value} {vs ws : List Value} {s : RSt} (h : RD w b gS gC cS cC kv vs ws s) (hb : Below w.heap.size w w') : RD w' b gS gC cS cC kv vs ws s :=
  h.keep (Keep.of_below (S := fun _ => False) hb) (fun _ _ h => h) (fun _ h => h.elim) (fun _ h => h.elim)

/-- The given disk at b has state s, in the call's own memory newer than N. -/
def has3 (s : RSt) (a : Int) : Bool := decide (0 ≤ a ∧ a < (s.stays.length : Int))

theorem rhas_any (b gS gC cS cC : Nat) (kv : Value) (vs ws : List Value) (s : RSt) (a : Int) (w : World) (h : RD w b gS gC cS cC kv vs ws s) :
    Calls Try.prog 37 #[.pointer (some ⟨b, 0, none⟩), .int .i64 a] w fun e w' => e = .returned (.bool (has3 s a)) ∧ w = w' := by
  have c0 : w.cell? ⟨b, 0, none⟩ = some (.slice (some ⟨gS, 0, none⟩) s.stays.length cS) := h.blk.cell 0
  have hf := h.ok.few
  clear h
  unfold has3
  by_cases h0 : 0 ≤ a
  · by_cases h1 : a < (s.stays.length : Int)
    · rw [decide_eq_true ⟨h0, h1⟩]
      generalize s.stays.length = n at *
      go_enter Try.func37, Try.ntmps37
      go_wp2
      go_ret
      exact ⟨rfl, rfl⟩
    · rw [decide_eq_false (fun h => h1 h.2)]
      generalize s.stays.length = n at *
      go_enter Try.func37, Try.ntmps37
      go_wp2
      go_ret
      exact ⟨rfl, rfl⟩
  · rw [decide_eq_false (fun h => h0 h.1)]
    go_enter Try.func37, Try.ntmps37
    go_wp2
    go_ret
    exact ⟨rfl, rfl⟩

end Go.Proofs.Ytomimkackekjkaa

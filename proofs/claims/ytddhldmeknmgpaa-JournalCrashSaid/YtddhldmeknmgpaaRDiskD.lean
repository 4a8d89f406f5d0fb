/-
  The given disk of layer 3: its state, and how it lies in memory; its calls that write no sector.
  The given disk of layer 3: Read, Spoil, Arm.
  The given disk of layer 3: one sector's bytes laid anew, where they stay, or where they wait.
  The given disk of layer 3: Flush, Waits.
  The given disk of layer 3: it goes down by a crash.
-/
import Derived.Test.YtddhldmeknmgpaaHeads
import Derived.Test.YtddhldmeknmgpaaDone
import Derived.Test.YtddhldmeknmgpaaDOps
namespace Go.Proofs.Ytddhldmeknmgpaa
open Go.RowKit

/-- What a disk has: what stays, and what waits (of none: nothing), sector by sector; the crash that is armed; how many writes; whether it is down. -/
structure RSt where
  stays : List (List UInt8)
  cache : List (List UInt8)
  write : Int
  keep : List Int
  torn : Int
  at_ : Int
  many : Int
  down : Bool

structure RSt.Ok (s : RSt) : Prop where
  same : s.cache.length = s.stays.length
  few : s.stays.length ≤ 4096
  stay : ∀ l ∈ s.stays, l.length = 128
  wait : ∀ l ∈ s.cache, l.length = 0 ∨ l.length = 128

/-- The disk's blocks: its own, and its two rows. -/
def rfoot (b gS gC : Nat) (k : Nat) : Prop := k = b ∨ k = gS ∨ k = gC

/-- Blocks in which no slice of the given disk lies. -/
class Aside where
  out : Nat → Prop
/-- The slice lies in none of them. -/
def Far [Aside] (v : Value) : Prop := ∀ ad n c, v = .slice (some ad) n c → ¬ Aside.out ad.block
theorem Far.nil [Aside] : Far (.slice none 0 0) := fun _ _ _ e => by cases e
theorem Far.own [Aside] {w : World} {N : Nat} {e : TypeId} {size n : Nat} {v : Value} {xs : List Value} (hl : ∀ k, Aside.out k → k < N) (h : w.ownsRow N e size v n xs) : Far v := by
  rcases h.2 with ⟨rfl, _⟩ | ⟨g, cap, cur, rfl, hb, _⟩
  · exact Far.nil
  · intro ad n c e ho
    injection e with e
    injection e with e
    subst e
    have : g < N := hl _ ho
    omega

/-- The given disk at b has state s, in the call's own memory newer than N. -/
def has3 (s : RSt) (a : Int) : Bool := decide (0 ≤ a ∧ a < (s.stays.length : Int))

end Go.Proofs.Ytddhldmeknmgpaa

namespace Go.Proofs.Ytddhldmeknmgpaa
open Go.RowKit

def readErr3 (s : RSt) (a : Int) : Int := if s.down then 31 else if has3 s a then 0 else 30
/-- What is read of a sector. -/
def seen (s : RSt) (k : Nat) : List UInt8 := if 0 < (s.cache.getD k []).length then s.cache.getD k [] else s.stays.getD k []
def readOut3 (s : RSt) (a : Int) : List UInt8 := if readErr3 s a = 0 then seen s a.toNat else []

theorem get_at {ls : List (List UInt8)} {k : Nat} (h : k < ls.length) : ls[k]? = some (ls.getD k []) := by
  simp [List.getD, List.getElem?_eq_getElem h]
theorem get_mem {ls : List (List UInt8)} {k : Nat} (h : k < ls.length) : ls.getD k [] ∈ ls := List.mem_of_getElem? (get_at h)

section
variable {b gS gC cS cC : Nat} {kv : Value} {vs ws : List Value} {s : RSt} {w : World}

end

end Go.Proofs.Ytddhldmeknmgpaa

namespace Go.Proofs.Ytddhldmeknmgpaa
open Go.RowKit

theorem own_mono3 {w : World} {base base' : Nat} {e : TypeId} {size : Nat} {v : Value} {n : Nat} {xs : List Value} (h : w.ownsRow base e size v n xs) (hb : base' ≤ base) : w.ownsRow base' e size v n xs :=
  ⟨h.1, h.2.imp id fun ⟨g, cap, cur, h1, h2, h3⟩ => ⟨g, cap, cur, h1, Nat.le_trans hb h2, h3⟩⟩

section
variable {b gS gC cS cC : Nat} {kv : Value} {vs ws : List Value} {s : RSt} {w : World}

/-- Operation 6's value: bytes in memory of their own, until operation 8 has laid them. -/
def putR (B : Nat) (l : List UInt8) (vals : List Value) (dn : Nat → Bool) (i : Nat) (v : Value) (w' : World) : Prop :=
  match i with
  | 6 => ∃ A c, v = .slice A 128 c ∧ (dn 8 = false → w'.ownsRow B 5 1 (.slice A 128 c) 128 (l.map bv))
  | i => v = vals.getD i undef
theorem putR_mono {B : Nat} {l : List UInt8} {vals : List Value} {dn : Nat → Bool} {i : Nat} (j : Nat) (u : Value) (w : World) (h : putR B l vals dn j u w) : putR B l vals (upd dn i) j u w := by
  by_cases hj : j = 6
  · subst hj; obtain ⟨A, c, rfl, h⟩ := h; exact ⟨A, c, rfl, fun e => h (upd_false e)⟩
  · have e : ∀ dn, putR B l vals dn j u w = (u = vals.getD j undef) := fun dn => by
      unfold putR
      split <;> first | rfl | contradiction
    rw [e] at h ⊢
    exact h
theorem putR_other {B : Nat} {l : List UInt8} {vals : List Value} {dn dn' : Nat → Bool} {j : Nat} {u : Value} {w w' : World} (hj : j ≠ 6) (h : putR B l vals dn j u w) : putR B l vals dn' j u w' := by
  have e : ∀ dn w, putR B l vals dn j u w = (u = vals.getD j undef) := fun dn w => by
    unfold putR
    split <;> first | rfl | contradiction
  rw [e] at h ⊢
  exact h
theorem putR_store {B : Nat} {l : List UInt8} {vals : List Value} {dn : Nat → Bool} {j : Nat} {u : Value} {w w' : World} (h : putR B l vals dn j u w) : putR B l vals (upd dn 8) j u w' := by
  by_cases hj : j = 6
  · subst hj; obtain ⟨A, c, rfl, h⟩ := h; exact ⟨A, c, rfl, fun e => absurd e (by rw [upd_self]; decide)⟩
  · exact putR_other hj h

def spoilErr3 (s : RSt) (a : Int) (l : List UInt8) : Int := if has3 s a && l.length == 128 then 0 else 30
def spoilSt3 (s : RSt) (a : Int) (l : List UInt8) : RSt := if spoilErr3 s a l = 0 then { s with stays := s.stays.set a.toNat l } else s

end

end Go.Proofs.Ytddhldmeknmgpaa

namespace Go.Proofs.Ytddhldmeknmgpaa
open Go.RowKit

/-- The sectors ahead of k flushed. -/
def flushTo (s : RSt) : Nat → RSt
  | 0 => s
  | k + 1 => if 0 < ((flushTo s k).cache.getD k []).length then { flushTo s k with stays := (flushTo s k).stays.set k ((flushTo s k).cache.getD k []), cache := (flushTo s k).cache.set k [] } else flushTo s k
theorem flushTo_length (s : RSt) : ∀ k, (flushTo s k).stays.length = s.stays.length
  | 0 => rfl
  | k + 1 => by
    unfold flushTo
    split
    · show (List.set _ _ _).length = _
      rw [List.length_set]
      exact flushTo_length s k
    · exact flushTo_length s k
theorem flushTo_down (s : RSt) : ∀ k, (flushTo s k).down = s.down
  | 0 => rfl
  | k + 1 => by
    unfold flushTo
    split
    · exact flushTo_down s k
    · exact flushTo_down s k

def flushErr3 (s : RSt) : Int := if s.down then 31 else 0
def flushSt3 (s : RSt) : RSt := if s.down then s else flushTo s s.stays.length

/-- The slice v reads as the numbers xs, and lies in none of the disk's own blocks. -/
def HeadF (b gS gC : Nat) (w : World) (xs : List Value) (v : Value) : Prop :=
  ∃ A c, v = .slice A xs.length c ∧ xs.length ≤ c ∧ c ≤ 9223372036854775807 ∧ Reads w w.heap.size 1 A xs.length xs ∧ (0 < xs.length → ∀ ad, A = some ad → ¬ rfoot b gS gC ad.block)
theorem HeadF.keep {b gS gC : Nat} {w w' : World} {S : Nat → Prop} {xs : List Value} {v : Value} (h : HeadF b gS gC w xs v) (hk : Keep S w w') (hS : ∀ k, S k → rfoot b gS gC k) : HeadF b gS gC w' xs v := by
  obtain ⟨A, c, rfl, h1, h2, h3, h4⟩ := h
  refine ⟨A, c, rfl, h1, h2, ?_, h4⟩
  by_cases h0 : 0 < xs.length
  · exact (h3.keepS hk (Nat.le_refl _) (fun ad e hs => h4 h0 ad e (hS _ hs))).more hk.size
  · exact ⟨by omega, fun h => absurd h h0⟩
section
variable {b gS gC cS cC : Nat} {kv : Value} {vs ws : List Value} {s : RSt} {w : World}

theorem reads_blk3 {w : World} {g : Nat} {t : TypeId} {x : Value} (h : Blk w g t #[x]) : Reads w w.heap.size 1 (some ⟨g, 0, none⟩) 1 [x] := by
  refine ⟨rfl, fun _ => ⟨_, rfl, h.lt, fun j u hu => ?_⟩⟩
  rcases j with _ | j
  · simp at hu
    subst hu
    exact h.cell 0
  · simp at hu

theorem infoInt : (Try.prog.info? 3).map (fun i => (i.zero, i.size, i.bytes)) = some (some (.int .i64 0), 1, 8) := by kernel_rfl

/-- Which of the sectors ahead of k wait. -/
def waitsTo (s : RSt) : Nat → List Int
  | 0 => []
  | k + 1 => if 0 < (s.cache.getD k []).length then waitsTo s k ++ [(k : Int)] else waitsTo s k
theorem waitsTo_length (s : RSt) : ∀ k, (waitsTo s k).length ≤ k
  | 0 => Nat.le_refl _
  | k + 1 => by
    unfold waitsTo
    have := waitsTo_length s k
    split
    · rw [List.length_append]
      simp only [List.length_cons, List.length_nil]
      omega
    · omega
def waits3 (s : RSt) : List Int := waitsTo s s.stays.length

end

end Go.Proofs.Ytddhldmeknmgpaa

namespace Go.Proofs.Ytddhldmeknmgpaa
open Go.RowKit

/-- How many bytes of sector k's last write stay. -/
def stayN (c : DCrash) (k : Nat) : Int := if (k : Int) ∈ c.keep then 128 else if c.torn = (k : Int) then c.at_ else 0
/-- The first bytes of one, the others of another. -/
def cutAt (n : Int) (x y : List UInt8) : List UInt8 := x.take n.toNat ++ y.drop n.toNat
theorem cutAt_length {n : Int} {x y : List UInt8} (hx : x.length = 128) (hy : y.length = 128) : (cutAt n x y).length = 128 := by
  unfold cutAt
  rw [List.length_append, List.length_take, List.length_drop]
  omega

theorem cutAt_at {n : Int} {x y : List UInt8} {j : Nat} (hx : x.length = 128) (hj : j < 128) : (cutAt n x y)[j]? = if (j : Int) < n then x[j]? else y[j]? := by
  unfold cutAt
  by_cases h : (j : Int) < n
  · rw [if_pos h, List.getElem?_append_left (by rw [List.length_take]; omega), List.getElem?_take_of_lt (by omega)]
  · rw [if_neg h, List.getElem?_append_right (by rw [List.length_take]; omega), List.length_take, List.getElem?_drop]
    congr 1
    omega

/-- The sectors ahead of k behind the crash. -/
def fallTo (s : RSt) (c : DCrash) : Nat → RSt
  | 0 => s
  | k + 1 => if 0 < ((fallTo s c k).cache.getD k []).length then { fallTo s c k with stays := (fallTo s c k).stays.set k (cutAt (stayN c k) ((fallTo s c k).cache.getD k []) ((fallTo s c k).stays.getD k [])), cache := (fallTo s c k).cache.set k [] } else fallTo s c k
theorem fallTo_length (s : RSt) (c : DCrash) : ∀ k, (fallTo s c k).stays.length = s.stays.length
  | 0 => rfl
  | k + 1 => by
    unfold fallTo
    split
    · show (List.set _ _ _).length = _
      rw [List.length_set]
      exact fallTo_length s c k
    · exact fallTo_length s c k

def fallSt (s : RSt) (c : DCrash) : RSt := { fallTo s c s.stays.length with write := 0, keep := [], torn := 0, at_ := 0, down := true }

def armErr3 (c : DCrash) : Int := if c.write < 1 then 2 else 0
def armSt3 (s : RSt) (c : DCrash) : RSt := if c.write < 1 then s else { s with write := c.write, keep := c.keep, torn := c.torn, at_ := c.at_ }

end Go.Proofs.Ytddhldmeknmgpaa

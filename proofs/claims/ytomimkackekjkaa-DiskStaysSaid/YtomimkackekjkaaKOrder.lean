/-
  The statement DiskOrder: two disks that were written the same last.
-/
import Derived.Test.YtomimkackekjkaaKAlive
import Derived.Test.YtomimkackekjkaaDOpen
namespace Go.Proofs.Ytomimkackekjkaa
open Go.RowKit Go.Maps

/-- A disk of six sectors, all zeroes, with C waiting, behind m writes. -/
def cs6 (C : List (List UInt8)) (m : Int) : RSt := { newSt 6 with cache := C, many := m }
theorem cs6_new : newSt 6 = cs6 (List.replicate 6 []) 0 := rfl
theorem has_cs6 (C : List (List UInt8)) (m a : Int) : has3 (cs6 C m) a = decide (0 ≤ a ∧ a < 6) := rfl
theorem write6 (C : List (List UInt8)) (m a : Int) (l : List UInt8) :
    (writeErr (cs6 C m) a l = 0 ∧ writeK (cs6 C m) a l = cs6 (C.set a.toNat l) (m + 1) ∧ 0 ≤ a ∧ a < 6 ∧ l.length = 128) ∨
    (writeErr (cs6 C m) a l = 30 ∧ writeK (cs6 C m) a l = cs6 C m) := by
  by_cases h : takes3 (cs6 C m) a l.length = true
  · have h2 : (0 ≤ a ∧ a < 6) ∧ l.length = 128 := by
      unfold takes3 at h
      rw [has_cs6] at h
      simpa using h
    refine .inl ⟨?_, ?_, h2.1.1, h2.1.2, h2.2⟩
    · unfold writeErr
      rw [if_neg (by simp [cs6, newSt]), if_pos h, if_neg (by simp [cs6, newSt])]
    · unfold writeK
      rw [if_neg (by simp [cs6, newSt]), if_pos h, if_pos (by simp [cs6, newSt])]
      rfl
  · refine .inr ⟨?_, ?_⟩
    · unfold writeErr
      rw [if_neg (by simp [cs6, newSt]), if_neg h]
    · unfold writeK
      rw [if_neg (by simp [cs6, newSt]), if_neg h]
theorem down6_err (C : List (List UInt8)) (m : Int) : (if (cs6 C m).down then (31 : Int) else 0) = 0 := rfl
theorem read6_err (C : List (List UInt8)) (m : Int) (c : DCrash) (k : Nat) (hk : k < 6) : readErr3 (bootSt (downK (cs6 C m) c)) (k : Int) = 0 := by
  have h : has3 (bootSt (downK (cs6 C m) c)) (k : Int) = true := by
    unfold has3
    have : (bootSt (downK (cs6 C m) c)).stays.length = 6 := rfl
    rw [this]
    simpa using by omega
  unfold readErr3
  rw [if_neg (by simp [bootSt]), if_pos h]
theorem read6_out (C : List (List UInt8)) (m m' : Int) (c : DCrash) (k : Int) : readOut3 (bootSt (downK (cs6 C m) c)) k = readOut3 (bootSt (downK (cs6 C m') c)) k := rfl
theorem waits6_few (C : List (List UInt8)) (m : Int) : (waits3 (cs6 C m)).length ≤ 6 := by
  unfold waits3
  rw [pendTo_waits]
  exact pendTo_length _ _
/-- C's last ones, from the sector j on. -/
def fill (C : List (List UInt8)) (j : Nat) : List (List UInt8) := List.replicate j [] ++ C.drop j
theorem fill_six {C : List (List UInt8)} (h : C.length = 6) : fill C 6 = List.replicate 6 [] := by
  unfold fill
  rw [List.drop_eq_nil_of_le (by omega), List.append_nil]
theorem fill_zero (C : List (List UInt8)) : fill C 0 = C := rfl
theorem fill_set {C : List (List UInt8)} {j : Nat} {x : List UInt8} (h : C[j]? = some x) : (fill C (j + 1)).set j x = fill C j := by
  obtain ⟨hlt, rfl⟩ := List.getElem?_eq_some_iff.1 h
  unfold fill
  rw [List.replicate_succ', List.append_assoc, List.set_append_right _ _ (by simp), List.drop_eq_getElem_cons hlt]
  simp
theorem fill_none {C : List (List UInt8)} {j : Nat} (h : C[j]? = some []) : fill C (j + 1) = fill C j := by
  obtain ⟨hlt, e⟩ := List.getElem?_eq_some_iff.1 h
  unfold fill
  rw [List.replicate_succ', List.append_assoc, List.drop_eq_getElem_cons hlt, e]
  rfl
theorem waits6 (C : List (List UInt8)) (m m' : Int) : waits3 (cs6 C m) = waits3 (cs6 C m') := rfl

theorem DOps.more {w : World} {B B' n : Nat} {A : Option Addr} {l : List DOp} (h : DOps w B A n l) (hB : B ≤ B') : DOps w B' A n l :=
  ⟨h.1, h.2.1, fun h0 => by
    obtain ⟨ad, e, hb, hc⟩ := h.2.2 h0
    refine ⟨ad, e, by omega, fun i o ho => ?_⟩
    obtain ⟨BA, Bc, KA, Kc, d⟩ := hc i o ho
    exact ⟨BA, Bc, KA, Kc, d.kind, d.at_, d.b, d.write, d.keep, d.torn, d.cat, d.bs.more hB, d.ks.more hB⟩⟩

theorem Lives.all_lt {N : Nat} {w0 w : World} {d : DAt} {s : RSt} (L : Lives N w0 w d s) : ∀ k, d.foot k → k < w.heap.size := by
  obtain ⟨kv, h⟩ := L.dk
  exact h.lt

/-- Where the two lie, and the array. -/
structure Apart (w1 : World) (B g : Nat) (dA dB : DAt) : Prop where
  a : ∀ k, dA.foot k → k < g
  b : ∀ k, dB.foot k → k < g
  d : ∀ k, dA.foot k → ¬ dB.foot k
  n : w1.heap.size ≤ g
  B : B ≤ w1.heap.size

section
variable {w1 wr w' : World} {B g : Nat} {dA dB : DAt} {C D : List (List UInt8)} {m m2 : Int}

end

end Go.Proofs.Ytomimkackekjkaa

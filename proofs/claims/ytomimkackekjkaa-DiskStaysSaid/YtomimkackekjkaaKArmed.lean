/-
  The statement DiskArmed: a disk that is armed beside one that is not.
-/
import Derived.Test.YtomimkackekjkaaKOrder
import Derived.Test.YtomimkackekjkaaKArm
namespace Go.Proofs.Ytomimkackekjkaa
open Go.RowKit Go.Maps

/-- A disk that is up: S stays, C waits, behind m writes; and one that is armed besides, r writes ahead. -/
def pl6 (S C : List (List UInt8)) (m : Int) : RSt := ⟨S, C, 0, [], 0, 0, m, false⟩
def ar6 (S C : List (List UInt8)) (m r : Int) (c : DCrash) : RSt := ⟨S, C, r, c.keep, c.torn, c.at_, m, false⟩
theorem pl6_new : newSt 6 = pl6 (List.replicate 6 (List.replicate 128 0)) (List.replicate 6 []) 0 := rfl
theorem ar6_new (c : DCrash) (h : ¬ c.write < 1) : armSt3 (newSt 6) c = ar6 (List.replicate 6 (List.replicate 128 0)) (List.replicate 6 []) 0 c.write c := by
  unfold armSt3
  rw [if_neg h]
  rfl
theorem flush6 (S C : List (List UInt8)) (m r : Int) (c : DCrash) : ∃ S' C', flushK (pl6 S C m) = pl6 S' C' m ∧ flushK (ar6 S C m r c) = ar6 S' C' m r c ∧ S'.length = S.length :=
  ⟨mixL (pl6 S C m) (fun _ => true) (fun k => C.getD k []), List.replicate S.length [], rfl, rfl, mixL_length _ _ _⟩
theorem write_pair (S C : List (List UInt8)) (m r a : Int) (c : DCrash) (l : List UInt8) (n0 : Int) (hr : 1 ≤ r) :
    (writeErr (pl6 S C m) a l = 30 ∧ writeErr (ar6 S C m r c) a l = 30 ∧ writeK (pl6 S C m) a l = pl6 S C m ∧ writeK (ar6 S C m r c) a l = ar6 S C m r c) ∨
    (∃ C', writeErr (pl6 S C m) a l = 0 ∧ writeK (pl6 S C m) a l = pl6 S C' (m + 1) ∧
      ((2 ≤ r ∧ writeErr (ar6 S C m r c) a l = 0 ∧ writeK (ar6 S C m r c) a l = ar6 S C' (m + 1) (r - 1) c) ∨
       (r = 1 ∧ writeErr (ar6 S C m r c) a l = 31 ∧ writeK (ar6 S C m r c) a l = downK (pl6 S C' (m + 1)) ⟨n0, c.keep, c.torn, c.at_⟩))) := by
  by_cases h : takes3 (pl6 S C m) a l.length = true
  · have h2 : takes3 (ar6 S C m r c) a l.length = true := h
    refine .inr ⟨C.set a.toNat l, ?_, ?_, ?_⟩
    · unfold writeErr
      rw [if_neg (by simp [pl6]), if_pos h, if_neg (by simp [pl6])]
    · unfold writeK
      rw [if_neg (by simp [pl6]), if_pos h, if_pos (by simp [pl6])]
      rfl
    · by_cases h1 : r = 1
      · subst h1
        refine .inr ⟨rfl, ?_, ?_⟩
        · unfold writeErr
          rw [if_neg (by simp [ar6]), if_pos h2, if_pos (by simp [ar6])]
        · unfold writeK
          rw [if_neg (by simp [ar6]), if_pos h2, if_neg (by simp [ar6]), if_pos (by simp [ar6])]
          rfl
      · refine .inl ⟨by omega, ?_, ?_⟩
        · unfold writeErr
          rw [if_neg (by simp [ar6]), if_pos h2, if_neg (by simpa [ar6] using h1)]
        · unfold writeK
          rw [if_neg (by simp [ar6]), if_pos h2, if_neg (by show ¬ r = 0; omega), if_neg (by simpa [ar6] using h1)]
          rfl
  · have h2 : ¬ takes3 (ar6 S C m r c) a l.length = true := h
    refine .inl ⟨?_, ?_, ?_, ?_⟩
    · unfold writeErr
      rw [if_neg (by simp [pl6]), if_neg h]
    · unfold writeErr
      rw [if_neg (by simp [ar6]), if_neg h2]
    · unfold writeK
      rw [if_neg (by simp [pl6]), if_neg h]
    · unfold writeK
      rw [if_neg (by simp [ar6]), if_neg h2]

/-- Two disks that none can tell apart, but for what is armed. -/
structure Same (sa sb : RSt) (up : Bool) : Prop where
  a : (!sa.down) = up
  b : (!sb.down) = up
  many : sa.many = sb.many
  waits : waits3 sa = waits3 sb
  few : (waits3 sa).length ≤ 6
  ea : ∀ k : Nat, k < 6 → readErr3 (bootSt sa) (k : Int) = 0
  eb : ∀ k : Nat, k < 6 → readErr3 (bootSt sb) (k : Int) = 0
  out : ∀ k : Int, readOut3 (bootSt sa) k = readOut3 (bootSt sb) k
theorem boot_err {s : RSt} {k : Nat} (hs : s.stays.length = 6) (hk : k < 6) : readErr3 (bootSt s) (k : Int) = 0 := by
  have h : has3 (bootSt s) (k : Int) = true := by
    unfold has3
    have : (bootSt s).stays.length = 6 := hs
    rw [this]
    simpa using by omega
  unfold readErr3
  rw [if_neg (by simp [bootSt]), if_pos h]
theorem waits_few {s : RSt} (hs : s.stays.length = 6) : (waits3 s).length ≤ 6 := by
  unfold waits3
  rw [hs]
  exact waitsTo_length s 6
theorem waitsTo_same (sa sb : RSt) (h : sa.cache = sb.cache) : ∀ k, waitsTo sa k = waitsTo sb k
  | 0 => rfl
  | k + 1 => by
    unfold waitsTo
    rw [waitsTo_same sa sb h k, h]
theorem same_up (S C : List (List UInt8)) (m r : Int) (c : DCrash) (hS : S.length = 6) : Same (ar6 S C m r c) (pl6 S C m) true :=
  ⟨rfl, rfl, rfl, waitsTo_same (ar6 S C m r c) (pl6 S C m) rfl _, waits_few hS, fun _ hk => boot_err hS hk, fun _ hk => boot_err hS hk, fun _ => rfl⟩
theorem same_down (S C : List (List UInt8)) (m : Int) (c : DCrash) (hS : S.length = 6) : Same (downK (pl6 S C m) c) (downK (pl6 S C m) c) false := by
  have hl : (downK (pl6 S C m) c).stays.length = 6 := by
    show (mixL _ _ _).length = 6
    rw [mixL_length]
    exact hS
  exact ⟨rfl, rfl, rfl, rfl, waits_few hl, fun _ hk => boot_err hl hk, fun _ hk => boot_err hl hk, fun _ => rfl⟩

/-- The two disks, and the crash in its box. -/
structure AI (W : World) (dA dB : DAt) (wr : World) (X : Array Value) (sa sb : RSt) : Prop where
  la : Lives W.heap.size W wr dA sa
  lb : Lives W.heap.size W wr dB sb
  box : Blk wr W.heap.size 36 X
structure Apart2 (W : World) (dA dB : DAt) : Prop where
  d : ∀ k, dA.foot k → ¬ dB.foot k
  a : ¬ dA.foot W.heap.size
  b : ¬ dB.foot W.heap.size

section
variable {W wr w' : World} {dA dB : DAt} {X : Array Value} {sa sb s' : RSt}
theorem AI.next (h : AI W dA dB wr X sa sb) (hb : Below wr.heap.size wr w') : AI W dA dB w' X sa sb :=
  ⟨h.la.next h.la.lt hb, h.lb.next h.lb.lt hb, h.box.below hb h.box.lt⟩
theorem AI.callA (h : AI W dA dB wr X sa sb) (P : Apart2 W dA dB) (hk : Keep dA.foot wr w') (hl : Lives W.heap.size W w' dA s') : AI W dA dB w' X s' sb :=
  ⟨hl, h.lb.other h.la (fun k h1 h2 => P.d k h2 h1) hk (fun _ h => h), hk.blk h.box P.a⟩
theorem AI.callB (h : AI W dA dB wr X sa sb) (P : Apart2 W dA dB) (hk : Keep dB.foot wr w') (hl : Lives W.heap.size W w' dB s') : AI W dA dB w' X sa s' :=
  ⟨h.la.other h.lb P.d hk (fun _ h => h), hl, hk.blk h.box P.b⟩
end

end Go.Proofs.Ytomimkackekjkaa

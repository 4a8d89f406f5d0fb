/-
  A drawn region that lays bytes anew, the last four turned about ('append(append([]byte{}, s[:n]...), s[n+3], s[n+2], s[n+1], s[n])'): what stands of its operations 0, 4, 24, 25 and 26, in whatever order they come up.
-/
import Derived.Test.YtpededkfgjmhcaaCrcSeals
import Derived.Test.YtpededkfgjmhcaaDone
namespace Go.Proofs.Ytpededkfgjmhcaa.crc
open Go.RowKit Go.Proofs.Ytpededkfgjmhcaa.crcJoins Go.Proofs.Ytpededkfgjmhcaa.crcSeals

def tailR (B n : Nat) (ms xs vals : List Value) (dn : Nat → Bool) (i : Nat) (v : Value) (w' : World) : Prop :=
  match i with
  | 0 => ∃ g, v = .slice (some ⟨g, 0, none⟩) 0 0 ∧ (dn 25 = false → dn 4 = false → w'.ownsRow B 5 1 (.slice (some ⟨g, 0, none⟩) 0 0) 0 [])
  | 4 => ∃ A c, v = .slice A n c ∧ (dn 25 = false → w'.ownsRow B 5 1 (.slice A n c) n ms)
  | 24 => ∃ g, v = .slice (some ⟨g, 0, none⟩) 4 4 ∧ (dn 25 = false → Blk w' g 5 xs.toArray)
  | 25 => ∃ A c, v = .slice A (n + 4) c ∧ w'.ownsRow B 5 1 (.slice A (n + 4) c) (n + 4) (ms ++ xs)
  | 26 => ∃ A c, v = .slice A (n + 4) c ∧ w'.ownsRow B 5 1 (.slice A (n + 4) c) (n + 4) (ms ++ xs)
  | i => v = vals.getD i undef

section
variable {B n : Nat} {ms xs vals : List Value} {dn : Nat → Bool} {i : Nat}

theorem tailR_other {j : Nat} {u : Value} {w w' : World} {dn' : Nat → Bool} (h0 : j ≠ 0) (h4 : j ≠ 4) (h24 : j ≠ 24) (h25 : j ≠ 25) (h26 : j ≠ 26) (h : tailR B n ms xs vals dn j u w) : tailR B n ms xs vals dn' j u w' := by
  have e : ∀ dn w, tailR B n ms xs vals dn j u w = (u = vals.getD j undef) := fun dn w => by
    unfold tailR
    split <;> first | rfl | contradiction
  rw [e] at h ⊢
  exact h

theorem tailR_mono (j : Nat) (u : Value) (w : World) (h : tailR B n ms xs vals dn j u w) : tailR B n ms xs vals (upd dn i) j u w := by
  by_cases h0 : j = 0
  · subst h0; obtain ⟨g, rfl, h⟩ := h; exact ⟨g, rfl, fun e e' => h (upd_false e) (upd_false e')⟩
  by_cases h4 : j = 4
  · subst h4; obtain ⟨A, c, rfl, h⟩ := h; exact ⟨A, c, rfl, fun e => h (upd_false e)⟩
  by_cases h24 : j = 24
  · subst h24; obtain ⟨g, rfl, h⟩ := h; exact ⟨g, rfl, fun e => h (upd_false e)⟩
  by_cases h25 : j = 25
  · subst h25; exact h
  by_cases h26 : j = 26
  · subst h26; exact h
  exact tailR_other h0 h4 h24 h25 h26 h

theorem tailR_alloc (o : Obj) (j : Nat) (u : Value) (w : World) (h : tailR B n ms xs vals dn j u w) : tailR B n ms xs vals (upd dn i) j u (w.alloc o) := by
  by_cases h0 : j = 0
  · subst h0; obtain ⟨g, rfl, h⟩ := h; exact ⟨g, rfl, fun e e' => (h (upd_false e) (upd_false e')).alloc _⟩
  by_cases h4 : j = 4
  · subst h4; obtain ⟨A, c, rfl, h⟩ := h; exact ⟨A, c, rfl, fun e => (h (upd_false e)).alloc _⟩
  by_cases h24 : j = 24
  · subst h24; obtain ⟨g, rfl, h⟩ := h; exact ⟨g, rfl, fun e => (h (upd_false e)).alloc _⟩
  by_cases h25 : j = 25
  · subst h25; obtain ⟨A, c, rfl, h⟩ := h; exact ⟨A, c, rfl, h.alloc _⟩
  by_cases h26 : j = 26
  · subst h26; obtain ⟨A, c, rfl, h⟩ := h; exact ⟨A, c, rfl, h.alloc _⟩
  exact tailR_other h0 h4 h24 h25 h26 h

/-- Behind the first append. -/
theorem tailR_first {g0 : Nat} {w w' : World} (hx : xs.length = 4) (h25 : dn 25 = false) (h26 : dn 26 = false) (hown : w.ownsRow B 5 1 (.slice (some ⟨g0, 0, none⟩) 0 0) 0 []) (hg : w.grownBy w' (some g0))
    (j : Nat) (u : Value) (hj : j ≠ 4) (hd : dn j = true) (h : tailR B n ms xs vals dn j u w) : tailR B n ms xs vals (upd dn 4) j u w' := by
  by_cases h0 : j = 0
  · subst h0; obtain ⟨g, rfl, h⟩ := h; exact ⟨g, rfl, fun _ e => absurd e (by rw [upd_self]; decide)⟩
  by_cases h24 : j = 24
  · subst h24
    obtain ⟨g, rfl, h⟩ := h
    refine ⟨g, rfl, fun e => ?_⟩
    have hb := h (upd_false e)
    refine hb.grown hg (fun e' => ?_)
    injection e' with e'
    subst e'
    rcases hown.2 with ⟨e1, _⟩ | ⟨g1, cap, cur, e1, _, hh, _, _, hs, _⟩
    · cases e1
    · injection e1 with e1 _ e3
      injection e1 with e1
      injection e1 with e1 _ _
      subst e1 e3
      unfold Blk at hb
      rw [hb] at hh
      injection hh with hh
      injection hh with hh _ _
      rw [← hh] at hs
      simp [hx] at hs
  by_cases h25' : j = 25
  · subst h25'; rw [h25] at hd; cases hd
  by_cases h26' : j = 26
  · subst h26'; rw [h26] at hd; cases hd
  exact tailR_other h0 hj h24 h25' h26' h

/-- Behind the second append. -/
theorem tailR_second {w w' : World} (h26 : dn 26 = false) (j : Nat) (u : Value) (hj : j ≠ 25) (hd : dn j = true) (h : tailR B n ms xs vals dn j u w) : tailR B n ms xs vals (upd dn 25) j u w' := by
  have no : upd dn 25 25 = false → False := fun e => by rw [upd_self] at e; cases e
  by_cases h0 : j = 0
  · subst h0; obtain ⟨g, rfl, h⟩ := h; exact ⟨g, rfl, fun e => (no e).elim⟩
  by_cases h4 : j = 4
  · subst h4; obtain ⟨A, c, rfl, h⟩ := h; exact ⟨A, c, rfl, fun e => (no e).elim⟩
  by_cases h24 : j = 24
  · subst h24; obtain ⟨g, rfl, h⟩ := h; exact ⟨g, rfl, fun e => (no e).elim⟩
  by_cases h26' : j = 26
  · subst h26'; rw [h26] at hd; cases hd
  exact tailR_other h0 h4 h24 hj h26' h
end

theorem reads_blk {w : World} {g : Nat} {xs : List Value} (h : Blk w g 5 xs.toArray) : Reads w w.heap.size 1 (some ⟨g, 0, none⟩) xs.length xs := by
  refine ⟨by simp, fun _ => ⟨_, rfl, h.lt, fun j u hu => ?_⟩⟩
  have hp : (⟨g, 0, none⟩ : Addr).add j = ⟨g, j, none⟩ := by unfold Addr.add; split <;> simp_all
  rw [hp, h.cell j, ← hu]
  simp

/-- An append onto a row of the call's own, as a run. -/
theorem app_run {w : World} {base : Nat} {v : Value} {n m c : Nat} {A : Option Addr} {xs news : List Value} (hown : w.ownsRow base 5 1 v n xs) (hr : Reads w w.heap.size 1 A m news) (h1 : ∀ u ∈ news, u.oneCell' = true)
    (hm : n + m ≤ 140737488355328) (hb : base ≤ w.heap.size) :
    ∃ A' c' w', (Builtin.append_ #[25, 25] 25 #[v, .slice A m c]).run Try.prog w = .ok (.slice A' (n + m) c') w' ∧ w'.ownsRow base 5 1 (.slice A' (n + m) c') (n + m) (xs ++ news) ∧ w.grownBy w' v.ownBlock := by
  obtain ⟨i0, hi, hz0, hz1, hz2⟩ := info_parts infoU8
  obtain ⟨v', w', h2, h3, h4, _⟩ := run_append_any (P := Try.prog) w base 25 25 5 i0 (.int .u8 0) 1 1 Try.underlying25 hi hz0 hz1 hz2 rfl (by decide) v n xs hown w.heap.size A m c news hr h1 (by unfold maxLen; omega) (by omega) hb
  obtain ⟨A', c', rfl⟩ := own_slice h3
  exact ⟨A', c', w', h2, h3, h4⟩

end Go.Proofs.Ytpededkfgjmhcaa.crc

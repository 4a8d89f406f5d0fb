/-
  The statements' 'made' of layer 3: a disk of six sectors behind calls, that is up, with nothing waiting.
-/
import Derived.Test.YtomimkackekjkaaKArmed
import Derived.Test.YtomimkackekjkaaKDiskC
namespace Go.Proofs.Ytomimkackekjkaa
open Go.RowKit Go.Maps

/-- A disk that is not armed. -/
def un6 (S C : List (List UInt8)) (m : Int) (dn : Bool) : RSt := ⟨S, C, 0, [], 0, 0, m, dn⟩
theorem un6_pl (S C : List (List UInt8)) (m : Int) : un6 S C m false = pl6 S C m := rfl
theorem un6_boot (S C : List (List UInt8)) (m : Int) (dn : Bool) : bootSt (un6 S C m dn) = un6 S C m false := rfl
theorem un6_flush (S C : List (List UInt8)) (m : Int) (dn : Bool) : ∃ S' C', flushK (un6 S C m dn) = un6 S' C' m dn ∧ S'.length = S.length := by
  cases dn
  · exact ⟨_, _, rfl, mixL_length _ _ _⟩
  · exact ⟨S, C, rfl, rfl⟩
theorem un6_down (S C : List (List UInt8)) (m : Int) (dn : Bool) (c : DCrash) : ∃ S' C' dn', downK (un6 S C m dn) c = un6 S' C' m dn' ∧ S'.length = S.length := by
  cases dn
  · exact ⟨_, _, true, rfl, mixL_length _ _ _⟩
  · exact ⟨S, C, true, rfl, rfl⟩
theorem un6_spoil (S C : List (List UInt8)) (m : Int) (dn : Bool) (a : Int) (l : List UInt8) : ∃ S', spoilSt3 (un6 S C m dn) a l = un6 S' C m dn ∧ S'.length = S.length := by
  unfold spoilSt3
  split
  · exact ⟨_, rfl, List.length_set ..⟩
  · exact ⟨S, rfl, rfl⟩
theorem un6_write (S C : List (List UInt8)) (m : Nat) (dn : Bool) (a : Int) (l : List UInt8) : ∃ (C' : List (List UInt8)) (m' : Nat), writeK (un6 S C (m : Int) dn) a l = un6 S C' (m' : Int) dn ∧ m' ≤ m + 1 := by
  unfold writeK
  cases dn
  · by_cases h : takes3 (un6 S C (m : Int) false) a l.length = true
    · rw [if_neg (by simp [un6]), if_pos h, if_pos (by simp [un6])]
      exact ⟨C.set a.toNat l, m + 1, rfl, Nat.le_refl _⟩
    · rw [if_neg (by simp [un6]), if_neg h]
      exact ⟨C, m, rfl, by omega⟩
  · rw [if_pos (by simp [un6])]
    exact ⟨C, m, rfl, by omega⟩

/-- What 'made' hands back. -/
def MadeOut (W : World) (e : Ending) (w' : World) : Prop := ∃ (d : DAt) (S : List (List UInt8)) (m : Nat), e = .returned (.pointer (some ⟨d.b, 0, none⟩)) ∧ Lives W.heap.size W w' d (pl6 S (List.replicate 6 []) (m : Int)) ∧ S.length = 6 ∧ m ≤ 200

set_option maxRecDepth 100000 in
set_option maxHeartbeats 4000000 in
theorem made_any (A : Option Addr) (n c : Nat) (l : List DOp) (B : Nat) (W : World) (H : DOps W B A n l) (hB : B ≤ W.heap.size) (hn : n ≤ 200) :
    Calls Try.prog 13 #[.slice A n c] W (MadeOut W) := by
  have HH := Lib.hid H
  clear H
  go_enter Try.func13, Try.ntmps13
  go_wp2_with (go_at_call 6; refine (lnew (N := W.heap.size) (w0 := W) 6 (Nat.le_refl _) (Below.refl _ _) (by omega) (by omega) rfl).mono ?_; rintro e w1 ⟨d, rfl, l0, -, -⟩; have L := Lib.hid l0; clear l0)
  go_loopw [15] (fun i wr => ∃ (k : Nat) (S C : List (List UInt8)) (m : Nat) (dn : Bool), k ≤ n ∧ i = .int .i64 ((k : Nat) : Int) ∧ m ≤ k ∧ S.length = 6 ∧ Lives W.heap.size W wr d (un6 S C (m : Int) dn)) (fun i _ => n - (intOf i).toNat)
  case atStart => exact ⟨0, _, _, 0, false, Nat.zero_le _, rfl, Nat.le_refl _, rfl, L.out⟩
  case round =>
    obtain ⟨k, S, C, m, dn, hkn, rfl, hmk, hS6, hL⟩ := hrel
    clear L
    by_cases hlt : k < n
    · obtain ⟨ad, BA, Bc, KA2, Kc2, rfl, hadb, dc⟩ := (HH.out.below (hL.below.mono hB)).at_ hlt
      have hkl' : k < l.length := by have := HH.out.1; omega
      generalize l[k]'(by have := HH.out.1; omega) = o at dc
      obtain ⟨kd, at_, bb, cw⟩ := o
      have x0 := dc.kind
      have x1 := dc.at_
      have x2 := dc.b
      have x3 := dc.write
      have x4 := dc.keep
      have x5 := dc.torn
      have x6 := dc.cat
      have hbs : Reads wr B 1 BA bb.length (bb.map bv) := by have := dc.bs.reads; rwa [List.length_map] at this
      have hks := dc.ks
      simp only at x0 x1 x2 x3 x4 x5 x6 hks
      clear dc
      generalize hbl : bb.length = bl at *
      generalize hkl2 : cw.keep.length = kl2 at *
      have hle : B ≤ wr.heap.size := Nat.le_trans hB hL.lt
      have hbx : Below wr.heap.size wr (wr.alloc (.cells #[.int .i64 kd, .int .i64 at_, .slice BA bl Bc, .int .i64 cw.write, .slice KA2 kl2 Kc2, .int .i64 cw.torn, .int .i64 cw.at_] 38)) := (Below.refl _ _).alloc (Nat.le_refl _) _
      have HL2 := Lib.hid (hL.next hL.lt hbx)
      have HRW := Lib.hid ((hbs.below (hbx.mono hle)).more (Nat.le_trans hle hbx.size))
      have HKS := Lib.hid ((hks.below (hbx.mono hle)).more (Nat.le_trans hle hbx.size))
      have HFW : Hid (Few (un6 S C (m : Int) dn)) := Lib.hid ⟨by show (m : Int) < _; omega⟩
      clear hbx hbs hks hle hL
      by_cases k0 : kd = 0
      · subst k0
        obtain ⟨C', m', hw, hm'⟩ := un6_write S C m dn at_ bb
        have HW := Lib.hid hw
        clear hw
        generalize hwe : writeErr (un6 S C (m : Int) dn) at_ bb = er at *
        have HWE := Lib.hid hwe
        clear hwe
        go_wp2_with (go_at_call 14; refine (lwrite at_ _ _ _ bb HL2.out hbl HRW.out HFW.out HWE.out HW.out).mono ?_; rintro e w9 ⟨rfl, l9, -⟩; have HL3 := Lib.hid l9; clear l9)
        exact ⟨⟨k + 1, S, C', m', dn, by omega, by go_num, by omega, hS6, HL3.out⟩, by simp [intOf]; omega⟩
      · by_cases k1 : kd = 1
        · subst k1
          obtain ⟨S', C', hw, hSl⟩ := un6_flush S C (m : Int) dn
          have HW := Lib.hid hw
          clear hw
          go_wp2_with (go_at_call 22; refine (lflush HL2.out rfl HW.out).mono ?_; rintro e w9 ⟨rfl, l9, -⟩; have HL3 := Lib.hid l9; clear l9)
          exact ⟨⟨k + 1, S', C', m, dn, by omega, by go_num, by omega, by omega, HL3.out⟩, by simp [intOf]; omega⟩
        · by_cases k3 : kd = 3
          · subst k3
            obtain ⟨S', C', dn', hw, hSl⟩ := un6_down S C (m : Int) dn cw
            have HW := Lib.hid hw
            clear hw
            go_wp2_with (go_at_call 16; refine (ldown cw _ _ _ HL2.out hkl2 HKS.out rfl HW.out).mono ?_; rintro e w9 ⟨rfl, l9, -⟩; have HL3 := Lib.hid l9; clear l9)
            exact ⟨⟨k + 1, S', C', m, dn', by omega, by go_num, by omega, by omega, HL3.out⟩, by simp [intOf]; omega⟩
          · by_cases k5 : kd = 5
            · subst k5
              go_wp2_with (go_at_call 9; refine (lboot HL2.out (un6_boot S C (m : Int) dn)).mono ?_; rintro e w9 ⟨rfl, l9, -⟩; have HL3 := Lib.hid l9; clear l9)
              exact ⟨⟨k + 1, S, C, m, false, by omega, by go_num, by omega, hS6, HL3.out⟩, by simp [intOf]; omega⟩
            · by_cases k6 : kd = 6
              · subst k6
                obtain ⟨S', hw, hSl⟩ := un6_spoil S C (m : Int) dn at_ bb
                have HW := Lib.hid hw
                clear hw
                go_wp2_with (go_at_call 27; refine (lspoil at_ _ _ _ bb HL2.out hbl HRW.out rfl HW.out).mono ?_; rintro e w9 ⟨rfl, l9, -⟩; have HL3 := Lib.hid l9; clear l9)
                exact ⟨⟨k + 1, S', C, m, dn, by omega, by go_num, by omega, by omega, HL3.out⟩, by simp [intOf]; omega⟩
              · go_wp2
                exact ⟨⟨k + 1, S, C, m, dn, by omega, by go_num, by omega, hS6, HL2.out⟩, by simp [intOf]; omega⟩
    · obtain rfl : k = n := by omega
      have HL2 := Lib.hid hL
      clear hL
      have hfl : ∃ S', flushK (un6 S C (m : Int) false) = pl6 S' (List.replicate 6 []) (m : Int) ∧ S'.length = 6 :=
        ⟨mixL (un6 S C (m : Int) false) (fun _ => true) (fun k => C.getD k []), by rw [← hS6]; rfl, by rw [mixL_length]; exact hS6⟩
      obtain ⟨S', hf1, hf2⟩ := hfl
      have HF1 := Lib.hid hf1
      clear hf1
      go_wp2_with (first
        | (go_at_call 9; refine (lboot HL2.out (un6_boot S C (m : Int) dn)).mono ?_; rintro e w9 ⟨rfl, l9, -⟩; have HL3 := Lib.hid l9; clear l9)
        | (go_at_call 22; refine (lflush HL3.out rfl HF1.out).mono ?_; rintro e w9 ⟨rfl, l9, -⟩; have HL4 := Lib.hid l9; clear l9))
      go_ret
      exact ⟨d, S', m, rfl, HL4.out, hf2, by omega⟩
end Go.Proofs.Ytomimkackekjkaa

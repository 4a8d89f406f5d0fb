/-
  The tile of layer 5 as the statements call it: Encode, Decode, Sound, each where what it is told may be, and where it may not.
-/
import Derived.Test.YtpededkfgjmhcaaTSame
namespace Go.Proofs.Ytpededkfgjmhcaa.tile
open Go.RowKit Go.Proofs.Ytpededkfgjmhcaa.crc Go.Proofs.Ytpededkfgjmhcaa.crcSeals Go.Proofs.Ytpededkfgjmhcaa.crcJoins

theorem enc_ok {t : TV} {s : Int} {L : List UInt8} {n m : Nat} (hok : okT t s = true) (hL : bytesT t s.toNat = L) (hn : L.length = n) (A : Option Addr) (c : Nat) (W : World) (h : TEl W t A m) :
    Calls Try.prog 9 #[tv t A m c, .int .i64 s] W fun e w' => ∃ A' c', e = .returned (.tuple #[.slice A' n c', .int .i64 0]) ∧ w'.ownsRow W.heap.size 5 1 (.slice A' n c') n (L.map bv) ∧ Below W.heap.size W w' := by
  subst hn hL
  refine (tencode_any t s A m c W h).mono ?_
  rintro e w' ⟨v, rfl, g⟩
  have he : errT t s = 0 := by unfold errT; rw [hok]; rfl
  have ho : outT t s = bytesT t s.toNat := by unfold outT; rw [hok]; rfl
  rw [ho] at g
  rw [he]
  obtain ⟨A', c', rfl, ho, hb, _⟩ := gives_conv g
  exact ⟨A', c', rfl, ho, hb⟩
theorem enc_no {t : TV} {s : Int} {m : Nat} (hok : okT t s = false) (A : Option Addr) (c : Nat) (W : World) (h : TEl W t A m) :
    Calls Try.prog 9 #[tv t A m c, .int .i64 s] W fun e w' => ∃ A' c', e = .returned (.tuple #[.slice A' 0 c', .int .i64 50]) ∧ w'.ownsRow W.heap.size 5 1 (.slice A' 0 c') 0 [] ∧ Below W.heap.size W w' := by
  refine (tencode_any t s A m c W h).mono ?_
  rintro e w' ⟨v, rfl, g⟩
  have he : errT t s = 50 := by unfold errT; rw [hok]; rfl
  have ho : outT t s = [] := by unfold outT; rw [hok]; rfl
  rw [ho] at g
  rw [he]
  obtain ⟨A', c', rfl, ho, hb, _⟩ := gives_conv g
  exact ⟨A', c', rfl, ho, hb⟩
theorem dec_ok {l : List UInt8} {u : TV} {n m : Nat} (hg : goodB l = true) (hu : candT l = u) (hn : l.length = n) (hm : u.el.length = m) (hb : n ≤ 140737488355000) (A : Option Addr) (c : Nat) (W : World) (h : Reads W W.heap.size 1 A n (l.map bv)) :
    Calls Try.prog 15 #[.slice A n c] W fun e w' => ∃ A' c', e = .returned (.tuple #[tv u A' m c', .int .i64 0]) ∧ w'.ownsRow W.heap.size 2 1 (.slice A' m c') m (u.el.map iv) ∧ TEl w' u A' m ∧ Below W.heap.size W w' := by
  subst hn hm hu
  have hd : decT l = candT l := by unfold decT; rw [hg]; rfl
  have he : decErr l = 0 := by unfold decErr; rw [hg]; rfl
  have hle := cand_le l
  refine (tdecode_any A c l W h hb).mono ?_
  rw [hd, he]
  rintro e w' ⟨A', c', rfl, ho, hb⟩
  exact ⟨A', c', rfl, ho.own, ho.el (by omega), hb⟩
theorem dec_no {l : List UInt8} {n : Nat} (hg : goodB l = false) (hn : l.length = n) (hb : n ≤ 140737488355000) (A : Option Addr) (c : Nat) (W : World) (h : Reads W W.heap.size 1 A n (l.map bv)) :
    Calls Try.prog 15 #[.slice A n c] W fun e w' => ∃ A' c', e = .returned (.tuple #[tv noT A' 0 c', .int .i64 50]) ∧ w'.ownsRow W.heap.size 2 1 (.slice A' 0 c') 0 [] ∧ TEl w' noT A' 0 ∧ Below W.heap.size W w' := by
  subst hn
  have hd : decT l = noT := by unfold decT; rw [hg]; rfl
  have he : decErr l = 50 := by unfold decErr; rw [hg]; rfl
  refine (tdecode_any A c l W h hb).mono ?_
  rw [hd, he]
  rintro e w' ⟨A', c', rfl, ho, hb⟩
  exact ⟨A', c', rfl, ho.own, ho.el (by unfold noT; simp), hb⟩
theorem snd_is {l : List UInt8} {n : Nat} {b : Bool} (hs : soundB l = b) (hn : l.length = n) (hb : n ≤ 140737488355000) (A : Option Addr) (c : Nat) (W : World) (h : Reads W W.heap.size 1 A n (l.map bv)) :
    Calls Try.prog 17 #[.slice A n c] W fun e w' => e = .returned (.bool b) ∧ Below W.heap.size W w' := by
  subst hn hs
  exact tsound_any A c l W h hb
theorem same_is {t u : TV} {b : Bool} (hs : sameT t u = b) (A B : Option Addr) (n m c d : Nat) (w : World) (ha : TEl w t A n) (hb : TEl w u B m) :
    Calls Try.prog 14 #[tv t A n c, tv u B m d] w fun e w' => e = .returned (.bool b) ∧ Below w.heap.size w w' := by
  subst hs
  exact r5same_any t u A B n m c d w ha hb
theorem sameT_refl (t : TV) : sameT t t = true := (sameT_iff t t).2 rfl

end Go.Proofs.Ytpededkfgjmhcaa.tile

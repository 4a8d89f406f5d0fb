/-
  The disk of layer 3: Down, Write.
-/
import Derived.Test.YtomimkackekjkaaKDiskD
namespace Go.Proofs.Ytomimkackekjkaa
open Go.RowKit Go.Maps Go.MapKept Go.ChangeMaps

def downK (s : RSt) (c : DCrash) : RSt := if s.down then s else fellK s c
def takenK (s : RSt) (a : Int) (l : List UInt8) : RSt := { s with cache := s.cache.set a.toNat l, many := s.many + 1 }
def writeErr (s : RSt) (a : Int) (l : List UInt8) : Int := if s.down then 31 else if takes3 s a l.length then (if s.write = 1 then 31 else 0) else 30
/-- What Write leaves. -/
def writeK (s : RSt) (a : Int) (l : List UInt8) : RSt := if s.down then s else if takes3 s a l.length then (if s.write = 0 then takenK s a l else if s.write = 1 then fellK { takenK s a l with write := 0 } ⟨0, s.keep, s.torn, s.at_⟩ else { takenK s a l with write := s.write - 1 }) else s

/-- A call that answers an error, and leaves the disk in state s'. -/
def Turned (d : DAt) (kv : Value) (s' : RSt) (err : Int) (w : World) (e : Ending) (w' : World) : Prop := ∃ kv', e = .returned (.int .i64 err) ∧ DK w' d kv' s' ∧ (kv' = kv ∨ kv' = .slice none 0 0) ∧ Keep d.foot w w'

section
variable {w : World} {d : DAt} {kv : Value} {s : RSt}

set_option maxRecDepth 100000 in
set_option maxHeartbeats 2000000 in
theorem ddown_any (c : DCrash) (KA : Option Addr) (Kc : Nat) (h : DK w d kv s) (hk : Sl w w.heap.size KA Kc (c.keep.map iv)) :
    Calls Try.prog 16 #[.pointer (some ⟨d.b, 0, none⟩), .agg #[.int .i64 c.write, .slice KA c.keep.length Kc, .int .i64 c.torn, .int .i64 c.at_]] w (Turned d kv (downK s c) (if s.down then 31 else 0) w) := by
  obtain ⟨X, hX⟩ : ∃ X, (#[.int .i64 c.write, .slice KA c.keep.length Kc, .int .i64 c.torn, .int .i64 c.at_] : Array Value) = X := ⟨_, rfl⟩
  obtain ⟨W1, hW1⟩ : ∃ W1, w.alloc (.cells X 36) = W1 := ⟨_, rfl⟩
  have hB1 : Below w.heap.size w W1 := by rw [← hW1]; exact (Below.refl _ w).alloc (Nat.le_refl _) _
  have h1 : DK W1 d kv s := h.below hB1
  have hN1 : Blk W1 w.heap.size 36 X := by rw [← hW1]; exact Blk.new w _ _
  have hk1 : Sl W1 W1.heap.size KA Kc (c.keep.map iv) := (hk.below hB1).more hB1.size
  have HU := Lib.hid (dusable_any h1)
  have hfl := dfall_any c KA Kc h1 hk1
  have hXi : (Try.prog.info? 36).map (·.size) = some X.size := by rw [← hX]; kernel_rfl
  rw [hX] at hfl ⊢
  have HFL := Lib.hid hfl
  have HXI := Lib.hid hXi
  have HN1 := Lib.hid (show W1.heap[w.heap.size]? = some (.cells X 36 (0, 0)) from hN1)
  have HB1 := Lib.hid hB1
  have H1 := Lib.hid h1
  cases hd : s.down
  · have HS : Hid (downK s c = fellK s c) := Lib.hid (by unfold downK; rw [if_neg (by rw [hd]; decide)])
    rw [hd] at HU
    clear h h1 hk hk1 hfl hX hXi hN1 hB1 hd
    go_enter Try.func16, Try.ntmps16
    go_wp2_with (first
      | (go_at_call 35; refine HU.out.mono ?_; rintro e _ ⟨rfl, rfl⟩)
      | (with_reducible refine wpList_load_row rfl 36 (.tmp 3) rfl w.heap.size rfl 36 X (0, 0) _ HN1.out Try.underlying36 rfl HXI.out ?_)
      | (go_at_call 41; refine HFL.out.mono ?_; rintro e W2 ⟨rfl, hdk, hkp⟩; have HDK := Lib.hid hdk; have HKP := Lib.hid hkp; clear hdk hkp))
    go_ret
    exact ⟨_, rfl, by rw [HS.out]; exact HDK.out, .inr rfl, (Keep.of_below HB1.out).trans HKP.out (fun _ _ e => e)⟩
  · have HS : Hid (downK s c = s) := Lib.hid (by unfold downK; rw [if_pos hd])
    rw [hd] at HU
    clear h h1 hk hk1 hfl hX hXi hN1 hB1 hd HFL
    go_enter Try.func16, Try.ntmps16
    go_wp2_with (go_at_call 35; refine HU.out.mono ?_; rintro e _ ⟨rfl, rfl⟩)
    go_ret
    exact ⟨_, rfl, by rw [HS.out]; exact H1.out, .inl rfl, Keep.of_below HB1.out⟩

theorem ddown_dead (p : Option Addr) (v : Value) (w : World) (h : Dead w p) (hv : ∃ a b c d, v = .agg #[a, b, c, d]) : Calls Try.prog 16 #[.pointer p, v] w fun e w' => e = .returned (.int .i64 1) ∧ Below w.heap.size w w' := by
  obtain ⟨a, b, c, d, rfl⟩ := hv
  have HV := Lib.hid (dusable_dead p _ (h.below ((Below.refl _ w).alloc (Nat.le_refl _) (.cells #[a, b, c, d] 36))))
  clear h
  go_enter Try.func16, Try.ntmps16
  go_wp2_with (go_at_call 35; refine HV.out.mono ?_; rintro e _ ⟨rfl, rfl⟩)
  go_ret
  exact ⟨rfl, (Below.refl _ w).alloc (Nat.le_refl _) _⟩

theorem ddue_any (h : DK w d kv s) : Calls Try.prog 40 #[.pointer (some ⟨d.b, 0, none⟩)] w fun e w' => e = .returned (.bool (decide (s.write = 1))) ∧ DK w' d kv { s with write := if s.write = 0 then 0 else s.write - 1 } ∧ Keep (fun k => k = d.b) w w' := by
  have c5 : w.cell? ⟨d.b, 5, none⟩ = some (.int .i64 s.write) := h.blk.cell 5
  have f5 := h.blk.frozen 5
  obtain ⟨w0, w1⟩ := h.more.write
  have hk5 : Keep (fun k => k = d.b) w (w.setCell ⟨d.b, 5, none⟩ (.int .i64 (s.write - 1))) := (Keep.refl _ _).setCell _ _ (fun _ => rfl)
  have hb5 := h.blk.set_ 5 (.int .i64 (s.write - 1))
  by_cases hz : s.write = 0
  · have hs : { s with write := if s.write = 0 then 0 else s.write - 1 } = s := by rw [if_pos hz, ← hz]
    rw [hs, decide_eq_false (by rw [hz]; decide)]
    rw [hz] at c5
    have H := Lib.hid h
    clear h hs hz hk5 hb5 w0 w1
    go_enter Try.func40, Try.ntmps40
    go_wp2
    go_ret
    exact ⟨rfl, H.out, Keep.refl _ _⟩
  · have hne : (s.write == 0) = false := by rw [beq_eq_false_iff_ne]; exact hz
    rw [if_neg hz]
    have HF := Lib.hid (And.intro (h.self (s' := { s with write := s.write - 1 }) hk5 rfl rfl ⟨h.more.many, ⟨show 0 ≤ s.write - 1 by omega, show s.write - 1 ≤ 9223372036854775807 by omega⟩, h.more.torn, h.more.at_, h.more.keep⟩ hb5 (h.kHead.keep hk5 (fun k e => by subst e; exact (h.foot_typ _ (.inl rfl)).1))) hk5)
    generalize hwr : s.write = W at *
    clear hwr
    by_cases h1 : W = 1
    · subst h1
      clear h hz hk5 hb5 w0 w1
      rw [show (1 : Int) - 1 = 0 from rfl] at HF
      go_enter Try.func40, Try.ntmps40
      go_wp2
      go_ret
      exact ⟨rfl, HF.out.1, HF.out.2⟩
    · have hne1 : (W - 1 == 0) = false := by rw [beq_eq_false_iff_ne]; omega
      rw [decide_eq_false h1]
      have hp : 1 < W := by omega
      clear h hz hk5 hb5 h1
      go_enter Try.func40, Try.ntmps40
      go_wp2
      go_ret
      exact ⟨rfl, HF.out.1, HF.out.2⟩
end

end Go.Proofs.Ytomimkackekjkaa

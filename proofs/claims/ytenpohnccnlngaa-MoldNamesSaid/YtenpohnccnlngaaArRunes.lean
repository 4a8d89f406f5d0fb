/-
  Layer 11 (array): Chars: a text's characters.
-/
import Derived.Test.YtenpohnccnlngaaArCol
import Derived.Lib.OthersKept
import Derived.Laws.RangeAny
import Derived.BigQuiet
import Derived.WalkSpells
import Derived.Deep.LoopGhost
import Derived.Deep.QuietTactic
namespace Go.Proofs.Ytenpohnccnlngaa.arr
open Go.RowKit

theorem arwidth (s : ByteArray) (pos : Nat) : 1 ≤ (Utf8.decode s pos).2 := by
  unfold Utf8.decode
  simp only
  repeat' split
  all_goals simp
/-- The characters from a place on. -/
def rn (s : ByteArray) : Nat → Nat → List Int
  | 0, _ => []
  | f + 1, pos => if pos < s.size then ((Utf8.decode s pos).1 : Int) :: rn s f (pos + (Utf8.decode s pos).2) else []
theorem rn_end {s : ByteArray} {pos : Nat} (h : ¬ pos < s.size) : ∀ f, rn s f pos = []
  | 0 => rfl
  | _ + 1 => if_neg h
theorem rn_next {s : ByteArray} {pos : Nat} (h : pos < s.size) (f : Nat) : rn s (f + 1) pos = ((Utf8.decode s pos).1 : Int) :: rn s f (pos + (Utf8.decode s pos).2) := if_pos h
theorem ariter_pos {w : World} {k : Nat} {s : ByteArray} {p : Nat} (h : w.heap[k]? = some (.stringIter s p)) : w.iterPos k = p := by simp [World.iterPos, h]
theorem arown_iter {w : World} {base : Nat} {e : TypeId} {size : Nat} {v : Value} {n : Nat} {xs : List Value} (h : w.ownsRow base e size v n xs) {k : Nat} (hk : k < base) (s : ByteArray) (p : Nat) : (w.iterAt k s p).ownsRow base e size v n xs := by
  obtain ⟨h1, h2⟩ := h
  refine ⟨h1, ?_⟩
  rcases h2 with h2 | ⟨g, cap, cur, a, b, c, d⟩
  · exact .inl h2
  · exact .inr ⟨g, cap, cur, a, b, by rw [Lib.iterAt_other _ _ _ _ _ (by omega)]; exact c, d⟩
/-- What stands while Chars works: its result's cell, the iterator, and the characters so far. -/
structure Rn (w : World) (s : ByteArray) (v : Value) (pos : Nat) (acc : List Int) (W : World) : Prop where
  hz : Blk W w.heap.size 25 #[.int .i64 0, .slice none 0 0, .slice none 0 0]
  it : W.heap[w.heap.size + 1]? = some (.stringIter s pos)
  o : W.ownsRow (w.heap.size + 2) 2 1 v acc.length (acc.map iv)
  b : Below w.heap.size w W
theorem Rn.iter {w W : World} {s : ByteArray} {v : Value} {pos : Nat} {acc : List Int} (h : Rn w s v pos acc W) (p : Nat) : Rn w s v p acc (W.iterAt (w.heap.size + 1) s p) :=
  ⟨by unfold Blk; rw [Lib.iterAt_other _ _ _ _ _ (by omega)]; exact h.hz, Lib.iterAt_heap _ _ _ _ _ h.it, arown_iter h.o (by omega) _ _, Lib.below_iterAt h.b (by omega) _ _⟩

set_option maxRecDepth 100000 in
set_option maxHeartbeats 4000000 in
theorem arrunes_any (s : ByteArray) (w : World) (hs : s.size ≤ 100000) :
    Calls Try.prog 17 #[.string s] w fun e w' => ∃ v, e = .returned v ∧ GiveA w w' v ⟨2, [((rn s s.size 0).length : Int)], rn s s.size 0⟩ := by
  obtain ⟨i0, hi, hz0, hz1, hz2⟩ := info_parts arInfoI64
  have hz := Blk.new w 25 #[.int .i64 0, .slice none 0 0, .slice none 0 0]
  have hb := (Below.refl w.heap.size w).alloc (Nat.le_refl _) (.cells #[.int .i64 0, .slice none 0 0, .slice none 0 0] 25)
  obtain ⟨w1, hw1⟩ : ∃ w1, w.alloc (.cells #[.int .i64 0, .slice none 0 0, .slice none 0 0] 25) = w1 := ⟨_, rfl⟩
  rw [hw1] at hz hb
  have hs1 : w1.heap.size = w.heap.size + 1 := by rw [← hw1]; simp
  have hst : Rn w s (.slice none 0 0) 0 [] (w1.iter s 0) := ⟨hz.alloc _, by rw [← hs1]; exact World.iter_heap w1 s 0, World.ownsRow_nil _ _ _ _, hb.alloc hb.size _⟩
  have HST := Lib.hid hst
  clear hst hz hb
  go_enter Try.func17, Try.ntmps17
  go_wp2
  go_loopw [3] (fun v wr => ∃ (pos fuel : Nat) (acc : List Int) (A : Option Addr) (c : Nat), v = .slice A acc.length c ∧ Rn w s v pos acc wr ∧ Hid (acc ++ rn s fuel pos = rn s s.size 0) ∧ s.size ≤ pos + fuel ∧ acc.length ≤ pos) (fun _ wr => s.size - wr.iterPos (w.heap.size + 1))
  case atStart => exact ⟨0, s.size, [], none, 0, rfl, HST.out, Lib.hid rfl, by omega, Nat.le_refl _⟩
  case round =>
    obtain ⟨pos, fuel, acc, A, c, rfl, hr, HS, hb, hlen⟩ := hrel
    have hpos0 := ariter_pos hr.it
    by_cases hp : pos < s.size
    · have hnx : ∀ ty, (Instr.next (.pointer (some ⟨w.heap.size + 1, 0, none⟩)) true ty).run Try.prog wr = _ := fun ty => Lib.run_next_any_at wr (w.heap.size + 1) s pos ty hr.it hp
      have hwd := arwidth s pos
      have hle := decode_le s pos
      obtain ⟨fuel, rfl⟩ : ∃ f', fuel = f' + 1 := ⟨fuel - 1, by omega⟩
      have hr2 := hr.iter (pos + (Utf8.decode s pos).2)
      have HX := HS.out
      rw [rn_next hp] at HX
      obtain ⟨W1, hW1⟩ : ∃ W1, W1 = wr.iterAt (w.heap.size + 1) s (pos + (Utf8.decode s pos).2) := ⟨_, rfl⟩
      rw [← hW1] at hnx hr2
      generalize hR : (Utf8.decode s pos).1 = R at *
      generalize hQ : (Utf8.decode s pos).2 = Q at *
      have hcv : IntKind.i64.wrap (R : Int) = (R : Int) := by rw [IntKind.wrap_i64]; omega
      have hnew : ∀ k u, [Value.int .i64 (R : Int)][k]? = some u → (W1.alloc (.cells #[.int .i64 (R : Int)] 2)).cell? ((⟨W1.heap.size, 0, none⟩ : Addr).add k) = some u := fun k u hu => by
        rw [Addr.add_mid, Nat.zero_add, (Blk.new W1 2 _).cell k, List.getElem?_toArray]
        exact hu
      have HNEW := Lib.hid hnew
      have HR2 := Lib.hid hr2
      have HPX := Lib.hid HX
      have HP0 := Lib.hid hpos0
      have HLB : Hid (1 ≤ Q ∧ s.size ≤ pos + (fuel + 1) ∧ acc.length ≤ pos ∧ pos < s.size) := Lib.hid ⟨hwd, hb, hlen, hp⟩
      have hacc : acc.length ≤ 100000 := by omega
      clear hW1 hr hr2 HX hnew hpos0 HS hwd hle hb hlen
      go_wp2_with (first
        | (at_builtin; refine wpList_append_own _ rfl _ _ 23 rfl (w.heap.size + 2) 2 i0 (.int .i64 0) 1 8 Try.underlying23 hi hz0 hz1 hz2 rfl (by decide) _ acc.length _ rfl (arown_stay HR2.out.o ((Below.refl _ W1).alloc (Nat.le_refl _) _) (fun g hg => (arown_lt HR2.out.o g hg).2)) ⟨W1.heap.size, 0, none⟩ 1 1 [.int .i64 (R : Int)] rfl rfl (HNEW.out) (by intro u hu; rw [List.mem_singleton] at hu; subst hu; rfl) (by unfold maxLen; omega) (by omega) (by have h2 := HR2.out.it; have h3 := (Array.getElem?_eq_some_iff.1 h2).1; simp; omega) ?_; intro v3 w3 hown hgrow _
           have hlt1 := (Array.getElem?_eq_some_iff.1 HR2.out.it).1
           have hba : Below W1.heap.size W1 (W1.alloc (.cells #[.int .i64 (R : Int)] 2)) := (Below.refl _ W1).alloc (Nat.le_refl _) _
           have hb3 : Below (w.heap.size + 2) W1 w3 := (hba.mono (by omega)).grown hgrow (by simp; omega) (fun g e => (arown_lt HR2.out.o g e).1)
           have hb4 : Below w.heap.size w w3 := (HR2.out.b.alloc HR2.out.b.size _).grown hgrow (by have := HR2.out.b.size; simp; omega) (fun g e => by have := (arown_lt HR2.out.o g e).1; omega)
           have hr3 : Rn w s v3 (pos + Q) (acc ++ [(R : Int)]) w3 := ⟨HR2.out.hz.below hb3 (by omega), (hb3.block _ (by omega)).trans HR2.out.it, by rw [List.length_append, List.map_append]; exact hown, hb4⟩
           have HR3 := Lib.hid hr3
           clear hown hgrow hba hb3 hb4 hr3))
      obtain ⟨A3, c3, rfl⟩ : ∃ A3 c3, v3 = .slice A3 (acc ++ [(R : Int)]).length c3 := by
        rcases HR3.out.o.2 with ⟨_, h0⟩ | ⟨g, cap, cur, e, _⟩
        · simp at h0
        · exact ⟨_, cap, e⟩
      refine ⟨⟨pos + Q, fuel, acc ++ [(R : Int)], A3, c3, rfl, HR3.out, Lib.hid (by rw [List.append_assoc]; exact HPX.out), by have := HLB.out; omega, by have := HLB.out; simp; omega⟩, ?_⟩
      rw [ariter_pos HR3.out.it, HP0.out]
      have := HLB.out
      omega
    · have hnx : ∀ ty, (Instr.next (.pointer (some ⟨w.heap.size + 1, 0, none⟩)) true ty).run Try.prog wr = _ := fun ty => Lib.run_next_end_at wr (w.heap.size + 1) s pos ty hr.it hp
      have hX := HS.out
      rw [rn_end hp, List.append_nil] at hX
      have HXX := Lib.hid hX
      have hz2 := hr.hz.alloc (.cells #[.int .i64 (acc.length : Int)] 3)
      have x0 := hz2.cell 0
      have x1 := hz2.cell 1
      have x2 := hz2.cell 2
      have f0 := hz2.frozen 0
      have f1 := hz2.frozen 1
      have f2 := hz2.frozen 2
      have HR := Lib.hid hr
      have HZ := Lib.hid hz2
      clear hr HS hX hpos0 HST hz2
      go_wp2
      have hlt1 := (Array.getElem?_eq_some_iff.1 HR.out.it).1
      have ho := arown_lit (t := 3) wr w.heap.size (by omega) (.int .i64 (acc.length : Int))
      have hb2 := HR.out.b.alloc HR.out.b.size (.cells #[.int .i64 (acc.length : Int)] 3)
      have hba : Below wr.heap.size wr (wr.alloc (.cells #[.int .i64 (acc.length : Int)] 3)) := (Below.refl _ wr).alloc (Nat.le_refl _) _
      have ho2 := arown_stay HR.out.o hba (fun g hg => (arown_lt HR.out.o g hg).2)
      refine bodyPost_ret (results_arr rfl rfl (arblk_three _ _ _ HZ.out)) rfl ?_
      rw [← HXX.out]
      refine ⟨_, rfl, ⟨some ⟨wr.heap.size, 0, none⟩, 1, A, c⟩, rfl, ⟨?_, ?_⟩, ?_⟩
      · exact (arkeep_three _ w.heap.size _ _ _).own ho (fun g hg e => by simp [Value.ownBlock] at hg; omega)
      · exact arown_mono ((arkeep_three _ w.heap.size _ _ _).own ho2 (fun g hg e => by have := (arown_lt HR.out.o g hg).1; omega)) (by omega)
      · exact hb2.trans ((arkeep_three _ w.heap.size _ _ _).below hb2.size (fun i hi e => by omega))
end Go.Proofs.Ytenpohnccnlngaa.arr

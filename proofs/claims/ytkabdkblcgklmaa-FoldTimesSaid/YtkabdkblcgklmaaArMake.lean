/-
  Layer 11 (array): Make: what a function makes of the positions.
-/
import Derived.Test.YtkabdkblcgklmaaArCopy
import Derived.Test.YtkabdkblcgklmaaArCol
import Derived.Deep.DeepCutAuto
namespace Go.Proofs.Ytkabdkblcgklmaa.arr
open Go.RowKit

def makeA (k : Int) (l : List Int) (f : Int → Int) : AV := ⟨k, l, fL f (prodI l).toNat⟩
def noA : AV := ⟨0, [], []⟩
/-- What Make answers. -/
def MakeA (k : Int) (l : List Int) (f : Int → Int) (w : World) (e : Ending) (w' : World) : Prop :=
  ∃ v, e = .returned (.tuple #[v, .int .i64 (checkE (makeA k l f))]) ∧ GiveA w w' v (if okA (makeA k l f) = true then makeA k l f else noA)
theorem noA_own (B : Nat) (W : World) : AOwn B W noA ⟨none, 0, none, 0⟩ := ⟨World.ownsRow_nil _ _ _ _, World.ownsRow_nil _ _ _ _⟩
theorem MakeA.no {k : Int} {l : List Int} {f : Int → Int} {w w' : World} (h : okA (makeA k l f) = false) (hb : Below w.heap.size w w') : MakeA k l f w (.returned (.tuple #[.agg #[.int .i64 0, .slice none 0 0, .slice none 0 0], .int .i64 110])) w' := by
  unfold MakeA checkE
  rw [h]
  exact ⟨_, rfl, ⟨none, 0, none, 0⟩, rfl, noA_own _ _, hb⟩

/-- What stands while Make works: its result's cell at z, the array at g. -/
structure Mk (w : World) (g : Nat) (k : Int) (l : List Int) (A : Option Addr) (c : Nat) (e : Value) (W : World) : Prop where
  hz : Blk W w.heap.size 25 #[.int .i64 0, .slice none 0 0, .slice none 0 0]
  hg : Blk W g 25 #[.int .i64 k, .slice A l.length c, e]
  o0 : W.ownsRow (w.heap.size + 1) 3 1 (.slice A l.length c) l.length (l.map iv)
  lt : ∀ b, (Value.slice A l.length c).ownBlock = some b → b < g
  zg : w.heap.size < g
  b : Below w.heap.size w W
theorem Mk.below {w W W' : World} {g : Nat} {k : Int} {l : List Int} {A : Option Addr} {c : Nat} {e : Value} (h : Mk w g k l A c e W) (hb : Below W.heap.size W W') : Mk w g k l A c e W' :=
  ⟨h.hz.below hb h.hz.lt, h.hg.below hb h.hg.lt, arown_stay h.o0 hb (fun g hg => (arown_lt h.o0 g hg).2), h.lt, h.zg, h.b.trans (hb.mono h.b.size)⟩
theorem Mk.set {w W : World} {g : Nat} {k : Int} {l : List Int} {A : Option Addr} {c : Nat} {e : Value} (h : Mk w g k l A c e W) (v : Value) : Mk w g k l A c v (W.setCell ⟨g, 2, none⟩ v) := by
  have hk : Keep (fun i => i = g) W (W.setCell ⟨g, 2, none⟩ v) := (Keep.refl _ _).setCell _ _ (fun _ => rfl)
  exact ⟨hk.blk h.hz (by have := h.zg; omega), h.hg.set_ 2 v, hk.own h.o0 (fun b hb e => by have := h.lt b hb; omega), h.lt, h.zg, h.b.trans (hk.below h.b.size (fun i hi e => by have := h.zg; omega))⟩
theorem Mk.start {w w2 : World} {k : Int} {l : List Int} {A : Option Addr} {c : Nat} (o : w2.ownsRow (w.alloc (.cells #[.int .i64 0, .slice none 0 0, .slice none 0 0] 25)).heap.size 3 1 (.slice A l.length c) l.length (l.map iv)) (b : Below (w.alloc (.cells #[.int .i64 0, .slice none 0 0, .slice none 0 0] 25)).heap.size (w.alloc (.cells #[.int .i64 0, .slice none 0 0, .slice none 0 0] 25)) w2) :
    Mk w w2.heap.size k l A c (.slice none 0 0) (w2.alloc (.cells #[.int .i64 k, .slice A l.length c, .slice none 0 0] 25)) := by
  have hb := (Below.refl w.heap.size w).alloc (Nat.le_refl _) (.cells #[.int .i64 0, .slice none 0 0, .slice none 0 0] 25)
  have hz := Blk.new w 25 #[.int .i64 0, .slice none 0 0, .slice none 0 0]
  have hs := b.size
  have hz2 := hz.below b hz.lt
  rw [World.size_alloc] at o hs
  have hb2 := hb.trans (b.mono hb.size)
  exact ⟨hz2.alloc _, Blk.new _ _ _, arown_stay o ((Below.refl _ _).alloc (Nat.le_refl _) _) (fun g hg => (arown_lt o g hg).2), fun g hg => (arown_lt o g hg).2, by omega, hb2.alloc hb2.size _⟩

set_option maxRecDepth 100000 in
set_option maxHeartbeats 4000000 in
theorem armake_any (k : Int) (A : Option Addr) (n c : Nat) (l : List Int) (gf : Nat) (cap : Array Value) (hgf : ∀ args w, (callFunc gf args).run Try.prog w = .ok (.enter gf args) w) (f : Int → Int) (w : World)
    (hl : l.length = n) (ha : Reads w w.heap.size 1 A n (l.map iv)) (hn : n ≤ 9223372036854775807) (hf : ∀ z, -9223372036854775808 ≤ f z ∧ f z ≤ 9223372036854775807)
    (hcall : ∀ (i : Nat) (W : World), Below w.heap.size w W → Calls Try.prog gf (#[.int .i64 (i : Int)] ++ cap) W fun e w' => e = .returned (.int .i64 (f (i : Int))) ∧ W = w') :
    Calls Try.prog 60 #[.int .i64 k, .slice A n c, .func (.func gf) #[] cap] w (MakeA k l f w) := by
  have hb1 := (Below.refl w.heap.size w).alloc (Nat.le_refl _) (.cells #[.int .i64 0, .slice none 0 0, .slice none 0 0] 25)
  have hz1 := Blk.new w 25 #[.int .i64 0, .slice none 0 0, .slice none 0 0]
  have HC := Lib.hid (arcount_any A c n l _ hl ((ha.below hb1).more hb1.size) hn)
  cases hok : okShape l
  · obtain ⟨e1, e2⟩ := cnt_no hok
    rw [e1, e2] at HC
    have hno : okA (makeA k l f) = false := by unfold okA makeA; simp [hok]
    have x0 := hz1.cell 0
    have x1 := hz1.cell 1
    have x2 := hz1.cell 2
    have f0 := hz1.frozen 0
    have f1 := hz1.frozen 1
    have f2 := hz1.frozen 2
    have HZ := Lib.hid hz1
    have HNO := Lib.hid hno
    have HB1 := Lib.hid hb1
    clear ha hcall hok hno e1 e2 hz1 hb1
    go_enter Try.func60, Try.ntmps60
    go_wp2_with (go_at_call 63; refine HC.out.mono ?_; rintro e _ ⟨rfl, rfl⟩)
    refine bodyPost_ret (results_arr2 rfl rfl rfl HZ.out) rfl ?_
    exact MakeA.no HNO.out HB1.out
  · obtain ⟨e1, e2⟩ := cnt_ok hok
    rw [e1, e2] at HC
    subst hl
    obtain ⟨p0, p1⟩ := prodI_four (l := l) (okShape_iff.1 hok).2.1 (okShape_iff.1 hok).1
    obtain ⟨P, hP⟩ := Int.eq_ofNat_of_zero_le p0
    have hP4 : P ≤ 4096 := by have := (okShape_iff.1 hok).2.2; omega
    have hm : makeA k l f = ⟨k, l, fL f P⟩ := by unfold makeA; rw [hP, Int.toNat_natCast]
    rw [hP] at HC
    have hM : MakeA k l f w = fun e w' => ∃ v, e = .returned (.tuple #[v, .int .i64 (checkE ⟨k, l, fL f P⟩)]) ∧ GiveA w w' v (if okA ⟨k, l, fL f P⟩ = true then ⟨k, l, fL f P⟩ else noA) := by
      funext e w'
      unfold MakeA
      rw [hm]
    rw [hM]
    have HCL := Lib.hid (arcloneI_any A l.length c l _ rfl ((ha.below hb1).more hb1.size) (by have := (okShape_iff.1 hok).1; omega))
    have HCO : Hid (∀ W, Below w.heap.size w W → Calls Try.prog 111 #[.int .i64 (P : Int), .func (.func gf) #[] cap] W fun e w' => ∃ A c, e = .returned (.slice A P c) ∧ w'.ownsRow W.heap.size 2 1 (.slice A P c) P ((fL f P).map iv) ∧ Below W.heap.size W w') := Lib.hid (fun W hb => arcollect_any gf cap hgf f P W (by omega) (fun i W' _ hb' => hcall i W' (hb.trans (hb'.mono hb.size))))
    have HCK : Hid (∀ (W : World) (A2 A4 : Option Addr) (c2 c4 : Nat), AEl W ⟨k, l, fL f P⟩ ⟨A2, c2, A4, c4⟩ → Calls Try.prog 21 #[.agg #[.int .i64 k, .slice A2 l.length c2, .slice A4 P c4]] W fun e w' => e = .returned (.int .i64 (checkE ⟨k, l, fL f P⟩)) ∧ Below W.heap.size W w') := Lib.hid (fun W A2 A4 c2 c4 h => by
      have := archeck_any _ _ W h
      unfold arC at this
      rw [fL_length] at this
      exact this)
    have HCE : Hid ((checkE ⟨k, l, fL f P⟩ = 0 ∧ okA ⟨k, l, fL f P⟩ = true) ∨ (checkE ⟨k, l, fL f P⟩ = 110 ∧ okA ⟨k, l, fL f P⟩ = false)) := Lib.hid (by unfold checkE; cases okA ⟨k, l, fL f P⟩ <;> simp)
    have HB1 := Lib.hid hb1
    have HN : Hid (l.length ≤ 4 ∧ P ≤ 4096 ∧ ∀ z ∈ fL f P, -9223372036854775808 ≤ z ∧ z ≤ 9223372036854775807) := Lib.hid ⟨(okShape_iff.1 hok).1, hP4, fun z hz => by
      unfold fL at hz
      obtain ⟨i, _, rfl⟩ := List.mem_map.1 hz
      exact hf _⟩
    clear ha hb1 hz1 e1 e2 hcall p0 p1 hP hP4 hm hM hok hf
    go_enter Try.func60, Try.ntmps60
    go_upto_region 7 with (first
      | (go_at_call 63; refine HC.out.mono ?_; rintro e _ ⟨rfl, rfl⟩)
      | (go_at_call 82; refine HCL.out.mono ?_; rintro e w2 ⟨A2, c2, rfl, o2, b2⟩; have M3 := Lib.hid (Mk.start (k := k) o2 b2); clear o2 b2)
      | (go_at_call 111; refine (HCO.out _ M3.out.b).mono ?_; rintro e w4 ⟨A4, c4, rfl, o4, b4⟩
         have m4 := M3.out.below b4
         have M5 := Lib.hid (m4.set (.slice A4 P c4))
         have O5 := Lib.hid (((Keep.refl (fun i => i = w2.heap.size) w4).setCell ⟨w2.heap.size, 2, none⟩ (.slice A4 P c4) (fun _ => rfl)).own o4 (fun b hb e => by have := (arown_lt o4 b hb).1; simp at this; omega))
         have x0 := m4.hg.cell 0
         have x1 := m4.hg.cell 1
         have x2 := m4.hg.cell 2
         have f2 := m4.hg.frozen 2
         have y0 := M5.out.hg.cell 0
         have y1 := M5.out.hg.cell 1
         have y2 := M5.out.hg.cell 2
         clear o4 b4 m4)
      | (go_at_call 21; refine (HCK.out _ A2 A4 c2 c4 ⟨Reads.of_own M5.out.o0, by rw [fL_length]; exact Reads.of_own O5.out, by have := HN.out.1; show l.length ≤ _; omega, by have := HN.out.2.1; show (fL f P).length ≤ _; rw [fL_length]; omega, HN.out.2.2⟩).mono ?_; rintro e w6 ⟨rfl, b6⟩
         have m6 := M5.out.below b6
         have O6 := Lib.hid (arown_stay O5.out b6 (fun g hg => (arown_lt O5.out g hg).2))
         have u0 := m6.hg.cell 0
         have u1 := m6.hg.cell 1
         have u2 := m6.hg.cell 2
         have v0 := m6.hz.cell 0
         have v1 := m6.hz.cell 1
         have v2 := m6.hz.cell 2
         have k0 := m6.hz.frozen 0
         have k1 := m6.hz.frozen 1
         have k2 := m6.hz.frozen 2
         have M6 := Lib.hid m6
         clear m6 b6 x0 x1 x2 f2 y0 y1 y2))
    rcases HCE.out with ⟨c0, c1⟩ | ⟨c0, c1⟩
    · rw [c0]
      go_wp2
      refine bodyPost_ret (results_arr2 rfl rfl rfl (arblk_three _ _ _ M6.out.hz)) rfl ?_
      refine ⟨_, rfl, ?_⟩
      refine ⟨⟨A2, c2, A4, c4⟩, by unfold arC; rw [fL_length], ⟨?_, ?_⟩, M6.out.b.trans ((arkeep_three _ _ _ _ _).below M6.out.b.size (fun i hi e => by omega))⟩
      · exact arown_mono ((arkeep_three w6 w.heap.size _ _ _).own M6.out.o0 (fun b hb e => by have := (arown_lt M6.out.o0 b hb).1; omega)) (by omega)
      · show World.ownsRow _ w.heap.size 2 1 (.slice A4 (fL f P).length c4) (fL f P).length ((fL f P).map iv)
        rw [fL_length]
        have h3 := M3.out.hz.lt
        exact arown_mono ((arkeep_three w6 w.heap.size _ _ _).own O6.out (fun b hb e => by have := (arown_lt O6.out b hb).1; omega)) (by omega)
    · rw [c0]
      go_wp2
      all_goals (
        refine bodyPost_ret (results_arr2 rfl rfl rfl (arblk_three _ _ _ M6.out.hz)) rfl ?_
        refine ⟨_, rfl, ?_⟩
        exact ⟨⟨none, 0, none, 0⟩, rfl, noA_own _ _, M6.out.b.trans ((arkeep_three _ _ _ _ _).below M6.out.b.size (fun i hi e => by omega))⟩)
end Go.Proofs.Ytkabdkblcgklmaa.arr

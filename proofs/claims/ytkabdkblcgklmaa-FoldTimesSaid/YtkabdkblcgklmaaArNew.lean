/-
  Layer 11 (array): arrays that are made: clones, Scalar, Vector; an array as a result.
-/
import Derived.Test.YtkabdkblcgklmaaArTextW
import Derived.Test.YtkabdkblcgklmaaArRef
namespace Go.Proofs.Ytkabdkblcgklmaa.arr
open Go.RowKit

theorem arInfoI64 : (Try.prog.info? 2).map (fun i => (i.zero, i.size, i.bytes)) = some (some (.int .i64 0), 1, 8) := by kernel_rfl

set_option maxHeartbeats 1000000 in
theorem arcloneI_any (A : Option Addr) (n c : Nat) (l : List Int) (w : World) (hl : l.length = n) (hr : Reads w w.heap.size 1 A n (l.map iv)) (hn : n ≤ 1000000) :
    Calls Try.prog 82 #[.slice A n c] w fun e w' => ∃ A' c', e = .returned (.slice A' n c') ∧ w'.ownsRow w.heap.size 3 1 (.slice A' n c') n (l.map iv) ∧ Below w.heap.size w w' := by
  obtain ⟨i0, hi, hz0, hz1, hz2⟩ := info_parts arInfoInt
  have q : ∀ (w : World) (a : Option Addr) (n c n' c' : Nat), (binOp .eql 22 (.slice a n c) (.slice none n' c')).run Try.prog w = .ok (.bool a.isNone) w := fun w a n c n' c' => Lib.run_eql_slice_nil w _ _ a n c n' c' Try.underlying22
  have z5 : ∀ w, Sem.run Try.prog (Go.sizeOf 3) w = .ok 1 w := fun w => by simp [Go.sizeOf, typeInfo, hi, hz1]
  rcases A with _ | ad
  · have h0 : n = 0 := by
      rcases Nat.eq_zero_or_pos n with h0 | h0
      · exact h0
      · obtain ⟨ad, h, _⟩ := hr.2 h0
        cases h
    subst h0
    obtain rfl : l = [] := List.eq_nil_of_length_eq_zero hl
    clear hr
    go_enter Try.func82, Try.ntmps82
    go_wp2
    go_ret
    exact ⟨none, 0, rfl, World.ownsRow_nil _ _ _ _, Below.refl _ _⟩
  · go_enter Try.func82, Try.ntmps82
    go_wp2_with (at_builtin; refine wpList_append_any _ rfl _ _ 22 rfl w.heap.size 3 i0 (.int .i64 0) 1 8 Try.underlying22 hi hz0 hz1 hz2 rfl (by decide) _ _ _ rfl (World.ownsRow_made w #[] 0 (Nat.le_refl _) (Nat.zero_le _) rfl) w.heap.size (some ad) n c (l.map iv) rfl (hr.alloc (Nat.le_refl _) _) (iv_one l) (by unfold maxLen; omega) (by omega) (by simp) ?_)
    intro v' w1 hown hgrow hat
    have hB : Below w.heap.size w w1 := ((Below.refl _ w).alloc (Nat.le_refl _) _).grown hgrow (by simp) (by intro k hk; simp [Value.ownBlock] at hk; omega)
    have hO : w1.ownsRow w.heap.size 3 1 v' n (l.map iv) := by simpa using hown
    obtain ⟨A', c', rfl⟩ : ∃ A' c', v' = .slice A' n c' := by
      rcases hO.2 with ⟨rfl, h0⟩ | ⟨g, cap, cur, e, hb, _⟩
      · exact ⟨none, 0, by rw [h0]⟩
      · exact ⟨_, cap, e⟩
    have HB := Lib.hid hB
    have HO := Lib.hid hO
    clear hat hB hO hown hgrow hr
    go_wp2
    go_ret
    exact ⟨_, _, rfl, HO.out, HB.out⟩

set_option maxHeartbeats 1000000 in
theorem arcloneL_any (A : Option Addr) (n c : Nat) (l : List Int) (w : World) (hl : l.length = n) (hr : Reads w w.heap.size 1 A n (l.map iv)) (hn : n ≤ 1000000) :
    Calls Try.prog 69 #[.slice A n c] w fun e w' => ∃ A' c', e = .returned (.slice A' n c') ∧ w'.ownsRow w.heap.size 2 1 (.slice A' n c') n (l.map iv) ∧ Below w.heap.size w w' := by
  obtain ⟨i0, hi, hz0, hz1, hz2⟩ := info_parts arInfoI64
  have q : ∀ (w : World) (a : Option Addr) (n c n' c' : Nat), (binOp .eql 23 (.slice a n c) (.slice none n' c')).run Try.prog w = .ok (.bool a.isNone) w := fun w a n c n' c' => Lib.run_eql_slice_nil w _ _ a n c n' c' Try.underlying23
  have z5 : ∀ w, Sem.run Try.prog (Go.sizeOf 2) w = .ok 1 w := fun w => by simp [Go.sizeOf, typeInfo, hi, hz1]
  rcases A with _ | ad
  · have h0 : n = 0 := by
      rcases Nat.eq_zero_or_pos n with h0 | h0
      · exact h0
      · obtain ⟨ad, h, _⟩ := hr.2 h0
        cases h
    subst h0
    obtain rfl : l = [] := List.eq_nil_of_length_eq_zero hl
    clear hr
    go_enter Try.func69, Try.ntmps69
    go_wp2
    go_ret
    exact ⟨none, 0, rfl, World.ownsRow_nil _ _ _ _, Below.refl _ _⟩
  · go_enter Try.func69, Try.ntmps69
    go_wp2_with (at_builtin; refine wpList_append_any _ rfl _ _ 23 rfl w.heap.size 2 i0 (.int .i64 0) 1 8 Try.underlying23 hi hz0 hz1 hz2 rfl (by decide) _ _ _ rfl (World.ownsRow_made w #[] 0 (Nat.le_refl _) (Nat.zero_le _) rfl) w.heap.size (some ad) n c (l.map iv) rfl (hr.alloc (Nat.le_refl _) _) (iv_one l) (by unfold maxLen; omega) (by omega) (by simp) ?_)
    intro v' w1 hown hgrow hat
    have hB : Below w.heap.size w w1 := ((Below.refl _ w).alloc (Nat.le_refl _) _).grown hgrow (by simp) (by intro k hk; simp [Value.ownBlock] at hk; omega)
    have hO : w1.ownsRow w.heap.size 2 1 v' n (l.map iv) := by simpa using hown
    obtain ⟨A', c', rfl⟩ : ∃ A' c', v' = .slice A' n c' := by
      rcases hO.2 with ⟨rfl, h0⟩ | ⟨g, cap, cur, e, hb, _⟩
      · exact ⟨none, 0, by rw [h0]⟩
      · exact ⟨_, cap, e⟩
    have HB := Lib.hid hB
    have HO := Lib.hid hO
    clear hat hB hO hown hgrow hr
    go_wp2
    go_ret
    exact ⟨_, _, rfl, HO.out, HB.out⟩


/-! ### An array as a result -/
theorem load_arr (w : World) (g : Nat) (x y z : Value) (hb : Blk w g 25 #[x, y, z]) : (loadVar 25 ⟨g, 0, none⟩).run Try.prog w = .ok (.agg #[x, y, z]) w := by
  have h1 : w.rangeAt g 0 [x, y, z] := fun j v hv => by
    rw [Nat.zero_add, hb.cell]
    simpa using hv
  exact run_loadVar_mid w g 0 25 [x, y, z] _ h1 Try.underlying25 rfl (by kernel_rfl)
theorem results_arr {fn : Func} {t : Tmp} {tmps : Array Value} {w : World} {g : Nat} {x y z : Value} (h : fn.results = #[.cell t 25]) (ht : tmps.getD t undef = .pointer (some ⟨g, 0, none⟩)) (hb : Blk w g 25 #[x, y, z]) : (results fn tmps).run Try.prog w = .ok (.agg #[x, y, z]) w := by
  have h1 := load_arr w g x y z hb
  rw [Array.getD_eq_getD_getElem?] at ht
  simp [results, h, ht, h1, asAddr]
theorem results_arr2 {fn : Func} {t i : Tmp} {tmps : Array Value} {w : World} {g : Nat} {x y z v : Value} (h : fn.results = #[.cell t 25, .tmp i]) (ht : tmps.getD t undef = .pointer (some ⟨g, 0, none⟩)) (hv : tmps.getD i undef = v) (hb : Blk w g 25 #[x, y, z]) : (results fn tmps).run Try.prog w = .ok (.tuple #[.agg #[x, y, z], v]) w := by
  have h1 := load_arr w g x y z hb
  rw [Array.getD_eq_getD_getElem?] at ht hv
  simp [results, h, ht, h1, hv, asAddr]
theorem arkeep_three (W : World) (g : Nat) (x y z : Value) : Keep (fun k => k = g) W (((W.setCell ⟨g, 0, none⟩ x).setCell ⟨g, 1, none⟩ y).setCell ⟨g, 2, none⟩ z) := by
  have h1 : Keep (fun k => k = g) W (W.setCell ⟨g, 0, none⟩ x) := (Keep.refl _ _).setCell _ _ (fun _ => rfl)
  exact (h1.setCell _ _ (fun _ => rfl)).setCell _ _ (fun _ => rfl)
theorem arblk_three {W : World} {g : Nat} {t : TypeId} {a b c : Value} (x y z : Value) (h : Blk W g t #[a, b, c]) : Blk (((W.setCell ⟨g, 0, none⟩ x).setCell ⟨g, 1, none⟩ y).setCell ⟨g, 2, none⟩ z) g t #[x, y, z] :=
  ((h.set_ 0 x).set_ 1 y).set_ 2 z

/-- v is an array as a value, its lists the call's own; what lay there lies. -/
structure AOwn (B : Nat) (w' : World) (a : AV) (p : AP) : Prop where
  o0 : w'.ownsRow B 3 1 (.slice p.A0 a.sh.length p.c0) a.sh.length (a.sh.map iv)
  o1 : w'.ownsRow B 2 1 (.slice p.A1 a.el.length p.c1) a.el.length (a.el.map iv)
def GiveA (w w' : World) (v : Value) (a : AV) : Prop := ∃ p : AP, v = .agg (arC a p) ∧ AOwn w.heap.size w' a p ∧ Below w.heap.size w w'
theorem AOwn.el {B : Nat} {w' : World} {a : AV} {p : AP} (h : AOwn B w' a p) (b0 : a.sh.length ≤ 9223372036854775807) (b1 : a.el.length ≤ 9223372036854775807) (f1 : ∀ z ∈ a.el, -9223372036854775808 ≤ z ∧ z ≤ 9223372036854775807) : AEl w' a p :=
  ⟨Reads.of_own h.o0, Reads.of_own h.o1, b0, b1, f1⟩
theorem AOwn.stay {B C : Nat} {w w' : World} {a : AV} {p : AP} (h : AOwn B w a p) (hb : Below C w w') (hC : w.heap.size ≤ C) : AOwn B w' a p :=
  ⟨arown_stay h.o0 hb (fun g hg => Nat.lt_of_lt_of_le (arown_lt h.o0 g hg).2 hC), arown_stay h.o1 hb (fun g hg => Nat.lt_of_lt_of_le (arown_lt h.o1 g hg).2 hC)⟩
theorem AOwn.keep {B : Nat} {S : Nat → Prop} {w w' : World} {a : AV} {p : AP} (h : AOwn B w a p) (hk : Keep S w w') (hS : ∀ k, B ≤ k → k < w.heap.size → (∃ t cs, Blk w k t cs ∧ (t = 3 ∨ t = 2)) → ¬ S k) : AOwn B w' a p := by
  have typ : ∀ {t n v xs}, w.ownsRow B t 1 v n xs → ∀ g, v.ownBlock = some g → ∃ cs, Blk w g t cs := fun {t n v xs} ho g hg => by
    rcases ho.2 with ⟨rfl, _⟩ | ⟨g', cap, cur, rfl, h0, hh, _⟩
    · simp [Value.ownBlock] at hg
    · simp [Value.ownBlock] at hg
      subst hg
      exact ⟨cur, hh⟩
  refine ⟨hk.own h.o0 (fun g hg => ?_), hk.own h.o1 (fun g hg => ?_)⟩
  · obtain ⟨cs, hb⟩ := typ h.o0 g hg
    exact hS g (arown_lt h.o0 g hg).1 hb.lt ⟨_, cs, hb, .inl rfl⟩
  · obtain ⟨cs, hb⟩ := typ h.o1 g hg
    exact hS g (arown_lt h.o1 g hg).1 hb.lt ⟨_, cs, hb, .inr rfl⟩
theorem arown_lit {t : TypeId} (w : World) (base : Nat) (hb : base ≤ w.heap.size) (x : Value) : (w.alloc (.cells #[x] t)).ownsRow base t 1 (.slice (some ⟨w.heap.size, 0, none⟩) 1 1) 1 [x] :=
  ⟨rfl, .inr ⟨w.heap.size, 1, #[x], rfl, hb, heap_alloc_new w _, Nat.le_refl _, by unfold maxLen; omega, rfl, rfl⟩⟩

theorem arown_mono {w : World} {base base' : Nat} {e : TypeId} {size n : Nat} {v : Value} {xs : List Value} (h : w.ownsRow base e size v n xs) (hb : base' ≤ base) : w.ownsRow base' e size v n xs := by
  refine ⟨h.1, ?_⟩
  rcases h.2 with hv | ⟨g, cap, cur, rfl, h0, hh, h1, h2, h3, h4⟩
  · exact .inl hv
  · exact .inr ⟨g, cap, cur, rfl, by omega, hh, h1, h2, h3, h4⟩

set_option maxHeartbeats 1000000 in
theorem arscalar_any (n : Int) (w : World) : Calls Try.prog 24 #[.int .i64 n] w fun e w' => ∃ v, e = .returned v ∧ GiveA w w' v ⟨1, [], [n]⟩ := by
  have hx := Blk.new w 25 #[.int .i64 0, .slice none 0 0, .slice none 0 0]
  have hb := (Below.refl w.heap.size w).alloc (Nat.le_refl _) (.cells #[.int .i64 0, .slice none 0 0, .slice none 0 0] 25)
  have ho := arown_lit (t := 2) (w.alloc (.cells #[.int .i64 0, .slice none 0 0, .slice none 0 0] 25)) w.heap.size hb.size (.int .i64 n)
  obtain ⟨w1, hw1⟩ : ∃ w1, (w.alloc (.cells #[.int .i64 0, .slice none 0 0, .slice none 0 0] 25)).alloc (.cells #[.int .i64 n] 2) = w1 := ⟨_, rfl⟩
  have hx1 := hx.alloc (.cells #[.int .i64 n] 2)
  have hb1 := hb.alloc hb.size (.cells #[.int .i64 n] 2)
  rw [hw1] at hx1 hb1 ho
  rw [World.size_alloc] at ho
  have x0 := hx1.cell 0
  have x1 := hx1.cell 1
  have x2 := hx1.cell 2
  have f0 := hx1.frozen 0
  have f1 := hx1.frozen 1
  have f2 := hx1.frozen 2
  have HX := Lib.hid hx1
  have HB := Lib.hid hb1
  have HO := Lib.hid ho
  clear hx hb ho hx1 hb1
  go_enter Try.func24, Try.ntmps24
  go_wp2
  refine bodyPost_ret (results_arr rfl rfl (arblk_three _ _ _ HX.out)) rfl ?_
  refine ⟨_, rfl, ⟨none, 0, some ⟨w.heap.size + 1, 0, none⟩, 1⟩, rfl, ⟨World.ownsRow_nil _ _ _ _, ?_⟩, ?_⟩
  · exact (arkeep_three _ w.heap.size _ _ _).own HO.out (fun g hg e => by simp [Value.ownBlock] at hg; omega)
  · exact HB.out.trans ((arkeep_three w1 w.heap.size _ _ _).below HB.out.size (fun i hi e => by omega))

set_option maxHeartbeats 2000000 in
theorem arvector_any (A : Option Addr) (n c : Nat) (l : List Int) (w : World) (hl : l.length = n) (hr : Reads w w.heap.size 1 A n (l.map iv)) (hn : n ≤ 1000000) :
    Calls Try.prog 27 #[.slice A n c] w fun e w' => ∃ v, e = .returned v ∧ GiveA w w' v ⟨1, [(n : Int)], l⟩ := by
  have hx := Blk.new w 25 #[.int .i64 0, .slice none 0 0, .slice none 0 0]
  have hb := (Below.refl w.heap.size w).alloc (Nat.le_refl _) (.cells #[.int .i64 0, .slice none 0 0, .slice none 0 0] 25)
  have ho := arown_lit (t := 3) (w.alloc (.cells #[.int .i64 0, .slice none 0 0, .slice none 0 0] 25)) w.heap.size hb.size (.int .i64 (n : Int))
  obtain ⟨w1, hw1⟩ : ∃ w1, (w.alloc (.cells #[.int .i64 0, .slice none 0 0, .slice none 0 0] 25)).alloc (.cells #[.int .i64 (n : Int)] 3) = w1 := ⟨_, rfl⟩
  have hx1 := hx.alloc (.cells #[.int .i64 (n : Int)] 3)
  have hb1 := hb.alloc hb.size (.cells #[.int .i64 (n : Int)] 3)
  rw [hw1] at hx1 hb1 ho
  rw [World.size_alloc] at ho
  have HC := Lib.hid (arcloneL_any A n c l w1 hl ((hr.below hb1).more hb1.size) hn)
  have HX := Lib.hid hx1
  have HB := Lib.hid hb1
  have HO := Lib.hid ho
  have hs1 : w1.heap.size = w.heap.size + 2 := by rw [← hw1]; simp
  have HS1 := Lib.hid hs1
  have HL := Lib.hid hl
  clear hx hb ho hx1 hb1 hr hl hs1
  go_enter Try.func27, Try.ntmps27
  go_wp2_with (go_at_call 69; (try rw [hw1]); refine HC.out.mono ?_; rintro e w2 ⟨A', c', rfl, o2, b2⟩; have hx2 := HX.out.below b2 HX.out.lt; have x0 := hx2.cell 0; have x1 := hx2.cell 1; have x2 := hx2.cell 2; have f0 := hx2.frozen 0; have f1 := hx2.frozen 1; have f2 := hx2.frozen 2; have HX2 := Lib.hid hx2; have O2 := Lib.hid o2; have B2 := Lib.hid b2; clear hx2 o2 b2)
  refine bodyPost_ret (results_arr rfl rfl (arblk_three _ _ _ HX2.out)) rfl ?_
  have hs1 := HS1.out
  have hl := HL.out
  refine ⟨_, rfl, ⟨some ⟨w.heap.size + 1, 0, none⟩, 1, A', c'⟩, (by unfold arC; rw [hl]; rfl), ⟨?_, ?_⟩, ?_⟩
  · exact (arkeep_three _ w.heap.size _ _ _).own (arown_stay HO.out B2.out (fun g hg => (arown_lt HO.out g hg).2)) (fun g hg e => by simp [Value.ownBlock] at hg; omega)
  · have h1 := (arkeep_three w2 w.heap.size (.int .i64 1) (.slice (some ⟨w.heap.size + 1, 0, none⟩) 1 1) (.slice A' n c')).own O2.out (fun g hg e => by have := (arown_lt O2.out g hg).1; omega)
    show World.ownsRow _ w.heap.size 2 1 (.slice A' l.length c') l.length (l.map iv)
    rw [hl]
    exact arown_mono h1 (by omega)
  · have hb2 := HB.out.trans (B2.out.mono HB.out.size)
    exact hb2.trans ((arkeep_three w2 w.heap.size _ _ _).below hb2.size (fun i hi e => by omega))
end Go.Proofs.Ytkabdkblcgklmaa.arr

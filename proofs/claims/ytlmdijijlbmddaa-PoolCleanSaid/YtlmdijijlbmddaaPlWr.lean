/-
  The pool of layer 10: a frame is written back.
-/
import Derived.Test.YtlmdijijlbmddaaPlAsk
namespace Go.Proofs.Ytlmdijijlbmddaa.pool
open Go.RowKit

section
variable {N p m size : Nat} {w w' : World} {ask : Bool} {q pre post : QL} {ml : ML} {L : List TV} {log : List LV} {f : FL} {v v' : FV}
theorem PoolAt.mark (h : PoolAt N w p m size ask q) (b : Bool) : PoolAt N (w.setCell ⟨p, 4, none⟩ (.bool b)) p m size b q ∧ KT N [54] w (w.setCell ⟨p, 4, none⟩ (.bool b)) := by
  obtain ⟨A, c, hb, ho⟩ := h.pool
  have hk : KT N [54] w (w.setCell ⟨p, 4, none⟩ (.bool b)) := KT.set_ hb.typ h.np (by decide) 4 _
  exact ⟨⟨h.np, ⟨A, c, hb.set_ 4 (.bool b), hk.own ho (by decide)⟩, fun x hx => ⟨⟨hk.blk (h.fr x hx).1.blk (by decide), hk.el (h.fr x hx).1.el (by decide)⟩, (h.fr x hx).2⟩, h.nb, h.ng, h.few⟩, hk⟩
/-- One frame's cells are turned, its elements' block not, or only that. -/
theorem PoolAt.turn (h : PoolAt N w p m size ask (pre ++ (f, v) :: post)) {t : TypeId} {k : Nat} (hk : Keep (fun i => i = k) w w') (ht : Typ w k t) (hkt : (t = 82 ∧ k = f.b) ∨ (t = 2 ∧ k = f.g)) (hfr : FrAt w' f v') : PoolAt N w' p m size ask (pre ++ (f, v') :: post) := by
  obtain ⟨A, c, hb, ho⟩ := h.pool
  have hl : (pre ++ (f, v') :: post).length = (pre ++ (f, v) :: post).length := by simp
  have hbs : bsQ (pre ++ (f, v') :: post) = bsQ (pre ++ (f, v) :: post) := by unfold bsQ; simp
  have hgs : (pre ++ (f, v') :: post).map (·.1.g) = (pre ++ (f, v) :: post).map (·.1.g) := by simp
  have htt : t = 82 ∨ t = 2 := hkt.elim (fun h => .inl h.1) (fun h => .inr h.1)
  have hne : ∀ {g : Nat} {u : TypeId}, Typ w g u → u ≠ 82 → u ≠ 2 → g ≠ k := fun hg h1 h2 e => by
    subst e
    have := Typ.ne hg ht
    rcases htt with e | e <;> rw [e] at this
    · exact h1 this
    · exact h2 this
  refine ⟨h.np, ⟨A, c, by rw [hl]; exact hk.blk hb (hne hb.typ (by decide) (by decide)), by rw [hl, hbs]; exact hk.own ho (fun j hj => hne (own_typ_of ho hj).2 (by decide) (by decide))⟩, fun x hx => ?_, by rw [hbs]; exact h.nb, by rw [hgs]; exact h.ng, by rw [hl]; exact h.few⟩
  have hnb := h.nb
  have hng := h.ng
  unfold bsQ at hnb
  rw [List.map_append, List.map_cons, List.nodup_append] at hnb hng
  obtain ⟨n1, n2, n3⟩ := hnb
  obtain ⟨m1, m2, m3⟩ := hng
  rw [List.nodup_cons] at n2 m2
  have hother : ∀ x, x ∈ pre ∨ x ∈ post → FrAt w' x.1 x.2 ∧ N ≤ x.1.b ∧ N ≤ x.1.g := fun x hx => by
    have hxq : x ∈ pre ++ (f, v) :: post := by
      rcases hx with hx | hx
      · exact List.mem_append_left _ hx
      · exact List.mem_append_right _ (List.mem_cons_of_mem _ hx)
    obtain ⟨h1, h2⟩ := h.fr x hxq
    have hb1 : x.1.b ≠ f.b := fun e => by
      rcases hx with hx | hx
      · exact n3 _ (List.mem_map_of_mem hx) _ (List.mem_cons_self ..) e
      · exact n2.1 (e ▸ List.mem_map_of_mem hx)
    have hg1 : x.1.g ≠ f.g := fun e => by
      rcases hx with hx | hx
      · exact m3 _ (List.mem_map_of_mem hx) _ (List.mem_cons_self ..) e
      · exact m2.1 (e ▸ List.mem_map_of_mem hx)
    refine ⟨h1.keep hk (fun e => ?_) (fun e => ?_), h2⟩
    · rcases hkt with ⟨e1, e2⟩ | ⟨e1, e2⟩
      · exact hb1 (by rw [e, e2])
      · have := Typ.ne h1.blk.typ (e ▸ ht)
        rw [e1] at this
        exact absurd this (by decide)
    · rcases hkt with ⟨e1, e2⟩ | ⟨e1, e2⟩
      · have := Typ.ne h1.el.typ (e ▸ ht)
        rw [e1] at this
        exact absurd this (by decide)
      · exact hg1 (by rw [e, e2])
  rcases List.mem_append.1 hx with hx | hx
  · exact hother x (.inl hx)
  · rcases List.mem_cons.1 hx with rfl | hx
    · exact ⟨hfr, (h.fr (f, v) (by simp)).2⟩
    · exact hother x (.inr hx)

/-- A frame that is clean. -/
def FV.clean (v : FV) : FV := { v with dirty := false, num := 0 }
set_option maxHeartbeats 1000000 in
theorem wr_clean (h : PoolAt N w p m size false q) (hx : (f, v) ∈ q) (hd : v.dirty = false) : Calls Try.prog 59 #[pv p, pv f.b] w fun e w' => e = .returned (.int .i64 0) ∧ Below w.heap.size w w' := by
  have hb := (h.fr _ hx).1.blk
  have hb2 := (hb.alloc (.cells #[pv p] 24)).alloc (.cells #[pv f.b] 79)
  have c5 : ((w.alloc (.cells #[pv p] 24)).alloc (.cells #[pv f.b] 79)).cell? ⟨f.b, 5, none⟩ = some (.bool false) := (hb2.cell 5).trans (by show some (Value.bool v.dirty) = _; rw [hd])
  have hbel : Below w.heap.size w ((w.alloc (.cells #[pv p] 24)).alloc (.cells #[pv f.b] 79)) := ((Below.refl _ _).alloc (Nat.le_refl _) _).alloc (by simp) _
  have HB := Lib.hid hbel
  clear h hb hb2 hbel hd hx
  go_enter Try.func59, Try.ntmps59
  go_wp2
  go_ret
  exact ⟨rfl, HB.out⟩

set_option maxRecDepth 100000 in
set_option maxHeartbeats 2000000 in
theorem wr_dirty (t0 : TV) (j : Nat) (h : PoolAt N w p m size false (pre ++ (f, v) :: post)) (hm : MemAt N w m ml L log) (hd : v.dirty = true) (hj : L[j]? = some t0) (his : t0.is v.t.file v.t.no = true) (hfst : ∀ (i : Nat) (u : TV), i < j → L[i]? = some u → u.is v.t.file v.t.no = false) (hl : log.length + 2 ≤ 1000000) (hLl : L.length ≤ 1000000) (hN : N ≤ w.heap.size) :
    Calls Try.prog 59 #[pv p, pv f.b] w fun e w' => e = .returned (.int .i64 0) ∧ PoolAt N w' p m size false (pre ++ (f, v.clean) :: post) ∧ (∃ g c, MemAt N w' m ⟨ml.lg, ml.l.set j (g, c)⟩ (L.set j v.t) (log ++ [⟨2, v.num, 0⟩, ⟨3, v.t.no, v.t.file⟩]) ∧ w.heap.size ≤ g) ∧ KT N [54, 82, 38, 40, 43] w w' := by
  obtain ⟨w1, hw1⟩ : ∃ w1, (w.alloc (.cells #[pv p] 24)).alloc (.cells #[pv f.b] 79) = w1 := ⟨_, rfl⟩
  have hb1 : Below w.heap.size w w1 := by rw [← hw1]; exact ((Below.refl _ _).alloc (Nat.le_refl _) _).alloc (by simp) _
  have hs1 : w1.heap.size = w.heap.size + 2 := by rw [← hw1]; simp
  have hx1 : Blk w1 w.heap.size 24 #[pv p] := by rw [← hw1]; exact (Blk.new w _ _).alloc _
  have hy1 : Blk w1 (w.heap.size + 1) 79 #[pv f.b] := by
    rw [← hw1]
    have := Blk.new (w.alloc (.cells #[pv p] 24)) 79 #[pv f.b]
    rwa [World.size_alloc] at this
  have h1 := h.below hb1
  have hm1 := hm.below hb1
  -- what ask's closure finds
  obtain ⟨h2, k2⟩ := h1.mark true
  obtain ⟨W1, hW1⟩ : ∃ W1, ((w1.setCell ⟨p, 4, none⟩ (.bool true)).alloc (.cells #[pv p] 24)).alloc (.cells #[.int .i64 0] 25) = W1 := ⟨_, rfl⟩
  have hbW : Below (w1.setCell ⟨p, 4, none⟩ (.bool true)).heap.size (w1.setCell ⟨p, 4, none⟩ (.bool true)) W1 := by rw [← hW1]; exact ((Below.refl _ _).alloc (Nat.le_refl _) _).alloc (by simp) _
  have hsz : (w1.setCell ⟨p, 4, none⟩ (.bool true)).heap.size = w1.heap.size := by simp [World.setCell]
  have hA : Blk W1 w1.heap.size 24 #[pv p] := by
    rw [← hW1, ← hsz]
    exact (Blk.new _ _ _).alloc _
  have hB : Blk W1 (w1.heap.size + 1) 25 #[.int .i64 0] := by
    rw [← hW1, ← hsz]
    have := Blk.new ((w1.setCell ⟨p, 4, none⟩ (.bool true)).alloc (.cells #[pv p] 24)) 25 #[.int .i64 0]
    rwa [World.size_alloc] at this
  have h3 := h2.below hbW
  have hm3 := (hm1.keep k2 (by decide)).below hbW
  have hx3 := (k2.blk hx1 (by decide)).below hbW (by rw [hsz]; exact hx1.lt)
  have hy3 := (k2.blk hy1 (by decide)).below hbW (by rw [hsz]; exact hy1.lt)
  have kW : KT N [54] w W1 := ((KT.of_below hb1).trans k2).trans (KT.of_below hbW)
  have hcl := wr1_any (f, v) w.heap.size (w.heap.size + 1) j t0 h3 (by simp) hm3 hx3 hy3 hj his hfst hl hLl (Nat.le_trans hN kW.keep.size)
  obtain ⟨A, c, hpb, _⟩ := h1.pool
  have HASK := Lib.hid (ask_any (w := w1) (p := p) (gf := 90) (cap := #[.pointer (some ⟨w.heap.size, 0, none⟩), .pointer (some ⟨w.heap.size + 1, 0, none⟩)]) (E := 0) (X := fun w' => FinS N W1 m ml L (log ++ [⟨2, v.num, 0⟩, ⟨3, v.t.no, v.t.file⟩]) j v.t w') (enters_of Try.func90 (by kernel_rfl) rfl) _ hpb rfl (fun W e => by rw [e, hW1]; exact hcl) (fun w' hX => by
    obtain ⟨g, c, q1, q2, q3⟩ := hX
    obtain ⟨A', c', hb', _⟩ := (h3.keep q2 (by decide)).pool
    exact ⟨q2.blk hA (by decide), q2.blk hB (by decide), _, hb', rfl⟩))
  have HASK2 : Hid (Calls Try.prog 84 #[pv p, .func (.func 90) #[] #[.pointer (some ⟨w.heap.size, 0, none⟩), .pointer (some ⟨w.heap.size + 1, 0, none⟩)]] w1 fun e w5 => e = .returned (.int .i64 0) ∧ PoolAt N w5 p m size false (pre ++ (f, v) :: post) ∧ (∃ g c, MemAt N w5 m ⟨ml.lg, ml.l.set j (g, c)⟩ (L.set j v.t) (log ++ [⟨2, v.num, 0⟩, ⟨3, v.t.no, v.t.file⟩]) ∧ w.heap.size ≤ g) ∧ KT N [54, 82, 38, 40, 43] w w5 ∧ Blk w5 (w.heap.size + 1) 79 #[pv f.b]) := Lib.hid (HASK.out.mono (fun e w5 hh => by
    obtain ⟨he, w3, ⟨g, c, q1, q2, q3⟩, rfl⟩ := hh
    refine ⟨he, ?_⟩
    have hB3 := q2.blk hB (by decide)
    have hp3 := h3.keep q2 (by decide)
    have hy5 := q2.blk hy3 (by decide)
    have hNB : N ≤ w1.heap.size + 1 := by omega
    have ke : KT N [25] w3 (w3.setCell ⟨w1.heap.size + 1, 0, none⟩ (.int .i64 0)) := KT.set_ hB3.typ hNB (by decide) 0 _
    have hp4 := hp3.keep ke (by decide)
    obtain ⟨hp5, k5⟩ := hp4.mark false
    have kt0 : KT N [54, 82, 38, 40, 43] w w3 := (kW.more (T' := [54, 82, 38, 40, 43]) (by intro t ht; simp only [List.mem_cons, List.not_mem_nil, or_false] at ht; subst ht; decide)).trans (q2.more (by intro t ht; simp only [List.mem_cons, List.not_mem_nil, or_false] at ht; rcases ht with rfl | rfl | rfl <;> decide))
    have kt1 := kt0.newK (k := w1.heap.size + 1) (w2 := w3.setCell ⟨w1.heap.size + 1, 0, none⟩ (.int .i64 0)) (by omega) ((Keep.refl _ _).setCell _ _ (fun _ => rfl))
    refine ⟨hp5, ⟨g, c, (q1.keep ke (by decide)).keep k5 (by decide), ?_⟩, kt1.trans (k5.more (by intro t ht; simp only [List.mem_cons, List.not_mem_nil, or_false] at ht; subst ht; decide)), k5.blk (ke.blk hy5 (by decide)) (by decide)⟩
    have := kW.keep.size
    omega))
  have hfb : Blk w1 f.b 82 (frC f v) := (h1.fr (f, v) (by simp)).1.blk
  have hNb : N ≤ f.b := (h1.fr (f, v) (by simp)).2.1
  have x0 := hx1.cell 0
  have y0 := hy1.cell 0
  have c5 : w1.cell? ⟨f.b, 5, none⟩ = some (.bool true) := (hfb.cell 5).trans (by show some (Value.bool v.dirty) = _; rw [hd])
  have hmf := hmfT
  clear HASK hcl hpb kW hy3 hx3 hm3 h3 hA hB hsz hbW hW1 h2 k2 hm1 h1 hx1 hy1 hb1 h hm hj his hfst
  go_enter Try.func59, Try.ntmps59
  go_wp2_with (go_at_call 84; refine HASK2.out.mono ?_; rintro e w5 ⟨rfl, p5, m5, k5, y5⟩; have P5 := Lib.hid p5; have M5 := Lib.hid m5; have K5 := Lib.hid k5; have z5 := y5.cell 0; have hfr5 := (p5.fr (f, v) (by simp)).1; have hb5 := hfr5.blk; have u5 : w5.cell? ⟨f.b, 5, none⟩ = some (.bool v.dirty) := hb5.cell 5; have u6 : w5.cell? ⟨f.b, 6, none⟩ = some (.int .i64 v.num) := hb5.cell 6; have f5 := hb5.frozen 5; have f6 := hb5.frozen 6; have HFR5 := Lib.hid hfr5; clear p5 m5 k5 y5 hfr5 hb5)
  go_region
  go_wp2
  go_ret
  have hk1 : Keep (fun i => i = f.b) w5 (w5.setCell ⟨f.b, 5, none⟩ (.bool false)) := (Keep.refl _ _).setCell _ _ (fun _ => rfl)
  have hk2 : Keep (fun i => i = f.b) w5 ((w5.setCell ⟨f.b, 5, none⟩ (.bool false)).setCell ⟨f.b, 6, none⟩ (.int .i64 0)) := hk1.setCell _ _ (fun _ => rfl)
  have hk3 := hk2.drew
  have hbk := ((HFR5.out.blk.set_ 5 (.bool false)).set_ 6 (.int .i64 0)).drew
  have hel := HFR5.out.el.box HFR5.out.blk.typ (by decide) hk3
  have hkt : KT N [54, 82, 38, 40, 43] w5 ((w5.setCell ⟨f.b, 5, none⟩ (.bool false)).setCell ⟨f.b, 6, none⟩ (.int .i64 0)).drew := ⟨hk3.more (fun i _ e => ⟨e ▸ hNb, 82, by decide, e ▸ HFR5.out.blk.typ⟩)⟩
  have hkf : KT N [82] w5 ((w5.setCell ⟨f.b, 5, none⟩ (.bool false)).setCell ⟨f.b, 6, none⟩ (.int .i64 0)).drew := ⟨hk3.more (fun i _ e => ⟨e ▸ hNb, 82, by decide, e ▸ HFR5.out.blk.typ⟩)⟩
  obtain ⟨g, c, hm5, hg5⟩ := M5.out
  exact ⟨rfl, P5.out.turn (v' := v.clean) hk3 HFR5.out.blk.typ (.inl ⟨rfl, rfl⟩) ⟨hbk, hel⟩, ⟨g, c, hm5.keep hkf (by decide), hg5⟩, K5.out.trans hkt⟩
end
end Go.Proofs.Ytlmdijijlbmddaa.pool

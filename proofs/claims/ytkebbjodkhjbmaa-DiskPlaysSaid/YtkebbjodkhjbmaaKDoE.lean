/-
  The statement DiskPlays: both disks, and what lies besides.
-/
import Derived.Test.YtkebbjodkhjbmaaKDoB
namespace Go.Proofs.Ytkebbjodkhjbmaa
open Go.RowKit

/-- What lies besides: the call's box and its crash's, the bytes and the list that are handed in; and the call's own memory. -/
structure DoE where
  q : Nat
  q2 : Nat
  go : Nat
  gk : Nat
  cO : Nat
  cK : Nat
  n : Nat
  m : Nat
  kd : Int
  a : Int
  l : List UInt8
  c : DCrash
  BA : Option Addr
  Bc : Nat
  KA : Option Addr
  Kc : Nat
abbrev DoE.Z (E : DoE) : Aside := ⟨fun k => k = E.q ∨ k = E.q2 ∨ k = E.go ∨ k = E.gk⟩

structure En (N : Nat) (w : World) (E : DoE) : Prop where
  hn : E.l.length = E.n
  hm : E.c.keep.length = E.m
  few : E.n ≤ 500
  less : E.m ≤ 100
  ai : i64ok E.a
  ci : E.c.Fine
  bx : Blk w E.q 38 #[.int .i64 E.kd, .int .i64 E.a, .slice E.BA E.n E.Bc, .int .i64 E.c.write, .slice E.KA E.m E.Kc, .int .i64 E.c.torn, .int .i64 E.c.at_]
  cx : Blk w E.q2 36 #[.int .i64 E.c.write, .slice (some ⟨E.gk, 0, none⟩) E.m E.cK, .int .i64 E.c.torn, .int .i64 E.c.at_]
  own : w.ownsRow N 5 1 (.slice (some ⟨E.go, 0, none⟩) (E.n + 1) E.cO) (E.n + 1) ((E.l ++ [7]).map bv)
  kp : w.ownsRow N 3 1 (.slice (some ⟨E.gk, 0, none⟩) E.m E.cK) E.m (E.c.keep.map iv)
  bs : Sl w N E.BA E.Bc (E.l.map bv)
  ks : Sl w N E.KA E.Kc (E.c.keep.map iv)

/-- Both disks, and what lies besides. -/
structure DB (N : Nat) (w0 w : World) (d : DAt) (r : RAt) (s t : RSt) (E : DoE) : Prop where
  wb : WB N w0 w d r s t E.Z
  en : En N w E

section
variable {N : Nat} {w0 w w' : World} {d : DAt} {r : RAt} {s t s' t' : RSt} {E : DoE}
theorem En.keep {S : Nat → Prop} (h : En N w E) (hN : N ≤ w.heap.size) (hk : Keep S w w') (hS : ∀ k, S k → N ≤ k ∧ ¬ E.Z.out k) : En N w' E := by
  have ne : ∀ k, E.Z.out k → ¬ S k := fun k ho hs => (hS k hs).2 ho
  refine ⟨h.hn, h.hm, h.few, h.less, h.ai, h.ci, hk.blk h.bx (ne _ (.inl rfl)), hk.blk h.cx (ne _ (.inr (.inl rfl))), hk.own h.own (fun k e => by injection e with e; subst e; exact ne _ (.inr (.inr (.inl rfl)))), hk.own h.kp (fun k e => by injection e with e; subst e; exact ne _ (.inr (.inr (.inr rfl)))), h.bs.below (hk.below hN (fun i hi hs => by have := (hS i hs).1; omega)), h.ks.below (hk.below hN (fun i hi hs => by have := (hS i hs).1; omega))⟩
theorem En.next (h : En N w E) (hN : N ≤ w.heap.size) (hb : Below w.heap.size w w') : En N w' E := h.keep hN (Keep.of_below (S := fun _ => False) hb) (fun _ h => h.elim)
theorem DB.next (h : DB N w0 w d r s t E) (hb : Below w.heap.size w w') : DB N w0 w' d r s t E := ⟨h.wb.next hb, h.en.next h.wb.le hb⟩
theorem DB.drew (h : DB N w0 w d r s t E) : DB N w0 w.drew d r s t E := h.next (Below.refl _ _).drew
theorem DB.prog (h : DB N w0 w d r s t E) (hw : WB N w0 w' d r s' t E.Z) (hk : Keep d.foot w w') : DB N w0 w' d r s' t E :=
  ⟨hw, h.en.keep h.wb.le hk (fun k hs => ⟨h.wb.df k hs, fun ho => (h.wb.zd k ho).1 hs⟩)⟩
theorem DB.given (h : DB N w0 w d r s t E) (hw : WB N w0 w' d r s t' E.Z) (hk : Keep r.foot w w') : DB N w0 w' d r s t' E :=
  ⟨hw, h.en.keep h.wb.le hk (fun k hs => ⟨h.wb.rf k hs, fun ho => (h.wb.zd k ho).2.1 hs⟩)⟩
end

theorem Far.nothing (v : Value) : @Far ⟨fun _ => False⟩ v := fun _ _ _ _ h => h


section
variable {N : Nat} {w0 w w' : World} {d : DAt} {r : RAt} {s t s' t' : RSt} {E : DoE} {er : Int}

theorem DB.ownR (h : DB N w0 w d r s t E) : Reads w w.heap.size 1 (some ⟨E.go, 0, none⟩) E.n (E.l.map bv) := by
  have hr := (Reads.of_own h.en.own).front (k := E.n) (by omega)
  rwa [List.take_append_of_le_length (by have := h.en.hn; omega), List.take_of_length_le (by have := h.en.hn; omega)] at hr
theorem DB.argR (h : DB N w0 w d r s t E) : Reads w w.heap.size 1 E.BA E.n (E.l.map bv) := by
  have hr := h.en.bs.reads
  rw [List.length_map, h.en.hn] at hr
  exact hr.more h.wb.le
theorem DB.keepS (h : DB N w0 w d r s t E) : Sl w w.heap.size (some ⟨E.gk, 0, none⟩) E.cK (E.c.keep.map iv) := by
  have hk := h.en.kp
  have hr := Reads.of_own hk
  have hm := h.en.hm
  rcases hk.2 with ⟨e, _⟩ | ⟨g, cap, cur, e, _, _, hc, hx, _⟩
  · cases e
  · injection e with _ _ e3
    subst e3
    refine ⟨by rw [List.length_map, hm]; exact hr, by rw [List.length_map]; omega, by unfold maxLen at hx; omega⟩
theorem DB.keepA (h : DB N w0 w d r s t E) : HeadF r.b r.gS r.gC w (E.c.keep.map iv) (.slice E.KA E.m E.Kc) := by
  have hm := h.en.hm
  have ks := h.en.ks
  refine ⟨E.KA, E.Kc, by rw [List.length_map, hm], ks.cap, ks.big, ks.reads.more h.wb.le, fun h0 ad e hf => ?_⟩
  obtain ⟨ad', e', hlt, _⟩ := ks.reads.2 h0
  rw [e] at e'
  injection e' with e'
  subst e'
  have := h.wb.rf _ hf
  omega
theorem DB.crashL (h : DB N w0 w d r s t E) : (loadVar 36 ⟨E.q2, 0, none⟩).run Try.prog w = .ok (.agg #[.int .i64 E.c.write, .slice (some ⟨E.gk, 0, none⟩) E.m E.cK, .int .i64 E.c.torn, .int .i64 E.c.at_]) w := by
  have c0 := h.en.cx.cell 0
  have c1 := h.en.cx.cell 1
  have c2 := h.en.cx.cell 2
  have c3 := h.en.cx.cell 3
  go_simp
theorem DB.write (h : DB N w0 w d r s t E) (hm : s.many < 9223372036854775807) (he : writeErr s E.a E.l = er) (hs : writeK s E.a E.l = s') :
    Calls Try.prog 12 #[.pointer (some ⟨d.b, 0, none⟩), .int .i64 E.a, .slice (some ⟨E.go, 0, none⟩) E.n E.cO] w fun e w' => e = .returned (.int .i64 er) ∧ DB N w0 w' d r s' t E := by
  refine (h.wb.write E.a _ E.n E.cO E.l h.en.hn h.ownR hm he hs).mono ?_
  rintro e w' ⟨rfl, h', hk⟩
  exact ⟨rfl, h.prog h' hk⟩
theorem DB.rwrite (h : DB N w0 w d r s t E) (hm : t.many < 9223372036854775807) (hmo : t.More) (he : writeErr t E.a E.l = er) (hs : writeK t E.a E.l = t') :
    Calls Try.prog 13 #[.pointer (some ⟨r.b, 0, none⟩), .int .i64 E.a, .slice E.BA E.n E.Bc] w fun e w' => e = .returned (.int .i64 er) ∧ DB N w0 w' d r s t' E := by
  refine (h.wb.rwrite E.a h.en.ai _ E.n E.Bc E.l h.en.hn h.argR (by have := h.en.few; omega) hm hmo he hs).mono ?_
  rintro e w' ⟨rfl, h', hk⟩
  exact ⟨rfl, h.given h' hk⟩
theorem DB.flush (h : DB N w0 w d r s t E) (he : (if s.down then (31 : Int) else 0) = er) (hs : flushK s = s') :
    Calls Try.prog 14 #[.pointer (some ⟨d.b, 0, none⟩)] w fun e w' => e = .returned (.int .i64 er) ∧ DB N w0 w' d r s' t E := by
  refine (h.wb.flush he hs).mono ?_
  rintro e w' ⟨rfl, h', hk⟩
  exact ⟨rfl, h.prog h' hk⟩
theorem DB.rflush (h : DB N w0 w d r s t E) (he : (if t.down then (31 : Int) else 0) = er) (hs : flushK t = t') :
    Calls Try.prog 15 #[.pointer (some ⟨r.b, 0, none⟩)] w fun e w' => e = .returned (.int .i64 er) ∧ DB N w0 w' d r s t' E := by
  refine (h.wb.rflush he hs).mono ?_
  rintro e w' ⟨rfl, h', hk⟩
  exact ⟨rfl, h.given h' hk⟩
theorem DB.down (h : DB N w0 w d r s t E) (he : (if s.down then (31 : Int) else 0) = er) (hs : downK s E.c = s') :
    Calls Try.prog 16 #[.pointer (some ⟨d.b, 0, none⟩), .agg #[.int .i64 E.c.write, .slice (some ⟨E.gk, 0, none⟩) E.m E.cK, .int .i64 E.c.torn, .int .i64 E.c.at_]] w fun e w' => e = .returned (.int .i64 er) ∧ DB N w0 w' d r s' t E := by
  refine (h.wb.down E.c _ E.m E.cK h.en.hm h.keepS he hs).mono ?_
  rintro e w' ⟨rfl, h', hk⟩
  exact ⟨rfl, h.prog h' hk⟩
theorem DB.rdown (h : DB N w0 w d r s t E) (he : (if t.down then (31 : Int) else 0) = er) (hs : downK t E.c = t') :
    Calls Try.prog 17 #[.pointer (some ⟨r.b, 0, none⟩), .agg #[.int .i64 E.c.write, .slice E.KA E.m E.Kc, .int .i64 E.c.torn, .int .i64 E.c.at_]] w fun e w' => e = .returned (.int .i64 er) ∧ DB N w0 w' d r s t' E := by
  refine (h.wb.rdown E.c h.en.ci _ E.m E.Kc h.en.hm h.keepA he hs).mono ?_
  rintro e w' ⟨rfl, h', hk⟩
  exact ⟨rfl, h.given h' hk⟩
theorem DB.arm (h : DB N w0 w d r s t E) (he : armErr3 E.c = er) (hs : armSt3 s E.c = s') :
    Calls Try.prog 18 #[.pointer (some ⟨d.b, 0, none⟩), .agg #[.int .i64 E.c.write, .slice (some ⟨E.gk, 0, none⟩) E.m E.cK, .int .i64 E.c.torn, .int .i64 E.c.at_]] w fun e w' => e = .returned (.int .i64 er) ∧ DB N w0 w' d r s' t E := by
  refine (h.wb.arm E.c h.en.ci _ E.m E.cK h.en.hm h.keepS (by have := h.en.less; omega) (fun ad e => by injection e with e; subst e; exact fun e => (h.wb.zd E.gk (.inr (.inr (.inr rfl)))).1 (.inl e)) he hs).mono ?_
  rintro e w' ⟨rfl, h', hk⟩
  exact ⟨rfl, h.prog h' hk⟩
theorem DB.rarm (h : DB N w0 w d r s t E) (he : armErr3 E.c = er) (hs : armSt3 t E.c = t') :
    Calls Try.prog 19 #[.pointer (some ⟨r.b, 0, none⟩), .agg #[.int .i64 E.c.write, .slice E.KA E.m E.Kc, .int .i64 E.c.torn, .int .i64 E.c.at_]] w fun e w' => e = .returned (.int .i64 er) ∧ DB N w0 w' d r s t' E := by
  refine (h.wb.rarm E.c _ E.m E.Kc h.en.hm h.keepA (by have := h.en.less; omega) he hs).mono ?_
  rintro e w' ⟨rfl, h', hk⟩
  exact ⟨rfl, h.given h' hk⟩
theorem DB.boot (h : DB N w0 w d r s t E) (hs : bootSt s = s') :
    Calls Try.prog 8 #[.pointer (some ⟨d.b, 0, none⟩)] w fun e w' => e = .returned (.int .i64 0) ∧ DB N w0 w' d r s' t E := by
  refine (h.wb.boot hs).mono ?_
  rintro e w' ⟨rfl, h', hk⟩
  exact ⟨rfl, h.prog h' hk⟩
theorem DB.rboot (h : DB N w0 w d r s t E) : DB N w0 (w.setCell ⟨r.b, 7, none⟩ (.bool false)) d r s (bootSt t) E := by
  obtain ⟨h1, hk⟩ := h.wb.rboot
  exact h.given h1 hk
theorem DB.spoil (h : DB N w0 w d r s t E) (he : spoilErr3 s E.a E.l = er) (hs : spoilSt3 s E.a E.l = s') :
    Calls Try.prog 20 #[.pointer (some ⟨d.b, 0, none⟩), .int .i64 E.a, .slice (some ⟨E.go, 0, none⟩) E.n E.cO] w fun e w' => e = .returned (.int .i64 er) ∧ DB N w0 w' d r s' t E := by
  refine (h.wb.spoil E.a _ E.n E.cO E.l h.en.hn h.ownR he hs).mono ?_
  rintro e w' ⟨rfl, h', hk⟩
  exact ⟨rfl, h.prog h' hk⟩
theorem DB.rspoil (h : DB N w0 w d r s t E) (he : spoilErr3 t E.a E.l = er) (hs : spoilSt3 t E.a E.l = t') :
    Calls Try.prog 21 #[.pointer (some ⟨r.b, 0, none⟩), .int .i64 E.a, .slice E.BA E.n E.Bc] w fun e w' => e = .returned (.int .i64 er) ∧ DB N w0 w' d r s t' E := by
  refine (h.wb.rspoil E.a h.en.ai _ E.n E.Bc E.l h.en.hn h.argR (by have := h.en.few; omega) he hs).mono ?_
  rintro e w' ⟨rfl, h', hk⟩
  exact ⟨rfl, h.given h' hk⟩
/-- A block of its own is written, that is neither bytes' nor numbers'. -/
theorem DB.apart {g : Nat} (h : DB N w0 w d r s t E) (hk : Keep (fun k => k = g) w w') (hg : N ≤ g) (hd : ¬ d.foot g) (hr : ¬ r.foot g) (hz : ¬ E.Z.out g) (h8 : ¬ Typ w g 5) (hi : ¬ Typ w g 3) : DB N w0 w' d r s t E := by
  refine ⟨⟨h.wb.below.trans (hk.below h.wb.le (fun i hi e => by have e : i = g := e; omega)), Nat.le_trans h.wb.le hk.size, h.wb.df, h.wb.rf, h.wb.ap, h.wb.pl.keep hk (fun k hf e => by have e : k = g := e; subst e; exact hd hf) (fun k e => by have e : k = g := e; subst e; exact hi), h.wb.rl.keep hk (fun k hf e => by have e : k = g := e; subst e; exact hr hf) (fun k e => by have e : k = g := e; subst e; exact h8) (fun k e => by have e : k = g := e; subst e; exact hi), fun k ho => by obtain ⟨a, b, c, e⟩ := h.wb.zd k ho; exact ⟨a, b, c, Nat.lt_of_lt_of_le e hk.size⟩⟩, h.en.keep h.wb.le hk (fun k e => by have e : k = g := e; subst e; exact ⟨hg, hz⟩)⟩
/-- What was handed in is written over. -/
theorem WB.over {S : Nat → Prop} {Z : Aside} (h : WB N w0 w d r s t Z) (hk : Keep S w w') (hS : ∀ k, S k → Z.out k) : WB N w0 w' d r s t Z := h.aside (hk.more (fun k _ e => hS k e))
theorem WB.rblk {Z : Aside} (h : WB N w0 w d r s t Z) : ∃ kv, Blk w r.b 42 #[.slice (some ⟨r.gS, 0, none⟩) t.stays.length r.cS, .slice (some ⟨r.gC, 0, none⟩) t.stays.length r.cC, .int .i64 t.write, kv, .int .i64 t.torn, .int .i64 t.at_, .int .i64 t.many, .bool t.down] := by
  obtain ⟨kv, vs, ws, hd⟩ := h.rl
  exact ⟨kv, @RD.blk Z _ _ _ _ _ _ _ _ _ _ hd⟩
/-- The given disk's block. -/
theorem DB.rblk (h : DB N w0 w d r s t E) : ∃ kv, Blk w r.b 42 #[.slice (some ⟨r.gS, 0, none⟩) t.stays.length r.cS, .slice (some ⟨r.gC, 0, none⟩) t.stays.length r.cC, .int .i64 t.write, kv, .int .i64 t.torn, .int .i64 t.at_, .int .i64 t.many, .bool t.down] := by
  obtain ⟨kv, vs, ws, hd⟩ := h.wb.rl
  exact ⟨kv, @RD.blk E.Z _ _ _ _ _ _ _ _ _ _ hd⟩
end

/-- What a call leaves. -/
def doSt (s : RSt) (kd a : Int) (l : List UInt8) (c : DCrash) : RSt :=
  if kd = 0 then writeK s a l else if kd = 1 then flushK s else if kd = 3 then downK s c else if kd = 4 then armSt3 s c else if kd = 5 then bootSt s else if kd = 6 then spoilSt3 s a l else s

/-- So many writes at most, so many kept at most. -/
structure Light (s : RSt) (j : Nat) : Prop where
  many : s.many ≤ (j : Int)
  keep : s.keep.length ≤ 100
theorem doSt_light {s : RSt} {j : Nat} (h : Light s j) (kd a : Int) (l : List UInt8) (c : DCrash) (hc : c.keep.length ≤ 100) : Light (doSt s kd a l c) (j + 1) := by
  obtain ⟨h1, h2⟩ := h
  have hs : Light s (j + 1) := ⟨by omega, h2⟩
  have hf : ∀ s' : RSt, ∀ c', s'.many ≤ (j : Int) + 1 → Light (fellK s' c') (j + 1) := fun s' c' h => ⟨by show s'.many ≤ _; omega, by show (0 : Nat) ≤ 100; omega⟩
  unfold doSt
  split
  · unfold writeK
    split
    · exact hs
    · split
      · split
        · exact ⟨by show s.many + 1 ≤ _; omega, h2⟩
        · split
          · exact hf _ _ (by show s.many + 1 ≤ _; omega)
          · exact ⟨by show s.many + 1 ≤ _; omega, h2⟩
      · exact hs
  split
  · unfold flushK
    split
    · exact hs
    · exact ⟨by show s.many ≤ _; omega, h2⟩
  split
  · unfold downK
    split
    · exact hs
    · exact hf _ _ (by omega)
  split
  · unfold armSt3
    split
    · exact hs
    · exact ⟨by show s.many ≤ _; omega, hc⟩
  split
  · exact ⟨by show s.many ≤ _; omega, h2⟩
  split
  · unfold spoilSt3
    split
    · exact ⟨by show s.many ≤ _; omega, h2⟩
    · exact hs
  · exact hs

/-- What was handed in is being written over. -/
structure LW (N : Nat) (w0 w : World) (d : DAt) (r : RAt) (s t : RSt) (E : DoE) : Prop where
  wb : WB N w0 w d r s t E.Z
  own : ∃ xs, w.ownsRow N 5 1 (.slice (some ⟨E.go, 0, none⟩) (E.n + 1) E.cO) (E.n + 1) xs
  kp : ∃ xs, w.ownsRow N 3 1 (.slice (some ⟨E.gk, 0, none⟩) E.m E.cK) E.m xs
section
variable {N : Nat} {w0 w w' : World} {d : DAt} {r : RAt} {s t : RSt} {E : DoE}
theorem DB.lw (h : DB N w0 w d r s t E) : LW N w0 w d r s t E := ⟨h.wb, ⟨_, h.en.own⟩, ⟨_, h.en.kp⟩⟩
theorem LW.ne (h : LW N w0 w d r s t E) : E.go ≠ E.gk := by
  obtain ⟨xs, h1⟩ := h.own
  obtain ⟨ys, h2⟩ := h.kp
  intro e
  have t1 := own_typ h1
  rw [e] at t1
  exact absurd (t1.ne (own_typ h2)) (by decide)
theorem LW.at1 (h : LW N w0 w d r s t E) {j : Nat} (hj : j < E.n + 1) : ∃ v, w.cell? ⟨E.go, j, none⟩ = some v ∧ w.frozen? ⟨E.go, j, none⟩ = false := by
  obtain ⟨xs, h1⟩ := h.own
  have hl := h1.1
  have := own_at h1 (j := j) (List.getElem?_eq_getElem (by omega))
  exact ⟨_, this⟩
theorem LW.at2 (h : LW N w0 w d r s t E) {j : Nat} (hj : j < E.m) : ∃ v, w.cell? ⟨E.gk, j, none⟩ = some v ∧ w.frozen? ⟨E.gk, j, none⟩ = false := by
  obtain ⟨xs, h1⟩ := h.kp
  have hl := h1.1
  have := own_at h1 (j := j) (List.getElem?_eq_getElem (by omega))
  exact ⟨_, this⟩
theorem LW.set1 (h : LW N w0 w d r s t E) (j : Nat) (u : Value) : LW N w0 (w.setCell ⟨E.go, j, none⟩ u) d r s t E := by
  have hk : Keep (fun k => k = E.go) w (w.setCell ⟨E.go, j, none⟩ u) := (Keep.refl _ _).setCell _ _ (fun _ => rfl)
  have ne := h.ne
  obtain ⟨xs, h1⟩ := h.own
  obtain ⟨ys, h2⟩ := h.kp
  exact ⟨h.wb.over hk (fun k e => .inr (.inr (.inl e))), ⟨_, own_put h1 u⟩, ⟨_, hk.own h2 (fun k e e2 => by injection e with e; have e : E.gk = k := e; have e2 : k = E.go := e2; omega)⟩⟩
theorem LW.set2 (h : LW N w0 w d r s t E) (j : Nat) (u : Value) : LW N w0 (w.setCell ⟨E.gk, j, none⟩ u) d r s t E := by
  have hk : Keep (fun k => k = E.gk) w (w.setCell ⟨E.gk, j, none⟩ u) := (Keep.refl _ _).setCell _ _ (fun _ => rfl)
  have ne := h.ne
  obtain ⟨xs, h1⟩ := h.own
  obtain ⟨ys, h2⟩ := h.kp
  exact ⟨h.wb.over hk (fun k e => .inr (.inr (.inr e))), ⟨_, hk.own h1 (fun k e e2 => by injection e with e; have e : E.go = k := e; have e2 : k = E.gk := e2; omega)⟩, ⟨_, own_put h2 u⟩⟩
theorem LW.done (h : LW N w0 w d r s t E) : WB N w0 w d r s t ⟨fun _ => False⟩ := h.wb.aim (Below.refl _ _) (fun _ h => h.elim) (fun _ h => h.elim)
end

theorem step_call_ex {P : Program} {md : Region.Mode} {ops : Array Oper} {Q : Exit → Act → World → Prop} {S : World → Prop} {R : Nat → Value → World → Prop} {a0 : Act} {i : Nat} {o : Oper} (f : FuncId) (hi : ops[i]? = some o)
    (h : ∀ (a : Act) (w : World), S w → (∀ t, free md ops i t = true → a.tmps[t]? = a0.tmps[t]?) → (∀ j d, behind md ops i j = true → dstOf ops j = some d → ∃ v, a.tmps[d]? = some v ∧ R j v w) →
      Region.wanted o (yielded ops a.tmps) = true ∧ ∃ args, (execOp a.eval o).run P w = .ok (.enter f args) w ∧
      Calls P f args w fun e w' => ∃ v, e = .returned v ∧ S w' ∧ R i v w' ∧ ∀ j u, j ≠ i → R j u w → R j u w') : AnyStep P md ops Q S R a0 i := by
  intro a w hS ho hn
  obtain ⟨h1, args, h2, h3⟩ := h a w hS ho hn
  unfold wpOp
  rw [hi]
  simp only [h1, if_true]
  refine .inl ?_
  unfold Oper.wp
  rw [h2, Oper.upon_enter]
  refine h3.mono ?_
  rintro e w' ⟨v, rfl, hS', hR, hst⟩
  exact ⟨v, by simp [dstOf, hi], hS', hR, hst⟩

/-- Two rows of numbers that were made; all else is a value. -/
def endR (vs : List Value) (x : List Int) : Nat → Value → World → Prop
  | 23, v, w' => ∃ A5 c5, v = .slice A5 x.length c5 ∧ Reads w' w'.heap.size 1 A5 x.length (x.map iv)
  | 25, v, w' => ∃ A5 c5, v = .slice A5 x.length c5 ∧ Reads w' w'.heap.size 1 A5 x.length (x.map iv)
  | i, v, _ => v = vs.getD i undef
theorem endR_keep {vs : List Value} {x : List Int} {w w' : World} {j : Nat} {u : Value} (hb : Below w.heap.size w w') (h : endR vs x j u w) : endR vs x j u w' := by
  unfold endR at *
  split at h
  · obtain ⟨A5, c5, e, hr⟩ := h
    exact ⟨A5, c5, e, (hr.below hb).more hb.size⟩
  · obtain ⟨A5, c5, e, hr⟩ := h
    exact ⟨A5, c5, e, (hr.below hb).more hb.size⟩
  · exact h

/-- A new disk beside an old one that is turned in any way. -/
structure DC (N : Nat) (w0 w : World) (d2 d : DAt) (r : RAt) (s t : RSt) (E : DoE) : Prop where
  new : DB N w0 w d2 r s s E
  old : ∃ kv, DK w d kv t
  ad : ∀ i, d.foot i → N ≤ i ∧ ¬ d2.foot i ∧ ¬ r.foot i ∧ ¬ E.Z.out i
section
variable {N : Nat} {w0 w w' : World} {d2 d : DAt} {r : RAt} {s t t' : RSt} {E : DoE} {er : Int}
theorem DC.next (h : DC N w0 w d2 d r s t E) (hb : Below w.heap.size w w') : DC N w0 w' d2 d r s t E := by
  obtain ⟨kv, ho⟩ := h.old
  exact ⟨h.new.next hb, ⟨kv, ho.below hb⟩, h.ad⟩
theorem DC.turn {kv kv' : Value} (h : DC N w0 w d2 d r s t E) (h0 : DK w d kv t) (h' : DK w' d kv' t') (hk : Keep d.foot w w') : DC N w0 w' d2 d r s t' E := by
  have hf := h0.foot_typ
  refine ⟨⟨⟨h.new.wb.below.trans (hk.below h.new.wb.le (fun i hi e => by have := (h.ad i e).1; omega)), Nat.le_trans h.new.wb.le hk.size, h.new.wb.df, h.new.wb.rf, h.new.wb.ap, h.new.wb.pl.keep hk (fun k h1 h2 => (h.ad k h2).2.1 h1) (fun k e => (hf k e).1), h.new.wb.rl.keep hk (fun k h1 h2 => (h.ad k h2).2.2.1 h1) (fun k e => (hf k e).2) (fun k e => (hf k e).1), fun k ho => by obtain ⟨a, b, c, e⟩ := h.new.wb.zd k ho; exact ⟨a, b, c, Nat.lt_of_lt_of_le e hk.size⟩⟩, h.new.en.keep h.new.wb.le hk (fun k hs => ⟨(h.ad k hs).1, (h.ad k hs).2.2.2⟩)⟩, ⟨kv', h'⟩, h.ad⟩
theorem DC.boot (h : DC N w0 w d2 d r s t E) : Calls Try.prog 8 #[.pointer (some ⟨d.b, 0, none⟩)] w fun e w' => e = .returned (.int .i64 0) ∧ DC N w0 w' d2 d r s (bootSt t) E := by
  obtain ⟨kv, h0⟩ := h.old
  refine (dboot_any h0).mono ?_
  rintro e w' ⟨rfl, h', hk⟩
  exact ⟨rfl, h.turn h0 h' (hk.more (fun k _ e => .inl e))⟩
theorem DC.write (h : DC N w0 w d2 d r s t E) (a : Int) (A : Option Addr) (n c : Nat) (l : List UInt8) (hl : l.length = n) (hr : Reads w w.heap.size 1 A n (l.map bv)) (hm : t.many < 9223372036854775807) :
    Calls Try.prog 12 #[.pointer (some ⟨d.b, 0, none⟩), .int .i64 a, .slice A n c] w fun e w' => e = .returned (.int .i64 (writeErr t a l)) ∧ DC N w0 w' d2 d r s (writeK t a l) E := by
  subst hl
  obtain ⟨kv, h0⟩ := h.old
  refine (dwrite_any a A c l h0 hr hm).mono ?_
  rintro e w' ⟨kv', rfl, h', _, hk⟩
  exact ⟨rfl, h.turn h0 h' hk⟩
theorem DC.spoil (h : DC N w0 w d2 d r s t E) (a : Int) (A : Option Addr) (n c : Nat) (l : List UInt8) (hl : l.length = n) (hr : Reads w w.heap.size 1 A n (l.map bv)) :
    Calls Try.prog 20 #[.pointer (some ⟨d.b, 0, none⟩), .int .i64 a, .slice A n c] w fun e w' => e = .returned (.int .i64 (spoilErr3 t a l)) ∧ DC N w0 w' d2 d r s (spoilSt3 t a l) E := by
  subst hl
  obtain ⟨kv, h0⟩ := h.old
  refine (dspoil_any a A c l h0 hr).mono ?_
  rintro e w' ⟨rfl, h', hk⟩
  exact ⟨rfl, h.turn h0 h' (hk.more (fun k _ e => .inr (.inl e)))⟩
theorem DC.flush (h : DC N w0 w d2 d r s t E) : Calls Try.prog 14 #[.pointer (some ⟨d.b, 0, none⟩)] w fun e w' => e = .returned (.int .i64 (if t.down then 31 else 0)) ∧ DC N w0 w' d2 d r s (flushK t) E := by
  obtain ⟨kv, h0⟩ := h.old
  refine (dflush_any h0).mono ?_
  rintro e w' ⟨rfl, h', hk⟩
  exact ⟨rfl, h.turn h0 h' hk⟩
theorem DC.down (h : DC N w0 w d2 d r s t E) : Calls Try.prog 16 #[.pointer (some ⟨d.b, 0, none⟩), .agg #[.int .i64 0, .slice none 0 0, .int .i64 0, .int .i64 0]] w fun e w' => e = .returned (.int .i64 (if t.down then 31 else 0)) ∧ DC N w0 w' d2 d r s (downK t ⟨0, [], 0, 0⟩) E := by
  obtain ⟨kv, h0⟩ := h.old
  refine (ddown_any ⟨0, [], 0, 0⟩ none 0 h0 ⟨Reads.none_, Nat.le_refl _, by omega⟩).mono ?_
  rintro e w' ⟨kv', rfl, h', _, hk⟩
  exact ⟨rfl, h.turn h0 h' hk⟩
theorem DB.copy (h : DB N w0 w d r s s E) (hK : s.keep.length ≤ 17592186044416) :
    Calls Try.prog 22 #[.pointer (some ⟨d.b, 0, none⟩)] w fun e w' => ∃ d' : DAt, e = .returned (.pointer (some ⟨d'.b, 0, none⟩)) ∧ DC N w0 w' d' d r s s E := by
  obtain ⟨kv, hd, hf⟩ := h.wb.pl
  refine (dcopy_any hd hK).mono ?_
  rintro e w' ⟨d', kv', rfl, h', hn, hb, hfr⟩
  have h2 := h.next hb
  letI : Aside := E.Z
  have hfar : @Far E.Z kv' := Far.fresh (fun k ho => (h.wb.zd k ho).2.2.2) hfr
  refine ⟨d', rfl, ⟨⟨⟨h2.wb.below, h2.wb.le, fun k e => Nat.le_trans h.wb.le (hn k e), h2.wb.rf, fun k e e2 => by have := hn k e; have := (h.wb.rl.foot k e2).2.2; omega, ⟨kv', h', hfar⟩, h2.wb.rl, fun k ho => ⟨fun e => by have := hn k e; have := (h.wb.zd k ho).2.2.2; omega, (h2.wb.zd k ho).2⟩⟩, h2.en⟩, ⟨kv, hd.below hb⟩, fun k e => ⟨h.wb.df k e, fun e2 => by have := hn k e2; have := (h.wb.pl.foot k e).1; omega, h.wb.ap k e, fun ho => (h.wb.zd k ho).1 e⟩⟩⟩
/-- .. in any state. -/
def DX (N : Nat) (w0 w : World) (d2 d : DAt) (r : RAt) (s : RSt) (E : DoE) (few : Bool) : Prop := ∃ t, DC N w0 w d2 d r s t E ∧ (few = true → t.many < 9223372036854775807)
def AnyInt (e : Ending) : Prop := ∃ er : Int, e = .returned (.int .i64 er)
theorem DX.next {few : Bool} (h : DX N w0 w d2 d r s E few) (hb : Below w.heap.size w w') : DX N w0 w' d2 d r s E few := by
  obtain ⟨t, h, hm⟩ := h
  exact ⟨t, h.next hb, hm⟩
theorem DX.boot {few : Bool} (h : DX N w0 w d2 d r s E few) : Calls Try.prog 8 #[.pointer (some ⟨d.b, 0, none⟩)] w fun e w' => e = .returned (.int .i64 0) ∧ DX N w0 w' d2 d r s E few := by
  obtain ⟨t, h, hm⟩ := h
  refine h.boot.mono ?_
  rintro e w' ⟨rfl, h'⟩
  exact ⟨rfl, _, h', hm⟩
theorem DX.write (h : DX N w0 w d2 d r s E true) (a : Int) (A : Option Addr) (n c : Nat) (l : List UInt8) (hl : l.length = n) (hr : Reads w w.heap.size 1 A n (l.map bv)) :
    Calls Try.prog 12 #[.pointer (some ⟨d.b, 0, none⟩), .int .i64 a, .slice A n c] w fun e w' => AnyInt e ∧ DX N w0 w' d2 d r s E false := by
  obtain ⟨t, h, hm⟩ := h
  refine (h.write a A n c l hl hr (hm rfl)).mono ?_
  rintro e w' ⟨rfl, h'⟩
  exact ⟨⟨_, rfl⟩, _, h', fun e => by cases e⟩
theorem DX.spoil (h : DX N w0 w d2 d r s E false) (a : Int) (A : Option Addr) (n c : Nat) (l : List UInt8) (hl : l.length = n) (hr : Reads w w.heap.size 1 A n (l.map bv)) :
    Calls Try.prog 20 #[.pointer (some ⟨d.b, 0, none⟩), .int .i64 a, .slice A n c] w fun e w' => AnyInt e ∧ DX N w0 w' d2 d r s E false := by
  obtain ⟨t, h, hm⟩ := h
  refine (h.spoil a A n c l hl hr).mono ?_
  rintro e w' ⟨rfl, h'⟩
  exact ⟨⟨_, rfl⟩, _, h', fun e => by cases e⟩
theorem DX.flush (h : DX N w0 w d2 d r s E false) : Calls Try.prog 14 #[.pointer (some ⟨d.b, 0, none⟩)] w fun e w' => AnyInt e ∧ DX N w0 w' d2 d r s E false := by
  obtain ⟨t, h, hm⟩ := h
  refine h.flush.mono ?_
  rintro e w' ⟨rfl, h'⟩
  exact ⟨⟨_, rfl⟩, _, h', fun e => by cases e⟩
theorem DX.down (h : DX N w0 w d2 d r s E false) : Calls Try.prog 16 #[.pointer (some ⟨d.b, 0, none⟩), .agg #[.int .i64 0, .slice none 0 0, .int .i64 0, .int .i64 0]] w fun e w' => AnyInt e ∧ DX N w0 w' d2 d r s E false := by
  obtain ⟨t, h, hm⟩ := h
  refine h.down.mono ?_
  rintro e w' ⟨rfl, h'⟩
  exact ⟨⟨_, rfl⟩, _, h', fun e => by cases e⟩
theorem DB.copyX (h : DB N w0 w d r s s E) (hK : s.keep.length ≤ 17592186044416) (hm : s.many < 9223372036854775807) :
    Calls Try.prog 22 #[.pointer (some ⟨d.b, 0, none⟩)] w fun e w' => ∃ d' : DAt, e = .returned (.pointer (some ⟨d'.b, 0, none⟩)) ∧ DX N w0 w' d' d r s E true := by
  refine (h.copy hK).mono ?_
  rintro e w' ⟨d', rfl, h'⟩
  exact ⟨d', rfl, _, h', fun _ => hm⟩
theorem DX.new (h : DX N w0 w d2 d r s E false) : DB N w0 w d2 r s s E := by
  obtain ⟨t, h, _⟩ := h
  exact h.new
/-- What is made later lies in none of these blocks. -/
theorem DB.newer {g : Nat} (h : DB N w0 w d r s t E) (hg : w.heap.size ≤ g) : N ≤ g ∧ ¬ d.foot g ∧ ¬ r.foot g ∧ ¬ E.Z.out g :=
  ⟨Nat.le_trans h.wb.le hg, fun e => by have := (h.wb.pl.foot g e).1; omega, fun e => by have := (h.wb.rl.foot g e).2.2; omega, fun e => by have := (h.wb.zd g e).2.2.2; omega⟩
theorem DB.read (h : DB N w0 w d r s t E) {l : List UInt8} (he : readErr3 s E.a = er) (hl : readOut3 s E.a = l) :
    Calls Try.prog 9 #[.pointer (some ⟨d.b, 0, none⟩), .int .i64 E.a] w fun e w' => ∃ A c, e = .returned (.tuple #[.slice A l.length c, .int .i64 er]) ∧ Reads w' w'.heap.size 1 A l.length (l.map bv) ∧ Below w.heap.size w w' ∧ l.length ≤ 128 ∧
      (l.length = 0 ∨ ∃ g, A = some ⟨g, 0, none⟩ ∧ Blk w' g 64 (l.map bv).toArray ∧ N ≤ g ∧ ¬ d.foot g ∧ ¬ r.foot g ∧ ¬ E.Z.out g) := by
  refine (h.wb.read E.a he hl).mono ?_
  rintro e w' ⟨v, rfl, hro, _⟩
  obtain ⟨A, c, rfl, hr⟩ := hro.reads
  refine ⟨A, c, rfl, hr, hro.1, ?_⟩
  rcases hro.2 with ⟨rfl, _⟩ | ⟨h128, g, hg, e, hb⟩
  · exact ⟨Nat.zero_le _, .inl rfl⟩
  · injection e with e _ _
    refine ⟨by omega, ?_⟩
    exact .inr ⟨g, e, hb, h.newer hg⟩
theorem DB.rread (h : DB N w0 w d r s t E) {l : List UInt8} (he : readErr3 t E.a = er) (hl : readOut3 t E.a = l) :
    Calls Try.prog 10 #[.pointer (some ⟨r.b, 0, none⟩), .int .i64 E.a] w fun e w' => ∃ A c, e = .returned (.tuple #[.slice A l.length c, .int .i64 er]) ∧ Reads w' w'.heap.size 1 A l.length (l.map bv) ∧ Below w.heap.size w w' := by
  refine (h.wb.rread E.a h.en.ai he hl).mono ?_
  rintro e w' ⟨v, rfl, A, c, rfl, ho, hb⟩
  exact ⟨A, c, rfl, Reads.of_own ho, hb⟩
theorem sec_next {g j : Nat} {y : List UInt8} (h : Blk w g 64 (y.map bv).toArray) (hj : j < y.length) : ∃ z z2 : Nat, w.cell? ⟨g, j, none⟩ = some (.int .u8 (z : Int)) ∧ w.frozen? ⟨g, j, none⟩ = false ∧ IntKind.u8.wrap ((z : Int) + 1) = (z2 : Int) ∧
    Blk (w.setCell ⟨g, j, none⟩ (.int .u8 (z2 : Int))) g 64 ((y.set j (y[j] + 1)).map bv).toArray := by
  refine ⟨y[j].toNat, (y[j] + 1).toNat, ?_, h.frozen j, ?_, ?_⟩
  · rw [h.cell j]
    simp [hj, bv]
  · rw [UInt8.toNat_add]
    simp [IntKind.wrap, IntKind.bits, IntKind.signed]
  · have := h.set_ j (.int .u8 ((y[j] + 1).toNat : Int))
    rw [List.setIfInBounds_toArray] at this
    rw [List.map_set]
    exact this
end
end Go.Proofs.Ytkebbjodkhjbmaa

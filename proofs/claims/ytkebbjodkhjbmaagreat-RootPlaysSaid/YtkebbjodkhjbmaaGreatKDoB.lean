/-
  The statement DiskPlays: a program's disk and a given one, apart from one another, beside blocks that are written besides.
-/
import Derived.Test.YtkebbjodkhjbmaaGreatDkSame
import Derived.Test.YtkebbjodkhjbmaaGreatKDiskC
import Derived.Test.YtkebbjodkhjbmaaGreatRDiskNewW
import Derived.Test.YtkebbjodkhjbmaaGreatKLaw
namespace Go.Proofs.YtkebbjodkhjbmaaGreat
open Go.RowKit

/-- Where a given disk lies. -/
structure RAt where
  b : Nat
  gS : Nat
  gC : Nat
  cS : Nat
  cC : Nat
def RAt.foot (r : RAt) (k : Nat) : Prop := rfoot r.b r.gS r.gC k

/-- The given disk at r has state s; none of its slices lies in a block of Z. -/
def RL (Z : Aside) (w : World) (r : RAt) (s : RSt) : Prop := ∃ kv vs ws, @RD Z w r.b r.gS r.gC r.cS r.cC kv vs ws s
/-- So does the program's at d. -/
def PL (Z : Aside) (w : World) (d : DAt) (s : RSt) : Prop := ∃ kv, DK w d kv s ∧ @Far Z kv

section
variable {w w' : World} {r : RAt} {d : DAt} {s : RSt} {Z Z' : Aside}

theorem Far.fresh [Aside] {N : Nat} {v : Value} (hl : ∀ k, Aside.out k → k < N) (h : Fresh N v) : Far v := fun ad n c e ho => by
  have := h ad n c e
  have := hl _ ho
  omega
theorem far_head {t : TypeId} {xs : List Value} {v : Value} (h : Head w t xs v) (hz : ∀ k, Z'.out k → Z.out k ∨ w.heap.size ≤ k) (hf : @Far Z v) : @Far Z' v := fun ad n c e ho => by
  obtain ⟨A, c', e', _, _, _, ht⟩ := h
  rw [e] at e'
  injection e' with e' _ _
  rcases hz _ ho with h1 | h1
  · exact hf ad n c e h1
  · have := (ht ad e'.symm).lt
    omega
theorem far_heads {ls : List (List UInt8)} {vs : List Value} (h : Heads w ls vs) (hz : ∀ k, Z'.out k → Z.out k ∨ w.heap.size ≤ k) (hf : ∀ v ∈ vs, @Far Z v) : ∀ v ∈ vs, @Far Z' v := fun v hv => by
  obtain ⟨i, hi, rfl⟩ := List.getElem_of_mem hv
  obtain ⟨u, hu, hh⟩ := h.2 i _ (List.getElem?_eq_getElem (by rw [← h.1]; exact hi))
  rw [List.getElem?_eq_getElem hi] at hu
  injection hu with hu
  subst hu
  exact far_head hh hz (hf _ hv)

theorem RL.below (h : RL Z w r s) (hb : Below w.heap.size w w') : RL Z w' r s := by
  obtain ⟨kv, vs, ws, h⟩ := h
  exact ⟨kv, vs, ws, @RD.below Z _ _ _ _ _ _ _ _ _ _ _ h hb⟩
theorem RL.keep {S : Nat → Prop} (h : RL Z w r s) (hk : Keep S w w') (hf : ∀ k, r.foot k → ¬ S k) (h8 : ∀ k, S k → ¬ Typ w k 5) (hi : ∀ k, S k → ¬ Typ w k 3) : RL Z w' r s := by
  obtain ⟨kv, vs, ws, h⟩ := h
  exact ⟨kv, vs, ws, @RD.keep Z _ _ _ _ _ _ _ _ _ _ _ _ h hk hf h8 hi⟩
theorem RL.foot (h : RL Z w r s) : ∀ k, r.foot k → ¬ Typ w k 5 ∧ ¬ Typ w k 3 ∧ k < w.heap.size := by
  obtain ⟨kv, vs, ws, h⟩ := h
  exact @RD.foot Z _ _ _ _ _ _ _ _ _ _ h
theorem RL.ok (h : RL Z w r s) : s.Ok := by
  obtain ⟨kv, vs, ws, h⟩ := h
  exact @RD.ok Z _ _ _ _ _ _ _ _ _ _ h
theorem Heads.keepF {S : Nat → Prop} {ls : List (List UInt8)} {vs : List Value} (h : Heads w ls vs) (hk : Keep S w w') (hS : ∀ v ∈ vs, ∀ ad n c, v = .slice (some ad) n c → ¬ S ad.block) : Heads w' ls vs :=
  ⟨h.1, fun i l hl => by
    obtain ⟨v, hv, hh⟩ := h.2 i l hl
    exact ⟨v, hv, hh.keepA hk (hS v (List.mem_of_getElem? hv))⟩⟩
/-- Blocks of Z are written. -/
theorem RL.aside (h : RL Z w r s) (hk : Keep Z.out w w') (hf : ∀ k, r.foot k → ¬ Z.out k) : RL Z w' r s := by
  obtain ⟨kv, vs, ws, h⟩ := h
  refine ⟨kv, vs, ws, ?_⟩
  letI : Aside := Z
  have hf' : ∀ k, rfoot r.b r.gS r.gC k → ¬ Z.out k := hf
  exact ⟨h.ok, hk.blk h.blk (hf' _ (.inl rfl)), hk.own h.sOwn (fun k e => by injection e with e; subst e; exact hf' _ (.inr (.inl rfl))), hk.own h.cOwn (fun k e => by injection e with e; subst e; exact hf' _ (.inr (.inr rfl))), h.ne,
    h.sHead.keepF hk (fun v hv => h.far.1 v hv), h.cHead.keepF hk (fun v hv => h.far.2.1 v hv), h.kHead.keepA hk h.far.2.2, fun k ho => Nat.lt_of_lt_of_le (h.lim k ho) hk.size, h.far⟩
/-- More blocks are left aside: such as did not lie yet. -/
theorem RL.aim (h : RL Z w r s) (hb : Below w.heap.size w w') (hz : ∀ k, Z'.out k → Z.out k ∨ w.heap.size ≤ k) (hl : ∀ k, Z'.out k → k < w'.heap.size) : RL Z' w' r s := by
  obtain ⟨kv, vs, ws, h0⟩ := h
  have h := @RD.below Z _ _ _ _ _ _ _ _ _ _ _ h0 hb
  have e1 := @RD.ok Z _ _ _ _ _ _ _ _ _ _ h
  have e2 := @RD.blk Z _ _ _ _ _ _ _ _ _ _ h
  have e3 := @RD.sOwn Z _ _ _ _ _ _ _ _ _ _ h
  have e4 := @RD.cOwn Z _ _ _ _ _ _ _ _ _ _ h
  have e5 := @RD.ne Z _ _ _ _ _ _ _ _ _ _ h
  have e6 := @RD.sHead Z _ _ _ _ _ _ _ _ _ _ h
  have e7 := @RD.cHead Z _ _ _ _ _ _ _ _ _ _ h
  have e8 := @RD.kHead Z _ _ _ _ _ _ _ _ _ _ h
  have f6 := @RD.sHead Z _ _ _ _ _ _ _ _ _ _ h0
  have f7 := @RD.cHead Z _ _ _ _ _ _ _ _ _ _ h0
  have f8 := @RD.kHead Z _ _ _ _ _ _ _ _ _ _ h0
  obtain ⟨g1, g2, g3⟩ := @RD.far Z _ _ _ _ _ _ _ _ _ _ h0
  exact ⟨kv, vs, ws, @RD.mk Z' _ _ _ _ _ _ _ _ _ _ e1 e2 e3 e4 e5 e6 e7 e8 hl ⟨far_heads f6 hz g1, far_heads f7 hz g2, far_head f8 hz g3⟩⟩

theorem PL.below (h : PL Z w d s) (hb : Below w.heap.size w w') : PL Z w' d s := by
  obtain ⟨kv, h, hf⟩ := h
  exact ⟨kv, h.below hb, hf⟩
theorem PL.keep {S : Nat → Prop} (h : PL Z w d s) (hk : Keep S w w') (hf : ∀ k, d.foot k → ¬ S k) (hi : ∀ k, S k → ¬ Typ w k 3) : PL Z w' d s := by
  obtain ⟨kv, h, hz⟩ := h
  exact ⟨kv, h.keep hk hf hi, hz⟩
theorem PL.aside (h : PL Z w d s) (hk : Keep Z.out w w') (hf : ∀ k, d.foot k → ¬ Z.out k) : PL Z w' d s := by
  obtain ⟨kv, h, hz⟩ := h
  exact ⟨kv, h.keepA hk hf hz, hz⟩
theorem PL.aim (h : PL Z w d s) (hb : Below w.heap.size w w') (hz : ∀ k, Z'.out k → Z.out k ∨ w.heap.size ≤ k) : PL Z' w' d s := by
  obtain ⟨kv, h, hf⟩ := h
  exact ⟨kv, h.below hb, far_head h.kHead hz hf⟩
theorem PL.foot (h : PL Z w d s) : ∀ k, d.foot k → k < w.heap.size ∧ ¬ Typ w k 3 ∧ ¬ Typ w k 5 := by
  obtain ⟨kv, h, hf⟩ := h
  exact fun k hk => ⟨h.lt k hk, h.foot_typ k hk⟩
theorem PL.more (h : PL Z w d s) : s.More := by
  obtain ⟨kv, h, hf⟩ := h
  exact h.more
end

/-- A program's disk and a given one, made since N, apart from one another and from the blocks of Z. -/
structure WB (N : Nat) (w0 w : World) (d : DAt) (r : RAt) (s t : RSt) (Z : Aside) : Prop where
  below : Below N w0 w
  le : N ≤ w.heap.size
  df : ∀ k, d.foot k → N ≤ k
  rf : ∀ k, r.foot k → N ≤ k
  ap : ∀ k, d.foot k → ¬ r.foot k
  pl : PL Z w d s
  rl : RL Z w r t
  zd : ∀ k, Z.out k → ¬ d.foot k ∧ ¬ r.foot k ∧ N ≤ k ∧ k < w.heap.size

section
variable {N : Nat} {w0 w w' : World} {d : DAt} {r : RAt} {s t s' t' : RSt} {Z Z' : Aside}
theorem WB.next (h : WB N w0 w d r s t Z) (hb : Below w.heap.size w w') : WB N w0 w' d r s t Z :=
  ⟨h.below.trans (hb.mono h.le), Nat.le_trans h.le hb.size, h.df, h.rf, h.ap, h.pl.below hb, h.rl.below hb, fun k hk => by obtain ⟨a, b, c, e⟩ := h.zd k hk; exact ⟨a, b, c, Nat.lt_of_lt_of_le e hb.size⟩⟩
theorem WB.drew (h : WB N w0 w d r s t Z) : WB N w0 w.drew d r s t Z := h.next (Below.refl _ _).drew
/-- The program's disk is turned. -/
theorem WB.prog {kv kv' : Value} (h : WB N w0 w d r s t Z) (hz : @Far Z kv) (h' : DK w' d kv' s') (hv : kv' = kv ∨ Fresh w.heap.size kv') (hk : Keep d.foot w w') : WB N w0 w' d r s' t Z := by
  have hf := h.pl.foot
  refine ⟨h.below.trans (hk.below h.le (fun i hi e => by have := h.df i e; omega)), Nat.le_trans h.le hk.size, h.df, h.rf, h.ap, ⟨kv', h', ?_⟩, h.rl.keep hk (fun k h1 h2 => h.ap k h2 h1) (fun k e => (hf k e).2.2) (fun k e => (hf k e).2.1), fun k hk' => by obtain ⟨a, b, c, e⟩ := h.zd k hk'; exact ⟨a, b, c, Nat.lt_of_lt_of_le e hk.size⟩⟩
  rcases hv with rfl | hv
  · exact hz
  · letI : Aside := Z
    exact Far.fresh (fun k ho => (h.zd k ho).2.2.2) hv
/-- The given disk is turned. -/
theorem WB.given (h : WB N w0 w d r s t Z) (hr : RL Z w' r t') (hk : Keep r.foot w w') : WB N w0 w' d r s t' Z := by
  have hf := h.rl.foot
  exact ⟨h.below.trans (hk.below h.le (fun i hi e => by have := h.rf i e; omega)), Nat.le_trans h.le hk.size, h.df, h.rf, h.ap, h.pl.keep hk (fun k h1 h2 => h.ap k h1 h2) (fun k e => (hf k e).2.1), hr, fun k hk' => by obtain ⟨a, b, c, e⟩ := h.zd k hk'; exact ⟨a, b, c, Nat.lt_of_lt_of_le e hk.size⟩⟩
/-- Blocks of Z are written. -/
theorem WB.aside (h : WB N w0 w d r s t Z) (hk : Keep Z.out w w') : WB N w0 w' d r s t Z :=
  ⟨h.below.trans (hk.below h.le (fun i hi e => by have := (h.zd i e).2.2.1; omega)), Nat.le_trans h.le hk.size, h.df, h.rf, h.ap, h.pl.aside hk (fun k h1 h2 => (h.zd k h2).1 h1), h.rl.aside hk (fun k h1 h2 => (h.zd k h2).2.1 h1), fun k hk' => by obtain ⟨a, b, c, e⟩ := h.zd k hk'; exact ⟨a, b, c, Nat.lt_of_lt_of_le e hk.size⟩⟩
/-- More blocks are left aside: such as did not lie yet; or fewer. -/
theorem WB.aim (h : WB N w0 w d r s t Z) (hb : Below w.heap.size w w') (hz : ∀ k, Z'.out k → Z.out k ∨ w.heap.size ≤ k) (hl : ∀ k, Z'.out k → k < w'.heap.size) : WB N w0 w' d r s t Z' := by
  refine ⟨h.below.trans (hb.mono h.le), Nat.le_trans h.le hb.size, h.df, h.rf, h.ap, h.pl.aim hb hz, h.rl.aim hb hz hl, fun k hk => ?_⟩
  rcases hz k hk with h1 | h1
  · obtain ⟨a, b, c, _⟩ := h.zd k h1
    exact ⟨a, b, c, hl k hk⟩
  · exact ⟨fun e => by have := (h.pl.foot k e).1; omega, fun e => by have := (h.rl.foot k e).2.2; omega, Nat.le_trans h.le h1, hl k hk⟩
end

/-! ### The calls -/
section
variable {N : Nat} {w0 w : World} {d : DAt} {r : RAt} {s t s' t' : RSt} {Z : Aside} {er : Int}
theorem WB.write (h : WB N w0 w d r s t Z) (a : Int) (A : Option Addr) (n c : Nat) (l : List UInt8) (hl : l.length = n) (hr : Reads w w.heap.size 1 A n (l.map bv)) (hm : s.many < 9223372036854775807) (he : writeErr s a l = er) (hs : writeK s a l = s') :
    Calls Tryz.prog 80 #[.pointer (some ⟨d.b, 0, none⟩), .int .i64 a, .slice A n c] w fun e w' => e = .returned (.int .i64 er) ∧ WB N w0 w' d r s' t Z ∧ Keep d.foot w w' := by
  subst hl he hs
  obtain ⟨kv, hd, hf⟩ := h.pl
  refine (dwrite_any a A c l hd hr hm).mono ?_
  rintro e w' ⟨kv', rfl, h', hv, hk⟩
  exact ⟨rfl, h.prog hf h' (hv.imp id (fun e => by subst e; exact Fresh.nil _)) hk, hk⟩
theorem WB.rwrite (h : WB N w0 w d r s t Z) (a : Int) (ha : i64ok a) (A : Option Addr) (n c : Nat) (l : List UInt8) (hl : l.length = n) (hr : Reads w w.heap.size 1 A n (l.map bv)) (hn : n ≤ 140737488355000) (hm : t.many < 9223372036854775807) (hmo : t.More) (he : writeErr t a l = er) (hs : writeK t a l = t') :
    Calls Tryz.prog 81 #[.pointer (some ⟨r.b, 0, none⟩), .int .i64 a, .slice A n c] w fun e w' => e = .returned (.int .i64 er) ∧ WB N w0 w' d r s t' Z ∧ Keep r.foot w w' := by
  have hok := h.rl.ok
  subst hl he hs
  obtain ⟨kv, vs, ws, hd⟩ := h.rl
  letI : Aside := Z
  refine (rwrite_any a ha.1 ha.2 hd hm hmo.many.1 hmo.write.1 hmo.write.2 ⟨⟨by show (-9223372036854775808 : Int) ≤ 0; omega, by show (0 : Int) ≤ 9223372036854775807; omega⟩, hmo.torn, hmo.at_, hmo.keep⟩ A c l hr hn).mono ?_
  rintro e w' ⟨rfl, ⟨kv', vs', ws', h'⟩, hk⟩
  rw [write_same t a l hok] at h'
  exact ⟨by rw [writeErr_same], h.given ⟨kv', vs', ws', h'⟩ hk, hk⟩
theorem WB.flush (h : WB N w0 w d r s t Z) (he : (if s.down then (31 : Int) else 0) = er) (hs : flushK s = s') :
    Calls Tryz.prog 82 #[.pointer (some ⟨d.b, 0, none⟩)] w fun e w' => e = .returned (.int .i64 er) ∧ WB N w0 w' d r s' t Z ∧ Keep d.foot w w' := by
  subst he hs
  obtain ⟨kv, hd, hf⟩ := h.pl
  refine (dflush_any hd).mono ?_
  rintro e w' ⟨rfl, h', hk⟩
  exact ⟨rfl, h.prog hf h' (.inl rfl) hk, hk⟩
theorem WB.rflush (h : WB N w0 w d r s t Z) (he : (if t.down then (31 : Int) else 0) = er) (hs : flushK t = t') :
    Calls Tryz.prog 83 #[.pointer (some ⟨r.b, 0, none⟩)] w fun e w' => e = .returned (.int .i64 er) ∧ WB N w0 w' d r s t' Z ∧ Keep r.foot w w' := by
  have hok := h.rl.ok
  subst he hs
  obtain ⟨kv, vs, ws, hd⟩ := h.rl
  letI : Aside := Z
  refine (rflush_any hd).mono ?_
  rintro e w' ⟨rfl, ⟨vs', ws', h'⟩, hk⟩
  rw [flush_same t hok] at h'
  exact ⟨rfl, h.given ⟨kv, vs', ws', h'⟩ hk, hk⟩
theorem WB.down (h : WB N w0 w d r s t Z) (c : DCrash) (KA : Option Addr) (n Kc : Nat) (hl : c.keep.length = n) (hk : Sl w w.heap.size KA Kc (c.keep.map iv)) (he : (if s.down then (31 : Int) else 0) = er) (hs : downK s c = s') :
    Calls Tryz.prog 74 #[.pointer (some ⟨d.b, 0, none⟩), .agg #[.int .i64 c.write, .slice KA n Kc, .int .i64 c.torn, .int .i64 c.at_]] w fun e w' => e = .returned (.int .i64 er) ∧ WB N w0 w' d r s' t Z ∧ Keep d.foot w w' := by
  subst hl he hs
  obtain ⟨kv, hd, hf⟩ := h.pl
  refine (ddown_any c KA Kc hd hk).mono ?_
  rintro e w' ⟨kv', rfl, h', hv, hk⟩
  exact ⟨rfl, h.prog hf h' (hv.imp id (fun e => by subst e; exact Fresh.nil _)) hk, hk⟩
theorem WB.rdown (h : WB N w0 w d r s t Z) (c : DCrash) (hc : c.Fine) (KA : Option Addr) (n Kc : Nat) (hl : c.keep.length = n) (hk : HeadF r.b r.gS r.gC w (c.keep.map iv) (.slice KA n Kc)) (he : (if t.down then (31 : Int) else 0) = er) (hs : downK t c = t') :
    Calls Tryz.prog 75 #[.pointer (some ⟨r.b, 0, none⟩), .agg #[.int .i64 c.write, .slice KA n Kc, .int .i64 c.torn, .int .i64 c.at_]] w fun e w' => e = .returned (.int .i64 er) ∧ WB N w0 w' d r s t' Z ∧ Keep r.foot w w' := by
  have hok := h.rl.ok
  subst hl he hs
  obtain ⟨kv, vs, ws, hd⟩ := h.rl
  letI : Aside := Z
  refine (rdown_any c hc KA Kc hk hd).mono ?_
  rintro e w' ⟨rfl, ⟨kv', vs', ws', h'⟩, hk⟩
  rw [down_same t c hok] at h'
  exact ⟨rfl, h.given ⟨kv', vs', ws', h'⟩ hk, hk⟩
theorem WB.arm (h : WB N w0 w d r s t Z) (c : DCrash) (hc : c.Fine) (KA : Option Addr) (n Kc : Nat) (hl : c.keep.length = n) (hk : Sl w w.heap.size KA Kc (c.keep.map iv)) (hK : n ≤ 17592186044416) (hKA : ∀ ad, KA = some ad → ad.block ≠ d.b) (he : armErr3 c = er) (hs : armSt3 s c = s') :
    Calls Tryz.prog 67 #[.pointer (some ⟨d.b, 0, none⟩), .agg #[.int .i64 c.write, .slice KA n Kc, .int .i64 c.torn, .int .i64 c.at_]] w fun e w' => e = .returned (.int .i64 er) ∧ WB N w0 w' d r s' t Z ∧ Keep d.foot w w' := by
  subst hl he hs
  obtain ⟨kv, hd, hf⟩ := h.pl
  refine (darm_any c KA Kc hc hd hk hK hKA).mono ?_
  rintro e w' ⟨kv', rfl, h', hv, hk⟩
  have hk' := hk.more (S' := d.foot) (fun k _ e => .inl e)
  exact ⟨rfl, h.prog hf h' hv hk', hk'⟩
theorem WB.rarm (h : WB N w0 w d r s t Z) (c : DCrash) (KA : Option Addr) (n Kc : Nat) (hl : c.keep.length = n) (hk : HeadF r.b r.gS r.gC w (c.keep.map iv) (.slice KA n Kc)) (hK : n ≤ 17592186044416) (he : armErr3 c = er) (hs : armSt3 t c = t') :
    Calls Tryz.prog 76 #[.pointer (some ⟨r.b, 0, none⟩), .agg #[.int .i64 c.write, .slice KA n Kc, .int .i64 c.torn, .int .i64 c.at_]] w fun e w' => e = .returned (.int .i64 er) ∧ WB N w0 w' d r s t' Z ∧ Keep r.foot w w' := by
  subst hl he hs
  obtain ⟨kv, vs, ws, hd⟩ := h.rl
  letI : Aside := Z
  refine (rarm_any c KA Kc hk hK hd).mono ?_
  rintro e w' ⟨rfl, ⟨kv', h'⟩, hk⟩
  exact ⟨rfl, h.given ⟨kv', vs, ws, h'⟩ hk, hk⟩
theorem WB.boot (h : WB N w0 w d r s t Z) (hs : bootSt s = s') :
    Calls Tryz.prog 14 #[.pointer (some ⟨d.b, 0, none⟩)] w fun e w' => e = .returned (.int .i64 0) ∧ WB N w0 w' d r s' t Z ∧ Keep d.foot w w' := by
  subst hs
  obtain ⟨kv, hd, hf⟩ := h.pl
  refine (dboot_any hd).mono ?_
  rintro e w' ⟨rfl, h', hk⟩
  have hk' := hk.more (S' := d.foot) (fun k _ e => .inl e)
  exact ⟨rfl, h.prog hf h' (.inl rfl) hk', hk'⟩
/-- 'r.IsDown = false'. -/
theorem WB.rboot (h : WB N w0 w d r s t Z) : WB N w0 (w.setCell ⟨r.b, 7, none⟩ (.bool false)) d r s (bootSt t) Z ∧ Keep r.foot w (w.setCell ⟨r.b, 7, none⟩ (.bool false)) := by
  obtain ⟨kv, vs, ws, hd⟩ := h.rl
  letI : Aside := Z
  have hk := (Keep.refl (fun i => i = r.b) w).setCell ⟨r.b, 7, none⟩ (.bool false) (fun _ => rfl)
  have hk' := hk.more (S' := r.foot) (fun k _ e => .inl e)
  exact ⟨h.given ⟨kv, vs, ws, hd.self (s' := bootSt t) hk rfl rfl (hd.blk.set_ 7 _) (hd.kHead.keep hk (fun i e => by subst e; exact (hd.foot _ (.inl rfl)).2.1)) hd.far.2.2⟩ hk', hk'⟩
theorem WB.spoil (h : WB N w0 w d r s t Z) (a : Int) (A : Option Addr) (n c : Nat) (l : List UInt8) (hl : l.length = n) (hr : Reads w w.heap.size 1 A n (l.map bv)) (he : spoilErr3 s a l = er) (hs : spoilSt3 s a l = s') :
    Calls Tryz.prog 77 #[.pointer (some ⟨d.b, 0, none⟩), .int .i64 a, .slice A n c] w fun e w' => e = .returned (.int .i64 er) ∧ WB N w0 w' d r s' t Z ∧ Keep d.foot w w' := by
  subst hl he hs
  obtain ⟨kv, hd, hf⟩ := h.pl
  refine (dspoil_any a A c l hd hr).mono ?_
  rintro e w' ⟨rfl, h', hk⟩
  have hk' := hk.more (S' := d.foot) (fun k _ e => .inr (.inl e))
  exact ⟨rfl, h.prog hf h' (.inl rfl) hk', hk'⟩
theorem WB.rspoil (h : WB N w0 w d r s t Z) (a : Int) (ha : i64ok a) (A : Option Addr) (n c : Nat) (l : List UInt8) (hl : l.length = n) (hr : Reads w w.heap.size 1 A n (l.map bv)) (hn : n ≤ 140737488355000) (he : spoilErr3 t a l = er) (hs : spoilSt3 t a l = t') :
    Calls Tryz.prog 79 #[.pointer (some ⟨r.b, 0, none⟩), .int .i64 a, .slice A n c] w fun e w' => e = .returned (.int .i64 er) ∧ WB N w0 w' d r s t' Z ∧ Keep r.foot w w' := by
  subst hl he hs
  obtain ⟨kv, vs, ws, hd⟩ := h.rl
  letI : Aside := Z
  refine (rspoil_any a ha.1 ha.2 hd A c l hr hn).mono ?_
  rintro e w' ⟨rfl, ⟨vs', h'⟩, hk⟩
  exact ⟨rfl, h.given ⟨kv, vs', ws, h'⟩ hk, hk⟩
theorem WB.read (h : WB N w0 w d r s t Z) (a : Int) {l : List UInt8} (he : readErr3 s a = er) (hl : readOut3 s a = l) :
    Calls Tryz.prog 180 #[.pointer (some ⟨d.b, 0, none⟩), .int .i64 a] w fun e w' => ∃ v, e = .returned (.tuple #[v, .int .i64 er]) ∧ ReadOut w w' v l ∧ WB N w0 w' d r s t Z := by
  subst he hl
  obtain ⟨kv, hd, hf⟩ := h.pl
  refine (dread_any a hd).mono ?_
  rintro e w' ⟨v, rfl, h'⟩
  exact ⟨v, rfl, h', h.next h'.1⟩
theorem WB.rread (h : WB N w0 w d r s t Z) (a : Int) (ha : i64ok a) {l : List UInt8} (he : readErr3 t a = er) (hl : readOut3 t a = l) :
    Calls Tryz.prog 140 #[.pointer (some ⟨r.b, 0, none⟩), .int .i64 a] w fun e w' => ∃ v, e = .returned (.tuple #[v, .int .i64 er]) ∧ Gives w w' v l := by
  subst he hl
  obtain ⟨kv, vs, ws, hd⟩ := h.rl
  letI : Aside := Z
  exact rread_any a ha.1 ha.2 hd
theorem WB.waits (h : WB N w0 w d r s t Z) {n : Nat} {x : List Int} (hw : waits3 s = x) (hn : x.length = n) :
    Calls Tryz.prog 206 #[.pointer (some ⟨d.b, 0, none⟩)] w fun e w' => ∃ A c, e = .returned (.slice A n c) ∧ Reads w' w'.heap.size 1 A n (x.map iv) ∧ Below w.heap.size w w' := by
  subst hw hn
  obtain ⟨kv, hd, hf⟩ := h.pl
  refine (dwaits_any hd).mono ?_
  rintro e w' ⟨A, c, rfl, ho, hb⟩
  exact ⟨A, c, rfl, Reads.of_own ho, hb⟩
end
end Go.Proofs.YtkebbjodkhjbmaaGreat

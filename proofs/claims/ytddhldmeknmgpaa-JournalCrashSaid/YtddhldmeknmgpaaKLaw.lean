/-
  The disk of layer 3 as the statements call it: a disk made since the statement began, whose state is told; and the statements' 'reads'.
-/
import Derived.Test.YtddhldmeknmgpaaKDiskX
import Derived.Test.YtddhldmeknmgpaaKDiskQ
import Derived.Test.YtddhldmeknmgpaaKDiskM
import Derived.Lib.SmallJoins
namespace Go.Proofs.Ytddhldmeknmgpaa
open Go.RowKit Go.Maps

/-- A disk made since N, in state s, in a world where what lay below N lies. -/
structure Lives (N : Nat) (w0 w : World) (d : DAt) (s : RSt) : Prop where
  below : Below N w0 w
  foot : ∀ k, d.foot k → N ≤ k
  dk : ∃ kv, DK w d kv s

theorem Keep.far {S : Nat → Prop} {N : Nat} {w w' : World} (h : Keep S w w') (hN : N ≤ w.heap.size) (hS : ∀ k, S k → N ≤ k) : Below N w w' :=
  ⟨h.os, h.tape, h.output, h.size, fun k hk => h.block k (by omega) (fun hs => by have := hS k hs; omega)⟩

/-- Another write is counted. -/
structure Few (s : RSt) : Prop where
  lt : s.many < 9223372036854775807

section
variable {N : Nat} {w0 w : World} {d : DAt} {s : RSt}

theorem Lives.to {w' : World} {s' : RSt} {S : Nat → Prop} {kv : Value} (L : Lives N w0 w d s) (hN : N ≤ w.heap.size) (hk : Keep S w w') (hS : ∀ k, S k → d.foot k) (h : DK w' d kv s') : Lives N w0 w' d s' :=
  ⟨L.below.trans (hk.far hN (fun k hs => L.foot k (hS k hs))), L.foot, _, h⟩
theorem Lives.next {w' : World} (L : Lives N w0 w d s) (hN : N ≤ w.heap.size) (hb : Below w.heap.size w w') : Lives N w0 w' d s := by
  obtain ⟨kv, h⟩ := L.dk
  exact ⟨L.below.trans (hb.mono hN), L.foot, kv, h.below hb⟩
theorem Lives.lt (L : Lives N w0 w d s) : N ≤ w.heap.size := by
  obtain ⟨kv, h⟩ := L.dk
  have := h.blk.lt
  have := L.foot d.b (.inl rfl)
  omega
theorem Lives.drew' (L : Lives N w0 w d s) : Lives N w0 w.drew d s := L.next L.lt (Below.refl _ _).drew
/-- Another disk's call leaves this one. -/
theorem Lives.other {w' : World} {d2 : DAt} {s2 : RSt} {S : Nat → Prop} (L : Lives N w0 w d s) (L2 : Lives N w0 w d2 s2) (hd : ∀ k, d.foot k → ¬ d2.foot k) (hk : Keep S w w') (hS : ∀ k, S k → d2.foot k) : Lives N w0 w' d s := by
  obtain ⟨kv, h⟩ := L.dk
  obtain ⟨kv2, h2⟩ := L2.dk
  exact ⟨L.below.trans (hk.far L.lt (fun k hs => L2.foot k (hS k hs))), L.foot, kv, h.keep hk (fun k hf hs => hd k hf (hS k hs)) (fun k hs => (h2.foot_typ k (hS k hs)).1)⟩

theorem lwrite {er : Int} {s' : RSt} (a : Int) (A : Option Addr) (n cb : Nat) (l : List UInt8) (L : Lives N w0 w d s) (hl : l.length = n) (hr : Reads w w.heap.size 1 A n (l.map bv)) (hm : Few s) (he : writeErr s a l = er) (hs : writeK s a l = s') :
    Calls Try.prog 38 #[.pointer (some ⟨d.b, 0, none⟩), .int .i64 a, .slice A n cb] w fun e w' => e = .returned (.int .i64 er) ∧ Lives N w0 w' d s' ∧ Keep d.foot w w' := by
  subst hl he hs
  obtain ⟨kv, h⟩ := L.dk
  refine (dwrite_any a A cb l h hr hm.lt).mono ?_
  rintro e w' ⟨kv', rfl, h', _, hk⟩
  exact ⟨rfl, L.to L.lt hk (fun _ h => h) h', hk⟩
theorem lflush {er : Int} {s' : RSt} (L : Lives N w0 w d s) (he : (if s.down then (31 : Int) else 0) = er) (hs : flushK s = s') :
    Calls Try.prog 39 #[.pointer (some ⟨d.b, 0, none⟩)] w fun e w' => e = .returned (.int .i64 er) ∧ Lives N w0 w' d s' ∧ Keep d.foot w w' := by
  subst he hs
  obtain ⟨kv, h⟩ := L.dk
  refine (dflush_any h).mono ?_
  rintro e w' ⟨rfl, h', hk⟩
  exact ⟨rfl, L.to L.lt hk (fun _ h => h) h', hk⟩
theorem lboot {s' : RSt} (L : Lives N w0 w d s) (hs : bootSt s = s') :
    Calls Try.prog 23 #[.pointer (some ⟨d.b, 0, none⟩)] w fun e w' => e = .returned (.int .i64 0) ∧ Lives N w0 w' d s' ∧ Keep d.foot w w' := by
  subst hs
  obtain ⟨kv, h⟩ := L.dk
  refine (dboot_any h).mono ?_
  rintro e w' ⟨rfl, h', hk⟩
  exact ⟨rfl, L.to L.lt hk (fun k e => .inl e) h', hk.more (fun k _ e => .inl e)⟩
theorem lspoil {er : Int} {s' : RSt} (a : Int) (A : Option Addr) (n c : Nat) (l : List UInt8) (L : Lives N w0 w d s) (hl : l.length = n) (hr : Reads w w.heap.size 1 A n (l.map bv)) (he : spoilErr3 s a l = er) (hs : spoilSt3 s a l = s') :
    Calls Try.prog 25 #[.pointer (some ⟨d.b, 0, none⟩), .int .i64 a, .slice A n c] w fun e w' => e = .returned (.int .i64 er) ∧ Lives N w0 w' d s' ∧ Keep d.foot w w' := by
  subst hl he hs
  obtain ⟨kv, h⟩ := L.dk
  refine (dspoil_any a A c l h hr).mono ?_
  rintro e w' ⟨rfl, h', hk⟩
  exact ⟨rfl, L.to L.lt hk (fun k e => .inr (.inl e)) h', hk.more (fun k _ e => .inr (.inl e))⟩
theorem larm {er : Int} {s' : RSt} (c : DCrash) (KA : Option Addr) (n Kc : Nat) (hf : c.Fine) (L : Lives N w0 w d s) (hl : c.keep.length = n) (hk : Sl w w.heap.size KA Kc (c.keep.map iv)) (hK : c.keep.length ≤ 17592186044416) (hKA : ∀ ad, KA = some ad → ad.block ≠ d.b) (he : armErr3 c = er) (hs : armSt3 s c = s') :
    Calls Try.prog 22 #[.pointer (some ⟨d.b, 0, none⟩), .agg #[.int .i64 c.write, .slice KA n Kc, .int .i64 c.torn, .int .i64 c.at_]] w fun e w' => e = .returned (.int .i64 er) ∧ Lives N w0 w' d s' ∧ Keep d.foot w w' := by
  subst hl he hs
  obtain ⟨kv, h⟩ := L.dk
  refine (darm_any c KA Kc hf h hk hK hKA).mono ?_
  rintro e w' ⟨kv', rfl, h', _, hk⟩
  exact ⟨rfl, L.to L.lt hk (fun k e => .inl e) h', hk.more (fun k _ e => .inl e)⟩
theorem lread {er : Int} {l : List UInt8} (a : Int) (L : Lives N w0 w d s) (he : readErr3 s a = er) (hl : readOut3 s a = l) :
    Calls Try.prog 21 #[.pointer (some ⟨d.b, 0, none⟩), .int .i64 a] w fun e w' => ∃ v, e = .returned (.tuple #[v, .int .i64 er]) ∧ ReadOut w w' v l ∧ Lives N w0 w' d s := by
  subst he hl
  obtain ⟨kv, h⟩ := L.dk
  refine (dread_any a h).mono ?_
  rintro e w' ⟨v, rfl, h'⟩
  exact ⟨v, rfl, h', L.next L.lt h'.1⟩
theorem lwaits {n : Nat} {ws : List Int} (L : Lives N w0 w d s) (hw : waits3 s = ws) (hn : ws.length = n) :
    Calls Try.prog 75 #[.pointer (some ⟨d.b, 0, none⟩)] w fun e w' => ∃ A c, e = .returned (.slice A n c) ∧ Reads w' w'.heap.size 1 A n (ws.map iv) ∧ Below w.heap.size w w' ∧ Lives N w0 w' d s := by
  subst hw hn
  obtain ⟨kv, h⟩ := L.dk
  refine (dwaits_any h).mono ?_
  rintro e w' ⟨A, c, rfl, ho, hb⟩
  exact ⟨A, c, rfl, Reads.of_own ho, hb, L.next L.lt hb⟩
theorem lnew {s' : RSt} (n : Nat) (hN : N ≤ w.heap.size) (hb : Below N w0 w) (h1 : 1 ≤ n) (h2 : n ≤ 4096) (hs : newSt n = s') : Calls Try.prog 13 #[.int .i64 (n : Int)] w fun e w' => ∃ d, e = .returned (.tuple #[.pointer (some ⟨d.b, 0, none⟩), .int .i64 0]) ∧ Lives N w0 w' d s' ∧ Below w.heap.size w w' ∧ ∀ k, d.foot k → w.heap.size ≤ k := by
  subst hs
  refine (dnew_any n w h1 h2).mono ?_
  rintro e w' ⟨d, rfl, h, hf, hb'⟩
  exact ⟨d, rfl, ⟨hb.trans (hb'.mono hN), fun k hk => Nat.le_trans hN (hf k hk), _, h⟩, hb', hf⟩

/-- What Read hands back reads as its bytes. -/
theorem ReadOut.reads {w w' : World} {v : Value} {l : List UInt8} (h : ReadOut w w' v l) : ∃ A c, v = .slice A l.length c ∧ Reads w' w'.heap.size 1 A l.length (l.map bv) := by
  obtain ⟨_, ⟨rfl, rfl, _⟩ | ⟨hl, g, hg, rfl, hb⟩⟩ := h
  · exact ⟨none, 0, rfl, Reads.none_⟩
  · refine ⟨some ⟨g, 0, none⟩, 128, by rw [hl], by rw [List.length_map]; omega, fun h0 => ⟨_, rfl, hb.lt, fun j u hu => ?_⟩⟩
    have hp : (⟨g, 0, none⟩ : Addr).add j = ⟨g, j, none⟩ := by unfold Addr.add; split <;> simp_all
    rw [hp, hb.cell, ← hu]
    simp

end
end Go.Proofs.Ytddhldmeknmgpaa

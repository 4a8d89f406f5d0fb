/-
  The journal of layer 8: what stands while load goes on.
-/
import Derived.Test.YtddhldmeknmgpaaJLoadA
namespace Go.Proofs.Ytddhldmeknmgpaa.journal
open Go.RowKit Go.Proofs.Ytddhldmeknmgpaa.crc Go.Proofs.Ytddhldmeknmgpaa.root

/-- What stands while load goes on, k sectors read: q: load's own boxes, f: those of its closures; ls: the payloads, wh: does the prefix go on. -/
structure LI (wE : World) (n4 q f b M ep : Nat) (p : Option Addr) (at_ : Int) (k : Nat) (ls : List (List UInt8)) (wh : Bool) (W : World) : Prop where
  below : Below wE.heap.size wE W
  size : n4 ≤ W.heap.size
  bj : Blk W q 38 #[.pointer (some ⟨b, 0, none⟩)]
  be : Blk W (q + 1) 22 #[.int .u64 ep]
  bn : Blk W (q + 2) 22 #[.int .u64 k]
  bw : Blk W (q + 3) 4 #[.bool wh]
  bf : Blk W f 25 #[.int .i64 0]
  bu : Blk W (f + 1) 96 #[.func (.func 69) #[] #[.pointer (some ⟨q + 2, 0, none⟩), .pointer (some ⟨q + 3, 0, none⟩), .pointer (some ⟨q + 1, 0, none⟩)]]
  bc : Blk W (f + 2) 38 #[.pointer (some ⟨b, 0, none⟩)]
  jn : ∃ pv vs, JAt wE.heap.size W b p pv vs ⟨at_, M, ep, ls⟩

/-- All blocks of cells. -/
def Cl (W : World) (i : Nat) : Prop := ∃ t, Typ W i t
theorem cl_blk {W : World} {g : Nat} {t : TypeId} {cs : Array Value} (h : Blk W g t cs) : Cl W g := ⟨t, h.typ⟩
theorem keepsFrom_cl {B : Nat} {W W' : World} (hk : Keep (Cl W) W W') : KeepsFrom B W W' :=
  ⟨hk.size, fun i o _ hi ho => (hk.block i (Array.getElem?_eq_some_iff.1 hi).1 (fun ⟨t, cs, fr, e⟩ => by
    rw [hi] at e
    injection e with e
    subst e
    cases ho)).trans hi⟩

section
variable {wE : World} {n4 q f b M ep k : Nat} {p : Option Addr} {at_ : Int} {ls : List (List UInt8)} {wh : Bool} {W W' : World}

theorem LI.keep {S : Nat → Prop} (h : LI wE n4 q f b M ep p at_ k ls wh W) (hk : Keep S W W') (hS : ∀ i, S i → ¬ Cl W i) (hE : ∀ i, S i → wE.heap.size ≤ i) : LI wE n4 q f b M ep p at_ k ls wh W' := by
  obtain ⟨pv, vs, hj⟩ := h.jn
  have no : ∀ {g t cs}, Blk W g t cs → ¬ S g := fun hb hs => hS _ hs (cl_blk hb)
  exact ⟨h.below.trans (hk.below h.below.size (fun i hi hs => by have := hE i hs; omega)), Nat.le_trans h.size hk.size, hk.blk h.bj (no h.bj), hk.blk h.be (no h.be), hk.blk h.bn (no h.bn), hk.blk h.bw (no h.bw), hk.blk h.bf (no h.bf), hk.blk h.bu (no h.bu), hk.blk h.bc (no h.bc), pv, vs, hj.keep hk (no hj.blk) (fun g e hs => hS g hs ⟨_, (own_typ2 hj.own g e).1⟩) (fun i hs t => hS i hs ⟨_, t⟩)⟩
theorem LI.next (h : LI wE n4 q f b M ep p at_ k ls wh W) (hb : Below W.heap.size W W') : LI wE n4 q f b M ep p at_ k ls wh W' :=
  h.keep (Keep.of_below (S := fun _ => False) hb) (fun _ e => e.elim) (fun _ e => e.elim)
theorem LI.turn {row : Option Nat} (h : LI wE n4 q f b M ep p at_ k ls wh W) (hw : wE.heap.size ≤ n4) (hg : W.grownBy W' row) (hr : ∀ r, row = some r → n4 ≤ r ∧ ∃ o : Obj, W.heap[r]? = some o ∧ o.isCells = false) : LI wE n4 q f b M ep p at_ k ls wh W' :=
  h.keep (S := fun i => row = some i) ((Keep.refl _ W).grown hg (fun g e _ => e)) (fun i e ⟨t, cs, fr, ec⟩ => by
    obtain ⟨_, o, ho, hc⟩ := hr i e
    rw [ho] at ec
    injection ec with ec
    subst ec
    cases hc) (fun i e => by have := (hr i e).1; omega)
/-- The test has been asked. -/
theorem LI.asked {wh' : Bool} (h : LI wE n4 q f b M ep p at_ k ls wh W) (hlo : wE.heap.size ≤ q) (hk : Keep (fun i => i = q + 2 ∨ i = q + 3) W W') (h1 : Blk W' (q + 2) 22 #[.int .u64 (k + 1 : Nat)]) (h2 : Blk W' (q + 3) 4 #[.bool wh']) : LI wE n4 q f b M ep p at_ (k + 1) ls wh' W' := by
  obtain ⟨pv, vs, hj⟩ := h.jn
  have no : ∀ {g t cs}, Blk W g t cs → t ≠ 22 → t ≠ 4 → ¬ (g = q + 2 ∨ g = q + 3) := fun hb ht1 ht2 e => by
    rcases e with rfl | rfl
    · exact ht1 (hb.typ.ne h.bn.typ)
    · exact ht2 (hb.typ.ne h.bw.typ)
  have noT : ∀ {g t}, Typ W g t → t ≠ 22 → t ≠ 4 → ¬ (g = q + 2 ∨ g = q + 3) := fun hb ht1 ht2 e => by
    rcases e with rfl | rfl
    · exact ht1 (hb.ne h.bn.typ)
    · exact ht2 (hb.ne h.bw.typ)
  exact ⟨h.below.trans (hk.below h.below.size (fun i hi hs => by omega)), Nat.le_trans h.size hk.size, hk.blk h.bj (no h.bj (by decide) (by decide)), hk.blk h.be (by omega), h1, h2, hk.blk h.bf (no h.bf (by decide) (by decide)), hk.blk h.bu (no h.bu (by decide) (by decide)), hk.blk h.bc (no h.bc (by decide) (by decide)), pv, vs, hj.keep hk (no hj.blk (by decide) (by decide)) (fun g e => noT (own_typ2 hj.own g e).1 (by decide) (by decide)) (fun i hs t => noT t (by decide) (by decide) hs)⟩
/-- A payload more. -/
theorem LI.push {W2 : World} {l : List UInt8} (h : LI wE n4 q f b M ep p at_ k ls wh W) (k2 : Below W.heap.size W W2) (ty : TypeId) (ad : Addr) (m : Nat) (u : Value) (hu : W2.cell? ad = some u) (h1 : u.oneCell' = true) (hd : Head W2 5 (l.map bv) u) (hi : ls.length < 4096) :
    ∃ pv v' W3, (Builtin.append_ #[44, 44] ty #[pv, .slice (some ad) 1 m]).run Try.prog W2 = .ok v' W3 ∧ LI wE n4 q f b M ep p at_ k (ls ++ [l]) wh (W3.setCell ⟨b, 5, none⟩ v') ∧ Keep (Cl W) W W3 ∧ Keep (Cl W) W (W3.setCell ⟨b, 5, none⟩ v') ∧
      Blk W b 46 #[.pointer (some ⟨b, 0, none⟩), .pointer p, .int .i64 at_, .int .i64 (M : Int), .int .u64 (ep : Int), pv] ∧ Blk W2 b 46 #[.pointer (some ⟨b, 0, none⟩), .pointer p, .int .i64 at_, .int .i64 (M : Int), .int .u64 (ep : Int), pv] ∧ Blk W3 b 46 #[.pointer (some ⟨b, 0, none⟩), .pointer p, .int .i64 at_, .int .i64 (M : Int), .int .u64 (ep : Int), pv] ∧
      (∀ g t cs, Blk W g t cs → t ≠ 23 → Blk W3 g t cs) ∧ (∀ g t cs, Blk W g t cs → t ≠ 23 → t ≠ 46 → Blk (W3.setCell ⟨b, 5, none⟩ v') g t cs) ∧ (∃ A' c', v' = .slice A' (ls.length + 1) c') ∧ ∃ A c, pv = .slice A ls.length c := by
  obtain ⟨pv, vs, hj⟩ := h.jn
  obtain ⟨v', W3, hrun, hj3, hb3, hg, _, hown⟩ := hj.push k2 ty ad m u hu h1 hd hi
  obtain ⟨A', c', hv'⟩ := own_slice3 hown
  obtain ⟨A, c, hpv⟩ := own_slice3 hj.own
  have hrow : ∀ g, pv.ownBlock = some g → Typ W g 23 := fun g e => (own_typ2 hj.own g e).1
  have hlo : ∀ g, pv.ownBlock = some g → wE.heap.size ≤ g := fun g e => (hj.own.lt g e).1
  have kA : Keep (fun i => pv.ownBlock = some i) W W3 := ((Keep.of_below (S := fun i => pv.ownBlock = some i) k2).trans ((Keep.refl _ W2).grown hg (fun g e _ => e)) (fun _ _ e => e))
  have kB : Keep (fun i => pv.ownBlock = some i ∨ i = b) W (W3.setCell ⟨b, 5, none⟩ v') := (kA.more (fun _ _ e => .inl e)).setCell _ _ (fun _ => .inr rfl)
  have noA : ∀ g t cs, Blk W g t cs → t ≠ 23 → ¬ pv.ownBlock = some g := fun g t cs hb ht e => ht (hb.typ.ne (hrow g e))
  have noB : ∀ g t cs, Blk W g t cs → t ≠ 23 → t ≠ 46 → ¬ (pv.ownBlock = some g ∨ g = b) := fun g t cs hb ht ht2 e => by
    rcases e with e | rfl
    · exact noA g t cs hb ht e
    · exact ht2 (hb.typ.ne hj.blk.typ)
  have clA : Keep (Cl W) W W3 := kA.more (fun i _ e => ⟨_, hrow i e⟩)
  have clB : Keep (Cl W) W (W3.setCell ⟨b, 5, none⟩ v') := kB.more (fun i _ e => by
    rcases e with e | rfl
    · exact ⟨_, hrow i e⟩
    · exact cl_blk hj.blk)
  have fB := fun g t cs hb ht ht2 => kB.blk (g := g) (t := t) (cs := cs) hb (noB g t cs hb ht ht2)
  refine ⟨pv, v', W3, hrun, ⟨h.below.trans (kB.below h.below.size (fun i hi e => ?_)), Nat.le_trans h.size kB.size, fB _ _ _ h.bj (by decide) (by decide), fB _ _ _ h.be (by decide) (by decide), fB _ _ _ h.bn (by decide) (by decide), fB _ _ _ h.bw (by decide) (by decide), fB _ _ _ h.bf (by decide) (by decide), fB _ _ _ h.bu (by decide) (by decide), fB _ _ _ h.bc (by decide) (by decide), v', vs ++ [u], hj3⟩, clA, clB, hj.blk, ?_, hb3, fun g t cs hb ht => kA.blk hb (noA g t cs hb ht), fB, ⟨A', c', hv'⟩, A, c, hpv⟩
  · rcases e with e | rfl
    · have := hlo i e; omega
    · have := hj.lo; omega
  · exact (Keep.of_below (S := fun _ => False) k2).blk hj.blk (fun e => e)
end

/-- .. and a sector's record is about to be handed over. -/
structure LM (wE : World) (n4 q f b M ep : Nat) (p : Option Addr) (at_ : Int) (er : Int → Int) (L : Int → List UInt8) (k : Nat) (x : Option Addr × Nat) (W : World) : Prop where
  lt : k < M
  no : ∀ i, i < k → er (adr at_ i) = 0
  li : LI wE n4 q f b M ep p at_ k (pfx ep (fun i => L (adr at_ i)) k).1 (pfx ep (fun i => L (adr at_ i)) k).2 W
  hd : Head W 5 ((decJ (L (adr at_ k))).pl.map bv) (.slice x.1 (decJ (L (adr at_ k))).pl.length x.2)
theorem Head.turn {W W' : World} {xs : List Value} {t : TypeId} {v : Value} {row : Option Nat} (h : Head W t xs v) (hg : W.grownBy W' row) (hr : ∀ r, row = some r → ∃ o : Obj, W.heap[r]? = some o ∧ o.isCells = false) : Head W' t xs v :=
  h.keep (S := fun i => row = some i) ((Keep.refl _ W).grown hg (fun g e _ => e)) (fun i e ⟨cs, fr, ec⟩ => by
    obtain ⟨o, ho, hc⟩ := hr i e
    rw [ho] at ec
    injection ec with ec
    subst ec
    cases hc)
theorem LM.turn {wE : World} {n4 q f b M ep k : Nat} {p : Option Addr} {at_ : Int} {er : Int → Int} {L : Int → List UInt8} {x : Option Addr × Nat} {W W' : World} {row : Option Nat} (h : LM wE n4 q f b M ep p at_ er L k x W) (hw : wE.heap.size ≤ n4) (hg : W.grownBy W' row) (hr : ∀ r, row = some r → n4 ≤ r ∧ ∃ o : Obj, W.heap[r]? = some o ∧ o.isCells = false) : LM wE n4 q f b M ep p at_ er L k x W' :=
  ⟨h.lt, h.no, h.li.turn hw hg hr, Head.turn h.hd hg (fun r e => (hr r e).2)⟩
/-- .. its loop variable boxed. -/
structure LA (wE : World) (n4 q f b M ep : Nat) (p : Option Addr) (at_ : Int) (er : Int → Int) (L : Int → List UInt8) (fr : Nat → Act) (k : Nat) (x : Option Addr × Nat) (a' : Act) (W : World) : Prop where
  m : LM wE n4 q f b M ep p at_ er L k x W
  b : ∃ rb, n4 ≤ rb ∧ a' = fr rb ∧ Blk W rb 69 #[.int .u64 (decJ (L (adr at_ k))).ep, .int .u64 (decJ (L (adr at_ k))).n, .slice x.1 (decJ (L (adr at_ k))).pl.length x.2]
theorem LA.turn {wE : World} {n4 q f b M ep k : Nat} {p : Option Addr} {at_ : Int} {er : Int → Int} {L : Int → List UInt8} {fr : Nat → Act} {x : Option Addr × Nat} {a' : Act} {W W' : World} {row : Option Nat} (h : LA wE n4 q f b M ep p at_ er L fr k x a' W) (hw : wE.heap.size ≤ n4) (hg : W.grownBy W' row) (hr : ∀ r, row = some r → n4 ≤ r ∧ ∃ o : Obj, W.heap[r]? = some o ∧ o.isCells = false) : LA wE n4 q f b M ep p at_ er L fr k x a' W' := by
  obtain ⟨rb, h1, h2, h3⟩ := h.b
  exact ⟨h.m.turn hw hg hr, rb, h1, h2, blk_own h3 hg hr⟩
/-- What stands where a sector's error ends it. -/
structure LX (wE : World) (f : Nat) (E : Int) (W : World) : Prop where
  ne : E ≠ 0
  below : Below wE.heap.size wE W
  bf : Blk W f 25 #[.int .i64 E]
theorem LX.turn {wE : World} {n4 f : Nat} {E : Int} {W W' : World} {row : Option Nat} (h : LX wE f E W) (hw : wE.heap.size ≤ n4) (hg : W.grownBy W' row) (hr : ∀ r, row = some r → n4 ≤ r ∧ ∃ o : Obj, W.heap[r]? = some o ∧ o.isCells = false) : LX wE f E W' :=
  ⟨h.ne, h.below.grown hg h.below.size (fun k e => by have := (hr k e).1; omega), blk_own h.bf hg hr⟩
end Go.Proofs.Ytddhldmeknmgpaa.journal

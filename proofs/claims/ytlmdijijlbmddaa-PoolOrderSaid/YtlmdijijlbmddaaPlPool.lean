/-
  The pool of layer 10: how it lies, with the memory behind it; frames by the types of the blocks that turn.
-/
import Derived.Test.YtlmdijijlbmddaaPlDel
namespace Go.Proofs.Ytlmdijijlbmddaa.pool
open Go.RowKit

/-! ### What turns, by the types of its blocks -/
/-- From w to w' only blocks from N on turn that hold cells of the types T. -/
structure KT (N : Nat) (T : List TypeId) (w w' : World) : Prop where
  keep : Keep (fun k => N ≤ k ∧ ∃ t, t ∈ T ∧ Typ w k t) w w'
section
variable {N : Nat} {T T' : List TypeId} {a b c w w' : World}
theorem KT.refl (N : Nat) (T : List TypeId) (w : World) : KT N T w w := ⟨Keep.refl _ _⟩
theorem KT.more (h : KT N T a b) (hT : ∀ t, t ∈ T → t ∈ T') : KT N T' a b :=
  ⟨h.keep.more (fun _ _ ⟨hN, t, ht, hx⟩ => ⟨hN, t, hT t ht, hx⟩)⟩
theorem KT.trans (h : KT N T a b) (k : KT N T b c) : KT N T a c := by
  refine ⟨h.keep.trans k.keep (fun i hi ⟨hN, t, ht, hx⟩ => ?_)⟩
  by_cases hs : N ≤ i ∧ ∃ t, t ∈ T ∧ Typ a i t
  · exact hs
  · obtain ⟨cs, fr, hx⟩ := hx
    exact ⟨hN, t, ht, cs, fr, (h.keep.block i hi hs).symm.trans hx⟩
theorem KT.of_below (h : Below w.heap.size w w') : KT N T w w' := ⟨Keep.of_below h⟩
theorem KT.below (h : KT N T w w') (hN : N ≤ w.heap.size) : Below N w w' := h.keep.below hN (fun i hi ⟨h1, _⟩ => by omega)
theorem KT.set_ {k : Nat} {t : TypeId} (ht : Typ w k t) (hN : N ≤ k) (hT : t ∈ T) (i : Nat) (v : Value) : KT N T w (w.setCell ⟨k, i, none⟩ v) :=
  ⟨(Keep.refl _ _).setCell _ _ (fun _ => ⟨hN, t, hT, ht⟩)⟩
theorem KT.blk {g : Nat} {t : TypeId} {cs : Array Value} (h : KT N T w w') (hb : Blk w g t cs) (ht : t ∉ T) : Blk w' g t cs :=
  h.keep.blk hb (fun ⟨_, _, hu, hx⟩ => ht (Typ.ne hb.typ hx ▸ hu))
theorem KT.el {g c : Nat} {el : List Int} (h : KT N T w w') (he : El w g c el) (ht : 2 ∉ T) : El w' g c el :=
  he.keep h.keep (fun ⟨_, _, hu, hx⟩ => ht (Typ.ne he.typ hx ▸ hu))
theorem KT.own {base size n : Nat} {e : TypeId} {v : Value} {xs : List Value} (h : KT N T w w') (ho : w.ownsRow base e size v n xs) (ht : e ∉ T) : w'.ownsRow base e size v n xs :=
  h.keep.own ho (fun k hk ⟨_, _, hu, hx⟩ => by
    rcases ho.2 with ⟨rfl, _⟩ | ⟨g, cap, cur, rfl, hb, hh, _⟩
    · simp [Value.ownBlock] at hk
    · have : g = k := by simpa [Value.ownBlock] using hk
      subst this
      exact ht (Typ.ne ⟨cur, (0, 0), hh⟩ hx ▸ hu))
theorem own_typ_of {base size n k : Nat} {e : TypeId} {v : Value} {xs : List Value} (ho : w.ownsRow base e size v n xs) (hk : v.ownBlock = some k) : base ≤ k ∧ Typ w k e := by
  rcases ho.2 with ⟨rfl, _⟩ | ⟨g, cap, cur, rfl, hb, hh, _⟩
  · simp [Value.ownBlock] at hk
  · have : g = k := by simpa [Value.ownBlock] using hk
    subst this
    exact ⟨hb, cur, (0, 0), hh⟩
/-- An append onto a row of type e. -/
theorem KT.append {base size n : Nat} {e : TypeId} {v : Value} {xs : List Value} (ho : w.ownsRow base e size v n xs) (hg : w.grownBy w' v.ownBlock) (hN : N ≤ base) (hT : e ∈ T) : KT N T w w' :=
  ⟨(Keep.refl _ _).grown hg (fun _ hgv _ => ⟨Nat.le_trans hN (own_typ_of ho hgv).1, e, hT, (own_typ_of ho hgv).2⟩)⟩
end

/-! ### The pool and its memory as they lie -/
abbrev QL := List (FL × FV)
def bsQ (q : QL) : List Nat := q.map (·.1.b)
def noteC (x : LV) : List Value := [.int .i64 x.k, .int .i64 x.a, .int .i64 0, .int .i64 x.n]
def notesC (l : List LV) : List Value := l.flatMap noteC

structure PoolAt (N : Nat) (w : World) (p m size : Nat) (ask : Bool) (q : QL) : Prop where
  np : N ≤ p
  pool : ∃ A c, Blk w p 54 #[pv p, .iface 22 (pv m), .int .i64 (size : Int), .slice A q.length c, .bool ask] ∧ w.ownsRow N 79 1 (.slice A q.length c) q.length ((bsQ q).map pv)
  fr : ∀ x ∈ q, FrAt w x.1 x.2 ∧ N ≤ x.1.b ∧ N ≤ x.1.g
  nb : (bsQ q).Nodup
  ng : (q.map (·.1.g)).Nodup
  few : q.length ≤ 64 ∧ size ≤ 64
/-- Where the memory's tiles lie: their cells' block, and each one's elements and room. -/
structure ML where
  lg : Nat
  l : List (Nat × Nat)
structure MemAt (N : Nat) (w : World) (m : Nat) (ml : ML) (L : List TV) (log : List LV) : Prop where
  nm : N ≤ m
  mem : ∃ lc logv, Blk w m 38 #[.slice (some ⟨ml.lg, 0, none⟩) L.length lc, logv, .int .i64 0] ∧ w.ownsRow N 40 4 logv log.length (notesC log) ∧ N ≤ ml.lg ∧
    ∃ cur, Blk w ml.lg 43 cur ∧ ∀ (i : Nat) (t : TV) (g c : Nat), L[i]? = some t → ml.l[i]? = some (g, c) → cur[4 * i]? = some (.int .i64 t.file) ∧ cur[4 * i + 1]? = some (.int .i64 t.no) ∧ cur[4 * i + 2]? = some (.int .i64 t.kind) ∧ cur[4 * i + 3]? = some (.slice (some ⟨g, 0, none⟩) 4 c)
  len : ml.l.length = L.length
  el : ∀ (i : Nat) (t : TV) (g c : Nat), L[i]? = some t → ml.l[i]? = some (g, c) → El w g c t.el ∧ N ≤ g
structure PL (N : Nat) (w : World) (p m : Nat) (ask : Bool) (q : QL) (ml : ML) (s : PS) : Prop where
  pool : PoolAt N w p m s.size ask q
  mem : MemAt N w m ml s.L s.log
  ap : ∀ x ∈ q, ∀ y ∈ ml.l, x.1.g ≠ y.1
  fr : s.fr = q.map (·.2)

section
variable {N p m size : Nat} {w w' : World} {ask : Bool} {q : QL} {ml : ML} {L : List TV} {log : List LV} {s : PS} {T : List TypeId}
theorem PoolAt.keep (h : PoolAt N w p m size ask q) (hk : KT N T w w') (h1 : 54 ∉ T ∧ 79 ∉ T ∧ 82 ∉ T ∧ 2 ∉ T) : PoolAt N w' p m size ask q := by
  obtain ⟨A, c, hb, ho⟩ := h.pool
  exact ⟨h.np, ⟨A, c, hk.blk hb h1.1, hk.own ho h1.2.1⟩, fun x hx => ⟨⟨hk.blk (h.fr x hx).1.blk h1.2.2.1, hk.el (h.fr x hx).1.el h1.2.2.2⟩, (h.fr x hx).2⟩, h.nb, h.ng, h.few⟩
theorem MemAt.keep (h : MemAt N w m ml L log) (hk : KT N T w w') (h1 : 38 ∉ T ∧ 40 ∉ T ∧ 43 ∉ T ∧ 2 ∉ T) : MemAt N w' m ml L log := by
  obtain ⟨lc, logv, hb, ho, hN, cur, hc, hcur⟩ := h.mem
  exact ⟨h.nm, ⟨lc, logv, hk.blk hb h1.1, hk.own ho h1.2.1, hN, cur, hk.blk hc h1.2.2.1, hcur⟩, h.len, fun i t g c hi hm => ⟨hk.el (h.el i t g c hi hm).1 h1.2.2.2, (h.el i t g c hi hm).2⟩⟩
/-- A tile's box that is none of the memory's. -/
theorem MemAt.box (h : MemAt N w m ml L log) {k : Nat} (hk : Typ w k 43) (hne : k ≠ ml.lg) (hS : Keep (fun j => j = k) w w') : MemAt N w' m ml L log := by
  obtain ⟨lc, logv, hb, ho, hN, cur, hc, hcur⟩ := h.mem
  refine ⟨h.nm, ⟨lc, logv, hS.blk hb (fun e => absurd (Typ.ne hb.typ (e ▸ hk)) (by decide)), hS.own ho (fun j hj e => absurd (Typ.ne (own_typ_of ho hj).2 (e ▸ hk)) (by decide)), hN, cur, hS.blk hc (fun e => hne e.symm), hcur⟩, h.len, fun i t g c hi hm => ⟨?_, (h.el i t g c hi hm).2⟩⟩
  have he := (h.el i t g c hi hm).1
  exact he.keep hS (fun e => absurd (Typ.ne he.typ (e ▸ hk)) (by decide))
theorem El.box {g c k : Nat} {el : List Int} {t : TypeId} (he : El w g c el) (hk : Typ w k t) (ht : 2 ≠ t) (hS : Keep (fun j => j = k) w w') : El w' g c el :=
  he.keep hS (fun e => ht (Typ.ne he.typ (e ▸ hk)))
theorem KT.newK {k : Nat} (h : KT N T w w') {w2 : World} (hk : w.heap.size ≤ k) (hS : Keep (fun j => j = k) w' w2) : KT N T w w2 := ⟨h.keep.trans hS (fun i hi e => by omega)⟩
/-- A tile is laid into its box. -/
theorem keep_tile (W : World) (g : Nat) (x y z u : Value) : Keep (fun k => k = g) W ((((W.setCell ⟨g, 0, none⟩ x).setCell ⟨g, 1, none⟩ y).setCell ⟨g, 2, none⟩ z).setCell ⟨g, 3, none⟩ u) := by
  have h1 : Keep (fun k => k = g) W (W.setCell ⟨g, 0, none⟩ x) := (Keep.refl _ _).setCell _ _ (fun _ => rfl)
  exact ((h1.setCell _ _ (fun _ => rfl)).setCell _ _ (fun _ => rfl)).setCell _ _ (fun _ => rfl)
theorem PL.keep (h : PL N w p m ask q ml s) (hk : KT N T w w') (h1 : 54 ∉ T ∧ 79 ∉ T ∧ 82 ∉ T ∧ 2 ∉ T) (h2 : 38 ∉ T ∧ 40 ∉ T ∧ 43 ∉ T ∧ 2 ∉ T) : PL N w' p m ask q ml s :=
  ⟨h.pool.keep hk h1, h.mem.keep hk h2, h.ap, h.fr⟩
theorem PL.below (h : PL N w p m ask q ml s) (hb : Below w.heap.size w w') : PL N w' p m ask q ml s :=
  h.keep (KT.of_below (N := N) (T := []) hb) ⟨by simp, by simp, by simp, by simp⟩ ⟨by simp, by simp, by simp, by simp⟩
theorem PoolAt.below (h : PoolAt N w p m size ask q) (hb : Below w.heap.size w w') : PoolAt N w' p m size ask q :=
  h.keep (KT.of_below (N := N) (T := []) hb) ⟨by simp, by simp, by simp, by simp⟩
theorem MemAt.below (h : MemAt N w m ml L log) (hb : Below w.heap.size w w') : MemAt N w' m ml L log :=
  h.keep (KT.of_below (N := N) (T := []) hb) ⟨by simp, by simp, by simp, by simp⟩
theorem PoolAt.blk5 (h : PoolAt N w p m size ask q) : w.cell? ⟨p, 0, none⟩ = some (pv p) ∧ w.cell? ⟨p, 1, none⟩ = some (.iface 22 (pv m)) ∧ w.cell? ⟨p, 2, none⟩ = some (.int .i64 (size : Int)) ∧ w.cell? ⟨p, 4, none⟩ = some (.bool ask) := by
  obtain ⟨A, c, hb, _⟩ := h.pool
  exact ⟨hb.cell 0, hb.cell 1, hb.cell 2, hb.cell 4⟩
theorem bs_at (q : QL) {j : Nat} (hj : j < q.length) : (bsQ q).getD j 0 = q[j].1.b := by
  unfold bsQ
  rw [List.getD_eq_getElem?_getD, List.getElem?_map, List.getElem?_eq_getElem hj]
  rfl
theorem PoolAt.hs (h : PoolAt N w p m size ask q) : ∃ A c, Hs w p q.length c A (bsQ q) := by
  obtain ⟨A, c, hb, ho⟩ := h.pool
  refine ⟨A, c, by unfold bsQ; rw [List.length_map], hb.cell 3, fun j hj => ?_⟩
  rcases ho.2 with ⟨_, h0⟩ | ⟨g, cap, cur, e, _⟩
  · omega
  · injection e with e1 e2 e3
    subst e1
    refine ⟨g, rfl, (own_at ho ?_).1⟩
    rw [List.getElem?_map, List.getD_eq_getElem?_getD, List.getElem?_eq_getElem (by unfold bsQ; rw [List.length_map]; exact hj)]
    rfl
theorem PoolAt.at_ (h : PoolAt N w p m size ask q) {j : Nat} (hj : j < q.length) : FrAt w q[j].1 q[j].2 := (h.fr _ (List.getElem_mem hj)).1
end
end Go.Proofs.Ytlmdijijlbmddaa.pool

/-
  The journal of layer 8: what Append answers and leaves, without any program; and what stands while its payload is laid behind the others (a region that draws its order).
-/
import Derived.Test.YtddhldmeknmgpaaJOpen
namespace Go.Proofs.Ytddhldmeknmgpaa
open Go.RowKit
section
variable {P : Program} {ops : Array Oper} {Q : Exit → Act → World → Prop} {md : Region.Mode} {S : (Nat → Bool) → World → Prop} {R : (Nat → Bool) → Nat → Value → World → Prop} {a0 : Act} {i : Nat} {o : Oper}
theorem done_any (hS : ∀ done w, S done w → S (upd done i) w) (hR : ∀ done j u w, R done j u w → R (upd done i) j u w) (hi : ops[i]? = some o)
    (h : ∀ (done : Nat → Bool) (a : Act) (w : World), S done w → done i = false → (∀ t, free md ops i t = true → a.tmps[t]? = a0.tmps[t]?) → (∀ j d, behind md ops i j = true → dstOf ops j = some d → ∃ v, a.tmps[d]? = some v ∧ R done j v w) →
      Region.wanted o (yielded ops a.tmps) = true ∧ ∃ v, (execOp a.eval o).run P w = .ok (.value v) w ∧ R (upd done i) i v w) : DoneStep P md ops Q S R a0 i := by
  intro done a w hs hd _ ho hn
  obtain ⟨h1, v, h2, h3⟩ := h done a w hs hd ho hn
  unfold wpOp
  rw [hi]
  simp only [h1, if_true]
  refine .inl ?_
  unfold Oper.wp
  rw [h2]
  exact ⟨v, by simp [dstOf, hi], hS _ _ hs, h3, fun _ _ _ _ h => hR _ _ _ _ h⟩
end
end Go.Proofs.Ytddhldmeknmgpaa

namespace Go.Proofs.Ytddhldmeknmgpaa.journal
open Go.RowKit Go.Proofs.Ytddhldmeknmgpaa.crc Go.Proofs.Ytddhldmeknmgpaa.root

theorem reads_keep {w w' : World} {S : Nat → Prop} {A : Option Addr} {n : Nat} {xs : List Value} (h : Reads w w.heap.size 1 A n xs) (hk : Keep S w w') (hS : 0 < n → ∀ ad, A = some ad → ¬ S ad.block) : Reads w' w'.heap.size 1 A n xs := by
  rcases Nat.eq_zero_or_pos n with h0 | h0
  · exact ⟨h.1, fun h1 => by omega⟩
  · exact (h.keepS hk (Nat.le_refl _) (hS h0)).more hk.size
/-! ### What Append answers -/
def numJ (j : JS) (l : List UInt8) : JV := ⟨j.ep, j.ls.length + 1, l⟩
def appE (s : RSt) (j : JS) (l : List UInt8) : Int := if 64 < l.length then 80 else if j.ls.length = j.many then 41 else writeErr s (j.at_ + (j.ls.length : Int)) (sectJ (numJ j l))
def appS (s : RSt) (j : JS) (l : List UInt8) : RSt := if 64 < l.length ∨ j.ls.length = j.many then s else if writeErr s (j.at_ + (j.ls.length : Int)) (sectJ (numJ j l)) = 0 then flushK (writeK s (j.at_ + (j.ls.length : Int)) (sectJ (numJ j l))) else writeK s (j.at_ + (j.ls.length : Int)) (sectJ (numJ j l))
def appJ (s : RSt) (j : JS) (l : List UInt8) : JS := if appE s j l = 0 then { j with ls := j.ls ++ [l] } else j
/-- A Write that went well leaves the disk up. -/
theorem wrote_up {s : RSt} {a : Int} {l : List UInt8} (h : writeErr s a l = 0) : (writeK s a l).down = false := by
  unfold writeErr at h
  unfold writeK
  cases hd : s.down
  · rw [hd] at h
    simp only [Bool.false_eq_true, if_false] at h ⊢
    split at h
    · split at h
      · omega
      · rename_i ht hw
        rw [if_pos ht]
        by_cases h0 : s.write = 0
        · rw [if_pos h0]; exact hd
        · rw [if_neg h0, if_neg hw]; exact hd
    · omega
  · rw [hd] at h
    simp at h

theorem JAt.mono {N N' b : Nat} {w : World} {p : Option Addr} {pv : Value} {vs : List Value} {j : JS} (h : JAt N w b p pv vs j) (hN : N' ≤ N) : JAt N' w b p pv vs j :=
  ⟨Nat.le_trans hN h.lo, h.few, h.blk, own_mono h.own hN, h.heads⟩
/-- What a journal's own box and row turn leaves the disk. -/
theorem jrow_disk {N b : Nat} {w0 w w' : World} {d : DAt} {s : RSt} {p : Option Addr} {pv : Value} {vs : List Value} {j : JS} (L : Lives N w0 w d s) (h : JAt N w b p pv vs j) (hk : Keep (fun i => i = b ∨ pv.ownBlock = some i) w w') : Lives N w0 w' d s := by
  obtain ⟨kv, hd⟩ := L.dk
  have hr := own_typ2 h.own
  refine ⟨L.below.trans (hk.far L.lt (fun k hs => ?_)), L.foot, kv, hd.keep hk (fun k hf hs => ?_) (fun k hs t => ?_)⟩
  · rcases hs with rfl | e
    · exact h.lo
    · exact (h.own.lt k e).1
  · rcases hs with rfl | e
    · exact hd.foot_not hf h.blk.typ (by decide) (by decide)
    · exact hd.foot_not hf (hr k e).1 (by decide) (by decide)
  · rcases hs with rfl | e
    · exact absurd (t.ne h.blk.typ) (by decide)
    · exact absurd (t.ne (hr k e).1) (by decide)

/-- What stands of Encode's answer. -/
def RdW (m : Nat) (l : List UInt8) (E : Int) (vs : List Value) (i : Nat) (v : Value) (W : World) : Prop :=
  (i < 9 → v = vs.getD i undef) ∧ ((i = 9 ∨ i = 10) → ∃ A c, v = .tuple #[.slice A m c, .int .i64 E] ∧ Reads W W.heap.size 1 A m (l.map bv)) ∧ ((i = 11 ∨ i = 13) → ∃ A c, v = .slice A m c ∧ Reads W W.heap.size 1 A m (l.map bv)) ∧ ((i = 12 ∨ i = 14) → v = .int .i64 E)
theorem RdW.below {m i : Nat} {l : List UInt8} {E : Int} {vs : List Value} {v : Value} {W W' : World} (h : RdW m l E vs i v W) (hb : Below W.heap.size W W') : RdW m l E vs i v W' :=
  ⟨h.1, fun e => by obtain ⟨A, c, e1, e2⟩ := h.2.1 e; exact ⟨A, c, e1, (e2.below hb).more hb.size⟩, fun e => by obtain ⟨A, c, e1, e2⟩ := h.2.2.1 e; exact ⟨A, c, e1, (e2.below hb).more hb.size⟩, h.2.2.2⟩

/-! ### The payload is laid behind the others -/
abbrev S14 (N : Nat) (wr : World) (b : Nat) (p : Option Addr) (pv : Value) (vs : List Value) (j : JS) (l : List UInt8) (dn : Nat → Bool) (W : World) : Prop :=
  Keep (fun i => i = b ∨ pv.ownBlock = some i) wr W ∧ (dn 6 = false → W = wr.drew) ∧ (dn 8 = false → JAt N W b p pv vs j) ∧
  (dn 8 = true → dn 11 = false → Blk W b 46 #[.pointer (some ⟨b, 0, none⟩), .pointer p, .int .i64 j.at_, .int .i64 (j.many : Int), .int .u64 (j.ep : Int), pv]) ∧
  (dn 11 = true → ∃ pv' vs', JAt N W b p pv' vs' { j with ls := j.ls ++ [l] }) ∧ (dn 7 = true → dn 6 = true) ∧ (dn 8 = true → dn 7 = true) ∧ (dn 11 = true → dn 8 = true)
abbrev R14 (N b : Nat) (p : Option Addr) (j : JS) (l : List UInt8) (n : Nat) (cs : List Value) (dn : Nat → Bool) (i : Nat) (v : Value) (W : World) : Prop :=
  (i ≠ 6 → i ≠ 7 → i ≠ 8 → v = cs.getD i undef) ∧ (i = 6 → dn 6 = true ∧ (dn 7 = false → ∃ A c, v = .slice A n c ∧ Head W 5 (l.map bv) (.slice A n c))) ∧
  (i = 7 → dn 7 = true ∧ (dn 8 = false → ∃ ad u, v = .slice (some ad) 1 1 ∧ W.cell? ad = some u ∧ u.oneCell' = true ∧ Head W 5 (l.map bv) u)) ∧
  (i = 8 → dn 8 = true ∧ (dn 11 = false → (∃ vs', JAt N (W.setCell ⟨b, 5, none⟩ v) b p v vs' { j with ls := j.ls ++ [l] }) ∧ ∃ A m c, v = .slice A m c))

section
variable {N b n : Nat} {wr W : World} {p : Option Addr} {pv v : Value} {vs cs : List Value} {j : JS} {l : List UInt8} {dn : Nat → Bool} {i : Nat}
theorem R14.const (h6 : i ≠ 6) (h7 : i ≠ 7) (h8 : i ≠ 8) (hv : v = cs.getD i undef) : R14 N b p j l n cs dn i v W := ⟨fun _ _ _ => hv, fun e => absurd e h6, fun e => absurd e h7, fun e => absurd e h8⟩
theorem S14.start (h : JAt N wr b p pv vs j) : S14 N wr b p pv vs j l (fun _ => false) wr.drew :=
  ⟨Keep.of_below (Below.refl _ _).drew, fun _ => rfl, fun _ => h.below (Below.refl _ _).drew, fun e => Bool.noConfusion e, fun e => Bool.noConfusion e, fun e => Bool.noConfusion e, fun e => Bool.noConfusion e, fun e => Bool.noConfusion e⟩
theorem not_true {x : Bool} (h : x = false) (e : x = true) : False := by rw [h] at e; cases e
theorem S14.clone {A : Option Addr} {c : Nat} (hC : Calls Try.prog 40 #[.slice A n c] wr.drew fun e w' => ∃ A' c', e = .returned (.slice A' n c') ∧ w'.ownsRow wr.drew.heap.size 5 1 (.slice A' n c') n (l.map bv) ∧ Below wr.drew.heap.size wr.drew w') (hS : S14 N wr b p pv vs j l dn W) (hd : dn 6 = false) :
    Calls Try.prog 40 #[.slice A n c] W fun e w' => ∃ v, e = .returned v ∧ S14 N wr b p pv vs j l (upd dn 6) w' ∧ R14 N b p j l n cs (upd dn 6) 6 v w' ∧ ∀ j' u, j' ≠ 6 → dn j' = true → R14 N b p j l n cs dn j' u W → R14 N b p j l n cs (upd dn 6) j' u w' := by
  obtain ⟨h1, h2, h3, h4, h5, h6, h7, h8⟩ := hS
  have d7 : dn 7 = false := Bool.eq_false_iff.2 (fun e => not_true hd (h6 e))
  have d8 : dn 8 = false := Bool.eq_false_iff.2 (fun e => not_true d7 (h7 e))
  have d11 : dn 11 = false := Bool.eq_false_iff.2 (fun e => not_true d8 (h8 e))
  obtain rfl := h2 hd
  refine hC.mono ?_
  rintro e w' ⟨A', c', rfl, ho, hb⟩
  refine ⟨_, rfl, ⟨h1.trans (Keep.of_below (S := fun _ => False) hb) (fun _ _ e => e.elim), fun e => Bool.noConfusion e, fun _ => (h3 d8).below hb, fun e => (not_true d8 e).elim, fun e => (not_true d11 e).elim, fun _ => rfl, h7, h8⟩, ⟨fun e => absurd rfl e, fun _ => ⟨rfl, fun _ => ⟨A', c', rfl, ?_⟩⟩, fun e => by omega, fun e => by omega⟩, fun j' u hne hdj hr => ?_⟩
  · exact Head.own ho
  · refine ⟨hr.1, fun e => absurd e hne, fun e => ?_, fun e => ?_⟩
    · subst e; exact (not_true d7 hdj).elim
    · subst e; exact (not_true d8 hdj).elim
theorem S14.cloned (h : R14 N b p j l n cs dn 6 v W) (hd : dn 7 = false) : ∃ X cx, v = .slice X n cx ∧ Head W 5 (l.map bv) (.slice X n cx) ∧ dn 6 = true := by
  obtain ⟨h1, h2⟩ := h.2.1 rfl
  obtain ⟨X, cx, e, h3⟩ := h2 hd
  exact ⟨X, cx, e, h3, h1⟩
theorem S14.built {X : Option Addr} {cx : Nat} (hS : S14 N wr b p pv vs j l dn W) (hd : dn 7 = false) (hv : Head W 5 (l.map bv) (.slice X n cx) ∧ dn 6 = true) :
    S14 N wr b p pv vs j l (upd dn 7) (W.alloc (.cells #[.slice X n cx] 23)) ∧ R14 N b p j l n cs (upd dn 7) 7 (.slice (some ⟨W.heap.size, 0, none⟩) 1 1) (W.alloc (.cells #[.slice X n cx] 23)) ∧ ∀ j' u, j' ≠ 7 → dn j' = true → R14 N b p j l n cs dn j' u W → R14 N b p j l n cs (upd dn 7) j' u (W.alloc (.cells #[.slice X n cx] 23)) := by
  obtain ⟨h1, h2, h3, h4, h5, h6, h7, h8⟩ := hS
  have d8 : dn 8 = false := Bool.eq_false_iff.2 (fun e => not_true hd (h7 e))
  have d11 : dn 11 = false := Bool.eq_false_iff.2 (fun e => not_true d8 (h8 e))
  have hb : Below W.heap.size W (W.alloc (.cells #[.slice X n cx] 23)) := (Below.refl _ _).alloc (Nat.le_refl _) _
  refine ⟨⟨h1.trans (Keep.of_below (S := fun _ => False) hb) (fun _ _ e => e.elim), fun e => (not_true e hv.2).elim, fun _ => (h3 d8).below hb, fun e => (not_true d8 e).elim, fun e => (not_true d11 e).elim, fun _ => hv.2, fun _ => rfl, h8⟩, ⟨fun _ e => absurd rfl e, fun e => by omega, fun _ => ⟨rfl, fun _ => ⟨_, _, rfl, (Blk.new W 23 #[.slice X n cx]).cell 0, rfl, hv.1.keep (Keep.of_below (S := fun _ => False) hb) (fun _ e => e.elim)⟩⟩, fun e => by omega⟩, fun j' u hne hdj hr => ?_⟩
  refine ⟨hr.1, fun e => ⟨hv.2, fun e7 => Bool.noConfusion e7⟩, fun e => absurd e hne, fun e => ?_⟩
  subst e
  exact (not_true d8 hdj).elim
theorem S14.appended (hS : S14 N wr b p pv vs j l dn W) (hd : dn 8 = false) (h62 : R14 N b p j l n cs dn 7 v W) (hlt : j.ls.length < 4096) (ty : TypeId) :
    ∃ v9 w9, (Builtin.append_ #[44, 44] ty #[pv, v]).run Try.prog W = .ok v9 w9 ∧ S14 N wr b p pv vs j l (upd dn 8) w9 ∧ R14 N b p j l n cs (upd dn 8) 8 v9 w9 ∧ ∀ j' u, j' ≠ 8 → dn j' = true → R14 N b p j l n cs dn j' u W → R14 N b p j l n cs (upd dn 8) j' u w9 := by
  obtain ⟨h1, h2, h3, h4, h5, h6, h7, h8⟩ := hS
  obtain ⟨d7, h62⟩ := h62.2.2.1 rfl
  obtain ⟨ad, u, rfl, hu, hone, hhd⟩ := h62 hd
  have d6 := h6 d7
  have d11 : dn 11 = false := Bool.eq_false_iff.2 (fun e => not_true hd (h8 e))
  obtain ⟨v', W3, hrun, hj, hblk, hg, _, hown⟩ := (h3 hd).push (Below.refl _ _) ty ad 1 u hu hone hhd hlt
  obtain ⟨A', c', hv'⟩ := own_slice3 hown
  refine ⟨v', W3, hrun, ⟨h1.trans ((Keep.refl (fun i => i = b ∨ pv.ownBlock = some i) W).grown hg (fun g e _ => .inr e)) (fun _ _ e => e), fun e => (not_true e d6).elim, fun e => Bool.noConfusion e, fun _ _ => hblk, fun e => (not_true d11 e).elim, h6, fun _ => d7, fun _ => rfl⟩, ⟨fun _ _ e => absurd rfl e, fun e => by omega, fun e => by omega, fun _ => ⟨rfl, fun _ => ⟨⟨_, hj⟩, A', _, c', hv'⟩⟩⟩, fun j' u' hne hdj hr => ?_⟩
  exact ⟨hr.1, fun e => ⟨d6, fun e7 => (not_true e7 d7).elim⟩, fun e => ⟨d7, fun e8 => Bool.noConfusion e8⟩, fun e => absurd e hne⟩
theorem S14.sliced (h63 : R14 N b p j l n cs dn 8 v W) (hd : dn 11 = false) : ∃ A m c, v = .slice A m c := ((h63.2.2.2 rfl).2 hd).2
theorem S14.boxed (hS : S14 N wr b p pv vs j l dn W) (hd : dn 11 = false) (h63 : R14 N b p j l n cs dn 8 v W) : W.cell? ⟨b, 5, none⟩ = some pv ∧ W.frozen? ⟨b, 5, none⟩ = false := by
  have hb := hS.2.2.2.1 (h63.2.2.2 rfl).1 hd
  exact ⟨hb.cell 5, hb.frozen 5⟩
theorem S14.stored (hS : S14 N wr b p pv vs j l dn W) (hd : dn 11 = false) (h63 : R14 N b p j l n cs dn 8 v W) (hc : cs.getD 11 undef = undef) :
    S14 N wr b p pv vs j l (upd dn 11) (W.setCell ⟨b, 5, none⟩ v) ∧ R14 N b p j l n cs (upd dn 11) 11 undef (W.setCell ⟨b, 5, none⟩ v) ∧ ∀ j' u, j' ≠ 11 → dn j' = true → R14 N b p j l n cs dn j' u W → R14 N b p j l n cs (upd dn 11) j' u (W.setCell ⟨b, 5, none⟩ v) := by
  obtain ⟨h1, h2, h3, h4, h5, h6, h7, h8⟩ := hS
  obtain ⟨d8, h63⟩ := h63.2.2.2 rfl
  obtain ⟨⟨vs', hj⟩, _⟩ := h63 hd
  have d7 := h7 d8
  have d6 := h6 d7
  refine ⟨⟨h1.setCell _ _ (fun _ => .inl rfl), fun e => (not_true e d6).elim, fun e => (not_true e d8).elim, fun _ e => Bool.noConfusion e, fun _ => ⟨v, vs', hj⟩, h6, h7, fun _ => d8⟩, ⟨fun _ _ _ => hc.symm, fun e => by omega, fun e => by omega, fun e => by omega⟩, fun j' u' hne hdj hr => ?_⟩
  exact ⟨hr.1, fun e => ⟨d6, fun e7 => (not_true e7 d7).elim⟩, fun e => ⟨d7, fun e8 => (not_true e8 d8).elim⟩, fun e => ⟨d8, fun e11 => Bool.noConfusion e11⟩⟩
end
end Go.Proofs.Ytddhldmeknmgpaa.journal

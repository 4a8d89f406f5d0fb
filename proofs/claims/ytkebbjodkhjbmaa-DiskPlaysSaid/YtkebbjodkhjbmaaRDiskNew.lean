/-
  The given disk of layer 3: a new one, as it grows.
-/
import Derived.Test.YtkebbjodkhjbmaaRDiskWr
import Derived.Maps.AppendAt
namespace Go.Proofs.Ytkebbjodkhjbmaa
open Go.RowKit

def newSt3 (n : Nat) : RSt := ⟨List.replicate n (List.replicate 128 0), List.replicate n [], 0, [], 0, 0, 0, false⟩

structure RN (w W : World) (b i j : Nat) (vS vC : Value) (vs ws : List Value) : Prop where
  below : Below w.heap.size w W
  lo : w.heap.size ≤ b
  blk : Blk W b 42 #[vS, vC, .int .i64 0, .slice none 0 0, .int .i64 0, .int .i64 0, .int .i64 0, .bool false]
  sOwn : W.ownsRow w.heap.size 33 1 vS i vs
  cOwn : W.ownsRow w.heap.size 33 1 vC j ws
  ne : ∀ g, vS.ownBlock = some g → vC.ownBlock ≠ some g
  sHead : Heads W (List.replicate i (List.replicate 128 0)) vs
  cHead : Heads W (List.replicate j []) ws

theorem Heads.snoc {w : World} {ls : List (List UInt8)} {vs : List Value} (h : Heads w ls vs) {l : List UInt8} {v : Value} (hv : Head w 5 (l.map bv) v) : Heads w (ls ++ [l]) (vs ++ [v]) := by
  refine ⟨by rw [List.length_append, List.length_append, h.1]; rfl, fun i m hm => ?_⟩
  by_cases hi : i < ls.length
  · rw [List.getElem?_append_left hi] at hm
    obtain ⟨u, hu, hh⟩ := h.2 i m hm
    exact ⟨u, by rw [List.getElem?_append_left (by rw [h.1]; exact hi)]; exact hu, hh⟩
  · rw [List.getElem?_append_right (by omega)] at hm
    have h0 : i - ls.length = 0 := by
      have := (List.getElem?_eq_some_iff.1 hm).1
      simp at this
      omega
    rw [h0] at hm
    injection hm with hm
    subst hm
    exact ⟨v, by rw [List.getElem?_append_right (by rw [h.1]; omega), h.1, h0]; rfl, hv⟩
theorem info_rows : (Try.prog.info? 33).map (fun i => (i.zero, i.size, i.bytes)) = some (some (.slice none 0 0), 1, 24) := by kernel_rfl
theorem own_typ2 {w : World} {base e n : Nat} {v : Value} {xs : List Value} (h : w.ownsRow base e 1 v n xs) : ∀ g, v.ownBlock = some g → Typ w g e ∧ g < w.heap.size := by
  intro g hg
  rcases h.2 with ⟨rfl, h0⟩ | ⟨g', cap, cur, rfl, hb, hh, _⟩
  · simp [Value.ownBlock] at hg
  · have : g' = g := by simpa [Value.ownBlock] using hg
    subst this
    exact ⟨⟨_, _, hh⟩, (show Blk w g' e cur from hh).lt⟩
theorem rep_snoc {α : Type} (i : Nat) (x : α) : List.replicate (i + 1) x = List.replicate i x ++ [x] := List.replicate_succ'

section
variable {w W W2 : World} {b i j : Nat} {vS vC : Value} {vs ws : List Value}

theorem RN.pushS (h : RN w W b i j vS vC vs ws) (k2 : Below W.heap.size W W2) (ty : TypeId) (ad : Addr) (m : Nat) (u : Value) (hu : W2.cell? ad = some u) (h1 : u.oneCell' = true) (hd : Head W2 5 ((List.replicate 128 (0 : UInt8)).map bv) u) (hi : i < 4096) :
    ∃ v' W3, (Builtin.append_ #[40, 40] ty #[vS, .slice (some ad) 1 m]).run Try.prog W2 = .ok v' W3 ∧ RN w (W3.setCell ⟨b, 0, none⟩ v') b (i + 1) j v' vC (vs ++ [u]) ws ∧ Blk W3 b 42 #[vS, vC, .int .i64 0, .slice none 0 0, .int .i64 0, .int .i64 0, .int .i64 0, .bool false] := by
  obtain ⟨i0, hin, hz0, hz1, hz2⟩ := info_parts info_rows
  have k0 : Keep (fun _ => False) W W2 := Keep.of_below k2
  have hw : w.heap.size ≤ W.heap.size := h.below.size
  have hs2 := k0.own h.sOwn (fun _ _ e => e)
  have hc2 := k0.own h.cOwn (fun _ _ e => e)
  have hb2 := k0.blk h.blk (fun e => e)
  have hu1 : ∀ q u', ([u] : List Value)[q]? = some u' → W2.cell? (ad.add q) = some u' := fun q u' hq => by
    rcases q with _ | q
    · have : ad.add 0 = ad := by unfold Addr.add; cases ad; simp
      rw [this]
      exact hu.trans hq
    · simp at hq
  obtain ⟨v', W3, hrun, hown, hg, _, hat⟩ := run_append_own_at (P := Try.prog) W2 w.heap.size 40 ty 33 i0 (.slice none 0 0) 1 24 Try.underlying40 hin hz0 hz1 hz2 rfl (by decide) vS i vs hs2 ad 1 m [u] rfl hu1 (fun u' hm => by rw [List.mem_singleton.1 hm]; exact h1) (by unfold maxLen; omega) (by omega) (Nat.le_trans hw k2.size)
  have kg : Keep (fun k => vS.ownBlock = some k) W2 W3 := (Keep.refl _ W2).grown hg (fun g e _ => e)
  have tS := own_typ2 hs2
  have tC := own_typ2 hc2
  have hbS : ¬ vS.ownBlock = some b := fun e => absurd ((tS b e).1.ne hb2.typ) (by decide)
  have hb3 := kg.blk hb2 hbS
  have hc3 := kg.own hc2 (fun k e e2 => h.ne k e2 e)
  have tV := own_typ2 hown
  have hbV : ¬ v'.ownBlock = some b := fun e => absurd ((tV b e).1.ne hb3.typ) (by decide)
  have kb : Keep (fun k => k = b) W3 (W3.setCell ⟨b, 0, none⟩ v') := (Keep.refl _ W3).setCell ⟨b, 0, none⟩ v' (fun _ => rfl)
  have n8 : ∀ k, vS.ownBlock = some k → ¬ Typ W2 k 5 := fun k e t => absurd ((tS k e).1.ne t) (by decide)
  have n8b : ∀ k, k = b → ¬ Typ W3 k 5 := fun k e t => by subst e; exact absurd (hb3.typ.ne t) (by decide)
  have e8 : ∀ k, (fun _ : Nat => False) k → ¬ Typ W k 5 := fun _ e => e.elim
  refine ⟨v', W3, hrun, ⟨?_, h.lo, hb3.set_ 0 v', ?_, ?_, ?_, ?_, ?_⟩, hb3⟩
  · exact ((h.below.trans (k2.mono hw)).grown hg (Nat.le_trans hw k2.size) (fun k e => (hs2.lt k e).1)).setCell h.lo v'
  · exact kb.own hown (fun k e e2 => hbV (by rw [e, e2]))
  · exact kb.own hc3 (fun k e e2 => absurd ((tC k e).1.ne (show Typ W2 k 42 from by rw [e2]; exact hb2.typ)) (by decide))
  · intro g e
    rcases hat with h0 | h0
    · exact h.ne g (h0 ▸ e)
    · rw [h0] at e
      injection e with e
      intro e2
      have := (tC g e2).2
      omega
  · rw [rep_snoc]
    exact (((h.sHead.keep k0 e8).keep kg n8).snoc (hd.keep kg n8)).keep kb n8b
  · exact ((h.cHead.keep k0 e8).keep kg n8).keep kb n8b
theorem RN.pushC (h : RN w W b i j vS vC vs ws) (k2 : Below W.heap.size W W2) (ty : TypeId) (ad : Addr) (m : Nat) (u : Value) (hu : W2.cell? ad = some u) (h1 : u.oneCell' = true) (hd : Head W2 5 (([] : List UInt8).map bv) u) (hi : j < 4096) :
    ∃ v' W3, (Builtin.append_ #[40, 40] ty #[vC, .slice (some ad) 1 m]).run Try.prog W2 = .ok v' W3 ∧ RN w (W3.setCell ⟨b, 1, none⟩ v') b i (j + 1) vS v' vs (ws ++ [u]) ∧ Blk W3 b 42 #[vS, vC, .int .i64 0, .slice none 0 0, .int .i64 0, .int .i64 0, .int .i64 0, .bool false] := by
  obtain ⟨i0, hin, hz0, hz1, hz2⟩ := info_parts info_rows
  have k0 : Keep (fun _ => False) W W2 := Keep.of_below k2
  have hw : w.heap.size ≤ W.heap.size := h.below.size
  have hs2 := k0.own h.sOwn (fun _ _ e => e)
  have hc2 := k0.own h.cOwn (fun _ _ e => e)
  have hb2 := k0.blk h.blk (fun e => e)
  have hu1 : ∀ q u', ([u] : List Value)[q]? = some u' → W2.cell? (ad.add q) = some u' := fun q u' hq => by
    rcases q with _ | q
    · have : ad.add 0 = ad := by unfold Addr.add; cases ad; simp
      rw [this]
      exact hu.trans hq
    · simp at hq
  obtain ⟨v', W3, hrun, hown, hg, _, hat⟩ := run_append_own_at (P := Try.prog) W2 w.heap.size 40 ty 33 i0 (.slice none 0 0) 1 24 Try.underlying40 hin hz0 hz1 hz2 rfl (by decide) vC j ws hc2 ad 1 m [u] rfl hu1 (fun u' hm => by rw [List.mem_singleton.1 hm]; exact h1) (by unfold maxLen; omega) (by omega) (Nat.le_trans hw k2.size)
  have kg : Keep (fun k => vC.ownBlock = some k) W2 W3 := (Keep.refl _ W2).grown hg (fun g e _ => e)
  have tS := own_typ2 hs2
  have tC := own_typ2 hc2
  have hbS : ¬ vC.ownBlock = some b := fun e => absurd ((tC b e).1.ne hb2.typ) (by decide)
  have hb3 := kg.blk hb2 hbS
  have hs3 := kg.own hs2 (fun k e e2 => h.ne k e e2)
  have tV := own_typ2 hown
  have hbV : ¬ v'.ownBlock = some b := fun e => absurd ((tV b e).1.ne hb3.typ) (by decide)
  have kb : Keep (fun k => k = b) W3 (W3.setCell ⟨b, 1, none⟩ v') := (Keep.refl _ W3).setCell ⟨b, 1, none⟩ v' (fun _ => rfl)
  have n8 : ∀ k, vC.ownBlock = some k → ¬ Typ W2 k 5 := fun k e t => absurd ((tC k e).1.ne t) (by decide)
  have n8b : ∀ k, k = b → ¬ Typ W3 k 5 := fun k e t => by subst e; exact absurd (hb3.typ.ne t) (by decide)
  have e8 : ∀ k, (fun _ : Nat => False) k → ¬ Typ W k 5 := fun _ e => e.elim
  refine ⟨v', W3, hrun, ⟨?_, h.lo, hb3.set_ 1 v', ?_, ?_, ?_, ?_, ?_⟩, hb3⟩
  · exact ((h.below.trans (k2.mono hw)).grown hg (Nat.le_trans hw k2.size) (fun k e => (hc2.lt k e).1)).setCell h.lo v'
  · exact kb.own hs3 (fun k e e2 => absurd ((tS k e).1.ne (show Typ W2 k 42 from by rw [e2]; exact hb2.typ)) (by decide))
  · exact kb.own hown (fun k e e2 => hbV (by rw [e, e2]))
  · intro g e e2
    rcases hat with h0 | h0
    · exact h.ne g e (h0 ▸ e2)
    · rw [h0] at e2
      injection e2 with e2
      have := (tS g e).2
      omega
  · exact ((h.sHead.keep k0 e8).keep kg n8).keep kb n8b
  · rw [rep_snoc]
    exact (((h.cHead.keep k0 e8).keep kg n8).snoc (hd.keep kg n8)).keep kb n8b
/-- Once it has all its sectors it is a disk. -/
theorem RN.done [Aside] (hz : ∀ k, ¬ Aside.out k) {n : Nat} (h : RN w W b n n vS vC vs ws) (h1 : 1 ≤ n) (h2 : n ≤ 4096) : ∃ gS gC cS cC, RD W b gS gC cS cC (.slice none 0 0) vs ws (newSt3 n) ∧ ∀ k, rfoot b gS gC k → w.heap.size ≤ k := by
  obtain ⟨gS, cS, rfl⟩ : ∃ g c, vS = .slice (some ⟨g, 0, none⟩) n c := by
    rcases h.sOwn.2 with ⟨_, h0⟩ | ⟨g, cap, cur, e, _⟩
    · omega
    · exact ⟨g, cap, e⟩
  obtain ⟨gC, cC, rfl⟩ : ∃ g c, vC = .slice (some ⟨g, 0, none⟩) n c := by
    rcases h.cOwn.2 with ⟨_, h0⟩ | ⟨g, cap, cur, e, _⟩
    · omega
    · exact ⟨g, cap, e⟩
  have hl : (newSt3 n).stays.length = n := by simp [newSt3]
  refine ⟨gS, gC, cS, cC, ⟨⟨by simp [newSt3], by rw [hl]; exact h2, fun l hl => ?_, fun l hl => ?_⟩, ?_, ?_, ?_, fun e => h.ne gS rfl (by rw [e]; rfl), h.sHead, h.cHead, Head.nil _ _, fun k ho => absurd ho (hz k), fun v _ _ _ _ _ => hz _, fun v _ _ _ _ _ => hz _, Far.nil⟩, fun k hk => ?_⟩
  · rw [(List.mem_replicate.1 hl).2, List.length_replicate]
  · rw [(List.mem_replicate.1 hl).2]
    exact .inl rfl
  · rw [hl]
    exact h.blk
  · rw [hl]
    exact own_mono3 h.sOwn (Nat.zero_le _)
  · rw [hl]
    exact own_mono3 h.cOwn (Nat.zero_le _)
  · rcases hk with rfl | rfl | rfl
    · exact h.lo
    · exact (h.sOwn.lt _ rfl).1
    · exact (h.cOwn.lt _ rfl).1
end
end Go.Proofs.Ytkebbjodkhjbmaa

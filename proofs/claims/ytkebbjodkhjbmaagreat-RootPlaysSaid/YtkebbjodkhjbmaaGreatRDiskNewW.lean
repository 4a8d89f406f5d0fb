/-
  The given disk of layer 3: a new one, as it grows.
  The given disk of layer 3: New.
-/
import Derived.Test.YtkebbjodkhjbmaaGreatRDiskWr
import Derived.Maps.AppendAt
import Derived.Test.YtkebbjodkhjbmaaGreatRtDec
import Derived.Test.YtkebbjodkhjbmaaGreatDone
namespace Go.Proofs.YtkebbjodkhjbmaaGreat
open Go.RowKit

def newSt3 (n : Nat) : RSt := ⟨List.replicate n (List.replicate 128 0), List.replicate n [], 0, [], 0, 0, 0, false⟩

structure RN (w W : World) (b i j : Nat) (vS vC : Value) (vs ws : List Value) : Prop where
  below : Below w.heap.size w W
  lo : w.heap.size ≤ b
  blk : Blk W b 45 #[vS, vC, .int .i64 0, .slice none 0 0, .int .i64 0, .int .i64 0, .int .i64 0, .bool false]
  sOwn : W.ownsRow w.heap.size 36 1 vS i vs
  cOwn : W.ownsRow w.heap.size 36 1 vC j ws
  ne : ∀ g, vS.ownBlock = some g → vC.ownBlock ≠ some g
  sHead : Heads W (List.replicate i (List.replicate 128 0)) vs
  cHead : Heads W (List.replicate j []) ws

theorem Heads.snoc {w : World} {ls : List (List UInt8)} {vs : List Value} (h : Heads w ls vs) {l : List UInt8} {v : Value} (hv : Head w 5 (l.map bv) v) : Heads w (ls ++ [l]) (vs ++ [v]) := by
  refine ⟨by rw [List.length_append, List.length_append, h.1]; rfl, fun i m hm => ?_⟩
  by_cases hi : i < ls.length
  · rw [List.getElem?_append_left hi] at hm
    obtain ⟨u, hu, hh⟩ := h.2 i m hm
    exact ⟨u, by rw [List.getElem?_append_left (by rw [h.1]; exact hi)]; exact hu, hh⟩
  · rw [List.getElem?_append_right (by omega)] at hm
    have h0 : i - ls.length = 0 := by
      have := (List.getElem?_eq_some_iff.1 hm).1
      simp at this
      omega
    rw [h0] at hm
    injection hm with hm
    subst hm
    exact ⟨v, by rw [List.getElem?_append_right (by rw [h.1]; omega), h.1, h0]; rfl, hv⟩
theorem info_rows : (Tryz.prog.info? 36).map (fun i => (i.zero, i.size, i.bytes)) = some (some (.slice none 0 0), 1, 24) := by kernel_rfl
theorem own_typ2 {w : World} {base e n : Nat} {v : Value} {xs : List Value} (h : w.ownsRow base e 1 v n xs) : ∀ g, v.ownBlock = some g → Typ w g e ∧ g < w.heap.size := by
  intro g hg
  rcases h.2 with ⟨rfl, h0⟩ | ⟨g', cap, cur, rfl, hb, hh, _⟩
  · simp [Value.ownBlock] at hg
  · have : g' = g := by simpa [Value.ownBlock] using hg
    subst this
    exact ⟨⟨_, _, hh⟩, (show Blk w g' e cur from hh).lt⟩
theorem rep_snoc {α : Type} (i : Nat) (x : α) : List.replicate (i + 1) x = List.replicate i x ++ [x] := List.replicate_succ'

section
variable {w W W2 : World} {b i j : Nat} {vS vC : Value} {vs ws : List Value}

theorem RN.pushS (h : RN w W b i j vS vC vs ws) (k2 : Below W.heap.size W W2) (ty : TypeId) (ad : Addr) (m : Nat) (u : Value) (hu : W2.cell? ad = some u) (h1 : u.oneCell' = true) (hd : Head W2 5 ((List.replicate 128 (0 : UInt8)).map bv) u) (hi : i < 4096) :
    ∃ v' W3, (Builtin.append_ #[43, 43] ty #[vS, .slice (some ad) 1 m]).run Tryz.prog W2 = .ok v' W3 ∧ RN w (W3.setCell ⟨b, 0, none⟩ v') b (i + 1) j v' vC (vs ++ [u]) ws ∧ Blk W3 b 45 #[vS, vC, .int .i64 0, .slice none 0 0, .int .i64 0, .int .i64 0, .int .i64 0, .bool false] := by
  obtain ⟨i0, hin, hz0, hz1, hz2⟩ := info_parts info_rows
  have k0 : Keep (fun _ => False) W W2 := Keep.of_below k2
  have hw : w.heap.size ≤ W.heap.size := h.below.size
  have hs2 := k0.own h.sOwn (fun _ _ e => e)
  have hc2 := k0.own h.cOwn (fun _ _ e => e)
  have hb2 := k0.blk h.blk (fun e => e)
  have hu1 : ∀ q u', ([u] : List Value)[q]? = some u' → W2.cell? (ad.add q) = some u' := fun q u' hq => by
    rcases q with _ | q
    · have : ad.add 0 = ad := by unfold Addr.add; cases ad; simp
      rw [this]
      exact hu.trans hq
    · simp at hq
  obtain ⟨v', W3, hrun, hown, hg, _, hat⟩ := run_append_own_at (P := Tryz.prog) W2 w.heap.size 43 ty 36 i0 (.slice none 0 0) 1 24 Tryz.underlying43 hin hz0 hz1 hz2 rfl (by decide) vS i vs hs2 ad 1 m [u] rfl hu1 (fun u' hm => by rw [List.mem_singleton.1 hm]; exact h1) (by unfold maxLen; omega) (by omega) (Nat.le_trans hw k2.size)
  have kg : Keep (fun k => vS.ownBlock = some k) W2 W3 := (Keep.refl _ W2).grown hg (fun g e _ => e)
  have tS := own_typ2 hs2
  have tC := own_typ2 hc2
  have hbS : ¬ vS.ownBlock = some b := fun e => absurd ((tS b e).1.ne hb2.typ) (by decide)
  have hb3 := kg.blk hb2 hbS
  have hc3 := kg.own hc2 (fun k e e2 => h.ne k e2 e)
  have tV := own_typ2 hown
  have hbV : ¬ v'.ownBlock = some b := fun e => absurd ((tV b e).1.ne hb3.typ) (by decide)
  have kb : Keep (fun k => k = b) W3 (W3.setCell ⟨b, 0, none⟩ v') := (Keep.refl _ W3).setCell ⟨b, 0, none⟩ v' (fun _ => rfl)
  have n8 : ∀ k, vS.ownBlock = some k → ¬ Typ W2 k 5 := fun k e t => absurd ((tS k e).1.ne t) (by decide)
  have n8b : ∀ k, k = b → ¬ Typ W3 k 5 := fun k e t => by subst e; exact absurd (hb3.typ.ne t) (by decide)
  have e8 : ∀ k, (fun _ : Nat => False) k → ¬ Typ W k 5 := fun _ e => e.elim
  refine ⟨v', W3, hrun, ⟨?_, h.lo, hb3.set_ 0 v', ?_, ?_, ?_, ?_, ?_⟩, hb3⟩
  · exact ((h.below.trans (k2.mono hw)).grown hg (Nat.le_trans hw k2.size) (fun k e => (hs2.lt k e).1)).setCell h.lo v'
  · exact kb.own hown (fun k e e2 => hbV (by rw [e, e2]))
  · exact kb.own hc3 (fun k e e2 => absurd ((tC k e).1.ne (show Typ W2 k 45 from by rw [e2]; exact hb2.typ)) (by decide))
  · intro g e
    rcases hat with h0 | h0
    · exact h.ne g (h0 ▸ e)
    · rw [h0] at e
      injection e with e
      intro e2
      have := (tC g e2).2
      omega
  · rw [rep_snoc]
    exact (((h.sHead.keep k0 e8).keep kg n8).snoc (hd.keep kg n8)).keep kb n8b
  · exact ((h.cHead.keep k0 e8).keep kg n8).keep kb n8b
theorem RN.pushC (h : RN w W b i j vS vC vs ws) (k2 : Below W.heap.size W W2) (ty : TypeId) (ad : Addr) (m : Nat) (u : Value) (hu : W2.cell? ad = some u) (h1 : u.oneCell' = true) (hd : Head W2 5 (([] : List UInt8).map bv) u) (hi : j < 4096) :
    ∃ v' W3, (Builtin.append_ #[43, 43] ty #[vC, .slice (some ad) 1 m]).run Tryz.prog W2 = .ok v' W3 ∧ RN w (W3.setCell ⟨b, 1, none⟩ v') b i (j + 1) vS v' vs (ws ++ [u]) ∧ Blk W3 b 45 #[vS, vC, .int .i64 0, .slice none 0 0, .int .i64 0, .int .i64 0, .int .i64 0, .bool false] := by
  obtain ⟨i0, hin, hz0, hz1, hz2⟩ := info_parts info_rows
  have k0 : Keep (fun _ => False) W W2 := Keep.of_below k2
  have hw : w.heap.size ≤ W.heap.size := h.below.size
  have hs2 := k0.own h.sOwn (fun _ _ e => e)
  have hc2 := k0.own h.cOwn (fun _ _ e => e)
  have hb2 := k0.blk h.blk (fun e => e)
  have hu1 : ∀ q u', ([u] : List Value)[q]? = some u' → W2.cell? (ad.add q) = some u' := fun q u' hq => by
    rcases q with _ | q
    · have : ad.add 0 = ad := by unfold Addr.add; cases ad; simp
      rw [this]
      exact hu.trans hq
    · simp at hq
  obtain ⟨v', W3, hrun, hown, hg, _, hat⟩ := run_append_own_at (P := Tryz.prog) W2 w.heap.size 43 ty 36 i0 (.slice none 0 0) 1 24 Tryz.underlying43 hin hz0 hz1 hz2 rfl (by decide) vC j ws hc2 ad 1 m [u] rfl hu1 (fun u' hm => by rw [List.mem_singleton.1 hm]; exact h1) (by unfold maxLen; omega) (by omega) (Nat.le_trans hw k2.size)
  have kg : Keep (fun k => vC.ownBlock = some k) W2 W3 := (Keep.refl _ W2).grown hg (fun g e _ => e)
  have tS := own_typ2 hs2
  have tC := own_typ2 hc2
  have hbS : ¬ vC.ownBlock = some b := fun e => absurd ((tC b e).1.ne hb2.typ) (by decide)
  have hb3 := kg.blk hb2 hbS
  have hs3 := kg.own hs2 (fun k e e2 => h.ne k e e2)
  have tV := own_typ2 hown
  have hbV : ¬ v'.ownBlock = some b := fun e => absurd ((tV b e).1.ne hb3.typ) (by decide)
  have kb : Keep (fun k => k = b) W3 (W3.setCell ⟨b, 1, none⟩ v') := (Keep.refl _ W3).setCell ⟨b, 1, none⟩ v' (fun _ => rfl)
  have n8 : ∀ k, vC.ownBlock = some k → ¬ Typ W2 k 5 := fun k e t => absurd ((tC k e).1.ne t) (by decide)
  have n8b : ∀ k, k = b → ¬ Typ W3 k 5 := fun k e t => by subst e; exact absurd (hb3.typ.ne t) (by decide)
  have e8 : ∀ k, (fun _ : Nat => False) k → ¬ Typ W k 5 := fun _ e => e.elim
  refine ⟨v', W3, hrun, ⟨?_, h.lo, hb3.set_ 1 v', ?_, ?_, ?_, ?_, ?_⟩, hb3⟩
  · exact ((h.below.trans (k2.mono hw)).grown hg (Nat.le_trans hw k2.size) (fun k e => (hc2.lt k e).1)).setCell h.lo v'
  · exact kb.own hs3 (fun k e e2 => absurd ((tS k e).1.ne (show Typ W2 k 45 from by rw [e2]; exact hb2.typ)) (by decide))
  · exact kb.own hown (fun k e e2 => hbV (by rw [e, e2]))
  · intro g e e2
    rcases hat with h0 | h0
    · exact h.ne g e (h0 ▸ e2)
    · rw [h0] at e2
      injection e2 with e2
      have := (tS g e).2
      omega
  · exact ((h.sHead.keep k0 e8).keep kg n8).keep kb n8b
  · rw [rep_snoc]
    exact (((h.cHead.keep k0 e8).keep kg n8).snoc (hd.keep kg n8)).keep kb n8b
/-- Once it has all its sectors it is a disk. -/
theorem RN.done [Aside] (hz : ∀ k, ¬ Aside.out k) {n : Nat} (h : RN w W b n n vS vC vs ws) (h1 : 1 ≤ n) (h2 : n ≤ 4096) : ∃ gS gC cS cC, RD W b gS gC cS cC (.slice none 0 0) vs ws (newSt3 n) ∧ ∀ k, rfoot b gS gC k → w.heap.size ≤ k := by
  obtain ⟨gS, cS, rfl⟩ : ∃ g c, vS = .slice (some ⟨g, 0, none⟩) n c := by
    rcases h.sOwn.2 with ⟨_, h0⟩ | ⟨g, cap, cur, e, _⟩
    · omega
    · exact ⟨g, cap, e⟩
  obtain ⟨gC, cC, rfl⟩ : ∃ g c, vC = .slice (some ⟨g, 0, none⟩) n c := by
    rcases h.cOwn.2 with ⟨_, h0⟩ | ⟨g, cap, cur, e, _⟩
    · omega
    · exact ⟨g, cap, e⟩
  have hl : (newSt3 n).stays.length = n := by simp [newSt3]
  refine ⟨gS, gC, cS, cC, ⟨⟨by simp [newSt3], by rw [hl]; exact h2, fun l hl => ?_, fun l hl => ?_⟩, ?_, ?_, ?_, fun e => h.ne gS rfl (by rw [e]; rfl), h.sHead, h.cHead, Head.nil _ _, fun k ho => absurd ho (hz k), fun v _ _ _ _ _ => hz _, fun v _ _ _ _ _ => hz _, Far.nil⟩, fun k hk => ?_⟩
  · rw [(List.mem_replicate.1 hl).2, List.length_replicate]
  · rw [(List.mem_replicate.1 hl).2]
    exact .inl rfl
  · rw [hl]
    exact h.blk
  · rw [hl]
    exact own_mono3 h.sOwn (Nat.zero_le _)
  · rw [hl]
    exact own_mono3 h.cOwn (Nat.zero_le _)
  · rcases hk with rfl | rfl | rfl
    · exact h.lo
    · exact (h.sOwn.lt _ rfl).1
    · exact (h.cOwn.lt _ rfl).1
end
end Go.Proofs.YtkebbjodkhjbmaaGreat

namespace Go.Proofs.YtkebbjodkhjbmaaGreat
open Go.RowKit Go.Proofs.YtkebbjodkhjbmaaGreat.root Go.Proofs.YtkebbjodkhjbmaaGreat.crc

def pick5 (W0 W1 W2 W3 W4 : World) (a b c d : Nat) (dn : Nat → Bool) : World := if dn d = true then W4 else if dn c = true then W3 else if dn b = true then W2 else if dn a = true then W1 else W0

theorem wpList_append_run {ops : Array Oper} {rest : List Oper} {o : Oper} {a : Act} {Q : Exit → Act → World → Prop} {w w' : World} {u y v' : Value} (hgd : o.guard = none) (s x : Operand) (t : TypeId)
    (ho : o.op = .call { callee := .builtin .append, args := #[s, x], argTypes := #[t, t] }) (hs : a.eval s = u) (hx : a.eval x = y) (hrun : (Builtin.append_ #[t, t] o.type #[u, y]).run Tryz.prog w = .ok v' w') (h : wpList Tryz.prog ops Q rest (a.put o.dst v') w') : wpList Tryz.prog ops Q (o :: rest) a w :=
  wpList_plain hgd fun _ hK => by
    unfold Oper.wp execOp
    simp only [ho, resolve, invoke, builtin, Sem.run_bind, Sem.run_pure, Result.andThen_ok, List.map_toArray, List.map_cons, List.map_nil, hs, hx, hrun]
    exact hK _ _ h

set_option maxRecDepth 100000 in
set_option maxHeartbeats 2000000 in
theorem rnew_any [Aside] (hz : ∀ k, ¬ Aside.out k) (n : Nat) (w : World) (h1 : 1 ≤ n) (h2 : n ≤ 4096) :
    Calls Tryz.prog 12 #[.int .i64 (n : Int)] w fun e w' => ∃ b gS gC cS cC vs ws, e = .returned (.tuple #[.pointer (some ⟨b, 0, none⟩), .int .i64 0]) ∧ RD w' b gS gC cS cC (.slice none 0 0) vs ws (newSt3 n) ∧ Below w.heap.size w w' ∧ (∀ k, rfoot b gS gC k → w.heap.size ≤ k) := by
  obtain ⟨CZ, hCZ⟩ := zeros_made (m := 128) (by omega) 128 rfl
  have HMK := Lib.hid (fun W => (hCZ W).1)
  have HZ := Lib.hid (fun W => (hCZ W).2)
  clear hCZ
  go_enter Tryz.func12, Tryz.ntmps12
  go_wp2
  obtain ⟨b, hb⟩ : ∃ b, w.heap.size = b := ⟨_, rfl⟩
  obtain ⟨wn, hwn⟩ : ∃ wn, w.alloc (.cells #[.slice none 0 0, .slice none 0 0, .int .i64 0, .slice none 0 0, .int .i64 0, .int .i64 0, .int .i64 0, .bool false] 45) = wn := ⟨_, rfl⟩
  have hn0 : RN w wn b 0 0 (.slice none 0 0) (.slice none 0 0) [] [] := by
    rw [← hwn, ← hb]
    exact ⟨(Below.refl _ _).alloc (Nat.le_refl _) _, Nat.le_refl _, Blk.new w _ _, World.ownsRow_nil _ _ _ _, World.ownsRow_nil _ _ _ _, fun g e => (by cases (show (none : Option Nat) = some g from e)), ⟨rfl, fun i l hl => by simp at hl⟩, ⟨rfl, fun i l hl => by simp at hl⟩⟩
  rw [hwn, hb]
  have HN0 := Lib.hid hn0
  have HB := Lib.hid hb
  clear hwn hn0 hb
  go_loopw [5] (fun i wr => ∃ (k : Nat) (vS vC : Value) (vs ws : List Value), k ≤ n ∧ i = .int .i64 (k : Int) ∧ RN w wr b k k vS vC vs ws) (fun i _ => n - (intOf i).toNat)
  case atStart => exact ⟨0, _, _, _, _, Nat.zero_le _, rfl, HN0.out⟩
  case round =>
    obtain ⟨k, vS, vC, vs, ws, hk, rfl, hn⟩ := hrel
    by_cases hlt : k < n
    · obtain ⟨AS, cS, rfl⟩ := own_slice3 hn.sOwn
      obtain ⟨AC, cC, rfl⟩ := own_slice3 hn.cOwn
      obtain ⟨W5, hW5⟩ : ∃ W5, wr.drew.alloc (.cells CZ 5) = W5 := ⟨_, rfl⟩
      obtain ⟨W6, hW6⟩ : ∃ W6, W5.alloc (.cells #[.slice (some ⟨wr.heap.size, 0, none⟩) 128 128] 36) = W6 := ⟨_, rfl⟩
      have hb5 : Below wr.heap.size wr W5 := by rw [← hW5]; exact (Below.refl _ wr).drew.alloc (Nat.le_refl _) _
      have hb6 : Below wr.heap.size wr W6 := by rw [← hW6]; exact hb5.alloc hb5.size _
      have ho5 : W5.ownsRow wr.heap.size 5 1 (.slice (some ⟨wr.heap.size, 0, none⟩) 128 128) 128 ((List.replicate 128 (0 : UInt8)).map bv) := by rw [← hW5]; exact HZ.out wr.drew
      have hh6 : Head W6 5 ((List.replicate 128 (0 : UInt8)).map bv) (.slice (some ⟨wr.heap.size, 0, none⟩) 128 128) := by
        rw [← hW6]
        exact (Head.own ho5).keep (Keep.of_below (S := fun _ => False) ((Below.refl _ W5).alloc (Nat.le_refl _) _)) (fun _ e => e.elim)
      have hu6 : W6.cell? ⟨W5.heap.size, 0, none⟩ = some (.slice (some ⟨wr.heap.size, 0, none⟩) 128 128) := by rw [← hW6]; exact (Blk.new W5 _ _).cell 0
      obtain ⟨v9, W7, hrun, hn7, hb7⟩ := hn.pushS hb6 43 ⟨W5.heap.size, 0, none⟩ 1 (.slice (some ⟨wr.heap.size, 0, none⟩) 128 128) hu6 rfl hh6 (by omega)
      obtain ⟨W10, hW10⟩ : ∃ W10, W7.setCell ⟨b, 0, none⟩ v9 = W10 := ⟨_, rfl⟩
      rw [hW10] at hn7
      obtain ⟨A9, c9, hv9⟩ := own_slice3 hn7.sOwn
      subst hv9
      have hbk5 : Blk W5 b 45 _ := hn.blk.below hb5 hn.blk.lt
      have hbk6 : Blk W6 b 45 _ := hn.blk.below hb6 hn.blk.lt
      have HRC : Hid (∀ dn : Nat → Bool, dn 10 = false → (pick5 wr.drew W5 W6 W7 W10 5 6 7 10 dn).cell? ⟨b, 0, none⟩ = some (.slice AS k cS)) := Lib.hid (fun dn h10 => by
        unfold pick5
        rw [h10]
        simp only [Bool.false_eq_true, if_false]
        split
        · exact hb7.cell 0
        · split
          · exact hbk6.cell 0
          · split
            · exact hbk5.cell 0
            · exact hn.blk.cell 0)
      have HG3 : Hid (W7.cell? ⟨b, 0, none⟩ = some (.slice AS k cS) ∧ W7.frozen? ⟨b, 0, none⟩ = false) := Lib.hid ⟨hb7.cell 0, hb7.frozen 0⟩
      have HRUN := Lib.hid hrun
      have HW5 := Lib.hid hW5
      have HW6 := Lib.hid hW6
      have HW10 := Lib.hid hW10
      have HN7 := Lib.hid hn7
      clear hW5 hW6 hb5 hb6 ho5 hh6 hu6 hrun hb7 hW10 hbk5 hbk6 hn7 hn
      go_wp2
      refine wp_region_done_on (fun dn W => W = pick5 wr.drew W5 W6 W7 W10 5 6 7 10 dn ∧ (dn 6 = true → dn 5 = true) ∧ (dn 7 = true → dn 6 = true) ∧ (dn 10 = true → dn 7 = true)) (fun dn i v _ => v = ([.pointer (some ⟨b, 0, none⟩), .pointer (some ⟨b, 0, none⟩), .pointer (some ⟨b, 0, none⟩), .pointer (some ⟨b, 0, none⟩), .slice AS k cS, .slice (some ⟨wr.heap.size, 0, none⟩) 128 128, .slice (some ⟨W5.heap.size, 0, none⟩) 1 1, .slice A9 (k + 1) c9, .pointer (some ⟨b, 0, none⟩), .pointer (some ⟨b, 0, none⟩)] : List Value).getD i undef ∧ (i = 5 → dn 5 = true) ∧ (i = 6 → dn 6 = true) ∧ (i = 7 → dn 7 = true)) (by kernel_rfl) 39 rfl (by kernel_rfl) (⟨rfl, fun e => e, fun e => e, fun e => e⟩) ?_ ?_
      · intro i hi
        have hi2 : i < 11 := hi
        clear hi
        rcases i with _ | i
        · refine done_value (fun _ _ h => h) (fun dn j u w h => ⟨h.1, fun e => by have := h.2.1 e; simp [upd, this], fun e => by have := h.2.2.1 e; simp [upd, this], fun e => by have := h.2.2.2 e; simp [upd, this]⟩) (.pointer (some ⟨b, 0, none⟩)) rfl ?_
          intro dn a8 w8 hS ho hn
          have o4 : a8.tmps[4]? = some _ := (ho 4 (by kernel_rfl)).trans rfl
          clear ho hn
          refine ⟨wanted_free rfl, ?_, rfl, fun e => absurd e (by decide), fun e => absurd e (by decide), fun e => absurd e (by decide)⟩
          go_simp
        rcases i with _ | i
        · refine done_value (fun _ _ h => h) (fun dn j u w h => ⟨h.1, fun e => by have := h.2.1 e; simp [upd, this], fun e => by have := h.2.2.1 e; simp [upd, this], fun e => by have := h.2.2.2 e; simp [upd, this]⟩) (.pointer (some ⟨b, 0, none⟩)) rfl ?_
          intro dn a8 w8 hS ho hn
          have o4 : a8.tmps[4]? = some _ := (ho 4 (by kernel_rfl)).trans rfl
          clear ho hn
          refine ⟨wanted_free rfl, ?_, rfl, fun e => absurd e (by decide), fun e => absurd e (by decide), fun e => absurd e (by decide)⟩
          go_simp
        rcases i with _ | i
        · refine done_value (fun _ _ h => h) (fun dn j u w h => ⟨h.1, fun e => by have := h.2.1 e; simp [upd, this], fun e => by have := h.2.2.1 e; simp [upd, this], fun e => by have := h.2.2.2 e; simp [upd, this]⟩) (.pointer (some ⟨b, 0, none⟩)) rfl ?_
          intro dn a8 w8 hS ho hn
          obtain ⟨_, n20, rfl, fa20⟩ := hn 1 20 (by kernel_rfl) rfl
          clear ho hn
          refine ⟨wanted_free rfl, ?_, rfl, fun e => absurd e (by decide), fun e => absurd e (by decide), fun e => absurd e (by decide)⟩
          go_simp
        rcases i with _ | i
        · refine done_value (fun _ _ h => h) (fun dn j u w h => ⟨h.1, fun e => by have := h.2.1 e; simp [upd, this], fun e => by have := h.2.2.1 e; simp [upd, this], fun e => by have := h.2.2.2 e; simp [upd, this]⟩) (.pointer (some ⟨b, 0, none⟩)) rfl ?_
          intro dn a8 w8 hS ho hn
          obtain ⟨_, n21, rfl, fa21⟩ := hn 2 21 (by kernel_rfl) rfl
          clear ho hn
          refine ⟨wanted_free rfl, ?_, rfl, fun e => absurd e (by decide), fun e => absurd e (by decide), fun e => absurd e (by decide)⟩
          go_simp
        rcases i with _ | i
        · refine done_read (fun _ _ h => h) (fun dn j u w h => ⟨h.1, fun e => by have := h.2.1 e; simp [upd, this], fun e => by have := h.2.2.1 e; simp [upd, this], fun e => by have := h.2.2.2 e; simp [upd, this]⟩) (.slice AS k cS) rfl ?_
          intro dn a8 w8 hS hx ho hn
          obtain ⟨_, n22, rfl, fa22⟩ := hn 3 22 (by kernel_rfl) rfl
          clear ho hn
          refine ⟨wanted_free rfl, ?_, rfl, fun e => absurd e (by decide), fun e => absurd e (by decide), fun e => absurd e (by decide)⟩
          have h7 : dn 7 = false := hx 7 (by kernel_rfl)
          have h10 : dn 10 = false := Bool.eq_false_iff.2 (fun e => (by have h0 := hS.2.2.2 e; rw [h7] at h0; cases h0))
          have h1 := HRC.out dn h10
          have hS2 : w8 = pick5 wr.drew W5 W6 W7 W10 5 6 7 10 dn := hS.1
          subst hS2
          clear hS
          go_simp
        rcases i with _ | i
        · refine done_make rfl ?_
          intro dn a8 w8 hS hd hx ho hn
          clear ho hn
          refine ⟨wanted_free rfl, ?_⟩
          have h5 : dn 5 = false := hd
          have h6 : dn 6 = false := Bool.eq_false_iff.2 (fun e => (by have h0 := hS.2.1 e; rw [h5] at h0; cases h0))
          have h7 : dn 7 = false := Bool.eq_false_iff.2 (fun e => (by have h0 := hS.2.2.1 e; rw [h6] at h0; cases h0))
          have h10 : dn 10 = false := Bool.eq_false_iff.2 (fun e => (by have h0 := hS.2.2.2 e; rw [h7] at h0; cases h0))
          have i6 := hS.2.1
          have i7 := hS.2.2.1
          have i10 := hS.2.2.2
          have hS2 : w8 = wr.drew := by { have h : w8 = pick5 wr.drew W5 W6 W7 W10 5 6 7 10 dn := hS.1; unfold pick5 at h; rw [h10, h7, h6, h5] at h; exact h }
          subst hS2
          have hmk := HMK.out wr.drew
          refine ⟨.slice (some ⟨wr.heap.size, 0, none⟩) 128 128, W5, (by rw [← HW5.out]; clear hS i6 i7 i10; go_simp), ⟨(by show W5 = pick5 wr.drew W5 W6 W7 W10 5 6 7 10 (upd dn 5); unfold pick5; rw [show upd dn 5 10 = false from h10, show upd dn 5 7 = false from h7, show upd dn 5 6 = false from h6, show upd dn 5 5 = true from rfl]; rfl), fun _ => rfl, i7, i10⟩, ⟨rfl, fun _ => rfl, fun e => absurd e (by decide), fun e => absurd e (by decide)⟩, fun j u _ _ h => ⟨h.1, fun e => by have := h.2.1 e; simp [upd, this], fun e => by have := h.2.2.1 e; simp [upd, this], fun e => by have := h.2.2.2 e; simp [upd, this]⟩⟩
        rcases i with _ | i
        · refine done_make rfl ?_
          intro dn a8 w8 hS hd hx ho hn
          obtain ⟨_, n24, hR24⟩ := hn 5 24 (by kernel_rfl) rfl
          clear ho hn
          refine ⟨wanted_free rfl, ?_⟩
          obtain ⟨rfl, fa5, _, _⟩ := hR24
          have h5 : dn 5 = true := fa5 rfl
          have h6 : dn 6 = false := hd
          have h7 : dn 7 = false := Bool.eq_false_iff.2 (fun e => (by have h0 := hS.2.2.1 e; rw [h6] at h0; cases h0))
          have h10 : dn 10 = false := Bool.eq_false_iff.2 (fun e => (by have h0 := hS.2.2.2 e; rw [h7] at h0; cases h0))
          have i6 := hS.2.1
          have i7 := hS.2.2.1
          have i10 := hS.2.2.2
          have hS2 : w8 = W5 := by { have h : w8 = pick5 wr.drew W5 W6 W7 W10 5 6 7 10 dn := hS.1; unfold pick5 at h; rw [h10, h7, h6, h5] at h; exact h }
          subst hS2
          refine ⟨.slice (some ⟨w8.heap.size, 0, none⟩) 1 1, W6, (by rw [← HW6.out]; clear hS i6 i7 i10; go_simp), ⟨(by show W6 = pick5 wr.drew w8 W6 W7 W10 5 6 7 10 (upd dn 6); unfold pick5; rw [show upd dn 6 10 = false from h10, show upd dn 6 7 = false from h7, show upd dn 6 6 = true from rfl]; rfl), fun _ => h5, fun _ => rfl, i10⟩, ⟨rfl, fun e => absurd e (by decide), fun _ => rfl, fun e => absurd e (by decide)⟩, fun j u _ _ h => ⟨h.1, fun e => by have := h.2.1 e; simp [upd, this], fun e => by have := h.2.2.1 e; simp [upd, this], fun e => by have := h.2.2.2 e; simp [upd, this]⟩⟩
        rcases i with _ | i
        · refine done_make rfl ?_
          intro dn a8 w8 hS hd hx ho hn
          obtain ⟨_, n23, rfl, fa23⟩ := hn 4 23 (by kernel_rfl) rfl
          obtain ⟨_, n25, hR25⟩ := hn 6 25 (by kernel_rfl) rfl
          clear ho hn
          refine ⟨wanted_free rfl, ?_⟩
          obtain ⟨rfl, _, fa6, _⟩ := hR25
          have h6 : dn 6 = true := fa6 rfl
          have h7 : dn 7 = false := hd
          have h10 : dn 10 = false := Bool.eq_false_iff.2 (fun e => (by have h0 := hS.2.2.2 e; rw [h7] at h0; cases h0))
          have i6 := hS.2.1
          have i7 := hS.2.2.1
          have i10 := hS.2.2.2
          have hS2 : w8 = W6 := by { have h : w8 = pick5 wr.drew W5 W6 W7 W10 5 6 7 10 dn := hS.1; unfold pick5 at h; rw [h10, h7, h6] at h; exact h }
          subst hS2
          exact ⟨.slice A9 (k + 1) c9, W7, exec_append _ _ 43 rfl (eval_of n23) (eval_of n25) HRUN.out, ⟨(by show W7 = pick5 wr.drew W5 w8 W7 W10 5 6 7 10 (upd dn 7); unfold pick5; rw [show upd dn 7 10 = false from h10, show upd dn 7 7 = true from rfl]; rfl), i6, fun _ => h6, fun _ => rfl⟩, ⟨rfl, fun e => absurd e (by decide), fun e => absurd e (by decide), fun _ => rfl⟩, fun j u _ _ h => ⟨h.1, fun e => by have := h.2.1 e; simp [upd, this], fun e => by have := h.2.2.1 e; simp [upd, this], fun e => by have := h.2.2.2 e; simp [upd, this]⟩⟩
        rcases i with _ | i
        · refine done_value (fun _ _ h => h) (fun dn j u w h => ⟨h.1, fun e => by have := h.2.1 e; simp [upd, this], fun e => by have := h.2.2.1 e; simp [upd, this], fun e => by have := h.2.2.2 e; simp [upd, this]⟩) (.pointer (some ⟨b, 0, none⟩)) rfl ?_
          intro dn a8 w8 hS ho hn
          obtain ⟨_, n19, rfl, fa19⟩ := hn 0 19 (by kernel_rfl) rfl
          clear ho hn
          refine ⟨wanted_free rfl, ?_, rfl, fun e => absurd e (by decide), fun e => absurd e (by decide), fun e => absurd e (by decide)⟩
          go_simp
        rcases i with _ | i
        · refine done_value (fun _ _ h => h) (fun dn j u w h => ⟨h.1, fun e => by have := h.2.1 e; simp [upd, this], fun e => by have := h.2.2.1 e; simp [upd, this], fun e => by have := h.2.2.2 e; simp [upd, this]⟩) (.pointer (some ⟨b, 0, none⟩)) rfl ?_
          intro dn a8 w8 hS ho hn
          obtain ⟨_, n27, rfl, fa27⟩ := hn 8 27 (by kernel_rfl) rfl
          clear ho hn
          refine ⟨wanted_free rfl, ?_, rfl, fun e => absurd e (by decide), fun e => absurd e (by decide), fun e => absurd e (by decide)⟩
          go_simp
        rcases i with _ | i
        · refine done_store rfl rfl ?_
          intro dn a8 w8 hS hd hx ho hn
          obtain ⟨_, n28, rfl, fa28⟩ := hn 9 28 (by kernel_rfl) rfl
          obtain ⟨_, n26, hR26⟩ := hn 7 26 (by kernel_rfl) rfl
          clear ho hn
          refine ⟨wanted_free rfl, ?_⟩
          obtain ⟨rfl, _, _, fa7⟩ := hR26
          have h10 : dn 10 = false := hd
          have h7 : dn 7 = true := fa7 rfl
          have i6 := hS.2.1
          have i7 := hS.2.2.1
          have i10 := hS.2.2.2
          have hS2 : w8 = W7 := by { have h : w8 = pick5 wr.drew W5 W6 W7 W10 5 6 7 10 dn := hS.1; unfold pick5 at h; rw [h10, h7] at h; exact h }
          clear hS
          obtain ⟨g3, f3⟩ := HG3.out
          rw [← hS2] at g3 f3
          refine ⟨W10, (by rw [← HW10.out, ← hS2]; clear hS2 i6 i7 i10; go_simp), ⟨(by show W10 = pick5 wr.drew W5 W6 W7 W10 5 6 7 10 (upd dn 10); unfold pick5; rw [show upd dn 10 10 = true from rfl]; rfl), i6, i7, fun _ => h7⟩, ⟨rfl, fun e => absurd e (by decide), fun e => absurd e (by decide), fun e => absurd e (by decide)⟩, fun j u _ _ h => ⟨h.1, fun e => by have := h.2.1 e; simp [upd, this], fun e => by have := h.2.2.1 e; simp [upd, this], fun e => by have := h.2.2.2 e; simp [upd, this]⟩⟩
        omega
      · intro done fv w5 hS5 hR5 hall
        obtain rfl : w5 = W10 := by
          have h : w5 = pick5 wr.drew W5 W6 W7 W10 5 6 7 10 done := hS5.1
          unfold pick5 at h
          rw [hall 10 (by decide)] at h
          exact h
        simp only [putAll, List.foldl_cons, List.foldl_nil, Act.put, List.setIfInBounds_toArray, List.set_cons_succ, List.set_cons_zero]
        clear hR5 hS5 hall
        obtain ⟨vD, W8, hrun8, hn8, hb8⟩ := HN7.out.pushC (W2 := w5.alloc (.cells #[.slice none 0 0] 36)) ((Below.refl _ _).alloc (Nat.le_refl _) _) 43 ⟨w5.heap.size, 0, none⟩ 1 (.slice none 0 0) ((Blk.new w5 _ _).cell 0) rfl (Head.nil _ _) (by omega)
        obtain ⟨AD, cD, hvD⟩ := own_slice3 hn8.cOwn
        subst hvD
        have d1 : w5.cell? ⟨b, 1, none⟩ = some (.slice AC k cC) := HN7.out.blk.cell 1
        have HRUN8 := Lib.hid hrun8
        have HN8 := Lib.hid hn8
        have HB8 : Hid (W8.cell? ⟨b, 1, none⟩ = some (.slice AC k cC) ∧ W8.frozen? ⟨b, 1, none⟩ = false) := Lib.hid ⟨hb8.cell 1, hb8.frozen 1⟩
        have e1 : (w5.alloc (.cells #[.slice none 0 0] 36)).cell? ⟨b, 1, none⟩ = some (.slice AC k cC) := (HN7.out.blk.alloc _).cell 1
        clear hrun8 hn8 hb8
        go_wp2_with (at_builtin; refine wpList_append_run rfl _ _ 43 rfl rfl rfl HRUN8.out ?_; obtain ⟨g1, f1⟩ := HB8.out)
        exact ⟨⟨k + 1, _, _, _, _, by omega, by go_num, HN8.out⟩, by simp [intOf]; omega⟩
    · obtain rfl : k = n := by omega
      have HN := Lib.hid hn
      clear hn
      go_wp2
      go_ret2
      obtain ⟨gS, gC, cS, cC, hrd, hft⟩ := HN.out.done hz h1 h2
      exact ⟨b, gS, gC, cS, cC, vs, ws, rfl, hrd, HN.out.below, hft⟩
end Go.Proofs.YtkebbjodkhjbmaaGreat

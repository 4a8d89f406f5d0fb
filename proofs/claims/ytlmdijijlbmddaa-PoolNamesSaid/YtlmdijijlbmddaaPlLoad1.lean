/-
  The pool of layer 10: a tile is loaded: what the backing store is asked.
-/
import Derived.Test.YtlmdijijlbmddaaPlFree
namespace Go.Proofs.Ytlmdijijlbmddaa.pool
open Go.RowKit

/-- The error of a Load, and its tile. -/
def ldE : Option TV → Int
  | some _ => 0
  | none => 50
def LdIs (ot : Option TV) (B : Nat) (W : World) (a b d : Int) (A : Option Addr) (q c : Nat) : Prop := match ot with
  | some t => a = t.file ∧ b = t.no ∧ d = t.kind ∧ ∃ g, A = some ⟨g, 0, none⟩ ∧ q = 4 ∧ El W g c t.el ∧ B ≤ g
  | none => a = 0 ∧ b = 0 ∧ d = 0 ∧ A = none ∧ q = 0 ∧ c = 0
def PS.tile (L : List TV) (f n : Int) : Option TV := (idxT f n L).map (fun j => L.getD j ⟨0, 0, 0, []⟩)
/-- What stands when the tile has been laid into the box C3. -/
def FinL (N : Nat) (w : World) (m : Nat) (ml : ML) (L : List TV) (log : List LV) (C3 : Nat) (ot : Option TV) (W : World) : Prop :=
  ∃ a b d A q c, Blk W C3 43 #[.int .i64 a, .int .i64 b, .int .i64 d, .slice A q c] ∧ LdIs ot w.heap.size W a b d A q c ∧ MemAt N W m ml L log ∧ ∃ W', KT N [38, 40] w W' ∧ Keep (fun k => k = C3) W' W

section
variable {N p m size : Nat} {w : World} {q : QL} {ml : ML} {L : List TV} {log : List LV}
theorem methodLoad : ∀ (a : Addr) (w : World), (method 285 22 (.pointer (some a)) "Load").run Try.prog w = .ok (167, .pointer (some a)) w := fun _ _ => by kernel_rfl
theorem load_told (f n : Int) {W : World} {B : Nat} {v : Value} (h : loadV L f n W B v) : ∃ a b d A q c, v = .tuple #[.agg #[.int .i64 a, .int .i64 b, .int .i64 d, .slice A q c], .int .i64 (ldE (PS.tile L f n))] ∧ LdIs (PS.tile L f n) B W a b d A q c := by
  unfold PS.tile
  rcases h with ⟨j, t, g, c, hj, his, hfst, rfl, hg, he⟩ | ⟨hno, rfl⟩
  · cases hi : idxT f n L with
    | none => exact absurd his (by rw [idxT_none hi t (List.mem_of_getElem? hj)]; decide)
    | some k =>
      obtain ⟨t', h1, h2, h3⟩ := idxT_some hi
      have hjk : j = k := by
        rcases Nat.lt_trichotomy j k with h | h | h
        · exact absurd his (by rw [h3 j t h hj]; decide)
        · exact h
        · exact absurd h2 (by rw [hfst k t' h h1]; decide)
      subst hjk
      have e : L.getD j ⟨0, 0, 0, []⟩ = t := by rw [List.getD_eq_getElem?_getD, hj]; rfl
      refine ⟨_, _, _, _, _, _, rfl, ?_⟩
      show LdIs (some (L.getD j ⟨0, 0, 0, []⟩)) B W _ _ _ _ _ _
      rw [e]
      exact ⟨rfl, rfl, rfl, g, rfl, rfl, he, hg⟩
  · have hi : idxT f n L = none := by
      cases hi : idxT f n L with
      | none => rfl
      | some k =>
        obtain ⟨t', h1, h2, _⟩ := idxT_some hi
        exact absurd h2 (by rw [hno k t' h1]; decide)
    rw [hi]
    exact ⟨0, 0, 0, none, 0, 0, rfl, rfl, rfl, rfl, rfl, rfl, rfl⟩

set_option maxRecDepth 100000 in
set_option maxHeartbeats 4000000 in
theorem load1_any (f n : Int) (C1 C2 C3 : Nat) (x0 x1 x2 x3 : Value) (h : PoolAt N w p m size true q) (hm : MemAt N w m ml L log) (h1 : Blk w C1 24 #[pv p]) (h2 : Blk w C2 29 #[.int .i64 f, .int .i64 n]) (h3 : Blk w C3 43 #[x0, x1, x2, x3]) (h3l : C3 ≠ ml.lg) (hl : log.length + 2 ≤ 1000000) (hLl : L.length ≤ 1000000) (hN : N ≤ w.heap.size) :
    Calls Try.prog 85 #[.pointer (some ⟨C1, 0, none⟩), .pointer (some ⟨C2, 0, none⟩), .pointer (some ⟨C3, 0, none⟩)] w fun e w' => e = .returned (.int .i64 (ldE (PS.tile L f n))) ∧ FinL N w m ml L (log ++ [⟨1, n, f⟩]) C3 (PS.tile L f n) w' := by
  obtain ⟨_, p1, _, _⟩ := h.blk5
  obtain ⟨ot, hot⟩ : ∃ ot, PS.tile L f n = ot := ⟨_, rfl⟩
  have hbx : Below w.heap.size w w.drew := (Below.refl _ _).drew
  have HRD : Hid (Calls Try.prog 167 #[pv m, kvv f n] w.drew fun e W => ∃ a b d A q c, e = .returned (.tuple #[.agg #[.int .i64 a, .int .i64 b, .int .i64 d, .slice A q c], .int .i64 (ldE ot)]) ∧ LdIs ot w.heap.size W a b d A q c ∧ MemAt N W m ml L (log ++ [⟨1, n, f⟩]) ∧ KT N [38, 40] w W) := Lib.hid ((mload_any f n (hm.below hbx) (by omega) hLl hN).mono (fun e w' hh => by
    obtain ⟨⟨v, rfl, hv⟩, hm', hk⟩ := hh
    obtain ⟨a, b, d, A, q, c, rfl, hld⟩ := load_told f n hv
    rw [hot] at hld ⊢
    exact ⟨a, b, d, A, q, c, rfl, hld, hm', (KT.of_below hbx).trans hk⟩))
  rw [hot]
  have hkT : ∀ (k : Nat) (W : World), (match k with | 0 => W = w.drew | 1 => MemAt N W m ml L (log ++ [⟨1, n, f⟩]) ∧ KT N [38, 40] w W | 2 => MemAt N W m ml L (log ++ [⟨1, n, f⟩]) ∧ KT N [38, 40] w W | 3 => MemAt N W m ml L (log ++ [⟨1, n, f⟩]) ∧ KT N [38, 40] w W | _ => FinL N w m ml L (log ++ [⟨1, n, f⟩]) C3 ot W) → ∃ W', KT N [38, 40] w W' ∧ Keep (fun k => k = C3) W' W := fun k W hT => by
    match k, hT with
    | 0, hT => rw [show W = w.drew from hT]; exact ⟨_, KT.of_below hbx, Keep.refl _ _⟩
    | 1, hT => exact ⟨_, (show _ ∧ KT N [38, 40] w W from hT).2, Keep.refl _ _⟩
    | 2, hT => exact ⟨_, (show _ ∧ KT N [38, 40] w W from hT).2, Keep.refl _ _⟩
    | 3, hT => exact ⟨_, (show _ ∧ KT N [38, 40] w W from hT).2, Keep.refl _ _⟩
    | _ + 4, hT =>
      obtain ⟨a, b, d, A, q, c, _, _, _, hk⟩ := (show FinL N w m ml L (log ++ [(⟨1, n, f⟩ : LV)]) C3 ot W from hT)
      exact hk
  have ht3 := h3.typ
  have HLD : Hid (∀ (k : Nat) (W : World), (match k with | 0 => W = w.drew | 1 => MemAt N W m ml L (log ++ [⟨1, n, f⟩]) ∧ KT N [38, 40] w W | 2 => MemAt N W m ml L (log ++ [⟨1, n, f⟩]) ∧ KT N [38, 40] w W | 3 => MemAt N W m ml L (log ++ [⟨1, n, f⟩]) ∧ KT N [38, 40] w W | _ => FinL N w m ml L (log ++ [⟨1, n, f⟩]) C3 ot W) → W.cell? ⟨C1, 0, none⟩ = some (pv p) ∧ W.cell? ⟨p, 1, none⟩ = some (.iface 22 (pv m)) ∧ W.cell? ⟨C2, 0, none⟩ = some (.int .i64 f) ∧ W.cell? ⟨C2, 1, none⟩ = some (.int .i64 n)) := Lib.hid (fun k W hT => by
    obtain ⟨W', hk, hS⟩ := hkT k W hT
    have t3 := (hk.blk h3 (by decide)).typ
    have g1 := hk.blk h1 (by decide)
    have g2 := hk.blk h2 (by decide)
    obtain ⟨A, c, hb, _⟩ := (h.keep hk (by decide)).pool
    have ne : ∀ {i : Nat} {t : TypeId}, Typ W' i t → t ≠ 43 → i ≠ C3 := fun hi ht e => ht (Typ.ne (e ▸ hi) t3)
    exact ⟨(hS.blk g1 (ne g1.typ (by decide))).cell 0, (hS.blk hb (ne hb.typ (by decide))).cell 1, (hS.blk g2 (ne g2.typ (by decide))).cell 0, (hS.blk g2 (ne g2.typ (by decide))).cell 1⟩)
  have HCL : Hid (∀ W, MemAt N W m ml L (log ++ [⟨1, n, f⟩]) ∧ KT N [38, 40] w W → (∃ u, W.cell? ⟨C3, 0, none⟩ = some u) ∧ (∃ u, W.cell? ⟨C3, 1, none⟩ = some u) ∧ (∃ u, W.cell? ⟨C3, 2, none⟩ = some u) ∧ (∃ u, W.cell? ⟨C3, 3, none⟩ = some u) ∧ W.frozen? ⟨C3, 0, none⟩ = false ∧ W.frozen? ⟨C3, 1, none⟩ = false ∧ W.frozen? ⟨C3, 2, none⟩ = false ∧ W.frozen? ⟨C3, 3, none⟩ = false) := Lib.hid (fun W hT => by
    have g3 := hT.2.blk h3 (by decide)
    exact ⟨⟨_, g3.cell 0⟩, ⟨_, g3.cell 1⟩, ⟨_, g3.cell 2⟩, ⟨_, g3.cell 3⟩, g3.frozen 0, g3.frozen 1, g3.frozen 2, g3.frozen 3⟩)
  have HFIN : Hid (∀ W a b d A q c, MemAt N W m ml L (log ++ [⟨1, n, f⟩]) ∧ KT N [38, 40] w W → LdIs ot w.heap.size W a b d A q c → FinL N w m ml L (log ++ [⟨1, n, f⟩]) C3 ot ((((W.setCell ⟨C3, 0, none⟩ (.int .i64 a)).setCell ⟨C3, 1, none⟩ (.int .i64 b)).setCell ⟨C3, 2, none⟩ (.int .i64 d)).setCell ⟨C3, 3, none⟩ (.slice A q c))) := Lib.hid (fun W a b d A q c hT hld => by
    have g3 := hT.2.blk h3 (by decide)
    have hS := keep_tile W C3 (.int .i64 a) (.int .i64 b) (.int .i64 d) (.slice A q c)
    refine ⟨a, b, d, A, q, c, blk_tile _ _ _ _ g3, ?_, hT.1.box g3.typ h3l hS, W, hT.2, hS⟩
    cases ot with
    | none => exact hld
    | some t =>
      obtain ⟨e1, e2, e3, g, e4, e5, he, hg⟩ := hld
      exact ⟨e1, e2, e3, g, e4, e5, he.box g3.typ (by decide) hS, hg⟩)
  have hml := methodLoad
  clear h hm h1 h2 h3 p1 hbx hkT ht3 hot
  go_enter Try.func85, Try.ntmps85
  go_wp2
  refine wp_region_done_on (SS [5, 6, 7, 9] (fun n1 W => match n1 with | 0 => W = w.drew | 1 => MemAt N W m ml L (log ++ [⟨1, n, f⟩]) ∧ KT N [38, 40] w W | 2 => MemAt N W m ml L (log ++ [⟨1, n, f⟩]) ∧ KT N [38, 40] w W | 3 => MemAt N W m ml L (log ++ [⟨1, n, f⟩]) ∧ KT N [38, 40] w W | _ => FinL N w m ml L (log ++ [⟨1, n, f⟩]) C3 ot W)) (RR [5, 6, 7, 9] (fun k v => match k with | 0 => ∃ a b d A q c, v = .tuple #[.agg #[.int .i64 a, .int .i64 b, .int .i64 d, .slice A q c], .int .i64 (ldE ot)] | 1 => ∃ a b d A q c, v = .tuple #[.agg #[.int .i64 a, .int .i64 b, .int .i64 d, .slice A q c], .int .i64 (ldE ot)] | 2 => ∃ a b d A q c, v = .agg #[.int .i64 a, .int .i64 b, .int .i64 d, .slice A q c] | _ => True) (fun k v W => match k with | 0 => ∃ a b d A q c, v = .tuple #[.agg #[.int .i64 a, .int .i64 b, .int .i64 d, .slice A q c], .int .i64 (ldE ot)] ∧ LdIs ot w.heap.size W a b d A q c | 1 => ∃ a b d A q c, v = .tuple #[.agg #[.int .i64 a, .int .i64 b, .int .i64 d, .slice A q c], .int .i64 (ldE ot)] ∧ LdIs ot w.heap.size W a b d A q c | 2 => ∃ a b d A q c, v = .agg #[.int .i64 a, .int .i64 b, .int .i64 d, .slice A q c] ∧ LdIs ot w.heap.size W a b d A q c | _ => True) [pv p, pv p, .pointer (some ⟨p, 1, none⟩), .iface 22 (pv m), kvv f n, undef, undef, undef, .int .i64 (ldE ot), undef, .int .i64 (ldE ot)]) (by kernel_rfl) 14 rfl (by kernel_rfl) (SS.start (rfl)) ?_ ?_
  · intro i hi
    have hi2 : i < 11 := hi
    clear hi
    rcases i with _ | i
    · refine ss_value rfl (by decide) (pv p) rfl 4 (.inl rfl) ?_
      intro a8 w8 ns hns hT ho hn
      have o0 : a8.tmps[0]? = some _ := (ho 0 (by kernel_rfl)).trans rfl
      clear ho hn
      refine ⟨wanted_free rfl, ?_⟩
      obtain ⟨b0, b1, k0, k1⟩ := HLD.out ns w8 hT
      go_simp
    rcases i with _ | i
    · refine ss_value rfl (by decide) (pv p) rfl 4 (.inl rfl) ?_
      intro a8 w8 ns hns hT ho hn
      obtain ⟨v5, n5, hq5⟩ := hn 0 5 (by kernel_rfl) rfl
      obtain rfl := hq5.1 (by decide)
      clear ho hn
      refine ⟨wanted_free rfl, ?_⟩
      go_simp
    rcases i with _ | i
    · refine ss_value rfl (by decide) (.pointer (some ⟨p, 1, none⟩)) rfl 4 (.inl rfl) ?_
      intro a8 w8 ns hns hT ho hn
      obtain ⟨v6, n6, hq6⟩ := hn 1 6 (by kernel_rfl) rfl
      obtain rfl := hq6.1 (by decide)
      clear ho hn
      refine ⟨wanted_free rfl, ?_⟩
      go_simp
    rcases i with _ | i
    · refine ss_value rfl (by decide) (.iface 22 (pv m)) rfl 4 (.inl rfl) ?_
      intro a8 w8 ns hns hT ho hn
      obtain ⟨v7, n7, hq7⟩ := hn 2 7 (by kernel_rfl) rfl
      obtain rfl := hq7.1 (by decide)
      clear ho hn
      refine ⟨wanted_free rfl, ?_⟩
      obtain ⟨b0, b1, k0, k1⟩ := HLD.out ns w8 hT
      go_simp
    rcases i with _ | i
    · refine ss_value rfl (by decide) (kvv f n) rfl 4 (.inl rfl) ?_
      intro a8 w8 ns hns hT ho hn
      have o1 : a8.tmps[1]? = some _ := (ho 1 (by kernel_rfl)).trans rfl
      clear ho hn
      refine ⟨wanted_free rfl, ?_⟩
      obtain ⟨b0, b1, k0, k1⟩ := HLD.out ns w8 hT
      go_simp
    rcases i with _ | i
    · refine ss_call 0 (by decide) 167 rfl rfl (.inl rfl) ?_
      intro a8 w8 hT ho hn
      obtain ⟨v8, n8, hq8⟩ := hn 3 8 (by kernel_rfl) rfl
      obtain rfl := hq8.1 (by decide)
      obtain ⟨v9, n9, hq9⟩ := hn 4 9 (by kernel_rfl) rfl
      obtain rfl := hq9.1 (by decide)
      clear ho hn
      refine ⟨wanted_free rfl, ?_⟩
      obtain rfl : w8 = _ := hT
      refine ⟨#[pv m, kvv f n], (by go_simp), HRD.out.mono ?_⟩
      rintro e w9 ⟨a, b, d, A, q, c, rfl, h1, h2, h3⟩
      exact ⟨_, rfl, ⟨h2, h3⟩, ⟨a, b, d, A, q, c, rfl⟩, ⟨a, b, d, A, q, c, rfl, h1⟩⟩
    rcases i with _ | i
    · refine ss_make 1 (by decide) rfl rfl (.inr ⟨5, 10, rfl, by kernel_rfl, rfl⟩) ?_
      intro a8 w8 hT ho hn
      obtain ⟨v10, n10, hq10⟩ := hn 5 10 (by kernel_rfl) rfl
      have hv10 := hq10.2 0 rfl
      clear ho hn
      refine ⟨wanted_free rfl, ?_⟩
      obtain ⟨a, b, d, A, q, c, rfl, h1⟩ := hv10.2.2 rfl
      exact ⟨.tuple #[.agg #[.int .i64 a, .int .i64 b, .int .i64 d, .slice A q c], .int .i64 (ldE ot)], w8, (by go_simp), hT, ⟨a, b, d, A, q, c, rfl⟩, ⟨a, b, d, A, q, c, rfl, h1⟩⟩
    rcases i with _ | i
    · refine ss_make 2 (by decide) rfl rfl (.inr ⟨6, 4, rfl, by kernel_rfl, rfl⟩) ?_
      intro a8 w8 hT ho hn
      obtain ⟨v4, n4, hq4⟩ := hn 6 4 (by kernel_rfl) rfl
      have hv4 := hq4.2 1 rfl
      clear ho hn
      refine ⟨wanted_free rfl, ?_⟩
      obtain ⟨a, b, d, A, q, c, rfl, h1⟩ := hv4.2.2 rfl
      exact ⟨.agg #[.int .i64 a, .int .i64 b, .int .i64 d, .slice A q c], w8, (by go_simp), hT, ⟨a, b, d, A, q, c, rfl⟩, ⟨a, b, d, A, q, c, rfl, h1⟩⟩
    rcases i with _ | i
    · refine ss_value rfl (by decide) (.int .i64 (ldE ot)) rfl 4 (.inl rfl) ?_
      intro a8 w8 ns hns hT ho hn
      obtain ⟨v4, n4, hq4⟩ := hn 6 4 (by kernel_rfl) rfl
      have hv4 := hq4.2 1 rfl
      clear ho hn
      refine ⟨wanted_free rfl, ?_⟩
      obtain ⟨_, ⟨a, b, d, A, q, c, rfl⟩, _⟩ := hv4
      go_simp
    rcases i with _ | i
    · refine ss_store 3 (by decide) rfl rfl rfl (.inr ⟨7, 11, rfl, by kernel_rfl, rfl⟩) ?_
      intro a8 w8 hT ho hn
      have o2 : a8.tmps[2]? = some _ := (ho 2 (by kernel_rfl)).trans rfl
      obtain ⟨v11, n11, hq11⟩ := hn 7 11 (by kernel_rfl) rfl
      have hv11 := hq11.2 2 rfl
      clear ho hn
      refine ⟨wanted_free rfl, ?_⟩
      obtain ⟨a, b, d, A, q, c, rfl, h1⟩ := hv11.2.2 rfl
      obtain ⟨⟨u0, t0⟩, ⟨u1, t1⟩, ⟨u2, t2⟩, ⟨u3, t3⟩, f0, f1, f2, f3⟩ := HCL.out w8 hT
      have hfin := HFIN.out w8 a b d A q c hT h1
      exact ⟨_, (by clear hfin h1; go_simp), hfin, trivial, trivial⟩
    rcases i with _ | i
    · refine ss_value rfl (by decide) (.int .i64 (ldE ot)) rfl 4 (.inl rfl) ?_
      intro a8 w8 ns hns hT ho hn
      obtain ⟨v12, n12, hq12⟩ := hn 8 12 (by kernel_rfl) rfl
      obtain rfl := hq12.1 (by decide)
      clear ho hn
      refine ⟨wanted_free rfl, ?_⟩
      go_simp
    omega
  · intro dn fv w5 hS5 hR5 hall
    have hT5 := hS5.2
    rw [stg_all (l := [5, 6, 7, 9]) (by intro k hk; simp only [List.mem_cons, List.not_mem_nil, or_false] at hk; rcases hk with rfl | rfl | rfl | rfl <;> exact hall _ (by decide))] at hT5
    have h3 : fv 3 = _ := (hR5 10 3 rfl).1 (by decide)
    simp only [putAll, List.foldl_cons, List.foldl_nil, Act.put, List.setIfInBounds_toArray, List.set_cons_succ, List.set_cons_zero, h3, List.getD_cons_zero, List.getD_cons_succ]
    clear hR5 hS5 hall
    have HE := Lib.hid (show FinL N w m ml L (log ++ [(⟨1, n, f⟩ : LV)]) C3 ot w5 from hT5)
    clear hT5
    go_wp2
    go_ret
    exact ⟨rfl, HE.out⟩
end
end Go.Proofs.Ytlmdijijlbmddaa.pool

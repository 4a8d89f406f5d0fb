/-
  The pool of layer 10: Keys.
-/
import Derived.Test.YtlmdijijlbmddaaPlPins
import Derived.Test.YtlmdijijlbmddaaPlRev
namespace Go.Proofs.Ytlmdijijlbmddaa.pool
open Go.RowKit

def keyF (v : FV) : Int × Int := (v.t.file, v.t.no)
def keysTo (q : QL) (k : Nat) : List (Int × Int) := (q.take k).map (fun x => keyF x.2)
theorem keysTo_zero (q : QL) : keysTo q 0 = [] := rfl
theorem keysTo_succ (q : QL) {k : Nat} (hk : k < q.length) : keysTo q (k + 1) = keysTo q k ++ [keyF q[k].2] := by
  unfold keysTo
  rw [List.take_add_one, List.map_append, List.getElem?_eq_getElem hk]
  rfl
theorem keysTo_length (q : QL) {k : Nat} (hk : k ≤ q.length) : (keysTo q k).length = k := by
  unfold keysTo
  rw [List.length_map, List.length_take]
  omega
theorem keysTo_all (q : QL) : keysTo q q.length = (q.map (·.2)).map keyF := by
  unfold keysTo
  rw [List.take_length, List.map_map]
  rfl
def PS.keys (s : PS) : List (Int × Int) := (s.fr.map keyF).reverse
theorem infoKey : (Try.prog.info? 29).map (fun i => (i.zero, i.size, i.bytes)) = some (some (.agg #[.int .i64 0, .int .i64 0]), 2, 16) := by kernel_rfl

/-- What stands behind k rounds. -/
structure KyF (z : Nat) (W w W8 : World) (v : Value) (l : List (Int × Int)) (k : Nat) : Prop where
  b : Below z w W8
  kt : KT z [29, 33] W W8
  box : Blk W8 z 33 #[v]
  own : W8.ownsRow z 29 2 v k (rowsK l)
theorem KyF.grown {z : Nat} {W w W8 W9 : World} {v : Value} {l : List (Int × Int)} {k B : Nat} {row : Option Nat} (h : KyF z W w W8 v l k) (hg : W8.grownBy W9 row) (hz : z ≤ w.heap.size) (hB : z < B) (hr : ∀ r, row = some r → B ≤ r ∧ ∃ o, W8.heap[r]? = some o ∧ o.isCells = false) : KyF z W9 w W9 v l k := by
  have hk : Keep (fun i => some i = row) W8 W9 := (Keep.refl _ _).grown hg (fun g e _ => e.symm)
  refine ⟨below_own h.b hz hg (fun r e => by have := (hr r e).1; omega), KT.refl _ _ _, h.box.grown hg (fun e => by have := (hr _ e.symm).1; omega), ?_⟩
  refine hk.own h.own (fun g hgv e => ?_)
  obtain ⟨_, o, ho, hc⟩ := hr g e.symm
  obtain ⟨cs, fr, hx⟩ := (own_typ_of h.own hgv).2
  rw [hx] at ho
  injection ho with ho
  subst ho
  cases hc

section
variable {N p m : Nat} {w : World} {s : PS}
attribute [local go_sem] Oper.semAt_some
set_option maxRecDepth 100000 in
set_option maxHeartbeats 4000000 in
theorem keys_any (h : PB N w p m s) : Calls Try.prog 18 #[pv p] w fun e w' => ∃ v, e = .returned v ∧ w'.ownsRow w.heap.size 29 2 v s.fr.length (rowsK s.keys) ∧ Below w.heap.size w w' := by
  obtain ⟨q, ml, h⟩ := h
  have hfr := h.fr
  have hV := valid_any h.pool.blk5.1
  have hkeys : s.keys = (keysTo q q.length).reverse := by rw [keysTo_all, PS.keys, hfr]
  have hlen : s.fr.length = q.length := by rw [hfr, List.length_map]
  rw [hkeys, hlen]
  have hfew := h.pool.few.1
  have hnn : (q.length : Int) ≤ 9223372036854775807 := by omega
  obtain ⟨A, c, hhs⟩ := h.pool.hs
  have HH := Lib.hid hhs
  have HV := Lib.hid hV
  have HP := Lib.hid h.pool
  have HFW := Lib.hid hfew
  have HNN := Lib.hid hnn
  have hfo : Fence.wide.fn 55 := trivial
  have hfv : Fence.wide.fn 54 := trivial
  have hfr2 : Fence.wide.fn 57 := trivial
  clear h hhs hfr hkeys hlen hfew hV hnn
  refine (callsIn_wide (n := 6)).1 ?_
  refine callsIn_of_wp_marks Try.func18 rfl trivial ?_
  simp only [Try.ntmps18, List.size_toArray, List.length_cons, List.length_nil, Nat.reduceAdd, Nat.reduceSub, Array.replicate_succ, Array.replicate_zero, List.push_toArray, List.append_toArray, List.nil_append, List.cons_append]
  gi_wp2_with (first | (gi_at_call 54; refine (callsIn_wide.2 HV.out).mono ?_; rintro e _ ⟨rfl, rfl⟩) | (gi_at_call 55; refine (callsIn_wide.2 (oldest_any _ _)).mono ?_; rintro e w7 ⟨rfl, hw7⟩))
  obtain ⟨z, hz⟩ : ∃ z, w.heap.size = z := ⟨_, rfl⟩
  have hs7 : w7.heap.size = z + 2 := by rw [← hw7, ← hz]; simp
  have hb7 : Below w.heap.size w w7 := by rw [← hw7]; exact ((Below.refl _ _).alloc (Nat.le_refl _) _).alloc (by simp) _
  have hx7 : Blk w7 z 33 #[.slice none 0 0] := by rw [← hw7, ← hz]; exact (Blk.new w _ _).alloc _
  have hp7 : Blk w7 (z + 1) 24 #[.pointer (some ⟨p, 0, none⟩)] := by
    have h := Blk.new (w.alloc (.cells #[.slice none 0 0] 33)) 24 #[.pointer (some ⟨p, 0, none⟩)]
    rw [hw7] at h
    simpa only [World.size_alloc, hz] using h
  have HB7 := Lib.hid hb7
  have HX7 := Lib.hid hx7
  have HP7 := Lib.hid hp7
  have HZ := Lib.hid hz
  simp only [hz]
  clear hw7 hb7 hx7 hp7
  refine wpIn_rangeFunc_moves rfl (by omega) (gf := 87) (lb := #[.pointer (some ⟨z + 1, 0, none⟩)]) rfl trivial (enters_of Try.func87 (by kernel_rfl) rfl)
    (oldest_moves 5 (by omega) (z + 1) p q.length c A (bsQ q) HNN.out w7) (Below.refl _ _) (fun _ => rfl)
    (fun k W => k ≤ q.length ∧ (∃ v, KyF z W w W v (keysTo q k) k) ∧ Blk W (z + 1) 24 #[.pointer (some ⟨p, 0, none⟩)])
    (fun k W => k < q.length ∧ (∃ v, KyF z W w W v (keysTo q k) k) ∧ Blk W (z + 1) 24 #[.pointer (some ⟨p, 0, none⟩)])
    (fun W => ∃ v, KyF z W w W v (keysTo q q.length) q.length)
    (fun c W => False)
    (fun j W W' row hs hg hr => ⟨hs.1, hs.2.1.imp fun v h => h.grown hg (by omega) (B := w7.heap.size) (by omega) hr, hs.2.2.grown hg (fun e => by have := (hr _ e.symm).1; omega)⟩)
    (fun j W W' row hs hg hr => ⟨hs.1, hs.2.1.imp fun v h => h.grown hg (by omega) (B := w7.heap.size) (by omega) hr, hs.2.2.grown hg (fun e => by have := (hr _ e.symm).1; omega)⟩)
    (fun _ W W' row hs hg hr => hs.imp fun v h => h.grown hg (by omega) (B := w7.heap.size) (by omega) hr)
    (fun c W W' row hs hg hr => hs)
    (fun j W hs => HH.out.pre (by obtain ⟨v, h⟩ := hs.2.1; have := h.b; rw [← hz] at this; exact this) hs.1 (hs.2.2.cell 0))
    (fun j W W' hs hx l o ho hc => by rcases hx with ⟨_, rfl⟩ | ⟨_, rfl⟩ <;> exact ho)
    (fun j W W' hs hx => by obtain ⟨hx, rfl⟩ := hx; exact ⟨hx, hs.2⟩)
    (fun j W W' hs hx => by obtain ⟨rfl, rfl⟩ := hx; exact hs.2.1)
    ⟨Nat.zero_le _, ⟨.slice none 0 0, ⟨by rw [← hz]; exact HB7.out, KT.refl _ _ _, HX7.out, ⟨rfl, .inl ⟨rfl, rfl⟩⟩⟩⟩, HP7.out⟩
    ?a1 ?assign ?body ?done ?stop
  case assign =>
    intro l' j W K hK
    unfold plAt
    gi_wp2
    exact hK
  case body =>
    rintro l' j W ⟨hj, ⟨kv, hF⟩, hP⟩
    have hbW : Below w.heap.size w W := by rw [hz]; exact hF.b
    have hfr := (HP.out.below hbW).at_ hj
    have hpj := keysTo_succ q hj
    have hba := bs_at q hj
    obtain ⟨fb, hfb⟩ : ∃ fb, q[j].1.b = fb := ⟨_, rfl⟩
    have hfb2 : (bsQ q)[j]?.getD 0 = fb := by rw [← hfb, ← hba]; simp
    rw [hfb2]
    obtain ⟨x, hxe⟩ : ∃ x, q[j] = x := ⟨_, rfl⟩
    rw [hxe] at hfr hpj hfb
    obtain ⟨fl, v⟩ := x
    subst hfb
    have HC : Hid (W.drew.cell? ⟨fl.b, 0, none⟩ = some (.int .i64 v.t.file) ∧ W.drew.cell? ⟨fl.b, 1, none⟩ = some (.int .i64 v.t.no) ∧ W.drew.cell? ⟨fl.b, 2, none⟩ = some (.int .i64 v.t.kind) ∧ W.drew.cell? ⟨fl.b, 3, none⟩ = some (.slice (some ⟨fl.g, 0, none⟩) 4 fl.c)) := Lib.hid ⟨hfr.blk.cell 0, hfr.blk.cell 1, hfr.blk.cell 2, hfr.blk.cell 3⟩
    have hky : keyF v = (v.t.file, v.t.no) := rfl
    change keysTo q (j + 1) = keysTo q j ++ [keyF v] at hpj
    rw [hky] at hpj
    clear hky hfr
    generalize v.t.file = a at *
    generalize v.t.no = b at *
    generalize v.t.kind = d at *
    generalize fl.g = tg at *
    generalize fl.c = tc at *
    generalize fl.b = fb at *
    have hsj := HFW.out
    have hzz := HZ.out
    have hsW := hF.b.size
    have HBX : Hid (Blk W z 33 #[kv]) := Lib.hid hF.box
    have HLD : Hid (∀ (n : Nat) (W8 : World), n ≤ 2 → (match n with | 0 => W8 = W.drew | 1 => Below W.heap.size W W8 | 2 => Below W.heap.size W W8 | 3 => True | _ => ∃ v, KyF z W w W8 v (keysTo q (j + 1)) (j + 1)) → W8.cell? ⟨z, 0, none⟩ = some kv) := Lib.hid (fun n W8 hn hT => by
      match n, hn, hT with
      | 0, _, hT => rw [show W8 = W.drew from hT]; exact hF.box.cell 0
      | 1, _, hT => exact (hF.box.below (show Below W.heap.size W W8 from hT) hF.box.lt).cell 0
      | 2, _, hT => exact (hF.box.below (show Below W.heap.size W W8 from hT) hF.box.lt).cell 0)
    have HAP : Hid (∀ (w8 : World) (g1 : Nat), Below W.heap.size W w8 → Blk w8 g1 29 #[.int .i64 a, .int .i64 b] → ∃ VA W9, (Builtin.append_ #[33, 33] 33 #[kv, .slice (some ⟨g1, 0, none⟩) 1 1]).run Try.prog w8 = .ok VA W9 ∧ True ∧ (∃ g9 c9, VA = .slice (some ⟨g9, 0, none⟩) (j + 1) c9) ∧ W9.ownsRow z 29 2 VA (j + 1) (rowsK (keysTo q (j + 1))) ∧ KT z [29] W W9) := Lib.hid (fun w8 g1 hb8 hg1 => by
      obtain ⟨i0, hi, hz0, hz1, hz2⟩ := info_parts infoKey
      have ho8 : w8.ownsRow z 29 2 kv j (rowsK (keysTo q j)) := (KT.of_below (N := z) (T := []) hb8).own hF.own (by simp)
      obtain ⟨v9, W2, hrun, ho3, hg3, hat⟩ := run_append_any (P := Try.prog) w8 z 33 33 29 i0 _ 2 16 Try.underlying33 hi hz0 hz1 hz2 rfl (by decide) kv j (rowsK (keysTo q j)) ho8 (g1 + 1) (some ⟨g1, 0, none⟩) 1 1 (encK (a, b)) ⟨rfl, fun _ => ⟨_, rfl, Nat.lt_succ_self _, fun j u hu => by
        rw [Addr.add_mid, Nat.zero_add, hg1.cell j, List.getElem?_toArray]
        exact hu⟩⟩ (encK_one _) (by unfold maxLen; omega) (by omega) (by have := hb8.size; omega)
      refine ⟨v9, W2, hrun, trivial, (ho3.2.elim (fun h0 => absurd h0.2 (by omega)) (fun ⟨g, cap, cur, e, _⟩ => ⟨g, cap, e⟩)), ?_, (KT.of_below hb8).trans (KT.append ho8 hg3 (Nat.le_refl _) (by decide))⟩
      rw [hpj, rowsK_snoc]
      exact ho3)
    have HFIN : Hid (∀ (w8 : World) (v : Value), w8.ownsRow z 29 2 v (j + 1) (rowsK (keysTo q (j + 1))) → KT z [29] W w8 → KyF z W w (w8.setCell ⟨z, 0, none⟩ v) v (keysTo q (j + 1)) (j + 1)) := Lib.hid (fun w8 v ho8 hk8 => by
      have hb8 := hk8.blk hF.box (by decide)
      have k9 : KT z [29, 33] W (w8.setCell ⟨z, 0, none⟩ v) := (hk8.more (T' := [29, 33]) (by decide)).trans (KT.set_ hb8.typ (Nat.le_refl _) (by decide) 0 v)
      refine ⟨hF.b.trans (k9.below (by omega)), k9, hb8.set_ 0 _, ?_⟩
      refine (Keep.setCell (S := fun k => k = z) (Keep.refl _ w8) ⟨z, 0, none⟩ v (fun _ => rfl)).own ho8 (fun k hk e => ?_)
      subst e
      exact absurd (Typ.ne hb8.typ (own_typ_of ho8 hk).2) (by decide))
    have HPP := Lib.hid hP
    have HJ := Lib.hid hj
    clear hj hF hP hbW hpj hba hfb2 hxe hsj hsW
    gi_wp2
    refine wpIn_region_round (fun ⟨_, _, h⟩ => h) (by kernel_rfl) (SS [5, 6, 7, 8] (fun n W8 => match n with | 0 => W8 = W.drew | 1 => Below W.heap.size W W8 | 2 => Below W.heap.size W W8 | 3 => True | _ => ∃ v, KyF z W w W8 v (keysTo q (j + 1)) (j + 1))) (RR [5, 6, 7, 8] (fun n v => match n with | 0 => v = kvv a b | _ => True) (fun n v W8 => match n with | 1 => ∃ g1, v = .slice (some ⟨g1, 0, none⟩) 1 1 ∧ Blk W8 g1 29 #[.int .i64 a, .int .i64 b] | 2 => (∃ g9 c9, v = .slice (some ⟨g9, 0, none⟩) (j + 1) c9) ∧ W8.ownsRow z 29 2 v (j + 1) (rowsK (keysTo q (j + 1))) ∧ KT z [29] W W8 | _ => True) [kv, .pointer (some ⟨fb, 0, none⟩), .pointer (some ⟨fb, 0, none⟩), .pointer (some ⟨fb, 0, none⟩), .agg #[.int .i64 a, .int .i64 b, .int .i64 d, .slice (some ⟨tg, 0, none⟩) 4 tc], undef, undef, undef, undef]) (by kernel_rfl) 22 rfl (by kernel_rfl) (SS.start (rfl)) ?_ ?_
    · intro i hi
      have hi2 : i < 9 := hi
      clear hi
      rcases i with _ | i
      · refine ss_value rfl (by decide) (kv) rfl 2 (.inr ⟨7, rfl, by kernel_rfl⟩) ?_
        intro a8 w8 ns hns hT ho hn
        have o3 : a8.tmps[3]? = some _ := (ho 3 (by kernel_rfl)).trans rfl
        clear ho hn
        refine ⟨wanted_free rfl, ?_⟩
        have h1 := HLD.out ns w8 hns hT
        go_simp
      rcases i with _ | i
      · refine ss_value rfl (by decide) (.pointer (some ⟨fb, 0, none⟩)) rfl 4 (.inl rfl) ?_
        intro a8 w8 ns hns hT ho hn
        have o4 : a8.tmps[4]? = some _ := (ho 4 (by kernel_rfl)).trans rfl
        clear ho hn
        refine ⟨wanted_free rfl, ?_⟩
        go_simp
      rcases i with _ | i
      · refine ss_value rfl (by decide) (.pointer (some ⟨fb, 0, none⟩)) rfl 4 (.inl rfl) ?_
        intro a8 w8 ns hns hT ho hn
        obtain ⟨v12, n12, hq12⟩ := hn 1 12 (by kernel_rfl) rfl
        obtain rfl := hq12.1 (by decide)
        clear ho hn
        refine ⟨wanted_free rfl, ?_⟩
        go_simp
      rcases i with _ | i
      · refine ss_value rfl (by decide) (.pointer (some ⟨fb, 0, none⟩)) rfl 4 (.inl rfl) ?_
        intro a8 w8 ns hns hT ho hn
        obtain ⟨v13, n13, hq13⟩ := hn 2 13 (by kernel_rfl) rfl
        obtain rfl := hq13.1 (by decide)
        clear ho hn
        refine ⟨wanted_free rfl, ?_⟩
        go_simp
      rcases i with _ | i
      · refine ss_value rfl (by decide) (.agg #[.int .i64 a, .int .i64 b, .int .i64 d, .slice (some ⟨tg, 0, none⟩) 4 tc]) rfl 0 (.inr ⟨5, rfl, by kernel_rfl⟩) ?_
        intro a8 w8 ns hns hT ho hn
        obtain ⟨v14, n14, hq14⟩ := hn 3 14 (by kernel_rfl) rfl
        obtain rfl := hq14.1 (by decide)
        clear ho hn
        refine ⟨wanted_free rfl, ?_⟩
        obtain rfl : ns = 0 := by omega
        obtain rfl : w8 = W.drew := hT
        obtain ⟨c0, c1, c2, c3⟩ := HC.out
        go_simp
      rcases i with _ | i
      · refine ss_call 0 (by decide) 56 rfl rfl (.inl rfl) ?_
        intro a8 w8 hT ho hn
        obtain ⟨v15, n15, hq15⟩ := hn 4 15 (by kernel_rfl) rfl
        obtain rfl := hq15.1 (by decide)
        clear ho hn
        refine ⟨wanted_free rfl, ?_⟩
        obtain rfl : w8 = W.drew := hT
        refine ⟨_, (by go_simp), (keyof_any a b d (some ⟨tg, 0, none⟩) 4 tc W.drew).mono ?_⟩
        rintro e w9 ⟨rfl, h9⟩
        exact ⟨_, rfl, ((Below.refl _ W).drew).trans h9, rfl, trivial⟩
      rcases i with _ | i
      · refine ss_make 1 (by decide) rfl rfl (.inr ⟨5, 16, rfl, by kernel_rfl, rfl⟩) ?_
        intro a8 w8 hT ho hn
        obtain ⟨v16, n16, hq16⟩ := hn 5 16 (by kernel_rfl) rfl
        have hv16 := hq16.2 0 rfl
        clear ho hn
        refine ⟨wanted_free rfl, ?_⟩
        obtain ⟨_, e16, _⟩ := hv16
        obtain rfl : v16 = kvv a b := e16
        have hT1 : Below W.heap.size W w8 := hT
        refine ⟨.slice (some ⟨w8.heap.size, 0, none⟩) 1 1, w8.alloc (.cells #[.int .i64 a, .int .i64 b] 29), (by go_simp), hT1.alloc hT1.size _, trivial, ⟨w8.heap.size, rfl, Blk.new w8 _ _⟩⟩
      rcases i with _ | i
      · refine ss_make 2 (by decide) rfl rfl (.inr ⟨6, 17, rfl, by kernel_rfl, rfl⟩) ?_
        intro a8 w8 hT ho hn
        obtain ⟨v11, n11, hq11⟩ := hn 0 11 (by kernel_rfl) rfl
        obtain rfl := hq11.1 (by decide)
        obtain ⟨v17, n17, hq17⟩ := hn 6 17 (by kernel_rfl) rfl
        have hv17 := hq17.2 1 rfl
        clear ho hn
        refine ⟨wanted_free rfl, ?_⟩
        obtain ⟨g1, rfl, hn1⟩ := hv17.2.2 rfl
        obtain ⟨VA, W8, hrun, hT3, hV⟩ := HAP.out w8 g1 hT hn1
        exact ⟨VA, W8, exec_append _ _ 33 rfl (eval_of n11) (eval_of n17) hrun, hT3, trivial, hV⟩
      rcases i with _ | i
      · refine ss_store 3 (by decide) rfl rfl rfl (.inr ⟨7, 18, rfl, by kernel_rfl, rfl⟩) ?_
        intro a8 w8 hT ho hn
        have o3 : a8.tmps[3]? = some _ := (ho 3 (by kernel_rfl)).trans rfl
        obtain ⟨v18, n18, hq18⟩ := hn 7 18 (by kernel_rfl) rfl
        have hv18 := hq18.2 2 rfl
        clear ho hn
        refine ⟨wanted_free rfl, ?_⟩
        obtain ⟨⟨g9, c9, rfl⟩, ho8, hk8⟩ := hv18.2.2 rfl
        have hb8 := hk8.blk HBX.out (by decide)
        have x8 := hb8.cell 0
        have f8 := hb8.frozen 0
        refine ⟨w8.setCell ⟨z, 0, none⟩ (.slice (some ⟨g9, 0, none⟩) (j + 1) c9), (by clear ho8; go_simp), ⟨.slice (some ⟨g9, 0, none⟩) (j + 1) c9, ?_⟩, trivial, trivial⟩
        exact HFIN.out w8 _ ho8 hk8
      omega
    · intro dn fv w5 hS5 hR5 hall
      have hT5 := hS5.2
      rw [stg_all (l := [5, 6, 7, 8]) (by intro k hk; simp only [List.mem_cons, List.not_mem_nil, or_false] at hk; rcases hk with rfl | rfl | rfl | rfl <;> exact hall _ (by decide))] at hT5
      simp only [putAll, List.foldl_cons, List.foldl_nil, Act.put, List.setIfInBounds_toArray, List.set_cons_succ, List.set_cons_zero]
      clear hR5 hS5 hall
      obtain ⟨v5, hF5⟩ : ∃ v, KyF z W w w5 v (keysTo q (j + 1)) (j + 1) := hT5
      refine ⟨⟨hF5.kt.keep.size, fun i o hB hi hc => (hF5.kt.keep.block i (Array.getElem?_eq_some_iff.1 hi).1 (fun hS => ?_)).trans hi⟩, HJ.out, ⟨v5, hF5.b, KT.refl _ _ _, hF5.box, hF5.own⟩, hF5.kt.blk HPP.out (by decide)⟩
      obtain ⟨_, t, _, cs, fr, hx⟩ := hS
      rw [hx] at hi
      injection hi with hi
      subst hi
      cases hc
  case done =>
    rintro D W hD ⟨v, hF⟩ hK
    have x0 := hF.box.cell 0
    have hzz := HZ.out
    have HRV := Lib.hid (reverse_any (keysTo q q.length) W (keysTo_length q (Nat.le_refl _)) (by have := HFW.out; omega) hF.own)
    have HF := Lib.hid hF
    have HKD := Lib.hid hK
    clear hF hK
    gi_wp2_with (gi_at_call 57; refine (callsIn_wide.2 HRV.out).mono ?_; rintro e w9 ⟨rfl, ho9, hk9⟩; have hb9 := hk9.blk HF.out.box (fun e => absurd (Typ.ne HF.out.box.typ (own_typ_of HF.out.own e).2) (by decide)); have y0 := hb9.cell 0; have HO9 := Lib.hid ho9; have HK9 := Lib.hid hk9; have HB9 := Lib.hid hb9; clear ho9 hk9 hb9)
    have hK9 : w9.heap[D]? = some (.deferred (some [])) := (HK9.out.block D (Array.getElem?_eq_some_iff.1 HKD.out).1 (fun e => by
      obtain ⟨cs, fr, hx⟩ := (own_typ_of HF.out.own e).2
      have := HKD.out
      rw [hx] at this
      cases this)).trans HKD.out
    refine ⟨by simp, .inl ⟨_, _, rfl, run_takeDeferred hK9, ?_⟩⟩
    refine ⟨_, results_tmp rfl _ _ _, _, rfl, ?_, ?_⟩
    · have hk : Keep (fun i => some D = some i) w9 (w9.putObj D (.deferred none)) := (Keep.refl _ _).grown (grownBy_putObj' w9 D (.deferred none)) (fun g e _ => e)
      rw [hzz]
      refine hk.own HO9.out (fun g hgv e => ?_)
      obtain ⟨cs, fr, hx⟩ := (own_typ_of HO9.out hgv).2
      injection e with e
      subst e
      rw [hK9] at hx
      cases hx
    · have hb1 : Below z w w9 := HF.out.b.trans (HK9.out.below (by have := HF.out.b.size; omega) (fun i hi e => by have := (own_typ_of HF.out.own e).1; omega))
      rw [hzz]
      exact below_own hb1 (by omega) (grownBy_putObj' w9 D (.deferred none)) (fun r e => by injection e with e; omega)
  case stop =>
    rintro D c' W hD h hK
    exact h.elim
end
end Go.Proofs.Ytlmdijijlbmddaa.pool

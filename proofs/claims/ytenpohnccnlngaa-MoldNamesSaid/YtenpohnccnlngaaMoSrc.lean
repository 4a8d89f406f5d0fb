/-
  Layer 13 (mold): the iterator of what two lists have for each axis.
  Layer 13 (mold): the iterator of an array's indices along its axes.
  Layer 13 (mold): where the element at a position comes from.
-/
import Derived.Test.YtenpohnccnlngaaMoMold
import Derived.Test.YtenpohnccnlngaaDoneIn
import Derived.Test.YtenpohnccnlngaaMovesV
import Derived.Test.YtenpohnccnlngaaWriter
namespace Go.Proofs.Ytenpohnccnlngaa.mo
open Go.RowKit Go.Proofs.Ytenpohnccnlngaa.arr

structure SdPre (C0 C1 : Nat) (A B : Option Addr) (c d : Nat) (l m : List Int) (W : World) : Prop where
  c0 : Blk W C0 22 #[.slice A l.length c]
  c1 : Blk W C1 22 #[.slice B m.length d]
  ra : Reads W W.heap.size 1 A l.length (l.map iv)
  rb : Reads W W.heap.size 1 B m.length (m.map iv)
theorem SdPre.below {C0 C1 : Nat} {A B : Option Addr} {c d : Nat} {l m : List Int} {W W' : World} (h : SdPre C0 C1 A B c d l m W) (hb : Below W.heap.size W W') : SdPre C0 C1 A B c d l m W' :=
  ⟨h.c0.below hb h.c0.lt, h.c1.below hb h.c1.lt, (h.ra.below hb).more hb.size, (h.rb.below hb).more hb.size⟩
def sdAt (l m : List Int) (k : Nat) (_ : Unit) : Array Value := #[.int .i64 (l.getD k 0), .int .i64 (m.getD k 0)]
def sdX (N k : Nat) (_ : Unit) (W W' : World) : Prop := k < N ∧ Below W.heap.size W W'
def sdZ (N k : Nat) (W W' : World) : Prop := k = N ∧ W' = W

theorem moside_any (A B : Option Addr) (n c m d : Nat) (w : World) : Calls Try.prog 126 #[.slice A n c, .slice B m d] w fun e w' => e = .returned (.func (.func 152) #[] #[.pointer (some ⟨w.heap.size, 0, none⟩), .pointer (some ⟨w.heap.size + 1, 0, none⟩)]) ∧ (w.alloc (.cells #[.slice A n c] 22)).alloc (.cells #[.slice B m d] 22) = w' := by
  go_enter Try.func126, Try.ntmps126
  go_wp2
  go_ret
  exact ⟨rfl, rfl⟩

section
attribute [local go_sem] Oper.semAt_some
set_option maxRecDepth 100000 in
set_option maxHeartbeats 4000000 in
theorem side_moves (f : Nat) (C0 C1 : Nat) (A B : Option Addr) (c d : Nat) (l m : List Int) (hlm : l.length = m.length) (hn63 : l.length ≤ 100000) (w : World) :
    SeqMovesV Fence.wide f Try.prog 152 #[.pointer (some ⟨C0, 0, none⟩), .pointer (some ⟨C1, 0, none⟩)] (sdAt l m) (fun _ => SdPre C0 C1 A B c d l m) (sdX l.length) (sdZ l.length) w := by
  intro lp J Jm Jx Jz W hW hP hX hZ hY h0
  have hp0 := hP 0 W h0
  obtain ⟨n, hn⟩ : ∃ n, l.length = n := ⟨_, rfl⟩
  have hm : m.length = n := by omega
  have x0 := hp0.c0.cell 0
  rw [hn] at x0
  rw [hn] at hX hZ hn63
  have HP := Lib.hid hP
  have HX := Lib.hid hX
  have HZ := Lib.hid hZ
  have HY := Lib.hid hY
  have H0 := Lib.hid h0
  have HN := Lib.hid hn
  have HM := Lib.hid hm
  clear hP hX hZ hY h0 hW hp0 hlm hn hm
  refine callsIn_of_wp Try.func152 rfl trivial ?_ rfl
  simp only [Try.ntmps152, List.size_toArray, List.length_cons, List.length_nil, Nat.reduceAdd, Nat.reduceSub, Array.replicate_succ, Array.replicate_zero, List.push_toArray, List.append_toArray, List.nil_append, List.cons_append]
  gi_wp2
  gi_loopw [7] (fun i wr => ∃ k : Nat, i = .int .i64 (k : Int) ∧ k ≤ n ∧ J k wr) (fun i _ => n + 1 - (RowKit.intOf i).toNat)
  case atStart => exact ⟨0, rfl, Nat.zero_le _, H0.out⟩
  case round =>
    obtain ⟨k, rfl, hkM, hJ⟩ := hrel
    have hpre := HP.out k wr hJ
    have HJ := Lib.hid hJ
    by_cases hk : k < n
    · have hd : (k : Int) < (n : Int) := by omega
      have HPR := Lib.hid hpre
      have HK := Lib.hid hk
      have hkl : k < l.length := by have := HN.out; omega
      have hkm : k < m.length := by have := HM.out; omega
      obtain ⟨adA, rfl, hla, hca⟩ := hpre.ra.int_at hkl rfl
      obtain ⟨adB, rfl, hlb, hcb⟩ := hpre.rb.int_at hkm rfl
      have HAT : Hid (sdAt l m k () = #[.int .i64 l[k], .int .i64 m[k]]) := Lib.hid (by
        unfold sdAt
        rw [List.getD_eq_getElem?_getD, List.getD_eq_getElem?_getD, List.getElem?_eq_getElem hkl, List.getElem?_eq_getElem hkm]
        rfl)
      generalize l[k] = x at *
      generalize m[k] = y at *
      have HCL : Hid (∀ W2, Below wr.heap.size wr W2 → W2.cell? ⟨C0, 0, none⟩ = some (.slice (some adA) n c) ∧ W2.cell? ⟨C1, 0, none⟩ = some (.slice (some adB) n d) ∧ W2.cell? (adA.add k) = some (.int .i64 x) ∧ W2.cell? (adB.add k) = some (.int .i64 y)) := Lib.hid (fun W2 h2 => by
        have h := HPR.out.below h2
        have e0 := h.c0.cell 0
        have e1 := h.c1.cell 0
        rw [HN.out] at e0
        rw [HM.out] at e1
        exact ⟨e0, e1, (h2.cell (by rw [block_of_add]; exact hla)).trans hca, (h2.cell (by rw [block_of_add]; exact hlb)).trans hcb⟩)
      have HYK : Hid (∀ W2, Below wr.heap.size wr W2 → YieldAt Fence.wide (f - 1) Try.prog lp #[.int .i64 x, .int .i64 y] W2 fun e W' => (e = .returned (.bool true) ∧ J (k + 1) W') ∨ (e = .returned (.bool false) ∧ Jx W')) := Lib.hid (fun W2 h2 => by
        have h := HY.out k () W2 (HX.out k () wr W2 HJ.out ⟨HK.out, h2⟩)
        rwa [HAT.out] at h)
      clear hpre hk hkM hJ x0 HAT hkl hkm hla hca hlb hcb
      gi_wp2
      refine wpIn_region_done_on (YS 9 wr) (YR 9 [.func (.yield lp) #[] #[], .slice (some adA) n c, .int .i64 (k : Int), .pointer (some (adA.add k)), .int .i64 x, .slice (some adB) n d, .int .i64 (k : Int), .pointer (some (adB.add k)), .int .i64 y] [[0], [1], [2], [1, 2, 3], [1, 2, 3, 4], [5], [6], [5, 6, 7], [5, 6, 7, 8], [0, 1, 2, 3, 4, 5, 6, 7, 8, 9], [0, 1, 2, 3, 4, 5, 6, 7, 8, 9, 10]] (J (k + 1)) (Jx)) (by kernel_rfl) 22 rfl (by kernel_rfl) (YS.start 9 _) ?_ ?_
      · intro i hi
        have hi2 : i < 11 := hi
        clear hi
        rcases i with _ | i
        · refine y_value rfl (fun _ => rfl) (by decide) (.func (.yield lp) #[] #[]) rfl (by kernel_rfl) ?_
          intro a8 w8 hb8 ho hn
          have o0 : a8.tmps[0]? = some _ := (ho 0 (by kernel_rfl)).trans rfl
          clear ho hn
          refine ⟨wanted_free rfl, ?_⟩
          go_simp
        rcases i with _ | i
        · refine y_value rfl (fun _ => rfl) (by decide) (.slice (some adA) n c) rfl (by kernel_rfl) ?_
          intro a8 w8 hb8 ho hn
          have o1 : a8.tmps[1]? = some _ := (ho 1 (by kernel_rfl)).trans rfl
          clear ho hn
          refine ⟨wanted_free rfl, ?_⟩
          obtain ⟨y0, _⟩ := HCL.out w8 hb8
          go_simp
        rcases i with _ | i
        · refine y_value rfl (fun _ => rfl) (by decide) (.int .i64 (k : Int)) rfl (by kernel_rfl) ?_
          intro a8 w8 hb8 ho hn
          have o4 : a8.tmps[4]? = some _ := (ho 4 (by kernel_rfl)).trans rfl
          clear ho hn
          refine ⟨wanted_free rfl, ?_⟩
          go_simp
        rcases i with _ | i
        · refine y_value rfl (fun _ => rfl) (by decide) (.pointer (some (adA.add k))) rfl (by kernel_rfl) ?_
          intro a8 w8 hb8 ho hn
          obtain ⟨v11, n11, hq11⟩ := hn 1 11 (by kernel_rfl) rfl
          obtain rfl := hq11 (by decide)
          obtain ⟨v12, n12, hq12⟩ := hn 2 12 (by kernel_rfl) rfl
          obtain rfl := hq12 (by decide)
          clear ho hn
          refine ⟨wanted_free rfl, ?_⟩
          go_simp
        rcases i with _ | i
        · refine y_value rfl (fun _ => rfl) (by decide) (.int .i64 x) rfl (by kernel_rfl) ?_
          intro a8 w8 hb8 ho hn
          obtain ⟨v13, n13, hq13⟩ := hn 3 13 (by kernel_rfl) rfl
          obtain rfl := hq13 (by decide)
          clear ho hn
          refine ⟨wanted_free rfl, ?_⟩
          obtain ⟨_, _, y1, _⟩ := HCL.out w8 hb8
          go_simp
        rcases i with _ | i
        · refine y_value rfl (fun _ => rfl) (by decide) (.slice (some adB) n d) rfl (by kernel_rfl) ?_
          intro a8 w8 hb8 ho hn
          have o2 : a8.tmps[2]? = some _ := (ho 2 (by kernel_rfl)).trans rfl
          clear ho hn
          refine ⟨wanted_free rfl, ?_⟩
          obtain ⟨_, y0, _⟩ := HCL.out w8 hb8
          go_simp
        rcases i with _ | i
        · refine y_value rfl (fun _ => rfl) (by decide) (.int .i64 (k : Int)) rfl (by kernel_rfl) ?_
          intro a8 w8 hb8 ho hn
          have o4 : a8.tmps[4]? = some _ := (ho 4 (by kernel_rfl)).trans rfl
          clear ho hn
          refine ⟨wanted_free rfl, ?_⟩
          go_simp
        rcases i with _ | i
        · refine y_value rfl (fun _ => rfl) (by decide) (.pointer (some (adB.add k))) rfl (by kernel_rfl) ?_
          intro a8 w8 hb8 ho hn
          obtain ⟨v15, n15, hq15⟩ := hn 5 15 (by kernel_rfl) rfl
          obtain rfl := hq15 (by decide)
          obtain ⟨v16, n16, hq16⟩ := hn 6 16 (by kernel_rfl) rfl
          obtain rfl := hq16 (by decide)
          clear ho hn
          refine ⟨wanted_free rfl, ?_⟩
          go_simp
        rcases i with _ | i
        · refine y_value rfl (fun _ => rfl) (by decide) (.int .i64 y) rfl (by kernel_rfl) ?_
          intro a8 w8 hb8 ho hn
          obtain ⟨v17, n17, hq17⟩ := hn 7 17 (by kernel_rfl) rfl
          obtain rfl := hq17 (by decide)
          clear ho hn
          refine ⟨wanted_free rfl, ?_⟩
          obtain ⟨_, _, _, y1⟩ := HCL.out w8 hb8
          go_simp
        rcases i with _ | i
        · refine y_yield rfl (fun _ => rfl) (by kernel_rfl) (by kernel_rfl) ?_
          intro a8 w8 hb8 ho hn
          obtain ⟨v10, n10, hq10⟩ := hn 0 10 (by kernel_rfl) rfl
          obtain rfl := hq10 (by decide)
          obtain ⟨v14, n14, hq14⟩ := hn 4 14 (by kernel_rfl) rfl
          obtain rfl := hq14 (by decide)
          obtain ⟨v18, n18, hq18⟩ := hn 8 18 (by kernel_rfl) rfl
          obtain rfl := hq18 (by decide)
          clear ho hn
          refine ⟨wanted_free rfl, ?_⟩
          obtain ⟨fn, tmps, assign, body, hy, hR⟩ := HYK.out w8 hb8
          exact ⟨lp, fn, tmps, assign, body, by go_simp, hR⟩
        rcases i with _ | i
        · refine y_not rfl (fun _ => rfl) (by kernel_rfl) (by decide) 19 (by kernel_rfl) rfl ?_
          intro a8 w8 bb n19
          refine ⟨wanted_free rfl, ?_⟩
          go_simp
        omega
      · intro dn fv w5 hS5 hR5 hall
        obtain ⟨_, bb, h20, hbb⟩ := (hR5 10 20 rfl).an (by decide)
        simp only [putAll, List.foldl_cons, List.foldl_nil, Act.put, List.setIfInBounds_toArray, List.set_cons_succ, List.set_cons_zero, h20]
        have HBB := Lib.hid hbb
        clear hR5 hS5 hall hbb
        generalize fv 10 = uv10
        generalize fv 11 = uv11
        generalize fv 12 = uv12
        generalize fv 13 = uv13
        generalize fv 14 = uv14
        generalize fv 15 = uv15
        generalize fv 16 = uv16
        generalize fv 17 = uv17
        generalize fv 18 = uv18
        generalize fv 19 = uv19
        cases bb
        · have HJX := Lib.hid (HBB.out.2 rfl)
          gi_wp2
          refine bodyPost_ret (results_none rfl _ _ _) rfl ?_
          exact ⟨⟨_, rfl⟩, .inl HJX.out⟩
        · have HJ3 := Lib.hid (HBB.out.1 rfl)
          gi_wp2
          go_roundw
          case rel => exact ⟨k + 1, by go_num, by have := HK.out; omega, HJ3.out⟩
          case measure => have := HK.out; simp [RowKit.intOf]; omega
    · obtain rfl : k = n := by omega
      have HE := Lib.hid (HZ.out k wr wr HJ.out ⟨rfl, rfl⟩)
      clear hk hkM hpre hJ x0
      gi_wp2
      go_end0
      exact ⟨⟨_, rfl⟩, .inr HE.out⟩
end
end Go.Proofs.Ytenpohnccnlngaa.mo

namespace Go.Proofs.Ytenpohnccnlngaa.mo
open Go.RowKit Go.Proofs.Ytenpohnccnlngaa.arr

/-- Spans as a list of cells. -/
def spL (L : List Sp) : List Value := (L.map spC).flatten
theorem spL_length : ∀ L : List Sp, (spL L).length = L.length * 3
  | [] => rfl
  | s :: L => by
    show (spC s ++ spL L).length = (L.length + 1) * 3
    rw [List.length_append, spL_length L]
    show 3 + _ = _
    omega
theorem spL_at : ∀ (L : List Sp) (k i : Nat) (s : Sp), L[k]? = some s → i < 3 → (spL L)[k * 3 + i]? = (spC s)[i]?
  | [], k, i, s, h, _ => by simp at h
  | t :: L, 0, i, s, h, hi => by
    have e : t = s := by simpa using h
    subst e
    show (spC t ++ spL L)[0 * 3 + i]? = _
    rw [Nat.zero_mul, Nat.zero_add, List.getElem?_append_left (by exact hi)]
  | t :: L, k + 1, i, s, h, hi => by
    show (spC t ++ spL L)[(k + 1) * 3 + i]? = _
    have hl : (spC t).length = 3 := rfl
    rw [List.getElem?_append_right (by rw [hl]; omega), hl, show (k + 1) * 3 + i - 3 = k * 3 + i by omega]
    exact spL_at L k i s (by simpa using h) hi
def lensI (L : List Sp) : List Int := L.map Sp.len
/-- A span's numbers are not great. -/
def spOk (s : Sp) : Prop := -10000 ≤ s.frm ∧ s.frm ≤ 10000 ∧ 0 ≤ s.has ∧ s.has ≤ 4096
/-- The number of elements behind k axes. -/
def behN (L : List Sp) (k : Nat) : Nat := (prodI ((lensI L).drop k)).toNat
/-- The array's index along axis k. -/
def ixV (L : List Sp) (n k : Nat) : Int := match L[k]? with | some s => (((n / behN L (k + 1)) % s.len.toNat : Nat) : Int) + s.frm | none => 0
theorem lens_pos {L : List Sp} (hok : okShape (lensI L) = true) (hp : 0 < prodI (lensI L)) {k : Nat} {s : Sp} (hs : L[k]? = some s) : 1 ≤ s.len ∧ s.len ≤ 4096 := by
  have hm : s.len ∈ lensI L := List.mem_map.2 ⟨s, List.mem_of_getElem? hs, rfl⟩
  obtain ⟨h0, h1⟩ := lenOk_iff.1 (List.all_eq_true.1 (okShape_iff.1 hok).2.1 _ hm)
  refine ⟨?_, h1⟩
  rcases Int.lt_or_le 0 s.len with h | h
  · omega
  · exfalso
    have h0 : s.len = 0 := by omega
    have hz : ∀ l : List Int, (0 : Int) ∈ l → prodI l = 0 := by
      intro l
      induction l with
      | nil => intro h; cases h
      | cons x l ih =>
        intro h
        show x * prodI l = 0
        rcases List.mem_cons.1 h with h | h
        · rw [← h, Int.zero_mul]
        · rw [ih h, Int.mul_zero]
    rw [h0] at hm
    rw [hz _ hm] at hp
    omega
theorem prodI_take_drop (l : List Int) (k : Nat) : prodI l = prodI (l.take k) * prodI (l.drop k) := by
  rw [← prodI_append, List.take_append_drop]
theorem beh_bounds {L : List Sp} (hok : okShape (lensI L) = true) (k : Nat) : prodI ((lensI L).drop k) = (behN L k : Int) ∧ behN L k ≤ 281474976710656 := by
  have h := prodI_four (all_drop (okShape_iff.1 hok).2.1 k) (by have := (okShape_iff.1 hok).1; rw [List.length_drop]; omega)
  unfold behN
  omega
theorem beh_step {L : List Sp} (hok : okShape (lensI L) = true) {k : Nat} {s : Sp} (hs : L[k]? = some s) : (behN L k : Int) = s.len * (behN L (k + 1) : Int) := by
  have hk : k < (lensI L).length := by
    unfold lensI
    rw [List.length_map]
    exact (List.getElem?_eq_some_iff.1 hs).1
  rw [← (beh_bounds hok k).1, ← (beh_bounds hok (k + 1)).1, List.drop_eq_getElem_cons hk]
  have e0 : (lensI L)[k]? = some s.len := by
    unfold lensI
    rw [List.getElem?_map, hs]
    rfl
  have e : (lensI L)[k] = s.len := (List.getElem?_eq_some_iff.1 e0).2
  rw [e]
  rfl
theorem beh_pos {L : List Sp} (hok : okShape (lensI L) = true) (hp : 0 < prodI (lensI L)) (k : Nat) : 0 < behN L k := by
  have h := prodI_take_drop (lensI L) k
  have hb := beh_bounds hok k
  rcases Nat.eq_zero_or_pos (behN L k) with h0 | h0
  · rw [hb.1, h0] at h
    rw [h] at hp
    simp at hp
  · exact h0

structure InPre (B C0 C1 : Nat) (A : Option Addr) (c : Nat) (L : List Sp) (n : Nat) (W : World) : Prop where
  c0 : Blk W C0 120 #[.slice A L.length c]
  c1 : Blk W C1 3 #[.int .i64 (n : Int)]
  ro : W.ownsRow B 125 3 (.slice A L.length c) L.length (spL L)
theorem InPre.below {B C0 C1 : Nat} {A : Option Addr} {c : Nat} {L : List Sp} {n : Nat} {W W' : World} (h : InPre B C0 C1 A c L n W) (hb : Below W.heap.size W W') : InPre B C0 C1 A c L n W' :=
  ⟨h.c0.below hb h.c0.lt, h.c1.below hb h.c1.lt, arown_stay h.ro hb (fun g hg => (arown_lt h.ro g hg).2)⟩
/-- The cells of the span at k. -/
theorem InPre.at_ {B C0 C1 : Nat} {g c : Nat} {L : List Sp} {n : Nat} {W : World} (h : InPre B C0 C1 (some ⟨g, 0, none⟩) c L n W) {k : Nat} {s : Sp} (hs : L[k]? = some s) : W.cell? ⟨g, k * 3, none⟩ = some (.int .i64 s.len) ∧ W.cell? ⟨g, k * 3 + 1, none⟩ = some (.int .i64 s.frm) ∧ W.cell? ⟨g, k * 3 + 2, none⟩ = some (.int .i64 s.has) := by
  have hc := Lib.hid (h.ro.cells (g := g) rfl)
  have e := fun i hi => spL_at L k i s hs hi
  have add : ∀ j, (⟨g, 0, none⟩ : Addr).add j = ⟨g, j, none⟩ := fun j => by
    rw [Addr.add_mid, Nat.zero_add]
  refine ⟨?_, ?_, ?_⟩
  · have := hc.out (k * 3) (.int .i64 s.len) (e 0 (by decide))
    rwa [add] at this
  · have := hc.out (k * 3 + 1) (.int .i64 s.frm) (e 1 (by decide))
    rwa [add] at this
  · have := hc.out (k * 3 + 2) (.int .i64 s.has) (e 2 (by decide))
    rwa [add] at this
def inAt (L : List Sp) (n k : Nat) (_ : Unit) : Array Value := #[.int .i64 (ixV L n k), .agg (match L[k]? with | some s => #[.int .i64 s.len, .int .i64 s.frm, .int .i64 s.has] | none => #[])]
def inX (N k : Nat) (_ : Unit) (W W' : World) : Prop := k < N ∧ Below W.heap.size W W'
def inZ (N k : Nat) (W W' : World) : Prop := k = N ∧ Below W.heap.size W W'

theorem moind_any (A : Option Addr) (N c : Nat) (n : Int) (w : World) : Calls Try.prog 153 #[.slice A N c, .int .i64 n] w fun e w' => e = .returned (.func (.func 178) #[] #[.pointer (some ⟨w.heap.size, 0, none⟩), .pointer (some ⟨w.heap.size + 1, 0, none⟩)]) ∧ (w.alloc (.cells #[.slice A N c] 120)).alloc (.cells #[.int .i64 n] 3) = w' := by
  go_enter Try.func153, Try.ntmps153
  go_wp2
  go_ret
  exact ⟨rfl, rfl⟩

section
attribute [local go_sem] Oper.semAt_some
set_option maxRecDepth 100000 in
set_option maxHeartbeats 4000000 in
theorem ind_moves (f : Nat) (B C0 C1 g c : Nat) (L : List Sp) (n : Nat) (hok : okShape (lensI L) = true) (hn : (n : Int) < prodI (lensI L)) (hsp : ∀ s ∈ L, spOk s) (w : World) :
    SeqMovesV Fence.wide f Try.prog 178 #[.pointer (some ⟨C0, 0, none⟩), .pointer (some ⟨C1, 0, none⟩)] (inAt L n) (fun _ => InPre B C0 C1 (some ⟨g, 0, none⟩) c L n) (inX L.length) (inZ L.length) w := by
  intro lp J Jm Jx Jz W hW hP hX hZ hY h0
  have hp0 := hP 0 W h0
  have hp : 0 < prodI (lensI L) := by omega
  have hn4 : n ≤ 4096 := by have := (okShape_iff.1 hok).2.2; omega
  have hlen : (lensI L).length = L.length := by unfold lensI; rw [List.length_map]
  obtain ⟨N, hN⟩ : ∃ N, L.length = N := ⟨_, rfl⟩
  have hN4 : N ≤ 4 := by have := (okShape_iff.1 hok).1; omega
  have x0 := hp0.c0.cell 0
  rw [hN] at x0 hX hZ
  have HP := Lib.hid hP
  have HX := Lib.hid hX
  have HZ := Lib.hid hZ
  have HY := Lib.hid hY
  have H0 := Lib.hid h0
  have HN := Lib.hid hN
  have HP0 := Lib.hid hp0
  have HOK := Lib.hid hok
  have HPO := Lib.hid hp
  have HSP := Lib.hid hsp
  have HLE := Lib.hid hlen
  clear hP hX hZ hY h0 hW hp0 hN hok hn hp hsp hlen
  refine callsIn_of_wp Try.func178 rfl trivial ?_ rfl
  simp only [Try.ntmps178, List.size_toArray, List.length_cons, List.length_nil, Nat.reduceAdd, Nat.reduceSub, Array.replicate_succ, Array.replicate_zero, List.push_toArray, List.append_toArray, List.nil_append, List.cons_append]
  gi_wp2
  gi_loopw [11, 4] (fun i v wr => ∃ j : Nat, i = .int .i64 (j : Int) ∧ v = .int .i64 (prodI ((lensI L).take j)) ∧ j ≤ N ∧ Below W.heap.size W wr) (fun i _ _ => N + 1 - (RowKit.intOf i).toNat)
  case atStart => exact ⟨0, rfl, rfl, Nat.zero_le _, Below.refl _ _⟩
  case round =>
    obtain ⟨j, rfl, rfl, hj, hb⟩ := hrel
    have hpre := HP0.out.below hb
    by_cases hlt : j < N
    · have hd : (j : Int) < (N : Int) := by omega
      have hjl : j < L.length := by have := HN.out; omega
      obtain ⟨s, hs⟩ : ∃ s, L[j]? = some s := ⟨_, List.getElem?_eq_getElem hjl⟩
      obtain ⟨z0, z1, z2⟩ := hpre.at_ hs
      have hq : prodI ((lensI L).take (j + 1)) = prodI ((lensI L).take j) * s.len := by
        have h := prodI_snoc (lensI L) (j := j) (by rw [HLE.out]; exact hjl)
        rw [h]
        congr 1
        unfold lensI
        rw [List.getElem_map]
        obtain ⟨h1, h2⟩ := List.getElem?_eq_some_iff.1 hs
        rw [h2]
      obtain ⟨hb1, hb2⟩ := prodI_four (all_take (okShape_iff.1 HOK.out).2.1 (j + 1)) (by rw [List.length_take]; omega)
      generalize prodI ((lensI L).take j) = p at *
      generalize hQ : prodI ((lensI L).take (j + 1)) = q at *
      have hq' : p * s.len = q := hq.symm
      have HQ := Lib.hid hQ
      have HB := Lib.hid hb
      obtain ⟨sl, hsl⟩ : ∃ sl, s.len = sl := ⟨_, rfl⟩
      rw [hsl] at z0 hq'
      generalize s.frm = sf at *
      generalize s.has = sh at *
      clear hq hQ hb hpre x0 hs hsl
      gi_wp2
      go_roundw
      case rel => exact ⟨j + 1, by go_num, by rw [HQ.out], by omega, bon HB.out (albel _ _)⟩
      case measure => simp [RowKit.intOf]; omega
    · obtain rfl : j = N := by omega
      have htk : (lensI L).take j = lensI L := List.take_of_length_le (by rw [HLE.out, HN.out]; exact Nat.le_refl _)
      have hbb := (beh_bounds HOK.out 0).1
      rw [List.drop_zero] at hbb
      rw [htk, hbb]
      have HB := Lib.hid hb
      have c0 := hpre.c0.cell 0
      rw [HN.out] at c0
      clear htk hbb hb hpre x0 hlt hj
      gi_wp2
      gi_loopw [22, 4] (fun i v wr => ∃ (k : Nat) (W' : World), i = .int .i64 (k : Int) ∧ v = .int .i64 (behN L k : Int) ∧ k ≤ j ∧ J k W' ∧ Below W'.heap.size W' wr) (fun i _ _ => j + 1 - (RowKit.intOf i).toNat)
      case atStart => exact ⟨0, W, rfl, rfl, Nat.zero_le _, H0.out, HB.out⟩
      case round =>
        obtain ⟨k, W', rfl, rfl, hk4, hJ, hbw⟩ := hrel
        have hpre := (HP.out k W' hJ).below hbw
        have HJ := Lib.hid hJ
        have HBW := Lib.hid hbw
        by_cases hlt : k < j
        · have hd : (k : Int) < (j : Int) := by omega
          have hkl : k < L.length := by have := HN.out; omega
          obtain ⟨s, hs⟩ : ∃ s, L[k]? = some s := ⟨_, List.getElem?_eq_getElem hkl⟩
          obtain ⟨z0, z1, z2⟩ := hpre.at_ hs
          obtain ⟨l1, l2⟩ := lens_pos HOK.out HPO.out hs
          have hst := beh_step HOK.out hs
          have hbp := beh_pos HOK.out HPO.out (k + 1)
          have hbu := (beh_bounds HOK.out (k + 1)).2
          have hbu0 := (beh_bounds HOK.out k).2
          obtain ⟨o1, o2, o3, o4⟩ := HSP.out s (List.mem_of_getElem? hs)
          obtain ⟨len, hle⟩ := Int.eq_ofNat_of_zero_le (show 0 ≤ s.len by omega)
          have hAT : inAt L n k () = #[.int .i64 (((n / behN L (k + 1)) % len : Nat) + s.frm), .agg #[.int .i64 (len : Int), .int .i64 s.frm, .int .i64 s.has]] := by
            unfold inAt ixV
            rw [hs]
            simp only [hle, Int.toNat_natCast]
          have HAT := Lib.hid hAT
          rw [hle] at z0 l1 l2 hst
          obtain ⟨frm, hfr⟩ : ∃ frm, s.frm = frm := ⟨_, rfl⟩
          obtain ⟨has, hha⟩ : ∃ has, s.has = has := ⟨_, rfl⟩
          rw [hfr] at z1 o1 o2 HAT
          rw [hha] at z2 o3 o4 HAT
          obtain ⟨b, hb⟩ : ∃ b, behN L (k + 1) = b := ⟨_, rfl⟩
          obtain ⟨b0, hb0⟩ : ∃ b0, behN L k = b0 := ⟨_, rfl⟩
          rw [hb] at hst hbp hbu HAT
          rw [hb0] at hst hbu0
          rw [hb0]
          have HBB := Lib.hid hb
          obtain ⟨q, hq⟩ : ∃ q, n / b = q := ⟨_, rfl⟩
          obtain ⟨r, hr⟩ : ∃ r, q % len = r := ⟨_, rfl⟩
          have hq4 : q ≤ 4096 := by have := Nat.div_le_self n b; omega
          have hr4 : r < 4097 := by have := Nat.mod_lt q (show len > 0 by omega); omega
          have e1 : (b0 : Int).tdiv (len : Int) = (b : Int) := by
            rw [hst]
            exact Int.mul_tdiv_cancel_left _ (by omega)
          have e2 : (n : Int).tdiv (b : Int) = (q : Int) := by rw [← hq]; exact (Int.ofNat_tdiv n b).symm
          have e3 : (q : Int).tmod (len : Int) = (r : Int) := by rw [← hr]; exact (Int.ofNat_tmod q len).symm
          obtain ⟨ix, hix⟩ : ∃ ix, (r : Int) + frm = ix := ⟨_, rfl⟩
          have hixb : -100000 ≤ ix ∧ ix ≤ 100000 := by omega
          rw [hq, hr, hix] at HAT
          have hl0 : ¬ len = 0 := by omega
          have hb00 : ¬ b = 0 := by omega
          have wq : IntKind.i64.wrap (q : Int) = (q : Int) := by unfold IntKind.wrap; simp [IntKind.signed, IntKind.bits]; omega
          have wi : IntKind.i64.wrap ix = ix := by unfold IntKind.wrap; simp [IntKind.signed, IntKind.bits]; omega
          have n1 : (n : Int) ≤ 4096 := by omega
          have n2 : (q : Int) ≤ 4096 := by omega
          have n3 : (r : Int) ≤ 4096 := by omega
          have n4 : (b : Int) ≤ 281474976710656 := by omega
          have n5 : (b0 : Int) ≤ 281474976710656 := by omega
          have hp2 := hpre.below (albel wr (.cells #[.int .i64 (len : Int), .int .i64 frm, .int .i64 has] 125))
          obtain ⟨w9, hw9⟩ : ∃ w9, wr.alloc (.cells #[.int .i64 (len : Int), .int .i64 frm, .int .i64 has] 125) = w9 := ⟨_, rfl⟩
          have hb9 := albel wr (.cells #[.int .i64 (len : Int), .int .i64 frm, .int .i64 has] 125)
          have hx9 := Blk.new wr 125 #[.int .i64 (len : Int), .int .i64 frm, .int .i64 has]
          rw [hw9] at hp2 hb9 hx9
          obtain ⟨g8, hg8⟩ : ∃ g8, wr.heap.size = g8 := ⟨_, rfl⟩
          rw [hg8] at hx9
          have HCL : Hid (∀ W2, Below w9.heap.size w9 W2 → W2.cell? ⟨C1, 0, none⟩ = some (.int .i64 (n : Int)) ∧ W2.cell? ⟨g8, 0, none⟩ = some (.int .i64 (len : Int)) ∧ W2.cell? ⟨g8, 1, none⟩ = some (.int .i64 frm) ∧ W2.cell? ⟨g8, 2, none⟩ = some (.int .i64 has)) := Lib.hid (fun W2 h2 => by
            have h := hx9.below h2 hx9.lt
            exact ⟨(hp2.below h2).c1.cell 0, h.cell 0, h.cell 1, h.cell 2⟩)
          have HYK : Hid (∀ W2, Below w9.heap.size w9 W2 → YieldAt Fence.wide (f - 1) Try.prog lp #[.int .i64 ix, .agg #[.int .i64 (len : Int), .int .i64 frm, .int .i64 has]] W2 fun e W' => (e = .returned (.bool true) ∧ J (k + 1) W') ∨ (e = .returned (.bool false) ∧ Jx W')) := Lib.hid (fun W2 h2 => by
            have h := HY.out k () W2 (HX.out k () W' W2 HJ.out ⟨by omega, bon (bon HBW.out hb9) h2⟩)
            rwa [HAT.out] at h)
          have x9 := hx9.cell 0
          have HK := Lib.hid hlt
          have HG8 := Lib.hid hg8
          clear hpre hp2 hk4 hJ hbw hs hle hAT HAT hfr hha hb hb0 hq hr hst hbp hbu hbu0 o1 o2 o3 o4 hx9 c0 hkl l1 hb9
          gi_wp2
          refine wpIn_region_done_on (YS 11 w9) (YR 11 [.func (.yield lp) #[] #[], .int .i64 (n : Int), .int .i64 (b : Int), .int .i64 (q : Int), .pointer (some ⟨g8, 0, none⟩), .int .i64 (len : Int), .int .i64 (r : Int), .pointer (some ⟨g8, 1, none⟩), .int .i64 frm, .int .i64 ix, .agg #[.int .i64 (len : Int), .int .i64 frm, .int .i64 has]] [[0], [1], [2], [1, 2, 3], [4], [4, 5], [1, 2, 3, 4, 5, 6], [7], [7, 8], [1, 2, 3, 4, 5, 6, 7, 8, 9], [10], [0, 1, 2, 3, 4, 5, 6, 7, 8, 9, 10, 11], [0, 1, 2, 3, 4, 5, 6, 7, 8, 9, 10, 11, 12]] (J (k + 1)) (Jx)) (by kernel_rfl) 44 rfl (by kernel_rfl) (YS.start 11 _) ?_ ?_
          · intro i hi
            have hi2 : i < 13 := hi
            clear hi
            rcases i with _ | i
            · refine y_value rfl (fun _ => rfl) (by decide) (.func (.yield lp) #[] #[]) rfl (by kernel_rfl) ?_
              intro a8 w8 hb8 ho hn
              have o0 : a8.tmps[0]? = some _ := (ho 0 (by kernel_rfl)).trans rfl
              clear ho hn
              refine ⟨wanted_free rfl, ?_⟩
              go_simp
            rcases i with _ | i
            · refine y_value rfl (fun _ => rfl) (by decide) (.int .i64 (n : Int)) rfl (by kernel_rfl) ?_
              intro a8 w8 hb8 ho hn
              have o2 : a8.tmps[2]? = some _ := (ho 2 (by kernel_rfl)).trans rfl
              clear ho hn
              refine ⟨wanted_free rfl, ?_⟩
              obtain ⟨y0, s0, s1, s2⟩ := HCL.out w8 hb8
              go_simp
            rcases i with _ | i
            · refine y_value rfl (fun _ => rfl) (by decide) (.int .i64 (b : Int)) rfl (by kernel_rfl) ?_
              intro a8 w8 hb8 ho hn
              have o4 : a8.tmps[4]? = some _ := (ho 4 (by kernel_rfl)).trans rfl
              clear ho hn
              refine ⟨wanted_free rfl, ?_⟩
              go_simp
            rcases i with _ | i
            · refine y_value rfl (fun _ => rfl) (by decide) (.int .i64 (q : Int)) rfl (by kernel_rfl) ?_
              intro a8 w8 hb8 ho hn
              obtain ⟨v31, n31, hq31⟩ := hn 1 31 (by kernel_rfl) rfl
              obtain rfl := hq31 (by decide)
              obtain ⟨v32, n32, hq32⟩ := hn 2 32 (by kernel_rfl) rfl
              obtain rfl := hq32 (by decide)
              clear ho hn
              refine ⟨wanted_free rfl, ?_⟩
              go_simp
            rcases i with _ | i
            · refine y_value rfl (fun _ => rfl) (by decide) (.pointer (some ⟨g8, 0, none⟩)) rfl (by kernel_rfl) ?_
              intro a8 w8 hb8 ho hn
              have o8 : a8.tmps[8]? = some _ := (ho 8 (by kernel_rfl)).trans rfl
              clear ho hn
              refine ⟨wanted_free rfl, ?_⟩
              go_simp
            rcases i with _ | i
            · refine y_value rfl (fun _ => rfl) (by decide) (.int .i64 (len : Int)) rfl (by kernel_rfl) ?_
              intro a8 w8 hb8 ho hn
              obtain ⟨v34, n34, hq34⟩ := hn 4 34 (by kernel_rfl) rfl
              obtain rfl := hq34 (by decide)
              clear ho hn
              refine ⟨wanted_free rfl, ?_⟩
              obtain ⟨y0, s0, s1, s2⟩ := HCL.out w8 hb8
              go_simp
            rcases i with _ | i
            · refine y_value rfl (fun _ => rfl) (by decide) (.int .i64 (r : Int)) rfl (by kernel_rfl) ?_
              intro a8 w8 hb8 ho hn
              obtain ⟨v33, n33, hq33⟩ := hn 3 33 (by kernel_rfl) rfl
              obtain rfl := hq33 (by decide)
              obtain ⟨v35, n35, hq35⟩ := hn 5 35 (by kernel_rfl) rfl
              obtain rfl := hq35 (by decide)
              clear ho hn
              refine ⟨wanted_free rfl, ?_⟩
              go_simp
            rcases i with _ | i
            · refine y_value rfl (fun _ => rfl) (by decide) (.pointer (some ⟨g8, 1, none⟩)) rfl (by kernel_rfl) ?_
              intro a8 w8 hb8 ho hn
              have o8 : a8.tmps[8]? = some _ := (ho 8 (by kernel_rfl)).trans rfl
              clear ho hn
              refine ⟨wanted_free rfl, ?_⟩
              go_simp
            rcases i with _ | i
            · refine y_value rfl (fun _ => rfl) (by decide) (.int .i64 frm) rfl (by kernel_rfl) ?_
              intro a8 w8 hb8 ho hn
              obtain ⟨v37, n37, hq37⟩ := hn 7 37 (by kernel_rfl) rfl
              obtain rfl := hq37 (by decide)
              clear ho hn
              refine ⟨wanted_free rfl, ?_⟩
              obtain ⟨y0, s0, s1, s2⟩ := HCL.out w8 hb8
              go_simp
            rcases i with _ | i
            · refine y_value rfl (fun _ => rfl) (by decide) (.int .i64 ix) rfl (by kernel_rfl) ?_
              intro a8 w8 hb8 ho hn
              obtain ⟨v36, n36, hq36⟩ := hn 6 36 (by kernel_rfl) rfl
              obtain rfl := hq36 (by decide)
              obtain ⟨v38, n38, hq38⟩ := hn 8 38 (by kernel_rfl) rfl
              obtain rfl := hq38 (by decide)
              clear ho hn
              refine ⟨wanted_free rfl, ?_⟩
              go_simp
            rcases i with _ | i
            · refine y_value rfl (fun _ => rfl) (by decide) (.agg #[.int .i64 (len : Int), .int .i64 frm, .int .i64 has]) rfl (by kernel_rfl) ?_
              intro a8 w8 hb8 ho hn
              have o8 : a8.tmps[8]? = some _ := (ho 8 (by kernel_rfl)).trans rfl
              clear ho hn
              refine ⟨wanted_free rfl, ?_⟩
              obtain ⟨y0, s0, s1, s2⟩ := HCL.out w8 hb8
              go_simp
            rcases i with _ | i
            · refine y_yield rfl (fun _ => rfl) (by kernel_rfl) (by kernel_rfl) ?_
              intro a8 w8 hb8 ho hn
              obtain ⟨v30, n30, hq30⟩ := hn 0 30 (by kernel_rfl) rfl
              obtain rfl := hq30 (by decide)
              obtain ⟨v39, n39, hq39⟩ := hn 9 39 (by kernel_rfl) rfl
              obtain rfl := hq39 (by decide)
              obtain ⟨v40, n40, hq40⟩ := hn 10 40 (by kernel_rfl) rfl
              obtain rfl := hq40 (by decide)
              clear ho hn
              refine ⟨wanted_free rfl, ?_⟩
              obtain ⟨fn, tmps, assign, body, hy, hR⟩ := HYK.out w8 hb8
              exact ⟨lp, fn, tmps, assign, body, by go_simp, hR⟩
            rcases i with _ | i
            · refine y_not rfl (fun _ => rfl) (by kernel_rfl) (by decide) 41 (by kernel_rfl) rfl ?_
              intro a8 w8 bb n41
              refine ⟨wanted_free rfl, ?_⟩
              go_simp
            omega
          · intro dn fv w5 hS5 hR5 hall
            obtain ⟨_, bb, h42, hbb⟩ := (hR5 12 42 rfl).an (by decide)
            simp only [putAll, List.foldl_cons, List.foldl_nil, Act.put, List.setIfInBounds_toArray, List.set_cons_succ, List.set_cons_zero, h42]
            have HBB2 := Lib.hid hbb
            clear hR5 hS5 hall hbb
            generalize fv 30 = uv30
            generalize fv 31 = uv31
            generalize fv 32 = uv32
            generalize fv 33 = uv33
            generalize fv 34 = uv34
            generalize fv 35 = uv35
            generalize fv 36 = uv36
            generalize fv 37 = uv37
            generalize fv 38 = uv38
            generalize fv 39 = uv39
            generalize fv 40 = uv40
            generalize fv 41 = uv41
            cases bb
            · have HJX := Lib.hid (HBB2.out.2 rfl)
              gi_wp2
              refine bodyPost_ret (results_none rfl _ _ _) rfl ?_
              exact ⟨⟨_, rfl⟩, .inl HJX.out⟩
            · have HJ3 := Lib.hid (HBB2.out.1 rfl)
              gi_wp2
              go_roundw
              case rel => exact ⟨k + 1, w5, by go_num, by rw [HBB.out], by have := HK.out; omega, HJ3.out, Below.refl _ _⟩
              case measure => have := HK.out; simp [RowKit.intOf]; omega
        · obtain rfl : k = j := by omega
          have HE := Lib.hid (HZ.out k W' wr HJ.out ⟨rfl, HBW.out⟩)
          clear hlt hk4 hpre hJ hbw c0
          gi_wp2
          go_end0
          exact ⟨⟨_, rfl⟩, .inr HE.out⟩
end
end Go.Proofs.Ytenpohnccnlngaa.mo

namespace Go.Proofs.Ytenpohnccnlngaa.mo
open Go.RowKit Go.Proofs.Ytenpohnccnlngaa.arr

theorem mo_own_turned {W W' : World} {base B size n : Nat} {e : TypeId} {v : Value} {xs : List Value} {row : Option Nat} (h : W.ownsRow base e size v n xs) (hg : W.grownBy W' row) (hr : ∀ r, row = some r → B ≤ r ∧ ∃ o : Obj, W.heap[r]? = some o ∧ o.isCells = false) : W'.ownsRow base e size v n xs := by
  refine ⟨h.1, ?_⟩
  rcases h.2 with ⟨rfl, h0⟩ | ⟨g, cap, cur, rfl, hb, hh, hrest⟩
  · exact .inl ⟨rfl, h0⟩
  · refine .inr ⟨g, cap, cur, rfl, hb, ?_, hrest⟩
    refine (hg.block g (Array.getElem?_eq_some_iff.1 hh).1 (fun e => ?_)).trans hh
    obtain ⟨_, o, ho, hc⟩ := hr g e.symm
    rw [hh] at ho
    injection ho with ho
    subst ho
    cases hc
theorem mo_blk_turned {W W' : World} {g B : Nat} {t : TypeId} {cs : Array Value} {row : Option Nat} (h : Blk W g t cs) (hg : W.grownBy W' row) (hr : ∀ r, row = some r → B ≤ r ∧ ∃ o : Obj, W.heap[r]? = some o ∧ o.isCells = false) : Blk W' g t cs :=
  h.grown hg (fun e => by
    obtain ⟨_, o, ho, hc⟩ := hr g e.symm
    unfold Blk at h
    rw [h] at ho
    injection ho with ho
    subst ho
    cases hc)
theorem mo_keeps_below {W W' : World} (B : Nat) (h : Below W.heap.size W W') : KeepsFrom B W W' :=
  ⟨h.size, fun k _ _ hk _ => (h.block k (Array.getElem?_eq_some_iff.1 hk).1).trans hk⟩
theorem mo_keeps_on {B : Nat} {W W1 W2 : World} (h : KeepsFrom B W W1) (k : KeepsFrom B W1 W2) : KeepsFrom B W W2 :=
  ⟨Nat.le_trans h.size k.size, fun i o hB hi ho => k.same i o hB (h.same i o hB hi ho) ho⟩
theorem mo_keeps_set {B : Nat} {W : World} {g i : Nat} (hg : g < B) (v : Value) : KeepsFrom B W (W.setCell ⟨g, i, none⟩ v) :=
  ⟨by simp [World.setCell], fun k o hB hk _ => (Below.heap_setCell W ⟨g, i, none⟩ v k (by simp; omega)).trans hk⟩
def hasV (L : List Sp) (k : Nat) : Int := match L[k]? with | some s => s.has | none => 0
def badB (L : List Sp) (n k : Nat) : Bool := decide (ixV L n k < 0) || decide (hasV L k ≤ ixV L n k)
def srcP (L : List Sp) (n : Nat) : Nat → Int
  | 0 => 0
  | k + 1 => srcP L n k * hasV L k + ixV L n k
def anyBad (L : List Sp) (n N : Nat) : Bool := (List.range N).any (badB L n)
def srcF (L : List Sp) (n : Nat) : Int × Int := if anyBad L n L.length = true then (-1, 0) else (0, srcP L n L.length)
theorem anyBad_succ (L : List Sp) (n k : Nat) : anyBad L n (k + 1) = (anyBad L n k || badB L n k) := by
  unfold anyBad
  rw [List.range_succ, List.any_append]
  simp
theorem anyBad_on {L : List Sp} {n k N : Nat} (h : badB L n k = true) (hk : k < N) : anyBad L n N = true := by
  unfold anyBad
  rw [List.any_eq_true]
  exact ⟨k, List.mem_range.2 hk, h⟩
theorem srcP_bounds {L : List Sp} (hsp : ∀ s ∈ L, spOk s) (n : Nat) : ∀ k, anyBad L n k = false → 0 ≤ srcP L n k ∧ srcP L n k < 4096 ^ k
  | 0, _ => ⟨Int.le_refl _, by show (0 : Int) < 1; decide⟩
  | k + 1, h => by
    rw [anyBad_succ, Bool.or_eq_false_iff] at h
    obtain ⟨h0, h1⟩ := srcP_bounds hsp n k h.1
    have hb := h.2
    unfold badB at hb
    rw [Bool.or_eq_false_iff, decide_eq_false_iff_not, decide_eq_false_iff_not] at hb
    have hh : 0 ≤ hasV L k ∧ hasV L k ≤ 4096 := by
      unfold hasV
      cases hs : L[k]? with
      | none => simp
      | some s => have := hsp s (List.mem_of_getElem? hs); exact ⟨this.2.2.1, this.2.2.2⟩
    show 0 ≤ srcP L n k * hasV L k + ixV L n k ∧ srcP L n k * hasV L k + ixV L n k < 4096 ^ (k + 1)
    rw [Int.pow_succ]
    have h3 : (srcP L n k + 1) * hasV L k ≤ 4096 ^ k * 4096 := Int.mul_le_mul (by omega) hh.2 hh.1 (by omega)
    rw [Int.add_mul, Int.one_mul] at h3
    have h4 := Int.mul_nonneg h0 hh.1
    omega

/-- What stands while the axes are walked. -/
structure SrcI (w W3 : World) (P O : Int) (W : World) : Prop where
  keep : Keep (fun i => i = w.heap.size ∨ i = w.heap.size + 1) W3 W
  of_ : Blk W w.heap.size 3 #[.int .i64 O]
  pl : Blk W (w.heap.size + 1) 3 #[.int .i64 P]
theorem SrcI.own {w W3 W W' : World} {P O : Int} {row : Option Nat} (h : SrcI w W3 P O W) (hg : W.grownBy W' row) (hr : ∀ r, row = some r → W3.heap.size ≤ r ∧ ∃ o : Obj, W.heap[r]? = some o ∧ o.isCells = false) : SrcI w W3 P O W' :=
  ⟨h.keep.grown hg (fun g e hlt => by have := (hr g e).1; omega), mo_blk_turned h.of_ hg hr, mo_blk_turned h.pl hg hr⟩
theorem SrcI.below {w W3 W W' : World} {P O : Int} (h : SrcI w W3 P O W) (hb : Below W.heap.size W W') : SrcI w W3 P O W' :=
  ⟨h.keep.trans (Keep.of_below (S := fun _ => False) hb) (fun _ _ e => e.elim), h.of_.below hb h.of_.lt, h.pl.below hb h.pl.lt⟩

theorem mo_load1 {w : World} {a : Addr} {t : TypeId} {v : Value} (h : w.cell? a = some v) (ht : ∀ w, (isAgg t).run Try.prog w = .ok false w) : (loadVar t a).run Try.prog w = .ok v w := by
  simp [loadVar, ht, h]
theorem results_int2 {fn : Func} {t i : Tmp} {tmps : Array Value} {w : World} {g h : Nat} {x y : Value} (hr : fn.results = #[.cell t 3, .cell i 3]) (ht : tmps.getD t undef = .pointer (some ⟨g, 0, none⟩)) (hv : tmps.getD i undef = .pointer (some ⟨h, 0, none⟩)) (hb : Blk w g 3 #[x]) (hc : Blk w h 3 #[y]) : (results fn tmps).run Try.prog w = .ok (.tuple #[x, y]) w := by
  have h1 : (loadVar 3 ⟨g, 0, none⟩).run Try.prog w = .ok x w := mo_load1 (hb.cell 0) Try.isAgg3
  have h2 : (loadVar 3 ⟨h, 0, none⟩).run Try.prog w = .ok y w := mo_load1 (hc.cell 0) Try.isAgg3
  rw [Array.getD_eq_getD_getElem?] at ht hv
  simp [results, hr, ht, h1, hv, h2, asAddr]
theorem SrcI.set {w W3 W : World} {P O : Int} (h : SrcI w W3 P O W) (O' P' : Int) : SrcI w W3 P' O' ((W.setCell ⟨w.heap.size, 0, none⟩ (.int .i64 O')).setCell ⟨w.heap.size + 1, 0, none⟩ (.int .i64 P')) := by
  have h1 : Keep (fun i => i = w.heap.size ∨ i = w.heap.size + 1) W (W.setCell ⟨w.heap.size, 0, none⟩ (.int .i64 O')) := (Keep.refl _ _).setCell _ _ (fun _ => .inl rfl)
  have h2 := h1.setCell ⟨w.heap.size + 1, 0, none⟩ (.int .i64 P') (fun _ => .inr rfl)
  exact ⟨h.keep.trans h2 (fun _ _ e => e), (h.of_.set_ 0 _).far (by simp) _, (h.pl.far (by simp) _).set_ 0 _⟩
theorem SrcI.put {w W3 W : World} {P O : Int} (h : SrcI w W3 P O W) (P' : Int) : SrcI w W3 P' O (W.setCell ⟨w.heap.size + 1, 0, none⟩ (.int .i64 P')) := by
  have h2 : Keep (fun i => i = w.heap.size ∨ i = w.heap.size + 1) W (W.setCell ⟨w.heap.size + 1, 0, none⟩ (.int .i64 P')) := (Keep.refl _ _).setCell _ _ (fun _ => .inr rfl)
  exact ⟨h.keep.trans h2 (fun _ _ e => e), h.of_.far (by simp) _, h.pl.set_ 0 _⟩
theorem SrcI.fin {w W3 W : World} {P O : Int} {D : Nat} (h : SrcI w W3 P O W) (hb3 : Below w.heap.size w W3) (hs : w.heap.size + 1 < W3.heap.size) (hD : W3.heap.size ≤ D) (hK : W.heap[D]? = some (.deferred (some []))) :
    (((W.setCell ⟨w.heap.size, 0, none⟩ (.int .i64 O)).setCell ⟨w.heap.size + 1, 0, none⟩ (.int .i64 P)).drew).heap[D]? = some (.deferred (some [])) ∧
    Blk ((((W.setCell ⟨w.heap.size, 0, none⟩ (.int .i64 O)).setCell ⟨w.heap.size + 1, 0, none⟩ (.int .i64 P)).drew).putObj D (.deferred none)) w.heap.size 3 #[.int .i64 O] ∧
    Blk ((((W.setCell ⟨w.heap.size, 0, none⟩ (.int .i64 O)).setCell ⟨w.heap.size + 1, 0, none⟩ (.int .i64 P)).drew).putObj D (.deferred none)) (w.heap.size + 1) 3 #[.int .i64 P] ∧
    Below w.heap.size w ((((W.setCell ⟨w.heap.size, 0, none⟩ (.int .i64 O)).setCell ⟨w.heap.size + 1, 0, none⟩ (.int .i64 P)).drew).putObj D (.deferred none)) := by
  have h2 := h.set O P
  have hDl : D < W.heap.size := (Array.getElem?_eq_some_iff.1 hK).1
  obtain ⟨W2, hW2⟩ : ∃ W2, ((W.setCell ⟨w.heap.size, 0, none⟩ (.int .i64 O)).setCell ⟨w.heap.size + 1, 0, none⟩ (.int .i64 P)) = W2 := ⟨_, rfl⟩
  have hk : Keep (fun i => i = w.heap.size ∨ i = w.heap.size + 1) W W2 := by
    rw [← hW2]
    exact (Keep.setCell (S := fun i => i = w.heap.size ∨ i = w.heap.size + 1) (Keep.refl _ _) _ _ (fun _ => .inl rfl)).setCell ⟨w.heap.size + 1, 0, none⟩ (.int .i64 P) (fun _ => .inr rfl)
  rw [hW2] at h2 ⊢
  have hp : Keep (fun k => k = D) W2.drew (W2.drew.putObj D (.deferred none)) := (Keep.refl _ _).grown (grownBy_putObj' _ D _) (fun k e _ => by injection e with e; exact e.symm)
  have hKD : W2.heap[D]? = some (.deferred (some [])) := (hk.block D hDl (by omega)).trans hK
  have hbw : Below w.heap.size w W2 := hb3.trans (h2.keep.below hb3.size (fun i hi e => by omega))
  refine ⟨hKD, hp.blk (Blk.drew h2.of_) (by omega), hp.blk (Blk.drew h2.pl) (by omega), ?_⟩
  exact (hbw.drew).trans (hp.below (by have := hbw.size; exact this) (fun i hi e => by omega))

section
attribute [local go_sem] Oper.semAt_some
set_option maxRecDepth 100000 in
set_option maxHeartbeats 4000000 in
theorem mosource_any (B g c : Nat) (L : List Sp) (n : Nat) (w : World) (hok : okShape (lensI L) = true) (hn : (n : Int) < prodI (lensI L)) (hsp : ∀ s ∈ L, spOk s) (ho : w.ownsRow B 125 3 (.slice (some ⟨g, 0, none⟩) L.length c) L.length (spL L)) :
    Calls Try.prog 128 #[.slice (some ⟨g, 0, none⟩) L.length c, .int .i64 (n : Int)] w fun e w' => e = .returned (.tuple #[.int .i64 (srcF L n).1, .int .i64 (srcF L n).2]) ∧ Below w.heap.size w w' := by
  obtain ⟨z, hz⟩ : ∃ z, w.heap.size = z := ⟨_, rfl⟩
  obtain ⟨N, hN⟩ : ∃ N, L.length = N := ⟨_, rfl⟩
  have hN4 : N ≤ 4 := by have := (okShape_iff.1 hok).1; unfold lensI at this; rw [List.length_map] at this; omega
  obtain ⟨W3, hW3⟩ : ∃ W3, (((w.alloc (.cells #[.int .i64 0] 3)).alloc (.cells #[.int .i64 0] 3)).alloc (.cells #[.slice (some ⟨g, 0, none⟩) N c] 120)).alloc (.cells #[.int .i64 (n : Int)] 3) = W3 := ⟨_, rfl⟩
  have hb3 : Below w.heap.size w W3 := by
    rw [← hW3]
    exact (mobelow3 _ _ _).alloc (by simp; omega) _
  have hs3 : W3.heap.size = z + 4 := by rw [← hW3, ← hz]; simp
  have k0 : Blk W3 z 3 #[.int .i64 0] := by
    rw [← hW3, ← hz]
    exact (((Blk.new w _ _).alloc _).alloc _).alloc _
  have k1 : Blk W3 (z + 1) 3 #[.int .i64 0] := by
    have h := ((Blk.new (w.alloc (.cells #[.int .i64 0] 3)) 3 #[.int .i64 0]).alloc (.cells #[.slice (some ⟨g, 0, none⟩) N c] 120)).alloc (.cells #[.int .i64 (n : Int)] 3)
    rw [hW3] at h
    simpa only [World.size_alloc, hz] using h
  have k2 : Blk W3 (z + 2) 120 #[.slice (some ⟨g, 0, none⟩) N c] := by
    have h := (Blk.new ((w.alloc (.cells #[.int .i64 0] 3)).alloc (.cells #[.int .i64 0] 3)) 120 #[.slice (some ⟨g, 0, none⟩) N c]).alloc (.cells #[.int .i64 (n : Int)] 3)
    rw [hW3] at h
    simpa only [World.size_alloc, hz] using h
  have k3 : Blk W3 (z + 3) 3 #[.int .i64 (n : Int)] := by
    have h := Blk.new (((w.alloc (.cells #[.int .i64 0] 3)).alloc (.cells #[.int .i64 0] 3)).alloc (.cells #[.slice (some ⟨g, 0, none⟩) N c] 120)) 3 #[.int .i64 (n : Int)]
    rw [hW3] at h
    simpa only [World.size_alloc, hz] using h
  have HPRE : Hid (∀ W, Keep (fun i => i = w.heap.size ∨ i = w.heap.size + 1) W3 W → Below w.heap.size w W ∧ InPre B (z + 2) (z + 3) (some ⟨g, 0, none⟩) c L n W) := Lib.hid (fun W hk => by
    have hb := hb3.trans (hk.below (B := w.heap.size) hb3.size (fun i hi e => by omega))
    refine ⟨hb, ?_, hk.blk k3 (by omega), arown_stay ho hb (fun g hg => (arown_lt ho g hg).2)⟩
    rw [hN]
    exact hk.blk k2 (by omega))
  have hgl : g < w.heap.size ∨ N = 0 := by
    rcases Nat.eq_zero_or_pos N with h | h
    · exact .inr h
    · exact .inl (arown_lt ho g (by simp [Value.ownBlock])).2
  have H0 : Hid (SrcI w W3 0 0 W3) := Lib.hid ⟨Keep.refl _ _, hz ▸ k0, hz ▸ k1⟩
  have HS3 := Lib.hid hs3
  have HZ := Lib.hid hz
  have HB3 := Lib.hid hb3
  have HBD := Lib.hid (fun k => srcP_bounds hsp n k)
  have HSP := Lib.hid hsp
  have HBS := Lib.hid (anyBad_succ L n)
  have hMV := ind_moves 6 B (z + 2) (z + 3) g c L n hok hn hsp W3
  have hF : srcF L n = if anyBad L n L.length = true then (-1, 0) else (0, srcP L n L.length) := rfl
  rw [hN] at hF hMV
  rw [hN]
  have HF := Lib.hid hF
  have HW3 := Lib.hid hW3
  have HN := Lib.hid hN
  obtain ⟨R, hR⟩ : ∃ R, srcF L n = R := ⟨_, rfl⟩
  rw [hR] at HF
  rw [hR]
  clear hF hR hb3 k0 k1 k2 k3 ho hW3 hs3 hz hok hn hsp hgl
  have hfp : Fence.wide.fn 153 := trivial
  refine (callsIn_wide (n := 7)).1 ?_
  refine callsIn_of_wp_marks Try.func128 rfl trivial ?_
  simp only [Try.ntmps128, List.size_toArray, List.length_cons, List.length_nil, Nat.reduceAdd, Nat.reduceSub, Array.replicate_succ, Array.replicate_zero, List.push_toArray, List.append_toArray, List.nil_append, List.cons_append]
  gi_wp2
  refine wpIn_scope_wide ?_
  gi_wp2
  refine wpIn_label ?_
  gi_wp2_with (gi_at_call 153; refine (callsIn_wide.2 (moind_any _ _ _ _ _)).mono ?_; rintro e w7 ⟨rfl, hw7⟩)
  obtain rfl : W3 = w7 := by rw [← HW3.out, ← hw7]
  clear hw7
  have hz := HZ.out
  rw [hz] at *
  simp only [Nat.add_assoc, Nat.reduceAdd]
  clear hz
  refine wpIn_rangeFunc_movesV rfl (by omega) (gf := 178) (lb := #[.pointer (some ⟨z + 2, 0, none⟩), .pointer (some ⟨z + 3, 0, none⟩)]) rfl trivial (enters_of Try.func178 (by kernel_rfl) rfl)
    hMV (Below.refl _ _) (fun _ _ => rfl)
    (fun k W => SrcI w W3 (srcP L n k) 0 W ∧ anyBad L n k = false ∧ k ≤ N)
    (fun k _ W => SrcI w W3 (srcP L n k) 0 W ∧ anyBad L n k = false ∧ k < N)
    (fun W => SrcI w W3 (srcP L n N) 0 W ∧ anyBad L n N = false)
    (fun cc W => cc = .exit 0 ∧ anyBad L n N = true ∧ SrcI w W3 0 (-1) W)
    (fun k W W' row hs hg hr => ⟨hs.1.own hg hr, hs.2⟩)
    (fun _ W W' row hs hg hr => ⟨hs.1.own hg hr, hs.2⟩)
    (fun cc W W' row hs hg hr => ⟨hs.1, hs.2.1, hs.2.2.own hg hr⟩)
    (fun k W hs => (HPRE.out W hs.1.keep).2)
    (fun k W W' hs hx l o ho hc => by
      rcases hx with ⟨_, _, hb⟩ | ⟨_, hb⟩
      · exact (hb.block l (Array.getElem?_eq_some_iff.1 ho).1).trans ho
      · exact (hb.block l (Array.getElem?_eq_some_iff.1 ho).1).trans ho)
    (fun k x W W' hs hx => ⟨hs.1.below hx.2, hs.2.1, hx.1⟩)
    (fun k W W' hs hx => by
      obtain ⟨rfl, hb⟩ := hx
      exact ⟨hs.1.below hb, hs.2.1⟩)
    ⟨H0.out, rfl, Nat.zero_le _⟩
    (fun k _ a' W => ∃ rb s, W3.heap.size ≤ rb ∧ L[k]? = some s ∧ a' = { tmps := #[.slice (some ⟨g, 0, none⟩) N c, .int .i64 (n : Int), undef, undef, .pointer (some ⟨z, 0, none⟩), .pointer (some ⟨z + 1, 0, none⟩), .int .i64 (ixV L n k), .pointer (some ⟨rb, 0, none⟩), .slice (some ⟨g, 0, none⟩) N c, .int .i64 (n : Int), .func (.func 178) #[] #[.pointer (some ⟨z + 2, 0, none⟩), .pointer (some ⟨z + 3, 0, none⟩)], .int .i64 (ixV L n k), .agg #[.int .i64 s.len, .int .i64 s.frm, .int .i64 s.has], undef, undef, undef, undef, undef, undef, undef, undef, undef, undef, undef, undef, undef, undef, undef, undef], defers := [] } ∧ Blk W rb 125 #[.int .i64 s.len, .int .i64 s.frm, .int .i64 s.has] ∧ SrcI w W3 (srcP L n k) 0 W ∧ anyBad L n k = false ∧ k < N)
    (fun k x a' _ W W' row hs hg hr => by
      obtain ⟨rb, s, h1, h2, h3, h4, h5, h6⟩ := hs
      exact ⟨rb, s, h1, h2, h3, mo_blk_turned h4 hg hr, h5.own hg hr, h6⟩)
    ?assign ?body ?done ?stop
  case assign =>
    intro l k x W K hI hK
    obtain ⟨s, hs⟩ : ∃ s, L[k]? = some s := ⟨_, List.getElem?_eq_getElem (by have := hI.2.2; have := HN.out; omega)⟩
    have HS := Lib.hid hs
    have HK := Lib.hid hK
    have HI := Lib.hid hI
    have e : inAt L n k x = #[.int .i64 (ixV L n k), .agg #[.int .i64 s.len, .int .i64 s.frm, .int .i64 s.has]] := by
      unfold inAt
      rw [hs]
    rw [e]
    clear hK hI e hs
    gi_wp2
    exact HK.out _ _ (mo_keeps_below _ (albel _ _)) ⟨W.heap.size, s, HI.out.1.keep.size, HS.out, rfl, Blk.new W _ _, HI.out.1.below (albel _ _), HI.out.2⟩
  case body =>
    rintro l k x a' W ⟨rb, s, hrb, hs, rfl, hbx, hI, hE, hkN⟩
    have hst : srcP L n (k + 1) = srcP L n k * s.has + ixV L n k := by
      show srcP L n k * hasV L k + ixV L n k = _
      unfold hasV
      rw [hs]
    have hbd : badB L n k = (decide (ixV L n k < 0) || decide (s.has ≤ ixV L n k)) := by
      unfold badB hasV
      rw [hs]
    have hbs := HBS.out k
    rw [hE, Bool.false_or] at hbs
    have hon := fun (h : badB L n k = true) => anyBad_on h hkN
    have hbP := HBD.out k hE
    have hbP1 := HBD.out (k + 1)
    have hp4 : (4096 : Int) ^ k ≤ 281474976710656 := pow_four (by omega)
    have hp5 : (4096 : Int) ^ (k + 1) ≤ 281474976710656 := pow_four (by omega)
    have hsp := HSP.out s (List.mem_of_getElem? hs)
    have x2 := hbx.cell 2
    have y0 := hI.of_.cell 0
    have y1 := hI.pl.cell 0
    have g0 := hI.of_.frozen 0
    have g1 := hI.pl.frozen 0
    have HI := Lib.hid hI
    have HKN := Lib.hid hkN
    generalize hix : ixV L n k = ix at *
    obtain ⟨_, _, s3, s4⟩ := hsp
    generalize s.has = has at *
    generalize s.len = sl at *
    generalize s.frm = sf at *
    have HZ3 := Lib.hid (show z + 4 ≤ W3.heap.size by have := HS3.out; omega)
    have hzw := HZ.out
    rw [hzw] at y0 y1 g0 g1
    generalize hP : srcP L n k = P at *
    generalize hP1 : srcP L n (k + 1) = P1 at *
    by_cases h1 : ix < 0
    · have hb : badB L n k = true := by rw [hbd, decide_eq_true h1, Bool.true_or]
      have HON := Lib.hid (hon hb)
      clear hst hbd hbs hon hbP hbP1 hI hE hkN hbx hb hs hzw
      gi_wp2
      have hzw := HZ.out
      have hz3 := HZ3.out
      have hset := HI.out.set (-1) 0
      rw [hzw] at hset
      exact ⟨mo_keeps_on (mo_keeps_set (by omega) _) (mo_keeps_set (by omega) _), rfl, HON.out, hset⟩
    · have d1 : decide (ix < 0) = false := decide_eq_false h1
      by_cases h2 : has ≤ ix
      · have hb : badB L n k = true := by rw [hbd, decide_eq_true h2, Bool.or_true]
        have HON := Lib.hid (hon hb)
        clear hst hbd hbs hon hbP hbP1 hI hE hkN hbx hb hs hzw
        gi_wp2
        have hzw := HZ.out
        have hz3 := HZ3.out
        have hset := HI.out.set (-1) 0
        rw [hzw] at hset
        exact ⟨mo_keeps_on (mo_keeps_set (by omega) _) (mo_keeps_set (by omega) _), rfl, HON.out, hset⟩
      · have hb : badB L n k = false := by rw [hbd, d1, decide_eq_false h2]; rfl
        rw [hb] at hbs
        have hb1 := hbP1 hbs
        have HBS2 := Lib.hid hbs
        have hPh : 0 ≤ P * has ∧ P * has ≤ 281474976710656 * 4096 := ⟨Int.mul_nonneg hbP.1 s3, Int.mul_le_mul (by omega) s4 s3 (by omega)⟩
        obtain ⟨Q, hQ⟩ : ∃ Q, P * has = Q := ⟨_, rfl⟩
        rw [hQ] at hst hPh
        have hst2 : Q + ix = P1 := hst.symm
        have HP1 := Lib.hid hP1
        have b1 := hb1.1
        have b2 := hb1.2
        have b3 := hPh.1
        have b4 := hPh.2
        have b5 : P1 ≤ 281474976710656 := by omega
        clear hst hbd hbs hon hbP hbP1 hI hE hkN hbx hb hs hzw hPh hb1 b2 hp4 hp5 hP1
        gi_wp2
        have hzw := HZ.out
        have hz3 := HZ3.out
        have hset := HI.out.put P1
        rw [hzw] at hset
        refine ⟨mo_keeps_set (by omega) _, ?_, HBS2.out, by have := HKN.out; omega⟩
        rw [HP1.out]
        exact hset
  case done =>
    rintro D W hD ⟨hI, hE⟩ hK
    have hF := HF.out
    rw [hE, if_neg (by decide)] at hF
    subst hF
    have y0 := hI.of_.cell 0
    have y1 := hI.pl.cell 0
    have g0 := hI.of_.frozen 0
    have g1 := hI.pl.frozen 0
    have hzw := HZ.out
    rw [hzw] at y0 y1 g0 g1
    have HI := Lib.hid hI
    have HKK := Lib.hid hK
    clear hI hK hzw
    gi_wp2
    gi_region
    gi_wp2
    have hzw := HZ.out
    subst hzw
    have HE := HI.out.fin HB3.out (by have := HS3.out; omega) hD HKK.out
    exact ⟨by simp, .inl ⟨_, _, rfl, run_takeDeferred HE.1, ⟨_, results_int2 rfl rfl rfl HE.2.1 HE.2.2.1, rfl, HE.2.2.2⟩⟩⟩
  case stop =>
    rintro D c' W hD ⟨rfl, hE, hI⟩ hK
    have hF := HF.out
    rw [hE, if_pos rfl] at hF
    subst hF
    have y0 := hI.of_.cell 0
    have y1 := hI.pl.cell 0
    have g0 := hI.of_.frozen 0
    have g1 := hI.pl.frozen 0
    have hzw := HZ.out
    rw [hzw] at y0 y1 g0 g1
    have HI := Lib.hid hI
    have HKK := Lib.hid hK
    clear hI hK hzw
    gi_wp2
    gi_region
    gi_wp2
    have hzw := HZ.out
    subst hzw
    have HE := HI.out.fin HB3.out (by have := HS3.out; omega) hD HKK.out
    exact ⟨by simp, .inl ⟨_, _, rfl, run_takeDeferred HE.1, ⟨_, results_int2 rfl rfl rfl HE.2.1 HE.2.2.1, rfl, HE.2.2.2⟩⟩⟩
end
end Go.Proofs.Ytenpohnccnlngaa.mo

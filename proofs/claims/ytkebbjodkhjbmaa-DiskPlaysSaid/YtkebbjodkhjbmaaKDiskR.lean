/-
  The disk of layer 3: its sectors' bytes in memory; Read, Spoil.
-/
import Derived.Test.YtkebbjodkhjbmaaKDisk
namespace Go.Proofs.Ytkebbjodkhjbmaa
open Go.RowKit Go.Maps

theorem splice_at {α : Type} {L cs : List α} {o i : Nat} (h : o + cs.length ≤ L.length) : (L.take o ++ (cs ++ L.drop (o + cs.length)))[i]? = if o ≤ i ∧ i < o + cs.length then cs[i - o]? else L[i]? := by
  by_cases h1 : i < o
  · rw [if_neg (by omega), List.getElem?_append_left (by rw [List.length_take]; omega), List.getElem?_take_of_lt h1]
  · rw [List.getElem?_append_right (by rw [List.length_take]; omega), List.length_take, Nat.min_eq_left (by omega)]
    by_cases h2 : i < o + cs.length
    · rw [if_pos ⟨by omega, h2⟩, List.getElem?_append_left (by omega)]
    · rw [if_neg (by omega), List.getElem?_append_right (by omega), List.getElem?_drop]
      congr 1
      omega

theorem Keep.setRow {S : Nat → Prop} {w0 w : World} {g : Nat} (h : Keep S w0 w) (cs : Array Value) (hg : g < w0.heap.size → S g) : Keep S w0 (w.setRow g cs) :=
  ⟨h.os, h.tape, h.output, by simp; exact h.size, fun k hk hn => (setRow_other w g k cs (fun e => hn (by subst e; exact hg hk))).trans (h.block k hk hn)⟩

theorem blk_setCells {t : TypeId} {g : Nat} : ∀ (vs : List Value) (o : Nat) (w : World) (cur : Array Value), Blk w g t cur → o + vs.length ≤ cur.size →
    Blk (w.setCells g o vs) g t (cur.toList.take o ++ (vs ++ cur.toList.drop (o + vs.length))).toArray
  | [], _, _, _, h, _ => by
    simpa [World.setCells] using h
  | v :: r, o, w, cur, h, hl => by
    rw [World.setCells]
    rw [List.length_cons] at hl
    have h1 := blk_setCells r (o + 1) (w.setCell ⟨g, o, none⟩ v) _ (h.set_ o v) (by rw [Array.size_setIfInBounds]; omega)
    have e : (cur.setIfInBounds o v).toList.take (o + 1) ++ (r ++ (cur.setIfInBounds o v).toList.drop (o + 1 + r.length)) = cur.toList.take o ++ (v :: r ++ cur.toList.drop (o + (v :: r).length)) := by
      have hlen : cur.toList.length = cur.size := by simp
      rw [Array.toList_setIfInBounds]
      apply List.ext_getElem?
      intro i
      have e1 := splice_at (L := cur.toList.set o v) (cs := r) (o := o + 1) (i := i) (by rw [List.length_set]; omega)
      have e2 := splice_at (L := cur.toList) (cs := v :: r) (o := o) (i := i) (by rw [List.length_cons]; omega)
      rw [e1, e2, List.length_cons]
      by_cases hi : i = o
      · subst hi
        rw [if_neg (by omega), if_pos (by omega), List.getElem?_set_self (by omega), Nat.sub_self]
        rfl
      · by_cases hin : o + 1 ≤ i ∧ i < o + 1 + r.length
        · rw [if_pos hin, if_pos (by omega), show i - o = (i - (o + 1)) + 1 from by omega, List.getElem?_cons_succ]
        · rw [if_neg hin, if_neg (by omega), List.getElem?_set_ne (fun e => hi e.symm)]
    rw [e] at h1
    exact h1
theorem keep_setCells {S : Nat → Prop} {w0 : World} {g : Nat} : ∀ (vs : List Value) (o : Nat) (w : World), Keep S w0 w → (g < w0.heap.size → S g) → Keep S w0 (w.setCells g o vs)
  | [], _, _, h, _ => h
  | v :: r, o, _, h, hg => keep_setCells r (o + 1) _ (h.setCell ⟨g, o, none⟩ v hg) hg

section
variable {w w' : World} {g cS : Nat} {ls : List (List UInt8)}

theorem Dur.range (h : Dur w g cS ls) {k : Nat} {l : List UInt8} (hl : ls[k]? = some l) : w.rangeAt g (k * 128) (l.map bv) := by
  obtain ⟨cur, hb, _, _, hc⟩ := h
  intro j v hv
  rw [List.getElem?_map] at hv
  obtain ⟨x, hx, rfl⟩ := Option.map_eq_some_iff.1 hv
  rw [hb.cell]
  exact hc k l hl j x hx
theorem Dur.there (h : Dur w g cS ls) {k : Nat} (hk : k < ls.length) : w.there g (k * 128) 128 := by
  obtain ⟨cur, hb, h1, h2, hc⟩ := h
  intro j hj
  refine ⟨?_, hb.frozen _⟩
  rw [hb.cell, Array.getElem?_eq_getElem (by omega)]
  rfl
theorem Dur.splice {cur : Array Value} {k n : Nat} {old l : List UInt8} (hb : Blk w' g 64 (cur.toList.take (k * 128) ++ ((l.take n).map bv ++ cur.toList.drop (k * 128 + ((l.take n).map bv).length))).toArray)
    (h1 : ls.length ≤ cS) (h2 : cur.size = cS * 128) (hc : ∀ (k : Nat) (l : List UInt8), ls[k]? = some l → ∀ (j : Nat) (x : UInt8), l[j]? = some x → cur[k * 128 + j]? = some (bv x))
    (hst : ∀ l ∈ ls, l.length = 128) (ho : ls[k]? = some old) (hl : l.length = 128) (hn : n ≤ 128) : Dur w' g cS (ls.set k (l.take n ++ old.drop n)) := by
  have hk : k < ls.length := (List.getElem?_eq_some_iff.1 ho).1
  have hlen : ((l.take n).map bv).length = n := by rw [List.length_map, List.length_take]; omega
  have hcl : cur.toList.length = cur.size := by simp
  have hfit : k * 128 + ((l.take n).map bv).length ≤ cur.toList.length := by rw [hlen]; omega
  have hol : old.length = 128 := hst _ (List.mem_of_getElem? ho)
  refine ⟨_, hb, by rw [List.length_set]; exact h1, ?_, ?_⟩
  · rw [List.size_toArray, List.length_append, List.length_append, List.length_take, List.length_drop]
    rw [hlen] at hfit ⊢
    omega
  · intro k' l' hl' j x hx
    rw [List.getElem?_toArray, splice_at hfit, hlen]
    have hj : j < l'.length := (List.getElem?_eq_some_iff.1 hx).1
    by_cases hkk : k = k'
    · subst hkk
      rw [List.getElem?_set_self hk] at hl'
      injection hl' with hl'
      subst hl'
      rw [List.length_append, List.length_take, List.length_drop] at hj
      by_cases hjn : j < n
      · rw [if_pos (by omega), show k * 128 + j - k * 128 = j from by omega, List.getElem?_map]
        rw [List.getElem?_append_left (by rw [List.length_take]; omega)] at hx
        rw [hx]
        rfl
      · rw [if_neg (by omega)]
        rw [List.getElem?_append_right (by rw [List.length_take]; omega), List.length_take, List.getElem?_drop, show n + (j - min n l.length) = j from by omega] at hx
        simpa using hc k old ho j x hx
    · rw [List.getElem?_set_ne hkk] at hl'
      have h128 := hst _ (List.mem_of_getElem? hl')
      rw [if_neg (by omega)]
      simpa using hc k' l' hl' j x hx
theorem Dur.set_ (h : Dur w g cS ls) {k : Nat} {l : List UInt8} (hst : ∀ l ∈ ls, l.length = 128) (hk : k < ls.length) (hl : l.length = 128) : Dur (w.setCells g (k * 128) (l.map bv)) g cS (ls.set k l) := by
  obtain ⟨cur, hb, h1, h2, hc⟩ := h
  have hol : (ls[k]).length = 128 := hst _ (List.getElem_mem hk)
  have hb2 := blk_setCells (l.map bv) (k * 128) w cur hb (by rw [List.length_map]; omega)
  have e1 : l.take 128 = l := List.take_of_length_le (by omega)
  have := Dur.splice (n := 128) (old := ls[k]) (l := l) (k := k) (by rw [e1]; exact hb2) h1 h2 hc hst (List.getElem?_eq_getElem hk) hl (Nat.le_refl _)
  rwa [e1, List.drop_of_length_le (by omega), List.append_nil] at this
end

section
variable {w : World} {d : DAt} {kv : Value} {s : RSt}

theorem zeroSec : ∀ w, (zeroValue 64).run Try.prog w = .ok (secV (List.replicate 128 0)) w := fun w => by kernel_rfl
theorem infoSec : (Try.prog.info? 64).map (fun i => (i.zero, i.size, i.bytes)) = some (some (secV (List.replicate 128 0)), 128, 128) := by kernel_rfl

set_option maxRecDepth 100000 in
/-- What is pending, looked up. -/
theorem MapOf.look {m : Nat} {cache : List (List UInt8)} (h : MapOf w m cache) {k : Nat} (hk : k < cache.length) (hfew : cache.length ≤ 4096) :
    (0 < (cache.getD k []).length → (Instr.lookup 49 (.map (some m)) (.int .i64 (k : Int)) true).run Try.prog w = .ok (.tuple #[secV (cache.getD k []), .bool true]) w ∧ (Instr.lookup 49 (.map (some m)) (.int .i64 (k : Int)) false).run Try.prog w = .ok (secV (cache.getD k [])) w) ∧
    (¬ 0 < (cache.getD k []).length → (Instr.lookup 49 (.map (some m)) (.int .i64 (k : Int)) true).run Try.prog w = .ok (.tuple #[secV (List.replicate 128 0), .bool false]) w) := by
  obtain ⟨D, hown, hC⟩ := h
  have hkey : keyOf Try.prog 3 (.int .i64 (k : Int)) = some (.int .i64 (k : Int)) := keyOf_int_mk Try.underlying3 (by
    have h1 : IntKind.i64.min = -9223372036854775808 := rfl
    have h2 : IntKind.i64.max = 9223372036854775807 := rfl
    simp only [Lit.wf, Bool.and_eq_true, decide_eq_true_eq]
    omega)
  have hz0 : secR (secV (List.replicate 128 0)) = some (.lit (.string (List.replicate 128 0)), []) := secR_mk (by simp)
  obtain ⟨v, ps, hrun, hv⟩ := hown.look_ok (int_keyed Try.underlying3) Try.underlying49 (zeroSec w) hz0 hkey
  obtain ⟨v2, ps2, hrun2, hv2⟩ := hown.lookup (int_keyed Try.underlying3) Try.underlying49 (zeroSec w) hz0 hkey
  have hin := get_at hk
  refine ⟨fun hp => ?_, fun hp => ?_⟩
  · obtain ⟨y1, y2⟩ := hC.yes k _ hin hp
    rw [y2] at hv hv2
    obtain ⟨l, _, rfl, e⟩ := secR_inv hv
    obtain ⟨l2, _, rfl, e2⟩ := secR_inv hv2
    simp only [Prod.mk.injEq, DataW.lit.injEq, Lit.string.injEq] at e e2
    rw [hrun, hrun2, y1, ← e.1, ← e2.1]
    exact ⟨rfl, rfl⟩
  · have hno : has D (.int .i64 (k : Int)) = false := by
      cases hh : has D (.int .i64 (k : Int)) with
      | false => rfl
      | true =>
        obtain ⟨k', l, e, hl, h0⟩ := hC.only _ hh
        have : k = k' := by omega
        subst this
        rw [hin] at hl
        injection hl with hl
        rw [hl] at hp
        exact absurd h0 hp
    rw [atKey_of_not_has hno] at hv
    obtain ⟨l, _, rfl, e⟩ := secR_inv hv
    simp only [Prod.mk.injEq, DataW.lit.injEq, Lit.string.injEq] at e
    rw [hrun, hno, ← e.1]

/-- What Read hands back: a sector's bytes in a block of their own, or nothing. -/
def ReadOut (w w' : World) (v : Value) (l : List UInt8) : Prop :=
  Below w.heap.size w w' ∧ ((l = [] ∧ v = .slice none 0 0 ∧ w = w') ∨ (l.length = 128 ∧ ∃ g, w.heap.size ≤ g ∧ v = .slice (some ⟨g, 0, none⟩) 128 128 ∧ Blk w' g 64 (l.map bv).toArray))

theorem oneSec (x : List UInt8) : ((x.map bv).toArray).all (·.oneCell') = true := all_oneCell_toArray (bv_one x)
theorem sizeSec : (Try.prog.info? 64).map (·.size) = some 128 := by kernel_rfl

set_option maxRecDepth 100000 in
set_option maxHeartbeats 2000000 in
theorem dread_any (a : Int) (h : DK w d kv s) :
    Calls Try.prog 9 #[.pointer (some ⟨d.b, 0, none⟩), .int .i64 a] w fun e w' => ∃ v, e = .returned (.tuple #[v, .int .i64 (readErr3 s a)]) ∧ ReadOut w w' v (readOut3 s a) := by
  have c1 : w.cell? ⟨d.b, 1, none⟩ = some (.slice (some ⟨d.g, 0, none⟩) s.stays.length d.cS) := h.blk.cell 1
  have c2 : w.cell? ⟨d.b, 2, none⟩ = some (.map (some d.m)) := h.blk.cell 2
  have HH := Lib.hid (dhas_any a h)
  have HU := Lib.hid (dusable_any h)
  have hf := h.ok.few
  cases hd : s.down
  · rw [hd] at HU
    cases hh : has3 s a
    · have he : readErr3 s a = 30 := by unfold readErr3; rw [hd, hh]; rfl
      have ho : readOut3 s a = [] := by unfold readOut3; rw [he]; rfl
      rw [hh] at HH
      rw [he, ho]
      clear h hd hh he ho
      go_enter Try.func9, Try.ntmps9
      go_wp2_with (first
        | (go_at_call 30; refine HU.out.mono ?_; rintro e _ ⟨rfl, rfl⟩)
        | (go_at_call 31; refine HH.out.mono ?_; rintro e _ ⟨rfl, rfl⟩))
      go_ret2
      exact ⟨_, rfl, Below.refl _ _, .inl ⟨rfl, rfl, rfl⟩⟩
    · have he : readErr3 s a = 0 := by unfold readErr3; rw [hd, hh]; rfl
      have ho : readOut3 s a = seen s a.toNat := by unfold readOut3; rw [he]; rfl
      have hin : 0 ≤ a ∧ a < (s.stays.length : Int) := of_decide_eq_true hh
      obtain ⟨k, rfl⟩ := Int.eq_ofNat_of_zero_le hin.1
      have hk : k < s.stays.length := by omega
      rw [hh] at HH
      rw [he, ho, Int.toNat_natCast]
      have hl := h.cac.look (k := k) (by rw [h.ok.same]; exact hk) (by rw [h.ok.same]; exact hf)
      have hz := zeroSec
      obtain ⟨Z, hZ⟩ : ∃ Z, ((List.replicate 128 0).map bv).toArray = Z := ⟨_, rfl⟩
      have hzv : secV (List.replicate 128 0) = .agg Z := by rw [← hZ]; rfl
      have hZs : Z.size = 128 := by rw [← hZ]; simp
      rw [hzv] at hz hl
      have HZS := Lib.hid hZs
      have HA := Lib.hid (heap_alloc_new w (.cells Z 64))
      have HB := Lib.hid (((Below.refl w.heap.size w).alloc (Nat.le_refl _) (.cells Z 64)))
      by_cases hc : 0 < (s.cache.getD k []).length
      · have hs : seen s k = s.cache.getD k [] := by unfold seen; rw [if_pos hc]
        rw [hs]
        have l3 : (s.cache.getD k []).length = 128 := by
          have := h.ok.wait _ (get_mem (k := k) (by rw [h.ok.same]; exact hk))
          omega
        have hq := (hl.1 hc).1
        generalize s.cache.getD k [] = x at *
        obtain ⟨X, hX⟩ : ∃ X, (x.map bv).toArray = X := ⟨_, rfl⟩
        have hxv : secV x = .agg X := by rw [← hX]; rfl
        have hXs : X.size = 128 := by rw [← hX]; simpa using l3
        have hX1 : X.all (·.oneCell') = true := by rw [← hX]; exact oneSec x
        have HXS := Lib.hid hXs
        have HX1 := Lib.hid hX1
        have HX := Lib.hid hX
        have HL := Lib.hid l3
        rw [hxv] at hq
        clear hl hc hs h hd hh he ho hX hxv hXs hX1 hZ hzv hZs l3 c1
        go_enter Try.func9, Try.ntmps9
        go_wp2_with (first
          | (go_at_call 30; refine HU.out.mono ?_; rintro e _ ⟨rfl, rfl⟩)
          | (go_at_call 31; refine HH.out.mono ?_; rintro e _ ⟨rfl, rfl⟩)
          | (with_reducible refine wpList_store_row rfl 64 (.tmp 7) (.tmp 25) rfl w.heap.size X rfl rfl 64 Z HA.out (by rw [HXS.out]; exact sizeSec) (by rw [HXS.out, HZS.out]) HX1.out ?_))
        go_ret2
        exact ⟨_, rfl, below_setRow HB.out (Nat.le_refl _) X, .inr ⟨HL.out, w.heap.size, Nat.le_refl _, rfl, by rw [HX.out]; exact setRow_heap _ _ _ _ _ _ HA.out⟩⟩
      · have hs : seen s k = s.stays.getD k [] := by unfold seen; rw [if_neg hc]
        rw [hs]
        have l3 : (s.stays.getD k []).length = 128 := h.ok.stay _ (get_mem hk)
        have hq := hl.2 hc
        have hr := h.dur.range (get_at hk)
        have hg := h.lt _ (.inr (.inl rfl))
        have hm := h.lt _ (.inl rfl)
        generalize s.stays.getD k [] = x at *
        obtain ⟨X, hX⟩ : ∃ X, (x.map bv).toArray = X := ⟨_, rfl⟩
        have hXs : X.size = 128 := by rw [← hX]; simpa using l3
        have hX1 : X.all (·.oneCell') = true := by rw [← hX]; exact oneSec x
        have hZ1 : Z.all (·.oneCell') = true := by rw [← hZ]; exact oneSec _
        obtain ⟨Y, hY⟩ : ∃ Y, x.map bv = Y := ⟨_, rfl⟩
        have hXY : Y.toArray = X := by rw [← hY]; exact hX
        rw [hY] at hr
        have hYs : Y.length = 128 := by rw [← hY]; simpa using l3
        obtain ⟨W1, hW1⟩ : ∃ W1, (w.alloc (.cells Z 64)).setRow w.heap.size Z = W1 := ⟨_, rfl⟩
        have hB1 : Below w.heap.size w W1 := by rw [← hW1]; exact below_setRow HB.out (Nat.le_refl _) Z
        have hH1 : W1.heap[w.heap.size]? = some (.cells Z 64 (0, 0)) := by rw [← hW1]; exact setRow_heap _ _ _ _ _ _ HA.out
        have hr1 : W1.rangeAt d.g (k * 128) Y := fun j v hv => (hB1.cell (p := ⟨d.g, k * 128 + j, none⟩) hg).trans (hr j v hv)
        have e1 : W1.cell? ⟨d.b, 1, none⟩ = some (.slice (some ⟨d.g, 0, none⟩) s.stays.length d.cS) := (hB1.cell (p := ⟨d.b, 1, none⟩) hm).trans c1
        have HXS := Lib.hid hXs
        have HX1 := Lib.hid hX1
        have HZ1 := Lib.hid hZ1
        have HX := Lib.hid hX
        have HL := Lib.hid l3
        have HYS := Lib.hid hYs
        have HXY := Lib.hid hXY
        have HB1 := Lib.hid hB1
        have HH1 := Lib.hid hH1
        have HR1 := Lib.hid hr1
        have HW1 := Lib.hid hW1
        generalize s.stays.length = n at *
        clear hl hc hs h hd hh he ho hX hXs hX1 hZ1 hZ hzv hZs l3 hr hY hYs hXY hB1 hH1 hr1 hW1 c1
        go_enter Try.func9, Try.ntmps9
        go_wp2_with (first
          | (go_at_call 30; refine HU.out.mono ?_; rintro e _ ⟨rfl, rfl⟩)
          | (go_at_call 31; refine HH.out.mono ?_; rintro e _ ⟨rfl, rfl⟩)
          | (with_reducible refine wpList_store_row rfl 64 (.tmp 7) (.tmp 25) rfl w.heap.size Z rfl rfl 64 Z HA.out (by rw [HZS.out]; exact sizeSec) rfl HZ1.out ?_; rw [HW1.out])
          | (with_reducible refine wpList_load_mid rfl 64 (.tmp 34) rfl d.g (k * 128) rfl Y _ HR1.out Try.underlying64 rfl (by rw [HYS.out]; exact sizeSec) ?_; rw [HXY.out])
          | (with_reducible refine wpList_store_row rfl 64 (.tmp 7) (.tmp 35) rfl w.heap.size X rfl rfl 64 Z HH1.out (by rw [HXS.out]; exact sizeSec) (by rw [HXS.out, HZS.out]) HX1.out ?_))
        go_ret2
        exact ⟨_, rfl, below_setRow HB1.out (Nat.le_refl _) X, .inr ⟨HL.out, w.heap.size, Nat.le_refl _, rfl, by rw [HX.out]; exact setRow_heap _ _ _ _ _ _ HH1.out⟩⟩
  · have he : readErr3 s a = 31 := by unfold readErr3; rw [hd]; rfl
    have ho : readOut3 s a = [] := by unfold readOut3; rw [he]; rfl
    rw [hd] at HU
    rw [he, ho]
    clear h hd he ho HH
    go_enter Try.func9, Try.ntmps9
    go_wp2_with (go_at_call 30; refine HU.out.mono ?_; rintro e _ ⟨rfl, rfl⟩)
    go_ret2
    exact ⟨_, rfl, Below.refl _ _, .inl ⟨rfl, rfl, rfl⟩⟩

theorem dread_dead (p : Option Addr) (a : Int) (w : World) (h : Dead w p) : Calls Try.prog 9 #[.pointer p, .int .i64 a] w fun e w' => e = .returned (.tuple #[.slice none 0 0, .int .i64 1]) ∧ w = w' := by
  have HV := Lib.hid (dusable_dead p w h)
  clear h
  go_enter Try.func9, Try.ntmps9
  go_wp2_with (go_at_call 30; refine HV.out.mono ?_; rintro e _ ⟨rfl, rfl⟩)
  go_ret2
  exact ⟨rfl, rfl⟩
end

end Go.Proofs.Ytkebbjodkhjbmaa

/-
  The disk of layer 3: its sectors' bytes in memory; Read, Spoil.
  The disk of layer 3: what waits; one sector's bytes laid anew, where they stay, or where they wait; Spoil.
  The disk of layer 3: Flush.
-/
import Derived.Test.YtddhldmeknmgpaaKDisk
import Derived.Lib.SlKeysI
import Derived.StillTailTactics
namespace Go.Proofs.Ytddhldmeknmgpaa
open Go.RowKit Go.Maps

theorem splice_at {α : Type} {L cs : List α} {o i : Nat} (h : o + cs.length ≤ L.length) : (L.take o ++ (cs ++ L.drop (o + cs.length)))[i]? = if o ≤ i ∧ i < o + cs.length then cs[i - o]? else L[i]? := by
  by_cases h1 : i < o
  · rw [if_neg (by omega), List.getElem?_append_left (by rw [List.length_take]; omega), List.getElem?_take_of_lt h1]
  · rw [List.getElem?_append_right (by rw [List.length_take]; omega), List.length_take, Nat.min_eq_left (by omega)]
    by_cases h2 : i < o + cs.length
    · rw [if_pos ⟨by omega, h2⟩, List.getElem?_append_left (by omega)]
    · rw [if_neg (by omega), List.getElem?_append_right (by omega), List.getElem?_drop]
      congr 1
      omega

theorem Keep.setRow {S : Nat → Prop} {w0 w : World} {g : Nat} (h : Keep S w0 w) (cs : Array Value) (hg : g < w0.heap.size → S g) : Keep S w0 (w.setRow g cs) :=
  ⟨h.os, h.tape, h.output, by simp; exact h.size, fun k hk hn => (setRow_other w g k cs (fun e => hn (by subst e; exact hg hk))).trans (h.block k hk hn)⟩

theorem blk_setCells {t : TypeId} {g : Nat} : ∀ (vs : List Value) (o : Nat) (w : World) (cur : Array Value), Blk w g t cur → o + vs.length ≤ cur.size →
    Blk (w.setCells g o vs) g t (cur.toList.take o ++ (vs ++ cur.toList.drop (o + vs.length))).toArray
  | [], _, _, _, h, _ => by
    simpa [World.setCells] using h
  | v :: r, o, w, cur, h, hl => by
    rw [World.setCells]
    rw [List.length_cons] at hl
    have h1 := blk_setCells r (o + 1) (w.setCell ⟨g, o, none⟩ v) _ (h.set_ o v) (by rw [Array.size_setIfInBounds]; omega)
    have e : (cur.setIfInBounds o v).toList.take (o + 1) ++ (r ++ (cur.setIfInBounds o v).toList.drop (o + 1 + r.length)) = cur.toList.take o ++ (v :: r ++ cur.toList.drop (o + (v :: r).length)) := by
      have hlen : cur.toList.length = cur.size := by simp
      rw [Array.toList_setIfInBounds]
      apply List.ext_getElem?
      intro i
      have e1 := splice_at (L := cur.toList.set o v) (cs := r) (o := o + 1) (i := i) (by rw [List.length_set]; omega)
      have e2 := splice_at (L := cur.toList) (cs := v :: r) (o := o) (i := i) (by rw [List.length_cons]; omega)
      rw [e1, e2, List.length_cons]
      by_cases hi : i = o
      · subst hi
        rw [if_neg (by omega), if_pos (by omega), List.getElem?_set_self (by omega), Nat.sub_self]
        rfl
      · by_cases hin : o + 1 ≤ i ∧ i < o + 1 + r.length
        · rw [if_pos hin, if_pos (by omega), show i - o = (i - (o + 1)) + 1 from by omega, List.getElem?_cons_succ]
        · rw [if_neg hin, if_neg (by omega), List.getElem?_set_ne (fun e => hi e.symm)]
    rw [e] at h1
    exact h1
theorem keep_setCells {S : Nat → Prop} {w0 : World} {g : Nat} : ∀ (vs : List Value) (o : Nat) (w : World), Keep S w0 w → (g < w0.heap.size → S g) → Keep S w0 (w.setCells g o vs)
  | [], _, _, h, _ => h
  | v :: r, o, _, h, hg => keep_setCells r (o + 1) _ (h.setCell ⟨g, o, none⟩ v hg) hg

section
variable {w w' : World} {g cS : Nat} {ls : List (List UInt8)}

theorem Dur.range (h : Dur w g cS ls) {k : Nat} {l : List UInt8} (hl : ls[k]? = some l) : w.rangeAt g (k * 128) (l.map bv) := by
  obtain ⟨cur, hb, _, _, hc⟩ := h
  intro j v hv
  rw [List.getElem?_map] at hv
  obtain ⟨x, hx, rfl⟩ := Option.map_eq_some_iff.1 hv
  rw [hb.cell]
  exact hc k l hl j x hx
theorem Dur.there (h : Dur w g cS ls) {k : Nat} (hk : k < ls.length) : w.there g (k * 128) 128 := by
  obtain ⟨cur, hb, h1, h2, hc⟩ := h
  intro j hj
  refine ⟨?_, hb.frozen _⟩
  rw [hb.cell, Array.getElem?_eq_getElem (by omega)]
  rfl
theorem Dur.splice {cur : Array Value} {k n : Nat} {old l : List UInt8} (hb : Blk w' g 80 (cur.toList.take (k * 128) ++ ((l.take n).map bv ++ cur.toList.drop (k * 128 + ((l.take n).map bv).length))).toArray)
    (h1 : ls.length ≤ cS) (h2 : cur.size = cS * 128) (hc : ∀ (k : Nat) (l : List UInt8), ls[k]? = some l → ∀ (j : Nat) (x : UInt8), l[j]? = some x → cur[k * 128 + j]? = some (bv x))
    (hst : ∀ l ∈ ls, l.length = 128) (ho : ls[k]? = some old) (hl : l.length = 128) (hn : n ≤ 128) : Dur w' g cS (ls.set k (l.take n ++ old.drop n)) := by
  have hk : k < ls.length := (List.getElem?_eq_some_iff.1 ho).1
  have hlen : ((l.take n).map bv).length = n := by rw [List.length_map, List.length_take]; omega
  have hcl : cur.toList.length = cur.size := by simp
  have hfit : k * 128 + ((l.take n).map bv).length ≤ cur.toList.length := by rw [hlen]; omega
  have hol : old.length = 128 := hst _ (List.mem_of_getElem? ho)
  refine ⟨_, hb, by rw [List.length_set]; exact h1, ?_, ?_⟩
  · rw [List.size_toArray, List.length_append, List.length_append, List.length_take, List.length_drop]
    rw [hlen] at hfit ⊢
    omega
  · intro k' l' hl' j x hx
    rw [List.getElem?_toArray, splice_at hfit, hlen]
    have hj : j < l'.length := (List.getElem?_eq_some_iff.1 hx).1
    by_cases hkk : k = k'
    · subst hkk
      rw [List.getElem?_set_self hk] at hl'
      injection hl' with hl'
      subst hl'
      rw [List.length_append, List.length_take, List.length_drop] at hj
      by_cases hjn : j < n
      · rw [if_pos (by omega), show k * 128 + j - k * 128 = j from by omega, List.getElem?_map]
        rw [List.getElem?_append_left (by rw [List.length_take]; omega)] at hx
        rw [hx]
        rfl
      · rw [if_neg (by omega)]
        rw [List.getElem?_append_right (by rw [List.length_take]; omega), List.length_take, List.getElem?_drop, show n + (j - min n l.length) = j from by omega] at hx
        simpa using hc k old ho j x hx
    · rw [List.getElem?_set_ne hkk] at hl'
      have h128 := hst _ (List.mem_of_getElem? hl')
      rw [if_neg (by omega)]
      simpa using hc k' l' hl' j x hx
theorem Dur.set_ (h : Dur w g cS ls) {k : Nat} {l : List UInt8} (hst : ∀ l ∈ ls, l.length = 128) (hk : k < ls.length) (hl : l.length = 128) : Dur (w.setCells g (k * 128) (l.map bv)) g cS (ls.set k l) := by
  obtain ⟨cur, hb, h1, h2, hc⟩ := h
  have hol : (ls[k]).length = 128 := hst _ (List.getElem_mem hk)
  have hb2 := blk_setCells (l.map bv) (k * 128) w cur hb (by rw [List.length_map]; omega)
  have e1 : l.take 128 = l := List.take_of_length_le (by omega)
  have := Dur.splice (n := 128) (old := ls[k]) (l := l) (k := k) (by rw [e1]; exact hb2) h1 h2 hc hst (List.getElem?_eq_getElem hk) hl (Nat.le_refl _)
  rwa [e1, List.drop_of_length_le (by omega), List.append_nil] at this
end

section
variable {w : World} {d : DAt} {kv : Value} {s : RSt}

theorem zeroSec : ∀ w, (zeroValue 80).run Try.prog w = .ok (secV (List.replicate 128 0)) w := fun w => by kernel_rfl
theorem infoSec : (Try.prog.info? 80).map (fun i => (i.zero, i.size, i.bytes)) = some (some (secV (List.replicate 128 0)), 128, 128) := by kernel_rfl

set_option maxRecDepth 100000 in
/-- What is pending, looked up. -/
theorem MapOf.look {m : Nat} {cache : List (List UInt8)} (h : MapOf w m cache) {k : Nat} (hk : k < cache.length) (hfew : cache.length ≤ 4096) :
    (0 < (cache.getD k []).length → (Instr.lookup 74 (.map (some m)) (.int .i64 (k : Int)) true).run Try.prog w = .ok (.tuple #[secV (cache.getD k []), .bool true]) w ∧ (Instr.lookup 74 (.map (some m)) (.int .i64 (k : Int)) false).run Try.prog w = .ok (secV (cache.getD k [])) w) ∧
    (¬ 0 < (cache.getD k []).length → (Instr.lookup 74 (.map (some m)) (.int .i64 (k : Int)) true).run Try.prog w = .ok (.tuple #[secV (List.replicate 128 0), .bool false]) w) := by
  obtain ⟨D, hown, hC⟩ := h
  have hkey : keyOf Try.prog 3 (.int .i64 (k : Int)) = some (.int .i64 (k : Int)) := keyOf_int_mk Try.underlying3 (by
    have h1 : IntKind.i64.min = -9223372036854775808 := rfl
    have h2 : IntKind.i64.max = 9223372036854775807 := rfl
    simp only [Lit.wf, Bool.and_eq_true, decide_eq_true_eq]
    omega)
  have hz0 : secR (secV (List.replicate 128 0)) = some (.lit (.string (List.replicate 128 0)), []) := secR_mk (by simp)
  obtain ⟨v, ps, hrun, hv⟩ := hown.look_ok (int_keyed Try.underlying3) Try.underlying74 (zeroSec w) hz0 hkey
  obtain ⟨v2, ps2, hrun2, hv2⟩ := hown.lookup (int_keyed Try.underlying3) Try.underlying74 (zeroSec w) hz0 hkey
  have hin := get_at hk
  refine ⟨fun hp => ?_, fun hp => ?_⟩
  · obtain ⟨y1, y2⟩ := hC.yes k _ hin hp
    rw [y2] at hv hv2
    obtain ⟨l, _, rfl, e⟩ := secR_inv hv
    obtain ⟨l2, _, rfl, e2⟩ := secR_inv hv2
    simp only [Prod.mk.injEq, DataW.lit.injEq, Lit.string.injEq] at e e2
    rw [hrun, hrun2, y1, ← e.1, ← e2.1]
    exact ⟨rfl, rfl⟩
  · have hno : has D (.int .i64 (k : Int)) = false := by
      cases hh : has D (.int .i64 (k : Int)) with
      | false => rfl
      | true =>
        obtain ⟨k', l, e, hl, h0⟩ := hC.only _ hh
        have : k = k' := by omega
        subst this
        rw [hin] at hl
        injection hl with hl
        rw [hl] at hp
        exact absurd h0 hp
    rw [atKey_of_not_has hno] at hv
    obtain ⟨l, _, rfl, e⟩ := secR_inv hv
    simp only [Prod.mk.injEq, DataW.lit.injEq, Lit.string.injEq] at e
    rw [hrun, hno, ← e.1]

/-- What Read hands back: a sector's bytes in a block of their own, or nothing. -/
def ReadOut (w w' : World) (v : Value) (l : List UInt8) : Prop :=
  Below w.heap.size w w' ∧ ((l = [] ∧ v = .slice none 0 0 ∧ w = w') ∨ (l.length = 128 ∧ ∃ g, w.heap.size ≤ g ∧ v = .slice (some ⟨g, 0, none⟩) 128 128 ∧ Blk w' g 80 (l.map bv).toArray))

theorem oneSec (x : List UInt8) : ((x.map bv).toArray).all (·.oneCell') = true := all_oneCell_toArray (bv_one x)
theorem sizeSec : (Try.prog.info? 80).map (·.size) = some 128 := by kernel_rfl

set_option maxRecDepth 100000 in
set_option maxHeartbeats 2000000 in
theorem dread_any (a : Int) (h : DK w d kv s) :
    Calls Try.prog 21 #[.pointer (some ⟨d.b, 0, none⟩), .int .i64 a] w fun e w' => ∃ v, e = .returned (.tuple #[v, .int .i64 (readErr3 s a)]) ∧ ReadOut w w' v (readOut3 s a) := by
  have c1 : w.cell? ⟨d.b, 1, none⟩ = some (.slice (some ⟨d.g, 0, none⟩) s.stays.length d.cS) := h.blk.cell 1
  have c2 : w.cell? ⟨d.b, 2, none⟩ = some (.map (some d.m)) := h.blk.cell 2
  have HH := Lib.hid (dhas_any a h)
  have HU := Lib.hid (dusable_any h)
  have hf := h.ok.few
  cases hd : s.down
  · rw [hd] at HU
    cases hh : has3 s a
    · have he : readErr3 s a = 30 := by unfold readErr3; rw [hd, hh]; rfl
      have ho : readOut3 s a = [] := by unfold readOut3; rw [he]; rfl
      rw [hh] at HH
      rw [he, ho]
      clear h hd hh he ho
      go_enter Try.func21, Try.ntmps21
      go_wp2_with (first
        | (go_at_call 42; refine HU.out.mono ?_; rintro e _ ⟨rfl, rfl⟩)
        | (go_at_call 43; refine HH.out.mono ?_; rintro e _ ⟨rfl, rfl⟩))
      go_ret2
      exact ⟨_, rfl, Below.refl _ _, .inl ⟨rfl, rfl, rfl⟩⟩
    · have he : readErr3 s a = 0 := by unfold readErr3; rw [hd, hh]; rfl
      have ho : readOut3 s a = seen s a.toNat := by unfold readOut3; rw [he]; rfl
      have hin : 0 ≤ a ∧ a < (s.stays.length : Int) := of_decide_eq_true hh
      obtain ⟨k, rfl⟩ := Int.eq_ofNat_of_zero_le hin.1
      have hk : k < s.stays.length := by omega
      rw [hh] at HH
      rw [he, ho, Int.toNat_natCast]
      have hl := h.cac.look (k := k) (by rw [h.ok.same]; exact hk) (by rw [h.ok.same]; exact hf)
      have hz := zeroSec
      obtain ⟨Z, hZ⟩ : ∃ Z, ((List.replicate 128 0).map bv).toArray = Z := ⟨_, rfl⟩
      have hzv : secV (List.replicate 128 0) = .agg Z := by rw [← hZ]; rfl
      have hZs : Z.size = 128 := by rw [← hZ]; simp
      rw [hzv] at hz hl
      have HZS := Lib.hid hZs
      have HA := Lib.hid (heap_alloc_new w (.cells Z 80))
      have HB := Lib.hid (((Below.refl w.heap.size w).alloc (Nat.le_refl _) (.cells Z 80)))
      by_cases hc : 0 < (s.cache.getD k []).length
      · have hs : seen s k = s.cache.getD k [] := by unfold seen; rw [if_pos hc]
        rw [hs]
        have l3 : (s.cache.getD k []).length = 128 := by
          have := h.ok.wait _ (get_mem (k := k) (by rw [h.ok.same]; exact hk))
          omega
        have hq := (hl.1 hc).1
        generalize s.cache.getD k [] = x at *
        obtain ⟨X, hX⟩ : ∃ X, (x.map bv).toArray = X := ⟨_, rfl⟩
        have hxv : secV x = .agg X := by rw [← hX]; rfl
        have hXs : X.size = 128 := by rw [← hX]; simpa using l3
        have hX1 : X.all (·.oneCell') = true := by rw [← hX]; exact oneSec x
        have HXS := Lib.hid hXs
        have HX1 := Lib.hid hX1
        have HX := Lib.hid hX
        have HL := Lib.hid l3
        rw [hxv] at hq
        clear hl hc hs h hd hh he ho hX hxv hXs hX1 hZ hzv hZs l3 c1
        go_enter Try.func21, Try.ntmps21
        go_wp2_with (first
          | (go_at_call 42; refine HU.out.mono ?_; rintro e _ ⟨rfl, rfl⟩)
          | (go_at_call 43; refine HH.out.mono ?_; rintro e _ ⟨rfl, rfl⟩)
          | (with_reducible refine wpList_store_row rfl 80 (.tmp 7) (.tmp 25) rfl w.heap.size X rfl rfl 80 Z HA.out (by rw [HXS.out]; exact sizeSec) (by rw [HXS.out, HZS.out]) HX1.out ?_))
        go_ret2
        exact ⟨_, rfl, below_setRow HB.out (Nat.le_refl _) X, .inr ⟨HL.out, w.heap.size, Nat.le_refl _, rfl, by rw [HX.out]; exact setRow_heap _ _ _ _ _ _ HA.out⟩⟩
      · have hs : seen s k = s.stays.getD k [] := by unfold seen; rw [if_neg hc]
        rw [hs]
        have l3 : (s.stays.getD k []).length = 128 := h.ok.stay _ (get_mem hk)
        have hq := hl.2 hc
        have hr := h.dur.range (get_at hk)
        have hg := h.lt _ (.inr (.inl rfl))
        have hm := h.lt _ (.inl rfl)
        generalize s.stays.getD k [] = x at *
        obtain ⟨X, hX⟩ : ∃ X, (x.map bv).toArray = X := ⟨_, rfl⟩
        have hXs : X.size = 128 := by rw [← hX]; simpa using l3
        have hX1 : X.all (·.oneCell') = true := by rw [← hX]; exact oneSec x
        have hZ1 : Z.all (·.oneCell') = true := by rw [← hZ]; exact oneSec _
        obtain ⟨Y, hY⟩ : ∃ Y, x.map bv = Y := ⟨_, rfl⟩
        have hXY : Y.toArray = X := by rw [← hY]; exact hX
        rw [hY] at hr
        have hYs : Y.length = 128 := by rw [← hY]; simpa using l3
        obtain ⟨W1, hW1⟩ : ∃ W1, (w.alloc (.cells Z 80)).setRow w.heap.size Z = W1 := ⟨_, rfl⟩
        have hB1 : Below w.heap.size w W1 := by rw [← hW1]; exact below_setRow HB.out (Nat.le_refl _) Z
        have hH1 : W1.heap[w.heap.size]? = some (.cells Z 80 (0, 0)) := by rw [← hW1]; exact setRow_heap _ _ _ _ _ _ HA.out
        have hr1 : W1.rangeAt d.g (k * 128) Y := fun j v hv => (hB1.cell (p := ⟨d.g, k * 128 + j, none⟩) hg).trans (hr j v hv)
        have e1 : W1.cell? ⟨d.b, 1, none⟩ = some (.slice (some ⟨d.g, 0, none⟩) s.stays.length d.cS) := (hB1.cell (p := ⟨d.b, 1, none⟩) hm).trans c1
        have HXS := Lib.hid hXs
        have HX1 := Lib.hid hX1
        have HZ1 := Lib.hid hZ1
        have HX := Lib.hid hX
        have HL := Lib.hid l3
        have HYS := Lib.hid hYs
        have HXY := Lib.hid hXY
        have HB1 := Lib.hid hB1
        have HH1 := Lib.hid hH1
        have HR1 := Lib.hid hr1
        have HW1 := Lib.hid hW1
        generalize s.stays.length = n at *
        clear hl hc hs h hd hh he ho hX hXs hX1 hZ1 hZ hzv hZs l3 hr hY hYs hXY hB1 hH1 hr1 hW1 c1
        go_enter Try.func21, Try.ntmps21
        go_wp2_with (first
          | (go_at_call 42; refine HU.out.mono ?_; rintro e _ ⟨rfl, rfl⟩)
          | (go_at_call 43; refine HH.out.mono ?_; rintro e _ ⟨rfl, rfl⟩)
          | (with_reducible refine wpList_store_row rfl 80 (.tmp 7) (.tmp 25) rfl w.heap.size Z rfl rfl 80 Z HA.out (by rw [HZS.out]; exact sizeSec) rfl HZ1.out ?_; rw [HW1.out])
          | (with_reducible refine wpList_load_mid rfl 80 (.tmp 34) rfl d.g (k * 128) rfl Y _ HR1.out Try.underlying80 rfl (by rw [HYS.out]; exact sizeSec) ?_; rw [HXY.out])
          | (with_reducible refine wpList_store_row rfl 80 (.tmp 7) (.tmp 35) rfl w.heap.size X rfl rfl 80 Z HH1.out (by rw [HXS.out]; exact sizeSec) (by rw [HXS.out, HZS.out]) HX1.out ?_))
        go_ret2
        exact ⟨_, rfl, below_setRow HB1.out (Nat.le_refl _) X, .inr ⟨HL.out, w.heap.size, Nat.le_refl _, rfl, by rw [HX.out]; exact setRow_heap _ _ _ _ _ _ HH1.out⟩⟩
  · have he : readErr3 s a = 31 := by unfold readErr3; rw [hd]; rfl
    have ho : readOut3 s a = [] := by unfold readOut3; rw [he]; rfl
    rw [hd] at HU
    rw [he, ho]
    clear h hd he ho HH
    go_enter Try.func21, Try.ntmps21
    go_wp2_with (go_at_call 42; refine HU.out.mono ?_; rintro e _ ⟨rfl, rfl⟩)
    go_ret2
    exact ⟨_, rfl, Below.refl _ _, .inl ⟨rfl, rfl, rfl⟩⟩

theorem dread_dead (p : Option Addr) (a : Int) (w : World) (h : Dead w p) : Calls Try.prog 21 #[.pointer p, .int .i64 a] w fun e w' => e = .returned (.tuple #[.slice none 0 0, .int .i64 1]) ∧ w = w' := by
  have HV := Lib.hid (dusable_dead p w h)
  clear h
  go_enter Try.func21, Try.ntmps21
  go_wp2_with (go_at_call 42; refine HV.out.mono ?_; rintro e _ ⟨rfl, rfl⟩)
  go_ret2
  exact ⟨rfl, rfl⟩
end

end Go.Proofs.Ytddhldmeknmgpaa

namespace Go.Proofs.Ytddhldmeknmgpaa
open Go.RowKit Go.Maps

/-- Which of the sectors ahead of k wait. -/
def pendTo (cache : List (List UInt8)) : Nat → List Int
  | 0 => []
  | k + 1 => if 0 < (cache.getD k []).length then pendTo cache k ++ [(k : Int)] else pendTo cache k
theorem pendTo_waits (s : RSt) : ∀ k, waitsTo s k = pendTo s.cache k
  | 0 => rfl
  | k + 1 => by
    unfold waitsTo pendTo
    rw [pendTo_waits s k]
theorem pendTo_length (cache : List (List UInt8)) : ∀ k, (pendTo cache k).length ≤ k
  | 0 => Nat.le_refl _
  | k + 1 => by
    unfold pendTo
    have := pendTo_length cache k
    split
    · rw [List.length_append]
      simp only [List.length_cons, List.length_nil]
      omega
    · omega
theorem mem_pendTo {cache : List (List UInt8)} {x : Int} : ∀ {n : Nat}, x ∈ pendTo cache n ↔ ∃ k : Nat, k < n ∧ x = (k : Int) ∧ 0 < (cache.getD k []).length
  | 0 => by
    unfold pendTo
    constructor
    · intro h; cases h
    · rintro ⟨k, hk, _⟩; omega
  | n + 1 => by
    have ih := mem_pendTo (cache := cache) (x := x) (n := n)
    unfold pendTo
    split
    · rename_i hp
      rw [List.mem_append, ih, List.mem_singleton]
      constructor
      · rintro (⟨k, hk, e, h⟩ | rfl)
        · exact ⟨k, by omega, e, h⟩
        · exact ⟨n, by omega, rfl, hp⟩
      · rintro ⟨k, hk, e, h⟩
        by_cases hkn : k = n
        · subst hkn; exact .inr e
        · exact .inl ⟨k, by omega, e, h⟩
    · rename_i hp
      rw [ih]
      constructor
      · rintro ⟨k, hk, e, h⟩
        exact ⟨k, by omega, e, h⟩
      · rintro ⟨k, hk, e, h⟩
        by_cases hkn : k = n
        · subst hkn; exact absurd h hp
        · exact ⟨k, by omega, e, h⟩
theorem pendTo_lt {cache : List (List UInt8)} {n : Nat} {x : Int} (h : x ∈ pendTo cache n) : 0 ≤ x ∧ x < (n : Int) := by
  obtain ⟨k, hk, rfl, _⟩ := mem_pendTo.1 h
  omega
theorem pendTo_rises (cache : List (List UInt8)) : ∀ n, (pendTo cache n).Pairwise (fun a b => a < b)
  | 0 => List.Pairwise.nil
  | n + 1 => by
    have ih := pendTo_rises cache n
    unfold pendTo
    split
    · refine List.pairwise_append.2 ⟨ih, List.pairwise_singleton _ _, fun a ha b hb => ?_⟩
      rw [List.mem_singleton] at hb
      subst hb
      exact (pendTo_lt ha).2
    · exact ih
theorem pendTo_nodup (cache : List (List UInt8)) (n : Nat) : (pendTo cache n).Nodup := (pendTo_rises cache n).imp fun h => by omega

/-- The pending sectors are the map's keys. -/
theorem CacheIs.keys {w : World} {m n : Nat} {D : DataW Unit} {cache : List (List UInt8)} (hC : CacheIs D cache) (hown : w.ownsMap Try.prog 3 secR m n D) : (pendTo cache cache.length).Perm (intKeys D) := by
  obtain ⟨es, hD, hpw, _⟩ := hown.entries (int_keyed Try.underlying3)
  obtain ⟨es', hD', hko⟩ := hown.keysOf
  obtain rfl : es = es' := by rw [hD] at hD'; simpa using hD'
  subst hD
  refine perm_intKeys hpw (fun p hp => by obtain ⟨v, hv⟩ := hko p hp; obtain ⟨x, _, hx, _⟩ := Maps.keyOf_i64 Try.underlying3 hv; exact ⟨x, hx⟩) (pendTo_nodup _ _) (fun x => ?_)
  rw [mem_pendTo]
  constructor
  · rintro ⟨k, hk, rfl, h0⟩
    exact (hC.yes k _ (get_at hk) h0).1
  · intro h
    obtain ⟨k, l, e, hl, h0⟩ := hC.only x h
    have hk := (List.getElem?_eq_some_iff.1 hl).1
    refine ⟨k, hk, e, ?_⟩
    rw [get_at hk] at hl
    injection hl with hl
    rw [hl]
    exact h0
theorem CacheIs.size {w : World} {m n : Nat} {D : DataW Unit} {cache : List (List UInt8)} (hC : CacheIs D cache) (hown : w.ownsMap Try.prog 3 secR m n D) : Maps.size D ≤ cache.length := by
  have hp := (hC.keys hown).length_eq
  have hl := pendTo_length cache cache.length
  obtain ⟨es, rfl, _⟩ := hown.entries (int_keyed Try.underlying3)
  have e : (intKeys (DataW.map es)).length = es.length := List.length_map _
  show es.length ≤ _
  omega
theorem ownsMap_tight {w : World} {m n k : Nat} {D : DataW Unit} (h : w.ownsMap Try.prog 3 secR m n D) (hk : Maps.size D ≤ k) : w.ownsMap Try.prog 3 secR m k D := by
  obtain ⟨es, clock, hb, F, hs, hD⟩ := h
  refine ⟨es, clock, hb, F, ?_, hD⟩
  have : Maps.size D = es.size := by
    rw [hD, size_eq, length_sorted]
    simp
  omega

theorem CacheIs.put {w : World} {m n : Nat} {D : DataW Unit} {cache : List (List UInt8)} (hC : CacheIs D cache) (hown : w.ownsMap Try.prog 3 secR m n D) {k : Nat} {l : List UInt8} (hl : 0 < l.length) (hk : k < cache.length) : CacheIs (D.put (.int .i64 (k : Int)) (.lit (.string l))) (cache.set k l) := by
  have hm : IsMap D := by
    obtain ⟨es, rfl, _⟩ := hown.entries (int_keyed Try.underlying3)
    exact ⟨es, rfl⟩
  have hkl : WideAt.IsKeyLit (.int .i64 (k : Int)) := trivial
  refine ⟨fun k' l' hl' h0 => ?_, fun x hx => ?_⟩
  · by_cases e : k = k'
    · subst e
      rw [List.getElem?_set_self hk] at hl'
      injection hl' with hl'
      subst hl'
      exact ⟨has_put_same hm hkl _, fun z => atKey_put_same hm hkl _ z⟩
    · rw [List.getElem?_set_ne e] at hl'
      have hne : (Lit.int .i64 (k' : Int)) ≠ .int .i64 (k : Int) := fun h => e (by injection h with _ h; omega)
      obtain ⟨y1, y2⟩ := hC.yes k' l' hl' h0
      exact ⟨by rw [has_put_other hne]; exact y1, fun z => by rw [atKey_put_other hne]; exact y2 z⟩
  · by_cases e : x = (k : Int)
    · exact ⟨k, l, e, List.getElem?_set_self hk, hl⟩
    · have hne : (Lit.int .i64 x) ≠ .int .i64 (k : Int) := fun h => e (by injection h)
      rw [has_put_other hne] at hx
      obtain ⟨k', l', e', hl', h0⟩ := hC.only x hx
      refine ⟨k', l', e', ?_, h0⟩
      rw [List.getElem?_set_ne (fun ee => e (by rw [e', ee]))]
      exact hl'

theorem keep_grown {S : Nat → Prop} {w w' : World} {row : Option Nat} (hg : w.grownBy w' row) (hS : ∀ k, row = some k → S k) : Keep S w w' :=
  ⟨hg.os, hg.tape, hg.output, hg.size, fun k hk hn => hg.block k hk (fun e => hn (hS k e.symm))⟩

section
variable {w w' : World} {d : DAt} {kv : Value} {s : RSt}

theorem DK.putS (h : DK w d kv s) (hk : Keep (fun i => i = d.g) w w') {ls : List (List UInt8)} (hD : Dur w' d.g d.cS ls) (hl : ls.length = s.stays.length) (h8 : ∀ l ∈ ls, l.length = 128) : DK w' d kv { s with stays := ls } := by
  have ht := h.foot_typ _ (.inr (.inl rfl))
  refine ⟨⟨by rw [hl]; exact h.ok.same, by rw [hl]; exact h.ok.few, h8, h.ok.wait⟩, ⟨h.more.many, h.more.write, h.more.torn, h.more.at_, h.more.keep⟩, by rw [hl]; exact h.some_, ?_, hD, h.cac.keep hk (fun e => h.g_ne_m e.symm), h.kHead.keep hk (fun k e => by subst e; exact ht.1)⟩
  have := hk.blk h.blk (fun e => h.b_ne_g e)
  rw [hl]
  exact this
theorem DK.putC (h : DK w d kv s) (hk : Keep (fun i => i = d.m) w w') {cs : List (List UInt8)} (hD : MapOf w' d.m cs) (hl : cs.length = s.cache.length) (h8 : ∀ l ∈ cs, l.length = 0 ∨ l.length = 128) : DK w' d kv { s with cache := cs } := by
  have ht := h.foot_typ _ (.inr (.inr rfl))
  exact ⟨⟨by rw [hl]; exact h.ok.same, h.ok.few, h.ok.stay, h8⟩, ⟨h.more.many, h.more.write, h.more.torn, h.more.at_, h.more.keep⟩, h.some_, hk.blk h.blk (fun e => h.b_ne_m e), h.dur.keep hk (fun e => h.g_ne_m e), hD, h.kHead.keep hk (fun k e => by subst e; exact ht.1)⟩

theorem mem_set_len {ls : List (List UInt8)} {k : Nat} {l : List UInt8} (h : ∀ m ∈ ls, m.length = 128) (hl : l.length = 128) : ∀ m ∈ ls.set k l, m.length = 128 := fun m hm => by
  rcases List.mem_or_eq_of_mem_set hm with hm | rfl
  · exact h _ hm
  · exact hl
theorem mem_set_len2 {ls : List (List UInt8)} {k : Nat} {l : List UInt8} (h : ∀ m ∈ ls, m.length = 0 ∨ m.length = 128) (hl : l.length = 0 ∨ l.length = 128) : ∀ m ∈ ls.set k l, m.length = 0 ∨ m.length = 128 := fun m hm => by
  rcases List.mem_or_eq_of_mem_set hm with hm | rfl
  · exact h _ hm
  · exact hl

theorem sizeU8 : (Try.prog.info? 5).map (·.size) = some 1 := by kernel_rfl

set_option maxRecDepth 100000 in
set_option maxHeartbeats 2000000 in
theorem dspoil_any (a : Int) (A : Option Addr) (c : Nat) (l : List UInt8) (h : DK w d kv s) (hr : Reads w w.heap.size 1 A l.length (l.map bv)) :
    Calls Try.prog 25 #[.pointer (some ⟨d.b, 0, none⟩), .int .i64 a, .slice A l.length c] w fun e w' => e = .returned (.int .i64 (spoilErr3 s a l)) ∧ DK w' d kv (spoilSt3 s a l) ∧ Keep (fun k => k = d.g) w w' := by
  have c1 : w.cell? ⟨d.b, 1, none⟩ = some (.slice (some ⟨d.g, 0, none⟩) s.stays.length d.cS) := h.blk.cell 1
  have HV := Lib.hid (dvalid_any h)
  have HT := Lib.hid (dtakes_any a A l.length c h)
  have hf := h.ok.few
  cases ht : takes3 s a l.length
  · have he : spoilErr3 s a l = 30 := by
      unfold spoilErr3
      rw [if_neg]
      intro hx
      unfold takes3 at ht
      simp only [Bool.and_eq_true, beq_iff_eq] at hx
      rw [hx.1, hx.2] at ht
      cases ht
    have ho : spoilSt3 s a l = s := by unfold spoilSt3; rw [he]; rfl
    rw [ht] at HT
    rw [he, ho]
    have H := Lib.hid h
    clear h hr he ho ht
    go_enter Try.func25, Try.ntmps25
    go_wp2_with (first
      | (go_at_call 44; refine HV.out.mono ?_; rintro e _ ⟨rfl, rfl⟩)
      | (go_at_call 46; refine HT.out.mono ?_; rintro e _ ⟨rfl, rfl⟩))
    go_ret
    exact ⟨rfl, H.out, Keep.refl _ _⟩
  · have htt := ht
    unfold takes3 at htt
    simp only [Bool.and_eq_true, decide_eq_true_eq] at htt
    have he : spoilErr3 s a l = 0 := by unfold spoilErr3; rw [if_pos (by rw [htt.1, htt.2]; rfl)]
    have ho : spoilSt3 s a l = { s with stays := s.stays.set a.toNat l } := by unfold spoilSt3; rw [he]; rfl
    rw [ht] at HT
    rw [he, ho]
    have hin : 0 ≤ a ∧ a < (s.stays.length : Int) := of_decide_eq_true htt.1
    obtain ⟨k, rfl⟩ := Int.eq_ofNat_of_zero_le hin.1
    have hk : k < s.stays.length := by omega
    have h128 := htt.2
    rw [Int.toNat_natCast]
    obtain ⟨ad, rfl, _, hsrc⟩ := hr.2 (by omega)
    obtain ⟨cur, hb, q1, q2, q3⟩ := h.dur
    have hfit : k * 128 + (l.map bv).length ≤ cur.size := by rw [List.length_map]; omega
    have hml : (l.map bv).length = 128 := by rw [List.length_map]; exact h128
    obtain ⟨NC, hNC⟩ : ∃ NC, (cur.toList.take (k * 128) ++ (l.map bv ++ cur.toList.drop (k * 128 + (l.map bv).length))).toArray = NC := ⟨_, rfl⟩
    have hnew : Blk (w.setRow d.g NC) d.g 80 NC := setRow_heap _ _ _ _ _ _ hb
    have hkeep : Keep (fun i => i = d.g) w (w.setRow d.g NC) := (Keep.refl _ w).setRow _ (fun _ => rfl)
    have e1 : l.take 128 = l := List.take_of_length_le (by omega)
    have hdur : Dur (w.setRow d.g NC) d.g d.cS (s.stays.set k l) := by
      have h3 : (s.stays[k]).length = 128 := h.ok.stay _ (List.getElem_mem hk)
      have h2 := Dur.splice (w' := w.setRow d.g NC) (cur := cur) (n := 128) (old := s.stays[k]) (l := l) (k := k) (by rw [e1, hNC]; exact hnew) q1 q2 q3 h.ok.stay (List.getElem?_eq_getElem hk) h128 (Nat.le_refl _)
      rwa [e1, List.drop_of_length_le (by omega), List.append_nil] at h2
    have HF := Lib.hid (And.intro (h.putS hkeep hdur List.length_set (mem_set_len h.ok.stay h128)) hkeep)
    have HB := Lib.hid (show w.heap[d.g]? = some (.cells cur 80 (0, 0)) from hb)
    have HNC := Lib.hid hNC
    have HSRC := Lib.hid hsrc
    have HML := Lib.hid hml
    have HFIT := Lib.hid hfit
    obtain ⟨Y, hY⟩ : ∃ Y, l.map bv = Y := ⟨_, rfl⟩
    have HONE := Lib.hid (bv_one l)
    rw [hY] at HNC HSRC HML HFIT HONE
    rw [h128] at HT ⊢
    generalize hn : s.stays.length = n at *
    clear h hr he ho ht htt hb q1 q2 q3 hfit hml hNC hnew hkeep e1 hdur h128 hsrc hY
    go_enter Try.func25, Try.ntmps25
    go_wp2_with (first
      | (go_at_call 44; refine HV.out.mono ?_; rintro e _ ⟨rfl, rfl⟩)
      | (go_at_call 46; refine HT.out.mono ?_; rintro e _ ⟨rfl, rfl⟩)
      | (with_reducible refine wpList_copy_own rfl (.tmp 21) (.tmp 22) 23 23 rfl 5 Try.underlying23 sizeU8 d.g (k * 128) 128 128 ad 128 c rfl rfl cur 80 HB.out Y (HML.out.trans (by decide)) HSRC.out HFIT.out HONE.out ?_; rw [HNC.out]))
    go_ret
    exact ⟨rfl, HF.out.1, HF.out.2⟩

theorem dspoil_dead (p : Option Addr) (a : Int) (A : Option Addr) (n c : Nat) (w : World) (h : Dead w p) : Calls Try.prog 25 #[.pointer p, .int .i64 a, .slice A n c] w fun e w' => e = .returned (.int .i64 1) ∧ w = w' := by
  have HV := Lib.hid (dvalid_dead p w h)
  clear h
  go_enter Try.func25, Try.ntmps25
  go_wp2_with (go_at_call 44; refine HV.out.mono ?_; rintro e _ ⟨rfl, rfl⟩)
  go_ret
  exact ⟨rfl, rfl⟩
end

end Go.Proofs.Ytddhldmeknmgpaa

namespace Go.Proofs.Ytddhldmeknmgpaa
open Go.RowKit Go.Maps Go.MapKept Go.ChangeMaps

section
variable {P : Program} {w : World} {ops : Array Oper} {rest : List Oper} {o : Oper} {a : Act}

theorem wpStill_load_mid {Q : Act → Prop} (hgd : o.guard = none) (ty : TypeId) (x : Operand) (ho : o.op = .load ty x)
    (b off : Nat) (hx : a.eval x = .pointer (some ⟨b, off, none⟩)) (cs : List Value) (d : TypeDesc) (hc : w.rangeAt b off cs)
    (hu : P.underlying ty = some d) (hd : d.isRow = true) (hi : (P.info? ty).map (·.size) = some cs.length)
    (h : wpStill P ops w Q rest (a.put o.dst (.agg cs.toArray))) : wpStill P ops w Q (o :: rest) a := by
  have hw : Region.wanted o (yielded ops a.tmps) = true := by simp [Region.wanted, hgd]
  refine wpStill_step fun K hK => ?_
  rw [if_pos hw]
  unfold Oper.still execOp
  simp only [ho, hx, Instr.loadAt, Instr.sureAddr, Sem.run_bind, Sem.run_pure, Result.andThen_ok, run_loadVar_mid w b off ty cs d hc hu hd hi]
  rw [Oper.stillUpon_value]
  exact hK _ h

theorem run_clear_map (t k e : TypeId) (ht : P.underlying t = some (.map k e)) (ty : TypeId) {r : Nat} {es : Array MapEntry} {clock : Nat} (hb : w.heap[r]? = some (.map es clock)) :
    (Builtin.clear_ #[t] ty #[.map (some r)]).run P w = .ok (.tuple #[]) (setBlock w r (.map #[] clock)) := by
  simp [Builtin.clear_, run_underlying ht, MapKept.run_getObj_map hb, MapKept.run_setObj_map _ hb, Result.andThen]
  rfl

theorem wpList_clear_map {Q : Exit → Act → World → Prop} (hg : o.guard = none) (m : Operand) (t : TypeId) (hop : o.op = Op.call { callee := Callee.builtin Builtin.clear, args := #[m], argTypes := #[t] })
    (k e : TypeId) (ht : P.underlying t = some (.map k e)) (b : Nat) (hm : a.eval m = .map (some b)) (es : Array MapEntry) (clock : Nat) (hb : w.heap[b]? = some (.map es clock))
    (hK : wpList P ops Q rest (a.put o.dst (.tuple #[])) (setBlock w b (.map #[] clock))) : wpList P ops Q (o :: rest) a w := by
  refine wpList_plain hg fun K' hK' => ?_
  unfold Oper.wp
  simp [execOp, hop, resolve, invoke, builtin, hm, run_clear_map t k e ht o.type hb, Result.andThen]
  exact hK' _ _ hK
end

theorem keep_setBlock {S : Nat → Prop} {w0 w : World} {b : Nat} {es : Array MapEntry} {clock : Nat} {o : Obj} (h : Keep S w0 w) (hm : w.heap[b]? = some (.map es clock)) (hb : b < w0.heap.size → S b) : Keep S w0 (setBlock w b o) :=
  ⟨h.os, h.tape, h.output, by simp [setBlock]; exact h.size, fun k hk hn => (heap_setBlock_other hm o (i := k) (fun e => hn (e ▸ hb (e ▸ hk)))).trans (h.block k hk hn)⟩

theorem MapOf.clear {w : World} {m n : Nat} {cache : List (List UInt8)} {es : Array MapEntry} {clock : Nat} (_h : MapOf w m cache) (hb : w.heap[m]? = some (.map es clock)) : MapOf (setBlock w m (.map #[] clock)) m (List.replicate n []) := by
  refine ⟨.map [], ⟨#[], clock, heap_setBlock_same hb _, ⟨by simp, stamped_empty clock, by simp⟩, by simp, rfl⟩, ⟨fun k l hl h0 => ?_, fun x hx => by cases hx⟩⟩
  have : l = [] := by
    have := List.mem_of_getElem? hl
    rw [List.mem_replicate] at this
    exact this.2
  subst this
  cases h0

/-- The sectors, those that wait and of which p holds by f. -/
def mixL (s : RSt) (p : Nat → Bool) (f : Nat → List UInt8) : List (List UInt8) := (List.range s.stays.length).map fun k => if 0 < (s.cache.getD k []).length ∧ p k = true then f k else s.stays.getD k []
theorem mixL_length (s : RSt) (p : Nat → Bool) (f : Nat → List UInt8) : (mixL s p f).length = s.stays.length := by unfold mixL; simp
theorem mixL_at {s : RSt} {p : Nat → Bool} {f : Nat → List UInt8} {k : Nat} (hk : k < s.stays.length) : (mixL s p f)[k]? = some (if 0 < (s.cache.getD k []).length ∧ p k = true then f k else s.stays.getD k []) := by
  unfold mixL
  rw [List.getElem?_map, List.getElem?_range hk]
  rfl
theorem mixL_start {s : RSt} {p : Nat → Bool} {f : Nat → List UInt8} (h : ∀ k, 0 < (s.cache.getD k []).length → p k = false) : mixL s p f = s.stays := by
  apply List.ext_getElem?
  intro k
  by_cases hk : k < s.stays.length
  · rw [mixL_at hk, get_at hk, if_neg]
    rintro ⟨h1, h2⟩
    rw [h k h1] at h2
    cases h2
  · rw [List.getElem?_eq_none (by rw [mixL_length]; omega), List.getElem?_eq_none (by omega)]
theorem mixL_step {s : RSt} {p q : Nat → Bool} {f : Nat → List UInt8} {k : Nat} (hk : k < s.stays.length) (h0 : 0 < (s.cache.getD k []).length) (hq : q k = true) (ho : ∀ j, j ≠ k → q j = p j) : mixL s q f = (mixL s p f).set k (f k) := by
  apply List.ext_getElem?
  intro j
  by_cases hj : j < s.stays.length
  · by_cases e : k = j
    · subst e
      rw [List.getElem?_set_self (by rw [mixL_length]; exact hk), mixL_at hk, if_pos ⟨h0, hq⟩]
    · rw [List.getElem?_set_ne e, mixL_at hj, mixL_at hj, ho j (fun h => e h.symm)]
  · rw [List.getElem?_eq_none (by rw [mixL_length]; omega), List.getElem?_eq_none (by rw [List.length_set, mixL_length]; omega)]
theorem mixL_end {s : RSt} {p q : Nat → Bool} {f : Nat → List UInt8} (h : ∀ k, 0 < (s.cache.getD k []).length → p k = q k) : mixL s p f = mixL s q f := by
  apply List.ext_getElem?
  intro k
  by_cases hk : k < s.stays.length
  · rw [mixL_at hk, mixL_at hk]
    by_cases h0 : 0 < (s.cache.getD k []).length
    · rw [h k h0]
    · rw [if_neg (fun x => h0 x.1), if_neg (fun x => h0 x.1)]
  · rw [List.getElem?_eq_none (by rw [mixL_length]; omega), List.getElem?_eq_none (by rw [mixL_length]; omega)]
theorem mixL_len {s : RSt} {p : Nat → Bool} {f : Nat → List UInt8} (hs : ∀ l ∈ s.stays, l.length = 128) (hf : ∀ k, 0 < (s.cache.getD k []).length → k < s.stays.length → (f k).length = 128) : ∀ l ∈ mixL s p f, l.length = 128 := by
  intro l hl
  obtain ⟨k, hk, rfl⟩ := List.mem_map.1 hl
  rw [List.mem_range] at hk
  split
  · rename_i h
    exact hf k h.1 hk
  · exact hs _ (get_mem hk)

def flushK (s : RSt) : RSt := if s.down then s else { s with stays := mixL s (fun _ => true) (fun k => s.cache.getD k []), cache := List.replicate s.stays.length [] }

theorem mk_setRow_range {w : World} {g : Nat} {t : TypeId} {Y : List Value} (hb : w.heap[g]? = some (.cells Y.toArray t (0, 0))) : w.rangeAt g 0 Y := fun j v hv => by
  rw [cell_of_row w g (0 + j) _ t (0, 0) hb, Nat.zero_add]
  simpa using hv

section
variable {w : World} {d : DAt} {kv : Value} {s : RSt}

set_option maxRecDepth 100000 in
set_option maxHeartbeats 2000000 in
theorem dflush_any (h : DK w d kv s) :
    Calls Try.prog 39 #[.pointer (some ⟨d.b, 0, none⟩)] w fun e w' => e = .returned (.int .i64 (if s.down then 31 else 0)) ∧ DK w' d kv (flushK s) ∧ Keep d.foot w w' := by
  have HU := Lib.hid (dusable_any h)
  have c2 : w.cell? ⟨d.b, 2, none⟩ = some (.map (some d.m)) := h.blk.cell 2
  cases hd : s.down
  · rw [hd] at HU
    have HFK : Hid (flushK s = { s with stays := mixL s (fun _ => true) (fun k => s.cache.getD k []), cache := List.replicate s.stays.length [] }) := Lib.hid (by unfold flushK; rw [if_neg (by rw [hd]; decide)])
    obtain ⟨D, hown, hC⟩ := h.cac
    have H := Lib.hid h
    have HC := Lib.hid hC
    have HO := Lib.hid hown
    have hz := zeroSec
    obtain ⟨Z, hZ⟩ : ∃ Z, ((List.replicate 128 0).map bv).toArray = Z := ⟨_, rfl⟩
    have hzv : secV (List.replicate 128 0) = .agg Z := by rw [← hZ]; rfl
    have hZs : Z.size = 128 := by rw [← hZ]; simp
    rw [hzv] at hz
    have HZS := Lib.hid hZs
    clear h hC hown hZ hzv hZs hd
    go_enter Try.func39, Try.ntmps39
    go_wp2_with (first
      | (go_at_call 42; refine HU.out.mono ?_; rintro e _ ⟨rfl, rfl⟩)
      | (at_range; refine wpList_range_own _ rfl _ 74 rfl 3 80 (int_keyed Try.underlying3) Try.underlying74 secR d.m 4096 D rfl HO.out ?_; intro w0 hrg0 hg0 hs0)
      | go_in)
    go_frame
    have HRG0 := Lib.hid hrg0
    have HG0 := Lib.hid hg0
    clear hrg0 hg0 hs0
    go_loopw [4] (fun _ wr => ∃ (left : Lit → Bool) (cnt : Nat), wr.ranges Try.prog 3 secR d.m w.heap.size 4096 D left cnt ∧ Dur wr d.g d.cS (mixL s (fun k => !left (.int .i64 (k : Int))) (fun k => s.cache.getD k [])) ∧ Keep (fun k => k = d.g) w wr) (fun _ wr => wr.rangeLeft d.m w.heap.size)
    case atStart =>
      have hk0 : Keep (fun k => k = d.g) w w0 := keep_grown HG0.out (fun k e => by cases e)
      refine ⟨_, _, HRG0.out, ?_, hk0⟩
      rw [mixL_start]
      · obtain ⟨cur, hb, q⟩ := H.out.dur
        exact ⟨cur, (HG0.out.block d.g hb.lt (by simp)).trans hb, q⟩
      · intro k hp
        have hlt : k < s.cache.length := by
          rcases Nat.lt_or_ge k s.cache.length with h | h
          · exact h
          · rw [List.getD_eq_getElem?_getD, List.getElem?_eq_none h] at hp; cases hp
        rw [(HC.out.yes k _ (get_at hlt) hp).1]
        rfl
    case round =>
      obtain ⟨left, cnt, hrg, hdur, hkp⟩ := hrel
      have hbk : Blk wr d.b _ _ := hkp.blk H.out.blk (fun e => H.out.b_ne_g e)
      have e2 : wr.cell? ⟨d.b, 2, none⟩ = some (.map (some d.m)) := hbk.cell 2
      have HRG := Lib.hid hrg
      have HDUR := Lib.hid hdur
      have HKP := Lib.hid hkp
      have HBK := Lib.hid hbk
      clear hrg hdur hkp hbk
      go_wp2_with (first
        | (at_next; refine wpList_next_ranges _ rfl _ rfl 3 (int_keyed Try.underlying3) secR (Value.int .i64) secV (fun key kl hk => by obtain ⟨x, hx, _⟩ := Maps.keyOf_i64 Try.underlying3 hk; exact ⟨x, hx⟩) (fun v y hy => by obtain ⟨l, _, e, _⟩ := secR_inv hy; exact ⟨l, e⟩) d.m w.heap.size 4096 D left cnt rfl HRG.out ?_ ?_)
        | go_in)
      · intro hc0 hl0
        obtain ⟨es, clock, hm⟩ : ∃ es clock, wr.heap[d.m]? = some (.map es clock) := by
          obtain ⟨es, clock, hb, _⟩ := HRG.out.owns
          exact ⟨es, clock, hb⟩
        have hmap : MapOf wr d.m s.cache := ⟨D, HRG.out.owns, HC.out⟩
        have hfin : DK (setBlock wr d.m (.map #[] clock)) d kv { s with stays := mixL s (fun _ => true) (fun k => s.cache.getD k []), cache := List.replicate s.stays.length [] } := by
          have h1 : DK wr d kv { s with stays := mixL s (fun _ => true) (fun k => s.cache.getD k []) } := by
            have hk := HKP.out
            have ht := H.out.foot_typ _ (.inr (.inl rfl))
            have hlen := mixL_length s (fun _ => true) (fun k => s.cache.getD k [])
            refine ⟨⟨by rw [hlen]; exact H.out.ok.same, by rw [hlen]; exact H.out.ok.few, ?_, H.out.ok.wait⟩, ⟨H.out.more.many, H.out.more.write, H.out.more.torn, H.out.more.at_, H.out.more.keep⟩, by rw [hlen]; exact H.out.some_, by rw [hlen]; exact HBK.out, ?_, hmap, H.out.kHead.keep hk (fun k e => by subst e; exact ht.1)⟩
            · refine mixL_len H.out.ok.stay (fun k hp hk => ?_)
              have := H.out.ok.wait _ (get_mem (k := k) (by rw [H.out.ok.same]; exact hk))
              omega
            · have hd := HDUR.out
              rw [mixL_end (q := fun _ => true) (fun k _ => by rw [hl0]; rfl)] at hd
              exact hd
          exact h1.putC (keep_setBlock (Keep.refl _ _) hm (fun _ => rfl)) (hmap.clear hm) (by rw [List.length_replicate]; exact H.out.ok.same.symm) (fun l hl => by rw [(List.mem_replicate.1 hl).2]; exact .inl rfl)
        have hkfin : Keep d.foot w (setBlock wr d.m (.map #[] clock)) := keep_setBlock (HKP.out.more (fun k _ e => .inr (.inl e))) hm (fun _ => .inr (.inr rfl))
        have HF := Lib.hid (And.intro hfin hkfin)
        have HM := Lib.hid hm
        clear hfin hkfin hm hmap hc0 hl0
        go_wp2_with (with_reducible refine wpList_clear_map rfl (.tmp 31) 74 rfl 3 80 Try.underlying74 d.m rfl es clock HM.out ?_)
        go_ret
        exact ⟨rfl, by rw [HFK.out]; exact HF.out.1, HF.out.2⟩
      · intro x l kl y yp w2 cnt2 hkey hlk hv hat hrg2 hlt hg2 hs2 hen
        obtain ⟨x', ex, ekl, _⟩ := Maps.keyOf_i64 Try.underlying3 hkey
        obtain rfl : x = x' := encZ_inj ex
        subst ekl
        obtain ⟨k, lk, rfl, hck, hp⟩ := HC.out.only x (has_true_of_atKey hat)
        obtain ⟨l', hl128, el, ey⟩ := secR_inv hv
        obtain rfl : l = l' := secV_inj el
        have hyl : y = .lit (.string l) := by injection ey
        obtain rfl : l = lk := by
          have := (HC.out.yes k lk hck hp).2 y
          rw [hat y, hyl] at this
          simpa using this
        have hkn : k < s.stays.length := by rw [← H.out.ok.same]; exact (List.getElem?_eq_some_iff.1 hck).1
        have hgd : s.cache.getD k [] = l := by
          rw [List.getD_eq_getElem?_getD, hck]
          rfl
        -- the worlds of the round
        have hk2 : Keep (fun k => k = d.g) w w2 := HKP.out.trans (keep_grown (S := fun k => k = w.heap.size) hg2 (fun k e => by injection e with e; exact e.symm)) (fun i hi e => by omega)
        have hr := hrg2.lt
        obtain ⟨Y, hY⟩ : ∃ Y, l.map bv = Y := ⟨_, rfl⟩
        obtain ⟨X, hX⟩ : ∃ X, Y.toArray = X := ⟨_, rfl⟩
        have hYs : Y.length = 128 := by rw [← hY, List.length_map]; exact hl128
        have hXs : X.size = 128 := by rw [← hX]; simpa using hYs
        have hX1 : X.all (·.oneCell') = true := by rw [← hX, ← hY]; exact oneSec l
        have hxv : secV l = .agg X := by rw [← hX, ← hY]; rfl
        have hA := heap_alloc_new w2 (.cells Z 80)
        obtain ⟨W4, hW4⟩ : ∃ W4, (w2.alloc (.cells Z 80)).setRow w2.heap.size X = W4 := ⟨_, rfl⟩
        have hB4 : Below w2.heap.size w2 W4 := by rw [← hW4]; exact below_setRow ((Below.refl _ _).alloc (Nat.le_refl _) _) (Nat.le_refl _) X
        have hH4 : W4.heap[w2.heap.size]? = some (.cells X 80 (0, 0)) := by rw [← hW4]; exact setRow_heap _ _ _ _ _ _ hA
        have hk4 : Keep (fun k => k = d.g) w W4 := hk2.trans (Keep.of_below (S := fun _ => False) hB4) (fun _ _ h => h.elim)
        have hb4 : Blk W4 d.b _ _ := hk4.blk H.out.blk (fun e => H.out.b_ne_g e)
        have hd4 : Dur W4.drew d.g d.cS (mixL s (fun k => !left (.int .i64 (k : Int))) (fun k => s.cache.getD k [])) := by
          have h1 := HDUR.out.keep (keep_grown (S := fun k => k = w.heap.size) hg2 (fun k e => by injection e with e; exact e.symm)) (fun e => by have := H.out.lt _ (.inr (.inl rfl)); omega)
          have h2 := h1.keep (Keep.of_below (S := fun _ => False) hB4) (fun h => h)
          exact h2
        have e1 : W4.drew.cell? ⟨d.b, 1, none⟩ = some (.slice (some ⟨d.g, 0, none⟩) s.stays.length d.cS) := hb4.cell 1
        have hR4 : W4.drew.rangeAt w2.heap.size 0 Y := mk_setRow_range (w := W4.drew) (by rw [hX]; exact hH4)
        have hT4 : W4.drew.there d.g (k * 128) 128 := hd4.there (by rw [mixL_length]; exact hkn)
        have hf := H.out.ok.few
        -- behind the round
        have hfin : (∃ (left : Lit → Bool) (cnt' : Nat), (W4.drew.setCells d.g (k * 128) X.toList).ranges Try.prog 3 secR d.m w.heap.size 4096 D left cnt' ∧ Dur (W4.drew.setCells d.g (k * 128) X.toList) d.g d.cS (mixL s (fun k => !left (.int .i64 (k : Int))) (fun k => s.cache.getD k [])) ∧ Keep (fun k => k = d.g) w (W4.drew.setCells d.g (k * 128) X.toList)) ∧ (W4.drew.setCells d.g (k * 128) X.toList).rangeLeft d.m w.heap.size < wr.rangeLeft d.m w.heap.size := by
          have hk5 : Keep (fun k => k = d.g) W4.drew (W4.drew.setCells d.g (k * 128) X.toList) := keep_setCells X.toList _ _ (Keep.refl _ _) (fun _ => rfl)
          have hrg5 : (W4.drew.setCells d.g (k * 128) X.toList).ranges Try.prog 3 secR d.m w.heap.size 4096 D (fun z => left z && !z.sameKey (.int .i64 (k : Int))) cnt2 := by
            have hm2 := hrg2.owns.lt
            obtain ⟨es, clock, since, seen, c0, b1, b2, b3, b4, b5, brest⟩ := hrg2
            have hmm : d.m ≠ d.g := fun e => H.out.g_ne_m e.symm
            have hgg : w.heap.size ≠ d.g := fun e => by have := H.out.lt _ (.inr (.inl rfl)); omega
            have hz4 := hB4.size
            exact ⟨es, clock, since, seen, c0, (hk5.block d.m (by show d.m < W4.heap.size; omega) hmm).trans ((hB4.block d.m hm2).trans b1), b2, b3, b4, (hk5.block _ (by show w.heap.size < W4.heap.size; omega) hgg).trans ((hB4.block _ hr).trans b5), brest⟩
          refine ⟨⟨_, cnt2, hrg5, ?_, hk4.drew.trans hk5 (fun _ _ h => h)⟩, by rw [hrg5.left_eq, HRG.out.left_eq]; exact hlt⟩
          have h5 := hd4.set_ (k := k) (l := l) (mixL_len H.out.ok.stay (fun k hp hk => by
            have := H.out.ok.wait _ (get_mem (k := k) (by rw [H.out.ok.same]; exact hk))
            omega)) (by rw [mixL_length]; exact hkn) hl128
          rw [mixL_step (k := k) (p := fun k => !left (.int .i64 (k : Int))) hkn (by rw [hgd]; exact hp) (by simp [Lit.sameKey]) (fun j hj => by
            have : (Lit.int .i64 (j : Int)).sameKey (.int .i64 (k : Int)) = false := by simp [Lit.sameKey]; omega
            simp [this]), hgd, ← hX, ← hY]
          exact h5
        have HFIN := Lib.hid hfin
        have HA := Lib.hid hA
        have HW4 := Lib.hid hW4
        have HXS := Lib.hid hXs
        have HYS := Lib.hid hYs
        have HX1 := Lib.hid hX1
        have HXY := Lib.hid hX
        have HR4 := Lib.hid hR4
        have HT4 := Lib.hid hT4
        rw [hxv] at hen ⊢
        generalize s.stays.length = n at *
        clear hfin hA hW4 hXs hYs hX1 hX hR4 hT4 hd4 hb4 hk4 hH4 hB4 hxv hY hr hk2 hgd hyl ey el hs2 hg2 hrg2 hat hv hkey hck hp hlk hlt hl128 ex
        go_wp2_with (with_reducible refine wpList_store_row rfl 80 (.tmp 5) (.tmp 20) rfl w2.heap.size X rfl rfl 80 Z HA.out (by rw [HXS.out]; exact sizeSec) (by rw [HXS.out, HZS.out]) HX1.out ?_; rw [HW4.out])
        refine wp_region_still_tail 7 (by kernel_rfl) (by kernel_rfl) ?_
        simp only [List.take_succ_cons, List.take_zero, List.drop_succ_cons, List.drop_zero]
        still_step
        still_step
        still_step
        still_step
        still_step
        refine wpStill_load_mid rfl 80 (.tmp 5) rfl w2.heap.size 0 rfl Y _ HR4.out Try.underlying80 rfl (by rw [HYS.out]; exact sizeSec) ?_
        rw [HXY.out]
        go_frame
        still_step
        refine wpStill_nil ?_
        change wpList _ _ _ _ _ W4.drew
        go_wp2_with (with_reducible refine wpList_store_mid rfl 80 (.tmp 27) (.tmp 26) rfl d.g (k * 128) X rfl rfl (by rw [HXS.out]; exact HT4.out) (by rw [HXS.out]; exact sizeSec) HX1.out ?_)
        refine ⟨?_, HFIN.out.2⟩
        repeat apply Exists.intro
        exact ⟨HFIN.out.1, rfl⟩
  · rw [hd] at HU
    have HFK : Hid (flushK s = s) := Lib.hid (by unfold flushK; rw [if_pos hd])
    have H := Lib.hid h
    clear h hd
    go_enter Try.func39, Try.ntmps39
    go_wp2_with (go_at_call 42; refine HU.out.mono ?_; rintro e _ ⟨rfl, rfl⟩)
    go_ret
    exact ⟨rfl, by rw [HFK.out]; exact H.out, Keep.refl _ _⟩

theorem dflush_dead (p : Option Addr) (w : World) (h : Dead w p) : Calls Try.prog 39 #[.pointer p] w fun e w' => e = .returned (.int .i64 1) ∧ w = w' := by
  have HV := Lib.hid (dusable_dead p w h)
  clear h
  go_enter Try.func39, Try.ntmps39
  go_wp2_with (go_at_call 42; refine HV.out.mono ?_; rintro e _ ⟨rfl, rfl⟩)
  go_ret
  exact ⟨rfl, rfl⟩
end

end Go.Proofs.Ytddhldmeknmgpaa

/-
  The root of layer 6: the order of roots (slices.SortFunc of at most two).
  The root of layer 6: Both.
  The root of layer 6 as the statements call it: Load, Save, 'is'.
-/
import Derived.Test.YtkebbjodkhjbmaaGreatRtSlot
import Derived.Test.YtkebbjodkhjbmaaGreatShelf
namespace Go.Proofs.YtkebbjodkhjbmaaGreat.root
open Go.RowKit Go.Sort Go.Shelf Go.Lib Go.Proofs.YtkebbjodkhjbmaaGreat.crc

def cmpN (x y : Nat) : Int := if x < y then -1 else if y < x then 1 else 0
theorem rnan_any (x : Nat) (w : World) : Calls Tryz.prog 211 #[.int .u64 x] w fun e w' => e = .returned (.bool false) ∧ w = w' := by
  go_enter Tryz.func211, Tryz.ntmps211
  go_wp2
  go_ret
  exact ⟨by simp, rfl⟩
theorem rcompare_any (x y : Nat) (w : World) : Calls Tryz.prog 184 #[.int .u64 x, .int .u64 y] w fun e w' => e = .returned (.int .i64 (cmpN x y)) ∧ w = w' := by
  have HX := Lib.hid (fun W => rnan_any x W)
  have HY := Lib.hid (fun W => rnan_any y W)
  unfold cmpN
  by_cases h1 : x < y
  · rw [if_pos h1]
    have d1 : decide ((x : Int) < (y : Int)) = true := decide_eq_true (by omega)
    go_enter Tryz.func184, Tryz.ntmps184
    go_wp2_with (first | (go_at_call 211; (with_reducible refine (HX.out _).mono ?_); rintro e _ ⟨rfl, rfl⟩) | (go_at_call 211; (with_reducible refine (HY.out _).mono ?_); rintro e _ ⟨rfl, rfl⟩))
    go_ret
    exact ⟨rfl, rfl⟩
  · rw [if_neg h1]
    have d1 : decide ((x : Int) < (y : Int)) = false := decide_eq_false (by omega)
    by_cases h2 : y < x
    · rw [if_pos h2]
      have d2 : decide ((y : Int) < (x : Int)) = true := decide_eq_true (by omega)
      go_enter Tryz.func184, Tryz.ntmps184
      go_wp2_with (first | (go_at_call 211; (with_reducible refine (HX.out _).mono ?_); rintro e _ ⟨rfl, rfl⟩) | (go_at_call 211; (with_reducible refine (HY.out _).mono ?_); rintro e _ ⟨rfl, rfl⟩))
      go_ret
      exact ⟨rfl, rfl⟩
    · rw [if_neg h2]
      have d2 : decide ((y : Int) < (x : Int)) = false := decide_eq_false (by omega)
      go_enter Tryz.func184, Tryz.ntmps184
      go_wp2_with (first | (go_at_call 211; (with_reducible refine (HX.out _).mono ?_); rintro e _ ⟨rfl, rfl⟩) | (go_at_call 211; (with_reducible refine (HY.out _).mono ?_); rintro e _ ⟨rfl, rfl⟩))
      go_ret
      exact ⟨rfl, rfl⟩
theorem rfalling_any (x y : Nat) (w : World) : Calls Tryz.prog 139 #[.int .u64 x, .int .u64 y] w fun e w' => e = .returned (.int .i64 (cmpN y x)) ∧ w = w' := by
  have H := Lib.hid (rcompare_any y x w)
  go_enter Tryz.func139, Tryz.ntmps139
  go_wp2_with (go_at_call 184; refine H.out.mono ?_; rintro e _ ⟨rfl, rfl⟩)
  go_ret
  exact ⟨rfl, rfl⟩

/-- A root's three cells. -/
def encR (r : RV) : List Value := [.int .u64 r.n, .int .i64 r.len, .int .u32 r.sm]
instance : Inhabited RV := ⟨noR⟩

theorem rorder1_any (x y : RV) (C : Nat) (W : World) (hC : C < W.heap.size) (hc : W.cell? ⟨C, 0, none⟩ = some (.func (.func 139) #[] #[])) :
    Calls Tryz.prog 183 #[rtv x, rtv y, .pointer (some ⟨C, 0, none⟩)] W fun e w' => e = .returned (.int .i64 (cmpN y.n x.n)) ∧ ∃ q os', w' = grow (W.drewN q) os' := by
  have H := Lib.hid (fun W => rfalling_any x.n y.n W)
  have hne : ¬ C = W.heap.size := by omega
  have hne2 : ¬ C = W.heap.size + 1 := by omega
  unfold rtv
  go_enter Tryz.func183, Tryz.ntmps183
  go_wp2_with ((with_reducible refine (H.out _).mono ?_); rintro e _ ⟨rfl, rfl⟩)
  go_ret
  exact ⟨rfl, 0, _, by rw [alloc_eq_grow, alloc_eq_grow, grow_grow]; rfl⟩

theorem cell_sortWorld {α : Type} [Inhabited α] (enc : α → List Value) (k : Nat) (w : World) (blk off m : Nat) (dk : Array α) (os : Array Obj) (a : Addr) (h : a.block ≠ blk) (hlt : a.block < w.heap.size) : (sortWorldK enc k w blk off m dk os).cell? a = w.cell? a := by
  unfold sortWorldK
  rw [cell?_grow _ _ _ (by rw [size_putRowK]; exact hlt), cell?_putRowK_other _ _ _ _ _ _ _ h]
  rfl

theorem isAggRoot (w : World) : (isAgg 35).run Tryz.prog w = .ok true w := by
  have h := Tryz.underlying35
  simp [isAgg, run_underlying h]
theorem sizeOfRoot (w : World) : (Go.sizeOf 35).run Tryz.prog w = .ok 3 w := by
  simp [Go.sizeOf]
  rfl
theorem rlen_any (n : Nat) (W : World) (h : n ≤ 12) : Calls Tryz.prog 210 #[.int .u64 n] W fun e w' => (∃ l : Int, e = .returned (.int .i64 l)) ∧ w' = W :=
  (Any.bits_Len Tryz.bitsLen n W (by omega) (by omega)).mono fun _ _ ⟨he, hw⟩ => ⟨⟨_, he⟩, hw⟩

/-- The cells of a list of roots. -/
def rowsR (l : List RV) : List Value := l.flatMap encR
theorem rowsR_length : ∀ l : List RV, (rowsR l).length = l.length * 3
  | [] => rfl
  | r :: l => by
    show (encR r ++ rowsR l).length = _
    rw [List.length_append, rowsR_length l, List.length_cons]
    show 3 + _ = _
    omega
theorem rowsR_one (l : List RV) : ∀ v ∈ rowsR l, v.oneCell' = true := by
  intro v hv
  obtain ⟨r, _, h⟩ := List.mem_flatMap.1 hv
  simp [encR] at h
  rcases h with rfl | rfl | rfl <;> rfl
theorem flat_one (a : RV) : flatK encR 3 #[a] = (rowsR [a]).toArray := by
  unfold flatK
  apply Array.ext'
  simp [List.range_succ, rowsR, encR]
theorem flat_two (a b : RV) : flatK encR 3 #[a, b] = (rowsR [a, b]).toArray := by
  unfold flatK
  apply Array.ext'
  simp [List.range_succ, rowsR, encR]

theorem holds_rows {w : World} {g : Nat} {cur : Array Value} {e : TypeId} {ss : List Value} (hb : w.heap[g]? = some (.cells cur e (0, 0))) (ht : cur.toList.take ss.length = ss) : Holds id w g 0 ss.toArray := by
  intro j hj
  have hj' : j < ss.length := by simpa using hj
  refine ⟨?_, by simp [World.frozen?, hb]⟩
  have h1 : (cur.toList.take ss.length)[j]? = ss[j]? := by rw [ht]
  rw [List.getElem?_take_of_lt hj'] at h1
  simp only [World.cell?, hb, Nat.zero_add]
  simp only [Option.isSome_none, Bool.false_eq_true, if_false]
  rw [← Array.getElem?_toList, h1]
  simp [hj']
theorem heap_rows {w : World} {g n : Nat} {os : Array Obj} {cur : Array Value} {e : TypeId} {fr : Nat × Nat} (d : Array Value) (hb : w.heap[g]? = some (.cells cur e fr)) :
    (grow (putRow id (Sort.ahead w n) g 0 d) os).heap[g]? = some (.cells (putCells id 0 d cur) e fr) := by
  have hg : g < w.heap.size := (Array.getElem?_eq_some_iff.1 hb).1
  rw [heap_grow_old _ _ (by simpa using hg)]
  simp [putRow, mapBlock, Sort.ahead, Array.getElem?_modify, hb, onCells]
theorem keep_rows {w : World} {g n : Nat} {os : Array Obj} (d : Array Value) : Keep (fun i => i = g) w (grow (putRow id (Sort.ahead w n) g 0 d) os) := by
  refine ⟨rfl, rfl, rfl, by simp, fun k hk hne => ?_⟩
  rw [heap_grow_old _ _ (by simpa using hk)]
  have : g ≠ k := fun e => hne e.symm
  simp [putRow, mapBlock, Sort.ahead, Array.getElem?_modify, this]
theorem take_rows (cur : Array Value) (ts : List Value) (h : ts.length ≤ cur.size) : (putCells id 0 ts.toArray cur).toList.take ts.length = ts := by
  apply List.ext_getElem?
  intro j
  by_cases hj : j < ts.length
  · rw [List.getElem?_take_of_lt hj, Array.getElem?_toList]
    simp [putCells, hj, show j < cur.size by omega]
  · rw [List.getElem?_take_eq_none (by omega), List.getElem?_eq_none (by omega)]

def sortR : List RV → List RV
  | [a, b] => if a.n < b.n then [b, a] else [a, b]
  | l => l
theorem sortR_two (a b : RV) : sortR [a, b] = if a.n < b.n then [b, a] else [a, b] := rfl
theorem sortR_length : ∀ l, (sortR l).length = l.length
  | [] => rfl
  | [a] => rfl
  | [a, b] => by rw [sortR_two]; split <;> rfl
  | a :: b :: c :: l => rfl
def fallN (x y : RV) : Int := cmpN y.n x.n
theorem ins_one (a : RV) : Sort.insertionSort (ltOf fallN) #[a] 0 1 = #[a] := by
  unfold Sort.insertionSort
  rw [Sort.insOuter]
  rfl
theorem ins_two (a b : RV) : Sort.insertionSort (ltOf fallN) #[a, b] 0 2 = (sortR [a, b]).toArray := by
  have e : ltOf fallN b a = decide (a.n < b.n) := by
    unfold ltOf fallN cmpN
    by_cases h : a.n < b.n
    · rw [if_pos h, decide_eq_true h]; rfl
    · rw [if_neg h, decide_eq_false h]
      split <;> rfl
  unfold Sort.insertionSort
  rw [Sort.insOuter, if_pos (by omega), Sort.insOuter, if_neg (by omega)]
  show Sort.insInner (ltOf fallN) 0 1 #[a, b] = _
  unfold Sort.insInner
  have e2 : (ltOf fallN (#[a, b])[0 + 1]! (#[a, b])[0]!) = decide (a.n < b.n) := e
  rw [e2, sortR_two]
  by_cases h : a.n < b.n
  · rw [decide_eq_true h, if_pos h]; rfl
  · rw [decide_eq_false h, if_neg h]; rfl

theorem rins_none (p : Option Addr) (cap : Nat) (fv : Value) (w : World) : Calls Tryz.prog 221 #[.slice p 0 cap, .int .i64 0, .int .i64 0, fv] w fun e w' => e = .returned (.tuple #[]) ∧ w = w' := by
  go_enter Tryz.func221, Tryz.ntmps221
  go_wp2
  refine wp_loop_rounds 1 ?_
  rw [rounds_succ]
  go_wp2
  go_end0
  exact ⟨rfl, rfl⟩
set_option maxRecDepth 100000 in
set_option maxHeartbeats 2000000 in
theorem rpdq_none (p : Option Addr) (cap : Nat) (lim : Int) (fv : Value) (w : World) : Calls Tryz.prog 209 #[.slice p 0 cap, .int .i64 0, .int .i64 0, .int .i64 lim, fv] w fun e w' => e = .returned (.tuple #[]) ∧ w = w' := by
  have H := Lib.hid (fun W => rins_none p cap fv W)
  go_enter Tryz.func209, Tryz.ntmps209
  go_wp2
  refine wp_loop_rounds 1 ?_
  rw [rounds_succ]
  go_wp2_with (go_at_call 221; refine (H.out _).mono ?_; rintro e _ ⟨rfl, rfl⟩)
  (try simp only [Exit.inBlock, Exit.then]); refine bodyPost_ret (results_none rfl _ _ _) rfl ?_
  exact ⟨rfl, rfl⟩
theorem rsort_none (p : Option Addr) (cap : Nat) (fv : Value) (w : World) : Calls Tryz.prog 182 #[.slice p 0 cap, fv] w fun e w' => e = .returned (.tuple #[]) ∧ w = w' := by
  have H := Lib.hid (fun lim W => rpdq_none p cap lim fv W)
  have HL : Hid (∀ W, Calls Tryz.prog 210 #[.int .u64 0] W fun e w' => (∃ l : Int, e = .returned (.int .i64 l)) ∧ w' = W) := Lib.hid (fun W => rlen_any 0 W (by omega))
  go_enter Tryz.func182, Tryz.ntmps182
  go_wp2_with (first
    | (go_at_call 210; refine (HL.out _).mono ?_; rintro e _ ⟨⟨l, rfl⟩, rfl⟩)
    | (go_at_call 209; refine (H.out _ _).mono ?_; rintro e _ ⟨rfl, rfl⟩))
  go_end0
  exact ⟨rfl, rfl⟩

set_option maxHeartbeats 2000000 in
/-- The order of at most two roots. -/
theorem rsort_any {base n c : Nat} {A : Option Addr} (l : List RV) (C : Nat) (w : World) (hl : l.length = n) (h2 : n ≤ 2) (ho : w.ownsRow base 35 3 (.slice A n c) n (rowsR l)) (hC : C < w.heap.size) (hne : ∀ g, A = some g → C ≠ g.block) (hc : w.cell? ⟨C, 0, none⟩ = some (.func (.func 139) #[] #[])) :
    Calls Tryz.prog 182 #[.slice A n c, .func (.func 183) #[] #[.pointer (some ⟨C, 0, none⟩)]] w fun e w' => e = .returned (.tuple #[]) ∧ w'.ownsRow base 35 3 (.slice A n c) n (rowsR (sortR l)) ∧ Keep (fun i => (Value.slice A n c).ownBlock = some i) w w' := by
  rcases Nat.eq_zero_or_pos n with h0 | h0
  · subst h0
    obtain rfl : l = [] := List.eq_nil_of_length_eq_zero hl
    refine (rsort_none A c _ w).mono ?_
    rintro e _ ⟨rfl, rfl⟩
    exact ⟨rfl, ho, Keep.refl _ _⟩
  · obtain ⟨g, rfl, hbase, cur, hh, hn, hcap, hsz, htk⟩ : ∃ g, A = some ⟨g, 0, none⟩ ∧ base ≤ g ∧ ∃ cur, w.heap[g]? = some (.cells cur 35 (0, 0)) ∧ n ≤ c ∧ c ≤ maxLen ∧ cur.size = c * 3 ∧ cur.toList.take (n * 3) = rowsR l := by
      rcases ho.2 with ⟨_, e0⟩ | ⟨g, cap, cur, e, hb, hh, h1, h2, h3, h4⟩
      · omega
      · injection e with e1 e2 e3
        subst e1 e3
        exact ⟨g, rfl, hb, cur, hh, h1, h2, h3, h4⟩
    have hCg : C ≠ g := hne _ rfl
    have hrl := rowsR_length l
    rw [hl] at hrl
    have hD : flatK encR 3 l.toArray = (rowsR l).toArray ∧ Sort.insertionSort (ltOf fallN) l.toArray 0 l.toArray.size = (sortR l).toArray ∧ flatK encR 3 (sortR l).toArray = (rowsR (sortR l)).toArray := by
      match l, hl with
      | [a], _ => exact ⟨flat_one a, ins_one a, flat_one a⟩
      | [a, b], _ =>
        refine ⟨flat_two a b, ins_two a b, ?_⟩
        rw [sortR_two]
        split
        · exact flat_two b a
        · exact flat_two a b
      | [], h => simp at h; omega
      | a :: b :: d :: r, h => simp at h; omega
    have hsl : l.toArray.size = n := by simpa using hl
    have hH : HoldsK encR 3 w g 0 l.toArray := by
      unfold HoldsK
      rw [hD.1]
      exact holds_rows hh (by rw [hrl]; exact htk)
    have hgl : g < w.heap.size := (Array.getElem?_eq_some_iff.1 hh).1
    have hcmp : CmpLays Tryz.prog 183 #[.pointer (some ⟨C, 0, none⟩)] encR 3 fallN g 0 l.toArray.size w := by
      intro m os dk _ x y
      refine (rorder1_any x y C _ ?_ ?_)
      · have := size_sortWorldK_c encR 3 w g 0 m dk os
        omega
      · rw [cell_sortWorld encR 3 w g 0 m dk os ⟨C, 0, none⟩ hCg hC]
        exact hc
    have hcall := AnyQ.slices_SortFunc_small Tryz.sortR 3 isAggRoot sizeOfRoot encR (fun _ => rfl) (fun x v hv => by simp [encR] at hv; rcases hv with rfl | rfl | rfl <;> rfl) fallN 183 #[.pointer (some ⟨C, 0, none⟩)] g 0 c l.toArray w (enters_of Tryz.func183 (by kernel_rfl) rfl) hcmp hH hgl (by omega) rlen_any
    rw [hsl] at hcall
    refine Calls.mono (show Calls Tryz.prog 182 _ w _ from hcall) ?_
    rintro e w' ⟨rfl, m, os, rfl⟩
    rw [hsl] at hD
    unfold sortWorldK putRowK
    rw [hD.2.1, hD.2.2]
    have hrs : (rowsR (sortR l)).length = n * 3 := by rw [rowsR_length, sortR_length, hl]
    refine ⟨rfl, ⟨hrs, .inr ⟨g, c, _, rfl, hbase, heap_rows _ hh, hn, hcap, by simp [putCells, hsz], ?_⟩⟩, (keep_rows _).more (fun i _ e => by subst e; rfl)⟩
    rw [← hrs]
    exact take_rows cur _ (by rw [hrs, hsz]; omega)

theorem rorder_any {base n c : Nat} {A : Option Addr} (l : List RV) (w : World) (hl : l.length = n) (h2 : n ≤ 2) (ho : w.ownsRow base 35 3 (.slice A n c) n (rowsR l)) :
    Calls Tryz.prog 138 #[.slice A n c, .func (.func 139) #[] #[]] w fun e w' => e = .returned (.tuple #[]) ∧ w'.ownsRow base 35 3 (.slice A n c) n (rowsR (sortR l)) ∧ Keep (fun i => (Value.slice A n c).ownBlock = some i) w w' := by
  have ho1 := own_stay ho ((Below.refl _ w).alloc (Nat.le_refl _) (.cells #[.func (.func 139) #[] #[]] 174))
  have H := Lib.hid (rsort_any l w.heap.size (w.alloc (.cells #[.func (.func 139) #[] #[]] 174)) hl h2 ho1 (by simp) (fun g e => by
    subst e
    have := (own_is ho g.block (by simp [Value.ownBlock])).2.1
    omega) ((Blk.new w _ _).cell 0))
  clear ho ho1
  go_enter Tryz.func138, Tryz.ntmps138
  go_wp2_with (go_at_call 182; refine H.out.mono ?_; rintro e w1 ⟨rfl, o1, k1⟩; have O1 := Lib.hid o1; have K1 := Lib.hid k1; clear o1 k1)
  go_end0
  exact ⟨rfl, O1.out, ((Keep.of_below (S := fun i => (Value.slice A n c).ownBlock = some i) ((Below.refl _ w).alloc (Nat.le_refl _) _)).trans K1.out (fun _ _ h => h))⟩
end Go.Proofs.YtkebbjodkhjbmaaGreat.root

namespace Go.Proofs.YtkebbjodkhjbmaaGreat.root
open Go.RowKit Go.Proofs.YtkebbjodkhjbmaaGreat.crc

/-- The roots of the first k slots that count. -/
def cntL (L : Nat → List UInt8) : Nat → List RV
  | 0 => []
  | k + 1 => cntL L k ++ if countsR k (L k) = true then [candR (L k)] else []
def bothE (er : Nat → Int) : Int := if er 0 = 0 then er 1 else er 0
def bothL (er : Nat → Int) (L : Nat → List UInt8) : List RV := if bothE er = 0 then sortR (cntL L 2) else []
theorem cntL_le (L : Nat → List UInt8) : ∀ k, (cntL L k).length ≤ k
  | 0 => Nat.le_refl _
  | k + 1 => by
    unfold cntL
    rw [List.length_append]
    have := cntL_le L k
    split <;> simp <;> omega

/-- What Both has gathered. -/
structure BI (w4 : World) (q : Nat) (l : List RV) (W : World) : Prop where
  keep : Keep (fun i => i = q) w4 W
  c : ∃ A c, Blk W q 115 #[.slice A l.length c] ∧ W.ownsRow w4.heap.size 35 3 (.slice A l.length c) l.length (rowsR l)
theorem own_turned {W W' : World} {base B size n : Nat} {e : TypeId} {v : Value} {xs : List Value} {row : Option Nat} (h : W.ownsRow base e size v n xs) (hg : W.grownBy W' row) (hr : ∀ r, row = some r → B ≤ r ∧ ∃ o : Obj, W.heap[r]? = some o ∧ o.isCells = false) : W'.ownsRow base e size v n xs := by
  refine ⟨h.1, ?_⟩
  rcases h.2 with ⟨rfl, h0⟩ | ⟨g, cap, cur, rfl, hb, hh, hrest⟩
  · exact .inl ⟨rfl, h0⟩
  · exact .inr ⟨g, cap, cur, rfl, hb, (show Blk W' g e cur from blk_own (show Blk W g e cur from hh) hg hr), hrest⟩
theorem BI.own {w4 W W' : World} {q : Nat} {l : List RV} {row : Option Nat} (h : BI w4 q l W) (hg : W.grownBy W' row) (hr : ∀ r, row = some r → w4.heap.size ≤ r ∧ ∃ o : Obj, W.heap[r]? = some o ∧ o.isCells = false) : BI w4 q l W' := by
  obtain ⟨h1, A, c, h2, h3⟩ := h
  exact ⟨h1.grown hg (fun g e hlt => by have := (hr g e).1; omega), A, c, blk_own h2 hg hr, own_turned h3 hg hr⟩
theorem BI.moved {w4 W W' : World} {q : Nat} {l : List RV} (h : BI w4 q l W) (hb : Below W.heap.size W W') : BI w4 q l W' := by
  obtain ⟨h1, A, c, h2, h3⟩ := h
  exact ⟨h1.trans (Keep.of_below (S := fun _ => False) hb) (fun _ _ h => h.elim), A, c, h2.below hb h2.lt, own_stay h3 hb⟩
theorem reads_turn {W W' : World} {A : Option Addr} {n : Nat} {l : List Value} {row : Option Nat} (h : Reads W W.heap.size 1 A n l) (hg : W.grownBy W' row) (hr : ∀ r, row = some r → ∃ o : Obj, W.heap[r]? = some o ∧ o.isCells = false) : Reads W' W'.heap.size 1 A n l := by
  refine ⟨h.1, fun h0 => ?_⟩
  obtain ⟨ad, e, hlt, hc⟩ := h.2 h0
  refine ⟨ad, e, Nat.lt_of_lt_of_le hlt hg.size, fun j u hu => ?_⟩
  have hcj := hc j u hu
  have hne : some ad.block ≠ row := fun e => by
    obtain ⟨o, ho, hn⟩ := hr ad.block e.symm
    unfold World.cell? at hcj
    rw [block_of_add, ho] at hcj
    cases o <;> simp_all [Obj.isCells]
  exact (World.cell?_of_block (by rw [block_of_add]; exact hg.block ad.block hlt hne)).trans hcj

/-- A slot is about to be looked at. -/
structure BM (w4 : World) (q : Nat) (L : Nat → List UInt8) (er : Nat → Int) (k : Nat) (v : Value) (W : World) : Prop where
  lt : k < 2
  no : ∀ j, j < k → er j = 0
  v : ∃ A c, v = .slice A (L k).length c ∧ Reads W W.heap.size 1 A (L k).length ((L k).map bv)
  bi : BI w4 q (cntL L k) W
theorem BM.own {w4 W W' : World} {q k : Nat} {L : Nat → List UInt8} {er : Nat → Int} {v : Value} {row : Option Nat} (h : BM w4 q L er k v W) (hg : W.grownBy W' row) (hr : ∀ r, row = some r → w4.heap.size ≤ r ∧ ∃ o : Obj, W.heap[r]? = some o ∧ o.isCells = false) : BM w4 q L er k v W' := by
  obtain ⟨A, c, hv, hR⟩ := h.v
  exact ⟨h.lt, h.no, ⟨A, c, hv, reads_turn hR hg (fun r e => (hr r e).2)⟩, h.bi.own hg hr⟩
/-- Its loop variable, boxed. -/
structure BA (w4 : World) (q : Nat) (L : Nat → List UInt8) (er : Nat → Int) (fr : Nat → Act) (k : Nat) (v : Value) (a' : Act) (W : World) : Prop where
  m : BM w4 q L er k v W
  b : ∃ rb, w4.heap.size ≤ rb ∧ a' = fr rb ∧ Blk W rb 170 #[.int .i64 (k : Int), v]
theorem BA.own {w4 W W' : World} {q k : Nat} {L : Nat → List UInt8} {er : Nat → Int} {fr : Nat → Act} {v : Value} {a' : Act} {row : Option Nat} (h : BA w4 q L er fr k v a' W) (hg : W.grownBy W' row) (hr : ∀ r, row = some r → w4.heap.size ≤ r ∧ ∃ o : Obj, W.heap[r]? = some o ∧ o.isCells = false) : BA w4 q L er fr k v a' W' := by
  obtain ⟨rb, h1, h2, h3⟩ := h.b
  exact ⟨h.m.own hg hr, rb, h1, h2, blk_own h3 hg hr⟩
/-- What stands where a slot's error is answered. -/
structure BX (w w4 : World) (q : Nat) (E : Int) (W : World) : Prop where
  ne : E ≠ 0
  below : Below w.heap.size w W
  x : Blk W q 115 #[.slice none 0 0]
  y : Blk W (q + 1) 25 #[.int .i64 E]
theorem BX.own {w w4 W W' : World} {q : Nat} {E : Int} {row : Option Nat} (h : BX w w4 q E W) (hw : w.heap.size ≤ w4.heap.size) (hg : W.grownBy W' row) (hr : ∀ r, row = some r → w4.heap.size ≤ r ∧ ∃ o : Obj, W.heap[r]? = some o ∧ o.isCells = false) : BX w w4 q E W' :=
  ⟨h.ne, h.below.grown hg h.below.size (fun k e => by have := (hr k e).1; omega), blk_own h.x hg hr, blk_own h.y hg hr⟩

theorem infoRoot : (Tryz.prog.info? 35).map (fun i => (i.zero, i.size, i.bytes)) = some (some (.agg #[.int .u64 0, .int .i64 0, .int .u32 0]), 3, 24) := by kernel_rfl
theorem load_cell1 {w : World} {a : Addr} {t : TypeId} {v : Value} (h : w.cell? a = some v) (ht : ∀ w, (isAgg t).run Tryz.prog w = .ok false w) : (loadVar t a).run Tryz.prog w = .ok v w := by
  simp [loadVar, ht, h]

theorem results_two {fn : Func} {t i : Tmp} {tmps : Array Value} {w : World} {g h : Nat} {x y : Value} (hr : fn.results = #[.cell t 115, .cell i 25]) (ht : tmps.getD t undef = .pointer (some ⟨g, 0, none⟩)) (hv : tmps.getD i undef = .pointer (some ⟨h, 0, none⟩)) (hx : w.cell? ⟨g, 0, none⟩ = some x) (hy : w.cell? ⟨h, 0, none⟩ = some y) : (results fn tmps).run Tryz.prog w = .ok (.tuple #[x, y]) w := by
  have u1 := Tryz.underlying115
  have u2 := Tryz.underlying25
  have h1 : (loadVar 115 ⟨g, 0, none⟩).run Tryz.prog w = .ok x w := load_cell1 hx (fun w => by simp [isAgg, run_underlying u1])
  have h2 : (loadVar 25 ⟨h, 0, none⟩).run Tryz.prog w = .ok y w := load_cell1 hy (fun w => by simp [isAgg, run_underlying u2])
  rw [Array.getD_eq_getD_getElem?] at ht hv
  simp [results, hr, ht, hv, h1, h2, asAddr]
/-- What stands where Both answers. -/
theorem fin_two {w W : World} {q D n c base : Nat} {x y : Value} {A : Option Addr} {xs : List Value} (v : Value) (E : Value) (hw : Below w.heap.size w W) (hq : w.heap.size ≤ q) (hD : q + 1 < D) (hx : Blk W q 115 #[x]) (hy : Blk W (q + 1) 25 #[y]) (hK : W.heap[D]? = some (.deferred (some []))) (hb : q + 1 < base) (ho : W.ownsRow base 35 3 (.slice A n c) n xs) :
    ((W.setCell ⟨q, 0, none⟩ v).setCell ⟨q + 1, 0, none⟩ E).heap[D]? = some (.deferred (some [])) ∧
    (((W.setCell ⟨q, 0, none⟩ v).setCell ⟨q + 1, 0, none⟩ E).putObj D (.deferred none)).cell? ⟨q, 0, none⟩ = some v ∧
    (((W.setCell ⟨q, 0, none⟩ v).setCell ⟨q + 1, 0, none⟩ E).putObj D (.deferred none)).cell? ⟨q + 1, 0, none⟩ = some E ∧
    (((W.setCell ⟨q, 0, none⟩ v).setCell ⟨q + 1, 0, none⟩ E).putObj D (.deferred none)).ownsRow w.heap.size 35 3 (.slice A n c) n xs ∧
    Below w.heap.size w (((W.setCell ⟨q, 0, none⟩ v).setCell ⟨q + 1, 0, none⟩ E).putObj D (.deferred none)) := by
  have h1 := (hx.set_ 0 v).far (p := ⟨q + 1, 0, none⟩) (by simp) E
  have h2 := (hy.far (p := ⟨q, 0, none⟩) (by simp) v).set_ 0 E
  have hk : Keep (fun i => i = q ∨ i = q + 1) W ((W.setCell ⟨q, 0, none⟩ v).setCell ⟨q + 1, 0, none⟩ E) := ((Keep.refl _ _).setCell _ _ (fun _ => .inl rfl)).setCell _ _ (fun _ => .inr rfl)
  generalize ((W.setCell ⟨q, 0, none⟩ v).setCell ⟨q + 1, 0, none⟩ E) = W2 at *
  have hDl : D < W.heap.size := (Array.getElem?_eq_some_iff.1 hK).1
  have hKD := (hk.block D hDl (by omega)).trans hK
  have hp : Keep (fun k => k = D) W2 (W2.putObj D (.deferred none)) := (Keep.refl _ _).grown (grownBy_putObj' _ D _) (fun k e _ => by injection e with e; exact e.symm)
  have ho2 := hk.own ho (fun g e e2 => by have := (own_is ho g e).1; omega)
  have ho3 := own_turned (B := 0) ho2 (grownBy_putObj' W2 D (.deferred none)) (fun r e => by injection e with e; subst e; exact ⟨Nat.zero_le _, _, hKD, rfl⟩)
  refine ⟨hKD, (hp.blk h1 (by omega)).cell 0, (hp.blk h2 (by omega)).cell 0, own_mono ho3 (by omega), ?_⟩
  exact (hw.trans (hk.below hw.size (fun i hi e => by omega))).trans (hp.below (Nat.le_trans hw.size hk.size) (fun i hi e => by omega))

section
attribute [local go_sem] Oper.semAt_some
set_option maxRecDepth 100000 in
set_option maxHeartbeats 4000000 in
theorem rboth_any (p : Option Addr) (er : Nat → Int) (L : Nat → List UInt8) (w : World) (hS : Slots p (fun W => Below w.heap.size w W) er L) :
    Calls Tryz.prog 87 #[.pointer p] w fun e w' => ∃ A c, e = .returned (.tuple #[.slice A (bothL er L).length c, .int .i64 (bothE er)]) ∧ w'.ownsRow w.heap.size 35 3 (.slice A (bothL er L).length c) (bothL er L).length (rowsR (bothL er L)) ∧ Below w.heap.size w w' := by
  obtain ⟨q, hq⟩ : ∃ q, w.heap.size = q := ⟨_, rfl⟩
  obtain ⟨E, hE⟩ : ∃ E, bothE er = E := ⟨_, rfl⟩
  obtain ⟨R, hR⟩ : ∃ R, bothL er L = R := ⟨_, rfl⟩
  rw [hE, hR]
  have HE := Lib.hid hE
  have HR := Lib.hid hR
  have HS := Lib.hid hS
  clear hE hR hS
  refine (callsIn_wide (n := 7)).1 ?_
  refine callsIn_of_wp_marks Tryz.func87 rfl trivial ?_
  simp only [Tryz.ntmps87, List.size_toArray, List.length_cons, List.length_nil, Nat.reduceAdd, Nat.reduceSub, Array.replicate_succ, Array.replicate_zero, List.push_toArray, List.append_toArray, List.nil_append, List.cons_append]
  gi_wp2
  refine wpIn_scope_wide ?_
  gi_wp2
  refine wpIn_label ?_
  gi_wp2_with (refine ⟨trivial, ?_⟩; gi_at_call 136; refine (callsIn_wide.2 (rslots_any p _)).mono ?_; rintro e w4 ⟨rfl, hw4⟩)
  have hs4 : w4.heap.size = q + 4 := by rw [← hw4, ← hq]; simp
  have hb4 : Below w.heap.size w w4 := by rw [← hw4]; exact ((((Below.refl _ w).alloc (Nat.le_refl _) _).alloc (by simp) _).alloc (by simp; omega) _).alloc (by simp; omega) _
  have hx4 : Blk w4 q 115 #[.slice none 0 0] := by rw [← hw4, ← hq]; exact (((Blk.new w _ _).alloc _).alloc _).alloc _
  have hy4 : Blk w4 (q + 1) 25 #[.int .i64 0] := by
    have h := ((Blk.new (w.alloc (.cells #[.slice none 0 0] 115)) 25 #[.int .i64 0]).alloc (.cells #[.slice none 0 0] 115)).alloc (.cells #[.pointer p] 24)
    rw [hw4] at h
    simpa only [World.size_alloc, hq] using h
  have hc4 : Blk w4 (q + 1 + 1) 115 #[.slice none 0 0] := by
    have h := (Blk.new ((w.alloc (.cells #[.slice none 0 0] 115)).alloc (.cells #[.int .i64 0] 25)) 115 #[.slice none 0 0]).alloc (.cells #[.pointer p] 24)
    rw [hw4] at h
    simpa only [World.size_alloc, hq] using h
  have hp4 : Blk w4 (q + 1 + 1 + 1) 24 #[.pointer p] := by
    have h := Blk.new (((w.alloc (.cells #[.slice none 0 0] 115)).alloc (.cells #[.int .i64 0] 25)).alloc (.cells #[.slice none 0 0] 115)) 24 #[.pointer p]
    rw [hw4] at h
    simpa only [World.size_alloc, hq] using h
  have hBI0 : BI w4 (q + 1 + 1) (cntL L 0) w4 := ⟨Keep.refl _ _, none, 0, hc4, World.ownsRow_nil _ _ _ _⟩
  have HX4 := Lib.hid hx4
  have HY4 := Lib.hid hy4
  have HP4 := Lib.hid hp4
  have HB4 := Lib.hid hb4
  have HQ := Lib.hid hq
  have HS4 := Lib.hid hs4
  have HBW : Hid (∀ W, Keep (fun i => i = q + 1 + 1) w4 W → Below w.heap.size w W) := Lib.hid (fun W h => HB4.out.trans (h.below (by rw [HS4.out, HQ.out]; omega) (fun i hi e => by rw [HQ.out] at hi; omega)))
  clear hw4 hx4 hy4 hc4 hp4 hb4
  obtain ⟨i0, hi, hz0, hz1, hz2⟩ := info_parts infoRoot
  refine wpIn_rangeFunc_movesV rfl (by omega) (gf := 179) (lb := #[.pointer (some ⟨q + 1 + 1 + 1, 0, none⟩)]) rfl trivial (enters_of Tryz.func179 (by kernel_rfl) rfl)
    (slots_moves 6 (by omega) (q + 1 + 1 + 1) HS.out w4) (Below.refl _ _) (fun _ _ => rfl)
    (fun k W => k ≤ 2 ∧ (∀ j, j < k → er j = 0) ∧ BI w4 (q + 1 + 1) (cntL L k) W)
    (BM w4 (q + 1 + 1) L er)
    (fun W => (er 0 = 0 ∧ er 1 = 0) ∧ BI w4 (q + 1 + 1) (cntL L 2) W)
    (fun c W => c = .ret ∧ BX w w4 q E W)
    (fun k W W' row hs hg hr => ⟨hs.1, hs.2.1, hs.2.2.own hg hr⟩)
    (fun _ W W' row hs hg hr => ⟨hs.1, hs.2.own hg hr⟩)
    (fun c W W' row hs hg hr => ⟨hs.1, hs.2.own (by rw [HS4.out, HQ.out]; omega) hg hr⟩)
    (fun k W hs => ⟨hs.1, (hs.2.2.keep.blk HP4.out (by omega)).cell 0, HBW.out W hs.2.2.keep⟩)
    (fun k W W' hs hx i o hi ho => by
      rcases hx with ⟨x, hx⟩ | hz
      · exact (hx.2.2.block i (Array.getElem?_eq_some_iff.1 hi).1).trans hi
      · rw [hz.2]; exact hi)
    (fun k x W W' hs hx => ⟨hx.1, hs.2.1, hx.2.1, hs.2.2.moved hx.2.2⟩)
    (fun k W W' hs hz => by
      obtain ⟨rfl, rfl⟩ := hz
      exact ⟨⟨hs.2.1 0 (by omega), hs.2.1 1 (by omega)⟩, hs.2.2⟩)
    ⟨by omega, fun j hj => by omega, hBI0⟩
    (fun k v a' W => BA w4 (q + 1 + 1) L er (fun rb => { tmps := #[.pointer p, undef, .pointer (some ⟨q, 0, none⟩), .pointer (some ⟨q + 1, 0, none⟩), .pointer (some ⟨q + 1 + 1, 0, none⟩), .pointer (some ⟨rb, 0, none⟩), .int .i64 (er k), undef, undef, .pointer p, .func (.func 179) #[] #[.pointer (some ⟨q + 1 + 1 + 1, 0, none⟩)], .agg #[.int .i64 (k : Int), v], .int .i64 (er k), undef, undef, undef, undef, undef, undef, undef, undef, undef, undef, undef, undef, undef, undef, undef, undef, undef], defers := [] }) k v a' W) (fun k v a' _ W W' row hs hg hr => hs.own hg hr)
    ?assign ?body ?done ?stop
  case assign =>
    intro l k v W K hI hK
    obtain ⟨A, c, rfl, hR⟩ := hI.v
    have HK := Lib.hid hK
    have HI := Lib.hid hI
    have HRD := Lib.hid hR
    clear hK hI hR
    unfold slAt
    gi_wp2
    exact HK.out _ _ (KeepsFrom.of_grownBy (World.grownBy_alloc W _ none) (fun j e => by cases e)) ⟨⟨HI.out.lt, HI.out.no, ⟨A, c, rfl, (HRD.out.alloc (Nat.le_refl _) _).more (by simp)⟩, HI.out.bi.moved ((Below.refl _ W).alloc (Nat.le_refl _) _)⟩, W.heap.size, HI.out.bi.keep.size, rfl, Blk.new W _ _⟩
  case body =>
    rintro l k v a' W ⟨hM, rb, hrb, rfl, hbx⟩
    obtain ⟨A, c, rfl, hRd⟩ := hM.v
    have hk2 := hM.lt
    have hno := hM.no
    have hwq : q + 4 ≤ W.heap.size := by have := hM.bi.keep.size; omega
    have b0 := hbx.cell 0
    have b1 := hbx.cell 1
    have hBi := hM.bi
    clear hM
    by_cases he : er k = 0
    case neg =>
      have hne : (er k != 0) = true := by rw [bne_iff_ne]; exact he
      have hEk : er k = E := by
        have h := HE.out
        unfold bothE at h
        rcases k with _ | _ | k
        · rw [if_neg he] at h; exact h
        · rw [if_pos (hno 0 (by omega))] at h; exact h
        · omega
      have hX := hBi.keep.blk HX4.out (by omega)
      have hY := hBi.keep.blk HY4.out (by omega)
      have x0 := hX.cell 0
      have x0f := hX.frozen 0
      have y0 := hY.cell 0
      have y0f := hY.frozen 0
      have HFIN : Hid (KeepsFrom w4.heap.size W ((W.setCell ⟨q, 0, none⟩ (.slice none 0 0)).setCell ⟨q + 1, 0, none⟩ (.int .i64 (er k))) ∧ BX w w4 q E ((W.setCell ⟨q, 0, none⟩ (.slice none 0 0)).setCell ⟨q + 1, 0, none⟩ (.int .i64 (er k)))) := Lib.hid ⟨((KeepsOthers.setCell _ _ _).trans (KeepsOthers.setCell _ _ _)).from _, by rw [← hEk]; exact he, by
        have hb := HBW.out W hBi.keep
        exact (hb.setCell (Nat.le_of_eq HQ.out) _).setCell (by show w.heap.size ≤ q + 1; rw [HQ.out]; omega) _, (hX.set_ 0 _).far (by simp) _, by
        have := (hY.far (p := ⟨q, 0, none⟩) (by simp) (.slice none 0 0)).set_ 0 (.int .i64 (er k))
        rw [← hEk]
        exact this⟩
      clear hBi hX hY hRd hbx b0 b1 hno hEk he
      gi_wp2
      exact ⟨HFIN.out.1, rfl, HFIN.out.2⟩
    case pos =>
      have hne : (er k != 0) = false := by rw [bne_eq_false_iff_eq]; exact he
      have HNO : Hid (∀ j, j < k + 1 → er j = 0) := Lib.hid (fun j hj => by
        rcases Nat.lt_or_ge j k with h | h
        · exact hno j h
        · obtain rfl : j = k := by omega
          exact he)
      have HRT := Lib.hid (rroot_any k A c (L k).length (L k) W hk2 rfl hRd)
      obtain ⟨cb, hcb⟩ : ∃ b, countsR k (L k) = b := ⟨_, rfl⟩
      have hcr : cntR k (L k) = if cb = true then candR (L k) else noR := by unfold cntR; rw [hcb]
      have hcl : cntL L (k + 1) = cntL L k ++ if cb = true then [candR (L k)] else [] := by
        show cntL L k ++ (if countsR k (L k) = true then [candR (L k)] else []) = _
        rw [hcb]
      rw [hcr, hcb] at HRT
      have HCL := Lib.hid hcl
      have HBI := Lib.hid hBi
      have HK2 := Lib.hid hk2
      generalize (L k).length = n at *
      clear hcr hcl hBi hk2 hcb hno he hRd
      have hfw : (Fence.wide.inRound l).fn 137 := trivial
      cases cb
      · simp only [Bool.false_eq_true, if_false, List.append_nil] at HRT HCL
        unfold rtv at HRT
        gi_wp2_with (refine ⟨trivial, ?_⟩; gi_at_call 137; refine (CallsIn.inRound l (callsIn_wide.2 HRT.out)).mono ?_; rintro e w5 ⟨rfl, b5⟩; have B5 := Lib.hid b5; clear b5)
        have hbb := B5.out.alloc B5.out.size (.cells #[.int .u64 noR.n, .int .i64 noR.len, .int .u32 noR.sm] 35)
        refine ⟨⟨hbb.size, fun i o _ hi _ => (hbb.block i (Array.getElem?_eq_some_iff.1 hi).1).trans hi⟩, by have := HK2.out; omega, HNO.out, ?_⟩
        rw [HCL.out]
        exact HBI.out.moved hbb
      · simp only [if_true] at HRT HCL
        obtain ⟨T, hT⟩ : ∃ T, candR (L k) = T := ⟨_, rfl⟩
        rw [hT] at HRT HCL
        obtain ⟨m, hm⟩ : ∃ m, (cntL L k).length = m := ⟨_, rfl⟩
        have hm2 : m ≤ 2 := by have := cntL_le L k; have := HK2.out; omega
        have HFIN : Hid (∀ w5, Below W.heap.size W w5 → ∃ A1 c1, w5.cell? ⟨q + 1 + 1, 0, none⟩ = some (.slice A1 m c1) ∧
            (((w5.alloc (.cells #[.int .u64 T.n, .int .i64 T.len, .int .u32 T.sm] 35)).alloc (.cells #[.int .u64 T.n, .int .i64 T.len, .int .u32 T.sm] 35)).ownsRow w4.heap.size 35 3 (.slice A1 m c1) m (rowsR (cntL L k)) ∧
            ∀ v' w9, w9.ownsRow w4.heap.size 35 3 v' (m + 1) (rowsR (cntL L k) ++ encR T) → (((w5.alloc (.cells #[.int .u64 T.n, .int .i64 T.len, .int .u32 T.sm] 35)).alloc (.cells #[.int .u64 T.n, .int .i64 T.len, .int .u32 T.sm] 35))).grownBy w9 (Value.slice A1 m c1).ownBlock →
              w9.cell? ⟨q + 1 + 1, 0, none⟩ = some (.slice A1 m c1) ∧ w9.frozen? ⟨q + 1 + 1, 0, none⟩ = false ∧ ∃ A' c', v' = .slice A' (m + 1) c' ∧ KeepsFrom w4.heap.size W (w9.setCell ⟨q + 1 + 1, 0, none⟩ v') ∧ BI w4 (q + 1 + 1) (cntL L (k + 1)) (w9.setCell ⟨q + 1 + 1, 0, none⟩ v'))) := Lib.hid (fun w5 b5 => by
          have hbi := HBI.out.moved b5
          obtain ⟨hkp, A1, c1, hB, hO⟩ := hbi
          rw [hm] at hB hO
          obtain ⟨w7, hw7⟩ : ∃ w7, ((w5.alloc (.cells #[.int .u64 T.n, .int .i64 T.len, .int .u32 T.sm] 35)).alloc (.cells #[.int .u64 T.n, .int .i64 T.len, .int .u32 T.sm] 35)) = w7 := ⟨_, rfl⟩
          have hb7 : Below w5.heap.size w5 w7 := by rw [← hw7]; exact ((Below.refl _ _).alloc (Nat.le_refl _) _).alloc (by simp) _
          rw [hw7]
          have hO7 := own_stay hO hb7
          have hB7 := hB.below hb7 hB.lt
          have hkp7 : Keep (fun i => i = q + 1 + 1) w4 w7 := hkp.trans (Keep.of_below (S := fun _ => False) hb7) (fun _ _ h => h.elim)
          have h57 : Below W.heap.size W w7 := b5.trans (hb7.mono b5.size)
          refine ⟨A1, c1, hB.cell 0, hO7, fun v' w9 ho hg => ?_⟩
          have hin := own_is hO7
          have hk1 : Keep (fun i => w4.heap.size ≤ i) w7 w9 := (Keep.refl _ _).grown hg (fun g e _ => (hin g e).1)
          have hq4 : q + 1 + 1 < w4.heap.size := by rw [HS4.out]; omega
          have hB9 := hk1.blk hB7 (by omega)
          obtain ⟨A', c', hv'⟩ : ∃ A' c', v' = .slice A' (m + 1) c' := by
            rcases ho.2 with ⟨_, h0⟩ | ⟨g, cap, cur, e, _⟩
            · omega
            · exact ⟨_, cap, e⟩
          have hkq : Keep (fun i => i = q + 1 + 1) w9 (w9.setCell ⟨q + 1 + 1, 0, none⟩ v') := (Keep.refl _ _).setCell _ _ (fun _ => rfl)
          refine ⟨hB9.cell 0, hB9.frozen 0, A', c', hv', ⟨?_, fun i o hBi hi ho' => ?_⟩, ?_⟩
          · exact Nat.le_trans h57.size (Nat.le_trans hk1.size hkq.size)
          · have hil : i < W.heap.size := (Array.getElem?_eq_some_iff.1 hi).1
            have hi7 := (h57.block i hil).trans hi
            have hir : some i ≠ (Value.slice A1 m c1).ownBlock := fun e => by
              obtain ⟨_, _, cur, hcb⟩ := hin i e.symm
              unfold Blk at hcb
              rw [hi7] at hcb
              injection hcb with hcb
              subst hcb
              cases ho'
            exact (Below.heap_setCell w9 ⟨q + 1 + 1, 0, none⟩ v' i (by show i ≠ q + 1 + 1; omega)).trans ((hg.block i (Nat.lt_of_lt_of_le hil h57.size) hir).trans hi7)
          · have hln : (cntL L (k + 1)).length = m + 1 := by rw [HCL.out, List.length_append, hm]; rfl
            have hrw : rowsR (cntL L (k + 1)) = rowsR (cntL L k) ++ encR T := by rw [HCL.out]; simp [rowsR]
            refine ⟨(hkp7.trans hk1 (fun i hi e => by omega)).trans hkq (fun _ _ e => e), A', c', ?_, ?_⟩
            · rw [hln, ← hv']
              exact hB9.set_ 0 v'
            · rw [hln, hrw, ← hv']
              exact hkq.own ho (fun g e => by have := (own_is ho g e).1; omega))
        have h1c : ∀ u ∈ encR T, u.oneCell' = true := fun u hu => rowsR_one [T] u (by simpa [rowsR] using hu)
        have H1C := Lib.hid h1c
        have HSZ : Hid (w4.heap.size ≤ W.heap.size) := Lib.hid HBI.out.keep.size
        have HNEW : Hid (∀ (W8 : World) j u, (encR T)[j]? = some u → (W8.alloc (.cells #[.int .u64 T.n, .int .i64 T.len, .int .u32 T.sm] 35)).cell? ((⟨W8.heap.size, 0, none⟩ : Addr).add j) = some u) := Lib.hid (fun W8 j u hu => by
          rw [Addr.add_mid, Nat.zero_add, (Blk.new W8 35 _).cell j, List.getElem?_toArray]
          exact hu)
        clear hT hm h1c HCL
        unfold rtv at HRT
        gi_wp2_with (first
          | (refine ⟨trivial, ?_⟩; gi_at_call 137; refine (CallsIn.inRound l (callsIn_wide.2 HRT.out)).mono ?_; rintro e w5 ⟨rfl, b5⟩; have B5 := Lib.hid b5; obtain ⟨A1, c1, q2, o7, hf⟩ := HFIN.out w5 b5; have O7 := Lib.hid o7; have HF := Lib.hid hf
             have q3 : (w5.alloc (.cells #[.int .u64 T.n, .int .i64 T.len, .int .u32 T.sm] 35)).cell? ⟨q + 1 + 1, 0, none⟩ = some (.slice A1 m c1) := (World.cell?_alloc_lt w5 _ ⟨q + 1 + 1, 0, none⟩ (by show q + 1 + 1 < w5.heap.size; have := b5.size; omega)).trans q2
             clear b5 o7 hf)
          | (gi_at_builtin; refine wpListIn_append_own _ rfl _ _ 115 rfl w4.heap.size 35 i0 (.agg #[.int .u64 0, .int .i64 0, .int .u32 0]) 3 24 Tryz.underlying115 hi hz0 hz1 hz2 rfl (by decide) _ m _ rfl O7.out ⟨w5.heap.size + 1, 0, none⟩ 1 1 (encR T) rfl rfl (by have h := HNEW.out (w5.alloc (.cells #[.int .u64 T.n, .int .i64 T.len, .int .u32 T.sm] 35)); rw [World.size_alloc] at h; exact h) H1C.out (by unfold maxLen; omega) (by omega) (by have h1 := B5.out.size; have h2 := HSZ.out; simp; omega) ?_; intro v' w9 hown hgrow _; obtain ⟨cq9, fq9, A', c', rfl, hf9⟩ := HF.out v' w9 hown hgrow; have HF9 := Lib.hid hf9; clear hown hgrow hf9))
        exact ⟨HF9.out.1, by have := HK2.out; omega, HNO.out, HF9.out.2⟩
  case done =>
    rintro D W hD ⟨⟨h0, h1⟩, hBi⟩ hK
    have hE0 : E = 0 := by
      have h := HE.out
      unfold bothE at h
      rw [if_pos h0, h1] at h
      exact h.symm
    have hR0 : R = sortR (cntL L 2) := by
      have h := HR.out
      unfold bothL at h
      rw [HE.out, if_pos hE0] at h
      exact h.symm
    subst hE0
    have hlen : (cntL L 2).length = R.length := by rw [hR0, sortR_length]
    have hle := cntL_le L 2
    obtain ⟨hkp, A, c, hB, hO⟩ := hBi
    have hC := rorder_any (cntL L 2) W rfl hle hO
    rw [← hR0] at hC
    rw [hlen] at hB hO hC
    have cq := hB.cell 0
    have hXW := hkp.blk HX4.out (by omega)
    have hYW := hkp.blk HY4.out (by omega)
    have hown := own_is hO
    have HCO := Lib.hid hC
    have HFIN : Hid (∀ w8, w8.ownsRow w4.heap.size 35 3 (.slice A R.length c) R.length (rowsR R) → Keep (fun i => (Value.slice A R.length c).ownBlock = some i) W w8 → w8.cell? ⟨q + 1 + 1, 0, none⟩ = some (.slice A R.length c) ∧ w8.cell? ⟨q, 0, none⟩ = some (.slice none 0 0) ∧ w8.frozen? ⟨q, 0, none⟩ = false ∧ w8.cell? ⟨q + 1, 0, none⟩ = some (.int .i64 0) ∧ w8.frozen? ⟨q + 1, 0, none⟩ = false ∧ Below w.heap.size w w8 ∧ Blk w8 q 115 #[.slice none 0 0] ∧ Blk w8 (q + 1) 25 #[.int .i64 0] ∧ w8.heap[D]? = some (.deferred (some []))) := Lib.hid (fun w8 ho hk => by
      have hge : ∀ i, i < w4.heap.size → ¬ (Value.slice A R.length c).ownBlock = some i := fun i hi e => by have := (hown i e).1; omega
      have e1 := hk.blk hB (hge _ (by omega))
      have e2 := hk.blk hXW (hge _ (by omega))
      have e3 := hk.blk hYW (hge _ (by omega))
      refine ⟨e1.cell 0, e2.cell 0, e2.frozen 0, e3.cell 0, e3.frozen 0, (HBW.out W hkp).trans (hk.below (HBW.out W hkp).size (fun i hi e => hge i (by rw [HQ.out] at hi; omega) e)), e2, e3, ?_⟩
      refine (hk.block D (Array.getElem?_eq_some_iff.1 hK).1 (fun e => ?_)).trans hK
      obtain ⟨_, _, cur, hcb⟩ := hown D e
      unfold Blk at hcb
      rw [hK] at hcb
      cases hcb)
    have hDq : q + 1 < D := by omega
    generalize hn : R.length = n at *
    have HN := Lib.hid hn
    clear hn
    clear hB hO hC hown hkp hXW hYW hK hR0 h0 h1 hlen hle
    gi_wp2_with (refine ⟨trivial, ?_⟩; gi_at_call 138; refine (callsIn_wide.2 HCO.out).mono ?_; rintro e w8 ⟨rfl, o8, k8⟩; obtain ⟨z0, z1, z2, z3, z4, hb8, hx8, hy8, hd8⟩ := HFIN.out w8 o8 k8; have HF := Lib.hid (fin_two (.slice A n c) (.int .i64 0) hb8 (Nat.le_of_eq HQ.out) hDq hx8 hy8 hd8 (show q + 1 < w4.heap.size by omega) o8); clear o8 k8 hb8 hx8 hy8 hd8)
    refine ⟨by simp, .inl ⟨_, _, rfl, run_takeDeferred HF.out.1, ?_⟩⟩
    refine ⟨_, results_two rfl rfl rfl HF.out.2.1 HF.out.2.2.1, ?_⟩
    rw [HN.out]
    exact ⟨A, c, rfl, HF.out.2.2.2.1, HF.out.2.2.2.2⟩
  case stop =>
    rintro D c' W hD ⟨rfl, hX⟩ hK
    have hR0 : R = [] := by
      have h := HR.out
      unfold bothL at h
      rw [HE.out, if_neg hX.ne] at h
      exact h.symm
    subst hR0
    have hDl : D < W.heap.size := (Array.getElem?_eq_some_iff.1 hK).1
    have hp : Keep (fun k => k = D) W (W.putObj D (.deferred none)) := (Keep.refl _ _).grown (grownBy_putObj' _ D _) (fun k e _ => by injection e with e; exact e.symm)
    have e1 := (hp.blk hX.x (by omega)).cell 0
    have e2 := (hp.blk hX.y (by omega)).cell 0
    have hb := hX.below.trans (hp.below hX.below.size (fun i hi e => by rw [HQ.out] at hi; omega))
    have HE1 := Lib.hid e1
    have HE2 := Lib.hid e2
    have HBB := Lib.hid hb
    have HK := Lib.hid hK
    clear e1 e2 hb hp hDl hX hK
    gi_wp2
    refine ⟨by simp, .inl ⟨_, _, rfl, run_takeDeferred HK.out, ?_⟩⟩
    exact ⟨_, results_two rfl rfl rfl HE1.out HE2.out, none, 0, rfl, World.ownsRow_nil _ _ _ _, HBB.out⟩
end
end Go.Proofs.YtkebbjodkhjbmaaGreat.root

namespace Go.Proofs.YtkebbjodkhjbmaaGreat.root
open Go.RowKit Go.Proofs.YtkebbjodkhjbmaaGreat.crc

def SlotsAt (w : World) (p : Option Addr) (er : Nat → Int) (L : Nat → List UInt8) : Prop := ∀ W, Below w.heap.size w W → Slots p (fun W' => Below W.heap.size W W') er L
theorem SlotsAt.next {w w' : World} {p : Option Addr} {er : Nat → Int} {L : Nat → List UInt8} (h : SlotsAt w p er L) (hb : Below w.heap.size w w') : SlotsAt w' p er L := fun W hW => h W (hb.trans (hW.mono hb.size))
theorem slots_dk {w : World} {d : DAt} {kv : Value} {s : RSt} (h : DK w d kv s) : SlotsAt w (some ⟨d.b, 0, none⟩) (fun k => readErr3 s (k : Int)) (fun k => readOut3 s (k : Int)) := fun W hW =>
  ⟨fun X Y hX hY => hX.trans (hY.mono hX.size), fun k _ X hX => by
    refine (dread_any (k : Int) ((h.below hW).below hX)).mono ?_
    rintro e w' ⟨v, rfl, hro⟩
    obtain ⟨A, c, rfl, hr⟩ := hro.reads
    exact ⟨A, c, rfl, hr, hro.1⟩⟩
theorem slots_nil (w : World) : SlotsAt w none (fun _ => 1) (fun _ => []) := fun W hW =>
  ⟨fun X Y hX hY => hX.trans (hY.mono hX.size), fun k _ X hX => by
    refine (dread_dead none (k : Int) X (Dead.nil X)).mono ?_
    rintro e w' ⟨rfl, rfl⟩
    exact ⟨none, 0, rfl, Reads.none_, Below.refl _ _⟩⟩

theorem own_root {w : World} {base n c : Nat} {A : Option Addr} {r : RV} {xs : List Value} (h : w.ownsRow base 35 3 (.slice A n c) n (encR r ++ xs)) (h0 : 0 < n) :
    ∃ g, A = some ⟨g, 0, none⟩ ∧ w.cell? ⟨g, 0, none⟩ = some (.int .u64 r.n) ∧ w.cell? ⟨g, 1, none⟩ = some (.int .i64 r.len) ∧ w.cell? ⟨g, 2, none⟩ = some (.int .u32 r.sm) := by
  rcases h.2 with ⟨_, e0⟩ | ⟨g, cap, cur, e, _, hh, _, _, _, ht⟩
  · omega
  · injection e with e
    have hb : Blk w g 35 cur := hh
    have hc : ∀ j v, (encR r)[j]? = some v → w.cell? ⟨g, j, none⟩ = some v := fun j v hv => by
      have hj : j < 3 := (List.getElem?_eq_some_iff.1 hv).1
      rw [hb.cell, ← Array.getElem?_toList]
      have h1 : (cur.toList.take (n * 3))[j]? = (encR r ++ xs)[j]? := by rw [ht]
      rw [List.getElem?_take_of_lt (by omega), List.getElem?_append_left (by show j < 3; exact hj)] at h1
      exact h1.trans hv
    exact ⟨g, e, hc 0 _ rfl, hc 1 _ rfl, hc 2 _ rfl⟩

set_option maxRecDepth 100000 in
set_option maxHeartbeats 4000000 in
theorem rload_any {p : Option Addr} {er : Nat → Int} {L : Nat → List UInt8} {w : World} {E : Int} {r : RV} (hS : SlotsAt w p er L) (hE : bothE er = E) (hr : (bothL er L).headD noR = r) :
    Calls Tryz.prog 85 #[.pointer p] w fun e w' => e = .returned (.tuple #[rtv r, .int .i64 E]) ∧ Below w.heap.size w w' := by
  obtain ⟨w0, hw0⟩ : ∃ w0, w.alloc (.cells #[.int .u64 0, .int .i64 0, .int .u32 0] 35) = w0 := ⟨_, rfl⟩
  have hx0 : Blk w0 w.heap.size 35 #[.int .u64 0, .int .i64 0, .int .u32 0] := by rw [← hw0]; exact Blk.new w _ _
  have hb0 : Below w.heap.size w w0 := by rw [← hw0]; exact (Below.refl _ _).alloc (Nat.le_refl _) _
  have hB := rboth_any p er L w0 (hS w0 hb0)
  obtain ⟨R, hR⟩ : ∃ R, bothL er L = R := ⟨_, rfl⟩
  have hne : E ≠ 0 → R = [] := fun h => by rw [← hR]; unfold bothL; rw [hE, if_neg h]
  rw [hE, hR] at hB
  rw [hR] at hr
  have HX := Lib.hid hx0
  have HB0 := Lib.hid hb0
  have HNE := Lib.hid hne
  clear hx0 hb0 hS hR hne hE
  unfold rtv
  rcases R with _ | ⟨r0, rs⟩
  · have hr' : noR = r := hr
    subst hr'
    have HB := Lib.hid hB
    simp only [List.length_nil] at HB
    clear hB hr HNE
    by_cases h0 : E = 0
    · subst h0
      go_enter Tryz.func85, Tryz.ntmps85
      go_wp2_with (go_at_call 87; refine HB.out.mono ?_; rintro e w1 ⟨A, c, rfl, _, b1⟩; clear hw0; have hx1 := HX.out.below b1 HX.out.lt; have x0 := hx1.cell 0; have x1 := hx1.cell 1; have x2 := hx1.cell 2; have f0 := hx1.frozen 0; have f1 := hx1.frozen 1; have f2 := hx1.frozen 2; have HX1 := Lib.hid hx1; have B1 := Lib.hid (HB0.out.trans (b1.mono HB0.out.size)); clear hx1 b1)
      refine bodyPost_ret (results_root2 rfl rfl rfl (blk_root _ _ _ HX1.out)) rfl ?_
      have hk := keep_root w1 w.heap.size (.int .u64 0) (.int .i64 0) (.int .u32 0)
      exact ⟨rfl, B1.out.trans (hk.below B1.out.size (fun i hi e => by omega))⟩
    · have hn0 : (E != 0) = true := by rw [bne_iff_ne]; exact h0
      clear h0
      go_enter Tryz.func85, Tryz.ntmps85
      go_wp2_with (go_at_call 87; refine HB.out.mono ?_; rintro e w1 ⟨A, c, rfl, _, b1⟩; clear hw0; have hx1 := HX.out.below b1 HX.out.lt; have x0 := hx1.cell 0; have x1 := hx1.cell 1; have x2 := hx1.cell 2; have f0 := hx1.frozen 0; have f1 := hx1.frozen 1; have f2 := hx1.frozen 2; have HX1 := Lib.hid hx1; have B1 := Lib.hid (HB0.out.trans (b1.mono HB0.out.size)); clear hx1 b1)
      refine bodyPost_ret (results_root2 rfl rfl rfl (blk_root _ _ _ HX1.out)) rfl ?_
      have hk := keep_root w1 w.heap.size (.int .u64 0) (.int .i64 0) (.int .u32 0)
      exact ⟨rfl, B1.out.trans (hk.below B1.out.size (fun i hi e => by omega))⟩
  · obtain rfl : r0 = r := hr
    obtain rfl : E = 0 := by
      rcases Decidable.em (E = 0) with h | h
      · exact h
      · cases HNE.out h
    have HB := Lib.hid hB
    simp only [List.length_cons] at HB
    clear hB HNE
    generalize rs.length = m at *
    go_enter Tryz.func85, Tryz.ntmps85
    go_wp2_with (go_at_call 87; refine HB.out.mono ?_; rintro e w1 ⟨A, c, rfl, o1, b1⟩; clear hw0; obtain ⟨g, rfl, y0, y1, y2⟩ := own_root (r := r0) (xs := rowsR rs) o1 (by omega); have hx1 := HX.out.below b1 HX.out.lt; have x0 := hx1.cell 0; have x1 := hx1.cell 1; have x2 := hx1.cell 2; have f0 := hx1.frozen 0; have f1 := hx1.frozen 1; have f2 := hx1.frozen 2; have HX1 := Lib.hid hx1; have B1 := Lib.hid (HB0.out.trans (b1.mono HB0.out.size)); clear hx1 b1 o1)
    refine bodyPost_ret (results_root2 rfl rfl rfl (blk_root _ _ _ HX1.out)) rfl ?_
    have hk := keep_root w1 w.heap.size (.int .u64 r0.n) (.int .i64 r0.len) (.int .u32 r0.sm)
    exact ⟨rfl, B1.out.trans (hk.below B1.out.size (fun i hi e => by omega))⟩

/-- What a Save answers, and leaves. -/
def saveE (s : RSt) (r : RV) : Int := if okR r = true then (if writeErr s ((r.n % 2 : Nat) : Int) (sectR r) = 0 then (if (writeK s ((r.n % 2 : Nat) : Int) (sectR r)).down then 31 else 0) else writeErr s ((r.n % 2 : Nat) : Int) (sectR r)) else 60
def saveS (s : RSt) (r : RV) : RSt := if okR r = true then (if writeErr s ((r.n % 2 : Nat) : Int) (sectR r) = 0 then flushK (writeK s ((r.n % 2 : Nat) : Int) (sectR r)) else writeK s ((r.n % 2 : Nat) : Int) (sectR r)) else s

set_option maxRecDepth 100000 in
set_option maxHeartbeats 4000000 in
theorem lsave {N : Nat} {w0 w : World} {d : DAt} {s s' : RSt} {er : Int} (r : RV) (hf : r.Fine) (L : Lives N w0 w d s) (hm : Few s) (he : saveE s r = er) (hs : saveS s r = s') :
    Calls Tryz.prog 72 #[.pointer (some ⟨d.b, 0, none⟩), rtv r] w fun e w' => e = .returned (.int .i64 er) ∧ Lives N w0 w' d s' ∧ Keep d.foot w w' := by
  obtain ⟨wa, hwa⟩ : ∃ wa, w.alloc (.cells #[.int .u64 r.n, .int .i64 r.len, .int .u32 r.sm] 35) = wa := ⟨_, rfl⟩
  have hx : Blk wa w.heap.size 35 #[.int .u64 r.n, .int .i64 r.len, .int .u32 r.sm] := by rw [← hwa]; exact Blk.new w _ _
  have hba : Below w.heap.size w wa := by rw [← hwa]; exact (Below.refl _ _).alloc (Nat.le_refl _) _
  have x0 := hx.cell 0
  have x1 := hx.cell 1
  have x2 := hx.cell 2
  have EN := Lib.hid (rencode_any r wa hf)
  unfold errR outR at EN
  have HX := Lib.hid hx
  have HBA := Lib.hid hba
  have HL := Lib.hid L
  have HFD : Hid (∀ k, d.foot k → k < w.heap.size) := Lib.hid (fun k hk => by
    obtain ⟨kv, h⟩ := L.dk
    exact h.lt k hk)
  clear hx hba L
  unfold saveE at he
  unfold saveS at hs
  cases hok : okR r
  · rw [hok] at EN he hs
    simp only [Bool.false_eq_true, if_false] at EN he hs
    subst he hs
    clear hok hf hm
    unfold rtv
    go_enter Tryz.func72, Tryz.ntmps72
    go_wp2_with (go_at_call 127; refine EN.out.mono ?_; rintro e w1 ⟨v, rfl, g⟩; obtain ⟨A1, c1, rfl, o1, b1⟩ := gives_len g rfl; clear hwa; have B1 := Lib.hid (HBA.out.trans (b1.mono HBA.out.size)); clear g o1 b1)
    go_ret
    exact ⟨rfl, HL.out.next HL.out.lt B1.out, Keep.of_below B1.out⟩
  · rw [hok] at EN he hs
    simp only [if_true] at EN he hs
    have hsl := sectR_length r
    obtain ⟨T, hT⟩ : ∃ T, sectR r = T := ⟨_, rfl⟩
    rw [hT] at EN he hs hsl
    have HSO := Lib.hid (fun W => rslotof_any r.n W hf.n)
    obtain ⟨a, ha⟩ : ∃ a, r.n % 2 = a := ⟨_, rfl⟩
    rw [ha] at HSO he hs
    have HM := Lib.hid hm
    have HTL := Lib.hid hsl
    have HWR : Hid (∀ (A : Option Addr) (c : Nat) (W : World), Below w.heap.size w W → Reads W W.heap.size 1 A 128 (T.map bv) → Calls Tryz.prog 80 #[.pointer (some ⟨d.b, 0, none⟩), .int .i64 (a : Int), .slice A 128 c] W fun e w' => e = .returned (.int .i64 (writeErr s (a : Int) T)) ∧ Lives N w0 w' d (writeK s (a : Int) T) ∧ Keep d.foot W w') := Lib.hid (fun A c W hb hr => lwrite (a : Int) A 128 c T (HL.out.next HL.out.lt hb) HTL.out hr HM.out rfl rfl)
    clear hok hf hT ha hsl hm
    by_cases hw : writeErr s (a : Int) T = 0
    · rw [if_pos hw] at he hs
      rw [hw] at HWR
      obtain ⟨s1, hs1⟩ : ∃ s1, writeK s (a : Int) T = s1 := ⟨_, rfl⟩
      rw [hs1] at HWR he hs
      have HSE := Lib.hid he
      have HSS := Lib.hid hs
      clear hw hs1 he hs
      unfold rtv
      go_enter Tryz.func72, Tryz.ntmps72
      go_wp2_with (first
        | (go_at_call 127; refine EN.out.mono ?_; rintro e w1 ⟨v, rfl, g⟩; obtain ⟨A1, c1, rfl, o1, b1⟩ := gives_len g HTL.out; clear hwa; have B1 := Lib.hid (HBA.out.trans (b1.mono HBA.out.size)); have O1 := Lib.hid o1; have hx1 := HX.out.below b1 HX.out.lt; have y0 := hx1.cell 0; clear g o1 b1 hx1)
        | (go_at_call 128; refine (HSO.out _).mono ?_; rintro e _ ⟨rfl, rfl⟩)
        | (go_at_call 80; refine (HWR.out A1 c1 _ B1.out (Reads.of_own O1.out)).mono ?_; rintro e w2 ⟨rfl, l2, k2⟩; have L2 := Lib.hid l2; have K2 := Lib.hid k2; clear l2 k2)
        | (go_at_call 82; refine (lflush L2.out HSE.out HSS.out).mono ?_; rintro e w3 ⟨rfl, l3, k3⟩; have L3 := Lib.hid l3; have K3 := Lib.hid k3; clear l3 k3))
      go_ret
      exact ⟨rfl, L3.out, ((Keep.of_below B1.out).trans K2.out (fun _ _ h => h)).trans K3.out (fun _ _ h => h)⟩
    · rw [if_neg hw] at he hs
      rw [he, hs] at HWR
      rw [he] at hw
      have hn0 : (er != 0) = true := by rw [bne_iff_ne]; exact hw
      clear hw he hs
      unfold rtv
      go_enter Tryz.func72, Tryz.ntmps72
      go_wp2_with (first
        | (go_at_call 127; refine EN.out.mono ?_; rintro e w1 ⟨v, rfl, g⟩; obtain ⟨A1, c1, rfl, o1, b1⟩ := gives_len g HTL.out; clear hwa; have B1 := Lib.hid (HBA.out.trans (b1.mono HBA.out.size)); have O1 := Lib.hid o1; have hx1 := HX.out.below b1 HX.out.lt; have y0 := hx1.cell 0; clear g o1 b1 hx1)
        | (go_at_call 128; refine (HSO.out _).mono ?_; rintro e _ ⟨rfl, rfl⟩)
        | (go_at_call 80; refine (HWR.out A1 c1 _ B1.out (Reads.of_own O1.out)).mono ?_; rintro e w2 ⟨rfl, l2, k2⟩; have L2 := Lib.hid l2; have K2 := Lib.hid k2; clear l2 k2))
      go_ret
      exact ⟨rfl, L2.out, (Keep.of_below B1.out).trans K2.out (fun _ _ h => h)⟩

end Go.Proofs.YtkebbjodkhjbmaaGreat.root

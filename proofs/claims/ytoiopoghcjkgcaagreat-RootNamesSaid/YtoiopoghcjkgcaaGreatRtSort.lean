/-
  The root of layer 6: the order of roots (slices.SortFunc of at most two).
-/
import Derived.Test.YtoiopoghcjkgcaaGreatRtSlot
import Derived.Test.YtoiopoghcjkgcaaGreatShelf
namespace Go.Proofs.YtoiopoghcjkgcaaGreat.root
open Go.RowKit Go.Sort Go.Shelf Go.Lib Go.Proofs.YtoiopoghcjkgcaaGreat.crc

def cmpN (x y : Nat) : Int := if x < y then -1 else if y < x then 1 else 0
theorem rnan_any (x : Nat) (w : World) : Calls Tryz.prog 82 #[.int .u64 x] w fun e w' => e = .returned (.bool false) ∧ w = w' := by
  go_enter Tryz.func82, Tryz.ntmps82
  go_wp2
  go_ret
  exact ⟨by simp, rfl⟩
theorem rcompare_any (x y : Nat) (w : World) : Calls Tryz.prog 64 #[.int .u64 x, .int .u64 y] w fun e w' => e = .returned (.int .i64 (cmpN x y)) ∧ w = w' := by
  have HX := Lib.hid (fun W => rnan_any x W)
  have HY := Lib.hid (fun W => rnan_any y W)
  unfold cmpN
  by_cases h1 : x < y
  · rw [if_pos h1]
    have d1 : decide ((x : Int) < (y : Int)) = true := decide_eq_true (by omega)
    go_enter Tryz.func64, Tryz.ntmps64
    go_wp2_with (first | (go_at_call 82; (with_reducible refine (HX.out _).mono ?_); rintro e _ ⟨rfl, rfl⟩) | (go_at_call 82; (with_reducible refine (HY.out _).mono ?_); rintro e _ ⟨rfl, rfl⟩))
    go_ret
    exact ⟨rfl, rfl⟩
  · rw [if_neg h1]
    have d1 : decide ((x : Int) < (y : Int)) = false := decide_eq_false (by omega)
    by_cases h2 : y < x
    · rw [if_pos h2]
      have d2 : decide ((y : Int) < (x : Int)) = true := decide_eq_true (by omega)
      go_enter Tryz.func64, Tryz.ntmps64
      go_wp2_with (first | (go_at_call 82; (with_reducible refine (HX.out _).mono ?_); rintro e _ ⟨rfl, rfl⟩) | (go_at_call 82; (with_reducible refine (HY.out _).mono ?_); rintro e _ ⟨rfl, rfl⟩))
      go_ret
      exact ⟨rfl, rfl⟩
    · rw [if_neg h2]
      have d2 : decide ((y : Int) < (x : Int)) = false := decide_eq_false (by omega)
      go_enter Tryz.func64, Tryz.ntmps64
      go_wp2_with (first | (go_at_call 82; (with_reducible refine (HX.out _).mono ?_); rintro e _ ⟨rfl, rfl⟩) | (go_at_call 82; (with_reducible refine (HY.out _).mono ?_); rintro e _ ⟨rfl, rfl⟩))
      go_ret
      exact ⟨rfl, rfl⟩
theorem rfalling_any (x y : Nat) (w : World) : Calls Tryz.prog 39 #[.int .u64 x, .int .u64 y] w fun e w' => e = .returned (.int .i64 (cmpN y x)) ∧ w = w' := by
  have H := Lib.hid (rcompare_any y x w)
  go_enter Tryz.func39, Tryz.ntmps39
  go_wp2_with (go_at_call 64; refine H.out.mono ?_; rintro e _ ⟨rfl, rfl⟩)
  go_ret
  exact ⟨rfl, rfl⟩

/-- A root's three cells. -/
def encR (r : RV) : List Value := [.int .u64 r.n, .int .i64 r.len, .int .u32 r.sm]
instance : Inhabited RV := ⟨noR⟩

theorem rorder1_any (x y : RV) (C : Nat) (W : World) (hC : C < W.heap.size) (hc : W.cell? ⟨C, 0, none⟩ = some (.func (.func 39) #[] #[])) :
    Calls Tryz.prog 63 #[rtv x, rtv y, .pointer (some ⟨C, 0, none⟩)] W fun e w' => e = .returned (.int .i64 (cmpN y.n x.n)) ∧ ∃ q os', w' = grow (W.drewN q) os' := by
  have H := Lib.hid (fun W => rfalling_any x.n y.n W)
  have hne : ¬ C = W.heap.size := by omega
  have hne2 : ¬ C = W.heap.size + 1 := by omega
  unfold rtv
  go_enter Tryz.func63, Tryz.ntmps63
  go_wp2_with ((with_reducible refine (H.out _).mono ?_); rintro e _ ⟨rfl, rfl⟩)
  go_ret
  exact ⟨rfl, 0, _, by rw [alloc_eq_grow, alloc_eq_grow, grow_grow]; rfl⟩

theorem cell_sortWorld {α : Type} [Inhabited α] (enc : α → List Value) (k : Nat) (w : World) (blk off m : Nat) (dk : Array α) (os : Array Obj) (a : Addr) (h : a.block ≠ blk) (hlt : a.block < w.heap.size) : (sortWorldK enc k w blk off m dk os).cell? a = w.cell? a := by
  unfold sortWorldK
  rw [cell?_grow _ _ _ (by rw [size_putRowK]; exact hlt), cell?_putRowK_other _ _ _ _ _ _ _ h]
  rfl

theorem isAggRoot (w : World) : (isAgg 35).run Tryz.prog w = .ok true w := by
  have h := Tryz.underlying35
  simp [isAgg, run_underlying h]
theorem sizeOfRoot (w : World) : (Go.sizeOf 35).run Tryz.prog w = .ok 3 w := by
  simp [Go.sizeOf]
  rfl
theorem rlen_any (n : Nat) (W : World) (h : n ≤ 12) : Calls Tryz.prog 81 #[.int .u64 n] W fun e w' => (∃ l : Int, e = .returned (.int .i64 l)) ∧ w' = W :=
  (Any.bits_Len Tryz.bitsLen n W (by omega) (by omega)).mono fun _ _ ⟨he, hw⟩ => ⟨⟨_, he⟩, hw⟩

/-- The cells of a list of roots. -/
def rowsR (l : List RV) : List Value := l.flatMap encR
theorem rowsR_length : ∀ l : List RV, (rowsR l).length = l.length * 3
  | [] => rfl
  | r :: l => by
    show (encR r ++ rowsR l).length = _
    rw [List.length_append, rowsR_length l, List.length_cons]
    show 3 + _ = _
    omega
theorem rowsR_one (l : List RV) : ∀ v ∈ rowsR l, v.oneCell' = true := by
  intro v hv
  obtain ⟨r, _, h⟩ := List.mem_flatMap.1 hv
  simp [encR] at h
  rcases h with rfl | rfl | rfl <;> rfl
theorem flat_one (a : RV) : flatK encR 3 #[a] = (rowsR [a]).toArray := by
  unfold flatK
  apply Array.ext'
  simp [List.range_succ, rowsR, encR]
theorem flat_two (a b : RV) : flatK encR 3 #[a, b] = (rowsR [a, b]).toArray := by
  unfold flatK
  apply Array.ext'
  simp [List.range_succ, rowsR, encR]

theorem holds_rows {w : World} {g : Nat} {cur : Array Value} {e : TypeId} {ss : List Value} (hb : w.heap[g]? = some (.cells cur e (0, 0))) (ht : cur.toList.take ss.length = ss) : Holds id w g 0 ss.toArray := by
  intro j hj
  have hj' : j < ss.length := by simpa using hj
  refine ⟨?_, by simp [World.frozen?, hb]⟩
  have h1 : (cur.toList.take ss.length)[j]? = ss[j]? := by rw [ht]
  rw [List.getElem?_take_of_lt hj'] at h1
  simp only [World.cell?, hb, Nat.zero_add]
  simp only [Option.isSome_none, Bool.false_eq_true, if_false]
  rw [← Array.getElem?_toList, h1]
  simp [hj']
theorem heap_rows {w : World} {g n : Nat} {os : Array Obj} {cur : Array Value} {e : TypeId} {fr : Nat × Nat} (d : Array Value) (hb : w.heap[g]? = some (.cells cur e fr)) :
    (grow (putRow id (Sort.ahead w n) g 0 d) os).heap[g]? = some (.cells (putCells id 0 d cur) e fr) := by
  have hg : g < w.heap.size := (Array.getElem?_eq_some_iff.1 hb).1
  rw [heap_grow_old _ _ (by simpa using hg)]
  simp [putRow, mapBlock, Sort.ahead, Array.getElem?_modify, hb, onCells]
theorem keep_rows {w : World} {g n : Nat} {os : Array Obj} (d : Array Value) : Keep (fun i => i = g) w (grow (putRow id (Sort.ahead w n) g 0 d) os) := by
  refine ⟨rfl, rfl, rfl, by simp, fun k hk hne => ?_⟩
  rw [heap_grow_old _ _ (by simpa using hk)]
  have : g ≠ k := fun e => hne e.symm
  simp [putRow, mapBlock, Sort.ahead, Array.getElem?_modify, this]
theorem take_rows (cur : Array Value) (ts : List Value) (h : ts.length ≤ cur.size) : (putCells id 0 ts.toArray cur).toList.take ts.length = ts := by
  apply List.ext_getElem?
  intro j
  by_cases hj : j < ts.length
  · rw [List.getElem?_take_of_lt hj, Array.getElem?_toList]
    simp [putCells, hj, show j < cur.size by omega]
  · rw [List.getElem?_take_eq_none (by omega), List.getElem?_eq_none (by omega)]

def sortR : List RV → List RV
  | [a, b] => if a.n < b.n then [b, a] else [a, b]
  | l => l
theorem sortR_two (a b : RV) : sortR [a, b] = if a.n < b.n then [b, a] else [a, b] := rfl
theorem sortR_length : ∀ l, (sortR l).length = l.length
  | [] => rfl
  | [a] => rfl
  | [a, b] => by rw [sortR_two]; split <;> rfl
  | a :: b :: c :: l => rfl
def fallN (x y : RV) : Int := cmpN y.n x.n
theorem ins_one (a : RV) : Sort.insertionSort (ltOf fallN) #[a] 0 1 = #[a] := by
  unfold Sort.insertionSort
  rw [Sort.insOuter]
  rfl
theorem ins_two (a b : RV) : Sort.insertionSort (ltOf fallN) #[a, b] 0 2 = (sortR [a, b]).toArray := by
  have e : ltOf fallN b a = decide (a.n < b.n) := by
    unfold ltOf fallN cmpN
    by_cases h : a.n < b.n
    · rw [if_pos h, decide_eq_true h]; rfl
    · rw [if_neg h, decide_eq_false h]
      split <;> rfl
  unfold Sort.insertionSort
  rw [Sort.insOuter, if_pos (by omega), Sort.insOuter, if_neg (by omega)]
  show Sort.insInner (ltOf fallN) 0 1 #[a, b] = _
  unfold Sort.insInner
  have e2 : (ltOf fallN (#[a, b])[0 + 1]! (#[a, b])[0]!) = decide (a.n < b.n) := e
  rw [e2, sortR_two]
  by_cases h : a.n < b.n
  · rw [decide_eq_true h, if_pos h]; rfl
  · rw [decide_eq_false h, if_neg h]; rfl

theorem rins_none (p : Option Addr) (cap : Nat) (fv : Value) (w : World) : Calls Tryz.prog 93 #[.slice p 0 cap, .int .i64 0, .int .i64 0, fv] w fun e w' => e = .returned (.tuple #[]) ∧ w = w' := by
  go_enter Tryz.func93, Tryz.ntmps93
  go_wp2
  refine wp_loop_rounds 1 ?_
  rw [rounds_succ]
  go_wp2
  go_end0
  exact ⟨rfl, rfl⟩
set_option maxRecDepth 100000 in
set_option maxHeartbeats 2000000 in
theorem rpdq_none (p : Option Addr) (cap : Nat) (lim : Int) (fv : Value) (w : World) : Calls Tryz.prog 80 #[.slice p 0 cap, .int .i64 0, .int .i64 0, .int .i64 lim, fv] w fun e w' => e = .returned (.tuple #[]) ∧ w = w' := by
  have H := Lib.hid (fun W => rins_none p cap fv W)
  go_enter Tryz.func80, Tryz.ntmps80
  go_wp2
  refine wp_loop_rounds 1 ?_
  rw [rounds_succ]
  go_wp2_with (go_at_call 93; refine (H.out _).mono ?_; rintro e _ ⟨rfl, rfl⟩)
  (try simp only [Exit.inBlock, Exit.then]); refine bodyPost_ret (results_none rfl _ _ _) rfl ?_
  exact ⟨rfl, rfl⟩
theorem rsort_none (p : Option Addr) (cap : Nat) (fv : Value) (w : World) : Calls Tryz.prog 62 #[.slice p 0 cap, fv] w fun e w' => e = .returned (.tuple #[]) ∧ w = w' := by
  have H := Lib.hid (fun lim W => rpdq_none p cap lim fv W)
  have HL : Hid (∀ W, Calls Tryz.prog 81 #[.int .u64 0] W fun e w' => (∃ l : Int, e = .returned (.int .i64 l)) ∧ w' = W) := Lib.hid (fun W => rlen_any 0 W (by omega))
  go_enter Tryz.func62, Tryz.ntmps62
  go_wp2_with (first
    | (go_at_call 81; refine (HL.out _).mono ?_; rintro e _ ⟨⟨l, rfl⟩, rfl⟩)
    | (go_at_call 80; refine (H.out _ _).mono ?_; rintro e _ ⟨rfl, rfl⟩))
  go_end0
  exact ⟨rfl, rfl⟩

set_option maxHeartbeats 2000000 in
/-- The order of at most two roots. -/
theorem rsort_any {base n c : Nat} {A : Option Addr} (l : List RV) (C : Nat) (w : World) (hl : l.length = n) (h2 : n ≤ 2) (ho : w.ownsRow base 35 3 (.slice A n c) n (rowsR l)) (hC : C < w.heap.size) (hne : ∀ g, A = some g → C ≠ g.block) (hc : w.cell? ⟨C, 0, none⟩ = some (.func (.func 39) #[] #[])) :
    Calls Tryz.prog 62 #[.slice A n c, .func (.func 63) #[] #[.pointer (some ⟨C, 0, none⟩)]] w fun e w' => e = .returned (.tuple #[]) ∧ w'.ownsRow base 35 3 (.slice A n c) n (rowsR (sortR l)) ∧ Keep (fun i => (Value.slice A n c).ownBlock = some i) w w' := by
  rcases Nat.eq_zero_or_pos n with h0 | h0
  · subst h0
    obtain rfl : l = [] := List.eq_nil_of_length_eq_zero hl
    refine (rsort_none A c _ w).mono ?_
    rintro e _ ⟨rfl, rfl⟩
    exact ⟨rfl, ho, Keep.refl _ _⟩
  · obtain ⟨g, rfl, hbase, cur, hh, hn, hcap, hsz, htk⟩ : ∃ g, A = some ⟨g, 0, none⟩ ∧ base ≤ g ∧ ∃ cur, w.heap[g]? = some (.cells cur 35 (0, 0)) ∧ n ≤ c ∧ c ≤ maxLen ∧ cur.size = c * 3 ∧ cur.toList.take (n * 3) = rowsR l := by
      rcases ho.2 with ⟨_, e0⟩ | ⟨g, cap, cur, e, hb, hh, h1, h2, h3, h4⟩
      · omega
      · injection e with e1 e2 e3
        subst e1 e3
        exact ⟨g, rfl, hb, cur, hh, h1, h2, h3, h4⟩
    have hCg : C ≠ g := hne _ rfl
    have hrl := rowsR_length l
    rw [hl] at hrl
    have hD : flatK encR 3 l.toArray = (rowsR l).toArray ∧ Sort.insertionSort (ltOf fallN) l.toArray 0 l.toArray.size = (sortR l).toArray ∧ flatK encR 3 (sortR l).toArray = (rowsR (sortR l)).toArray := by
      match l, hl with
      | [a], _ => exact ⟨flat_one a, ins_one a, flat_one a⟩
      | [a, b], _ =>
        refine ⟨flat_two a b, ins_two a b, ?_⟩
        rw [sortR_two]
        split
        · exact flat_two b a
        · exact flat_two a b
      | [], h => simp at h; omega
      | a :: b :: d :: r, h => simp at h; omega
    have hsl : l.toArray.size = n := by simpa using hl
    have hH : HoldsK encR 3 w g 0 l.toArray := by
      unfold HoldsK
      rw [hD.1]
      exact holds_rows hh (by rw [hrl]; exact htk)
    have hgl : g < w.heap.size := (Array.getElem?_eq_some_iff.1 hh).1
    have hcmp : CmpLays Tryz.prog 63 #[.pointer (some ⟨C, 0, none⟩)] encR 3 fallN g 0 l.toArray.size w := by
      intro m os dk _ x y
      refine (rorder1_any x y C _ ?_ ?_)
      · have := size_sortWorldK_c encR 3 w g 0 m dk os
        omega
      · rw [cell_sortWorld encR 3 w g 0 m dk os ⟨C, 0, none⟩ hCg hC]
        exact hc
    have hcall := AnyQ.slices_SortFunc_small Tryz.sortR 3 isAggRoot sizeOfRoot encR (fun _ => rfl) (fun x v hv => by simp [encR] at hv; rcases hv with rfl | rfl | rfl <;> rfl) fallN 63 #[.pointer (some ⟨C, 0, none⟩)] g 0 c l.toArray w (enters_of Tryz.func63 (by kernel_rfl) rfl) hcmp hH hgl (by omega) rlen_any
    rw [hsl] at hcall
    refine Calls.mono (show Calls Tryz.prog 62 _ w _ from hcall) ?_
    rintro e w' ⟨rfl, m, os, rfl⟩
    rw [hsl] at hD
    unfold sortWorldK putRowK
    rw [hD.2.1, hD.2.2]
    have hrs : (rowsR (sortR l)).length = n * 3 := by rw [rowsR_length, sortR_length, hl]
    refine ⟨rfl, ⟨hrs, .inr ⟨g, c, _, rfl, hbase, heap_rows _ hh, hn, hcap, by simp [putCells, hsz], ?_⟩⟩, (keep_rows _).more (fun i _ e => by subst e; rfl)⟩
    rw [← hrs]
    exact take_rows cur _ (by rw [hrs, hsz]; omega)

theorem rorder_any {base n c : Nat} {A : Option Addr} (l : List RV) (w : World) (hl : l.length = n) (h2 : n ≤ 2) (ho : w.ownsRow base 35 3 (.slice A n c) n (rowsR l)) :
    Calls Tryz.prog 38 #[.slice A n c, .func (.func 39) #[] #[]] w fun e w' => e = .returned (.tuple #[]) ∧ w'.ownsRow base 35 3 (.slice A n c) n (rowsR (sortR l)) ∧ Keep (fun i => (Value.slice A n c).ownBlock = some i) w w' := by
  have ho1 := own_stay ho ((Below.refl _ w).alloc (Nat.le_refl _) (.cells #[.func (.func 39) #[] #[]] 86))
  have H := Lib.hid (rsort_any l w.heap.size (w.alloc (.cells #[.func (.func 39) #[] #[]] 86)) hl h2 ho1 (by simp) (fun g e => by
    subst e
    have := (own_is ho g.block (by simp [Value.ownBlock])).2.1
    omega) ((Blk.new w _ _).cell 0))
  clear ho ho1
  go_enter Tryz.func38, Tryz.ntmps38
  go_wp2_with (go_at_call 62; refine H.out.mono ?_; rintro e w1 ⟨rfl, o1, k1⟩; have O1 := Lib.hid o1; have K1 := Lib.hid k1; clear o1 k1)
  go_end0
  exact ⟨rfl, O1.out, ((Keep.of_below (S := fun i => (Value.slice A n c).ownBlock = some i) ((Below.refl _ w).alloc (Nat.le_refl _) _)).trans K1.out (fun _ _ h => h))⟩
end Go.Proofs.YtoiopoghcjkgcaaGreat.root

/-
  The pool of layer 10: keys in a row, and the row the other way round.
-/
import Derived.Test.YtlmdijijlbmddaaPlPool
import Derived.Test.YtlmdijijlbmddaaShelfR
namespace Go.Proofs.Ytlmdijijlbmddaa.pool
open Go.RowKit Go.Sort Go.Shelf

theorem holds_rows {w : World} {g : Nat} {cur : Array Value} {e : TypeId} {ss : List Value} (hb : w.heap[g]? = some (.cells cur e (0, 0))) (ht : cur.toList.take ss.length = ss) : Holds id w g 0 ss.toArray := by
  intro j hj
  have hj' : j < ss.length := by simpa using hj
  refine ⟨?_, by simp [World.frozen?, hb]⟩
  have h1 : (cur.toList.take ss.length)[j]? = ss[j]? := by rw [ht]
  rw [List.getElem?_take_of_lt hj'] at h1
  simp only [World.cell?, hb, Nat.zero_add]
  simp only [Option.isSome_none, Bool.false_eq_true, if_false]
  rw [← Array.getElem?_toList, h1]
  simp [hj']
theorem heap_rows {w : World} {g n : Nat} {cur : Array Value} {e : TypeId} {fr : Nat × Nat} (d : Array Value) (hb : w.heap[g]? = some (.cells cur e fr)) :
    (putRow id (Sort.ahead w n) g 0 d).heap[g]? = some (.cells (putCells id 0 d cur) e fr) := by
  simp [putRow, mapBlock, Sort.ahead, Array.getElem?_modify, hb, onCells]
theorem keep_rows {w : World} {g n : Nat} (d : Array Value) : Keep (fun i => i = g) w (putRow id (Sort.ahead w n) g 0 d) := by
  refine ⟨rfl, rfl, rfl, by simp, fun k hk hne => ?_⟩
  have : g ≠ k := fun e => hne e.symm
  simp [putRow, mapBlock, Sort.ahead, Array.getElem?_modify, this]
theorem take_rows (cur : Array Value) (ts : List Value) (h : ts.length ≤ cur.size) : (putCells id 0 ts.toArray cur).toList.take ts.length = ts := by
  apply List.ext_getElem?
  intro j
  by_cases hj : j < ts.length
  · rw [List.getElem?_take_of_lt hj, Array.getElem?_toList]
    simp [putCells, hj, show j < cur.size by omega]
  · rw [List.getElem?_take_eq_none (by omega), List.getElem?_eq_none (by omega)]

def encK (x : Int × Int) : List Value := [.int .i64 x.1, .int .i64 x.2]
def rowsK (l : List (Int × Int)) : List Value := l.flatMap encK
theorem rowsK_snoc (l : List (Int × Int)) (x : Int × Int) : rowsK (l ++ [x]) = rowsK l ++ encK x := by
  unfold rowsK
  rw [List.flatMap_append, List.flatMap_cons, List.flatMap_nil, List.append_nil]
theorem rowsK_length : ∀ l : List (Int × Int), (rowsK l).length = l.length * 2
  | [] => rfl
  | r :: l => by
    show (encK r ++ rowsK l).length = _
    rw [List.length_append, rowsK_length l, List.length_cons]
    show 2 + _ = _
    omega
theorem encK_one (x : Int × Int) : ∀ v ∈ encK x, v.oneCell' = true := by
  intro v hv
  simp [encK] at hv
  rcases hv with rfl | rfl <;> rfl
theorem rowsK_at : ∀ (l : List (Int × Int)) (j : Nat) (x : Int × Int), l[j]? = some x → (rowsK l)[2 * j]? = some (.int .i64 x.1) ∧ (rowsK l)[2 * j + 1]? = some (.int .i64 x.2)
  | [], j, x, h => by simp at h
  | y :: l, 0, x, h => by
    simp only [List.getElem?_cons_zero, Option.some.injEq] at h
    subst h
    exact ⟨rfl, rfl⟩
  | y :: l, j + 1, x, h => by
    rw [List.getElem?_cons_succ] at h
    have ih := rowsK_at l j x h
    have e1 : 2 * (j + 1) = 2 * j + 1 + 1 := by omega
    have e2 : 2 * (j + 1) + 1 = 2 * j + 1 + 1 + 1 := by omega
    constructor
    · rw [e1]; exact ih.1
    · rw [e2]; exact ih.2
theorem flat_rows (l : List (Int × Int)) : flatK encK 2 l.toArray = (rowsK l).toArray := by
  apply Array.ext
  · simp [rowsK_length]
  · intro j h1 h2
    have hj : j < l.length * 2 := by simpa using h1
    have hq : j / 2 < l.length := by omega
    have hg := get_flatK encK 2 l.toArray j (by simpa using hj)
    rw [getElem!_pos (flatK encK 2 l.toArray) j h1] at hg
    rw [hg]
    have hx : l.toArray[j / 2]! = l[j / 2] := by rw [getElem!_pos l.toArray (j / 2) (by simpa using hq)]; simp
    rw [hx]
    have h3 := rowsK_at l (j / 2) _ (List.getElem?_eq_getElem hq)
    rcases Nat.mod_two_eq_zero_or_one j with h0 | h0
    · rw [h0]
      have e : 2 * (j / 2) = j := by omega
      rw [e] at h3
      have := h3.1
      rw [List.getElem?_eq_getElem (by simpa using h2)] at this
      injection this with this
      simp only [List.getElem_toArray, this]
      rfl
    · rw [h0]
      have e : 2 * (j / 2) + 1 = j := by omega
      rw [e] at h3
      have := h3.2
      rw [List.getElem?_eq_getElem (by simpa using h2)] at this
      injection this with this
      simp only [List.getElem_toArray, this]
      rfl
theorem isAggKey (w : World) : (isAgg 29).run Try.prog w = .ok true w := by
  have h := Try.underlying29
  simp [isAgg, run_underlying h]
theorem sizeOfKey (w : World) : (Go.sizeOf 29).run Try.prog w = .ok 2 w := by
  simp [Go.sizeOf]
  rfl

/-- slices.Reverse of a row of keys. -/
theorem reverse_any {base n : Nat} {v : Value} (l : List (Int × Int)) (w : World) (hl : l.length = n) (hn : n ≤ 1000) (ho : w.ownsRow base 29 2 v n (rowsK l)) :
    Calls Try.prog 57 #[v] w fun e w' => e = .returned (.tuple #[]) ∧ w'.ownsRow base 29 2 v n (rowsK l.reverse) ∧ Keep (fun i => v.ownBlock = some i) w w' := by
  obtain ⟨hlen, h | ⟨g, cap, cur, rfl, hb, hh, hnc, hcap, hsz, htk⟩⟩ := ho
  · obtain ⟨rfl, rfl⟩ := h
    obtain rfl : l = [] := List.eq_nil_of_length_eq_zero hl
    refine (show Calls Try.prog 57 #[.slice none 0 0] w _ from AnyQ.slices_Reverse_empty Try.reverseK none 0 w).mono ?_
    rintro e w' ⟨rfl, rfl⟩
    exact ⟨rfl, ⟨rfl, .inl ⟨rfl, rfl⟩⟩, Keep.refl _ _⟩
  · have hlr : (rowsK l).length = n * 2 := by rw [rowsK_length, hl]
    have hH : HoldsK encK 2 w g 0 l.toArray := by
      unfold HoldsK
      rw [flat_rows]
      exact holds_rows hh (by rw [hlr]; exact htk)
    have hr := AnyQ.slices_Reverse Try.reverseK 2 isAggKey sizeOfKey encK (fun _ => rfl) encK_one g 0 cap l.toArray w hH (by simp; omega)
    have hsize : l.toArray.size = n := by simpa using hl
    rw [hsize] at hr
    refine (show Calls Try.prog 57 #[.slice (some ⟨g, 0, none⟩) n cap] w _ from hr).mono ?_
    rintro e w' ⟨rfl, q, rfl⟩
    have hrev : l.toArray.reverse = l.reverse.toArray := by simp
    unfold putRowK
    rw [hrev, flat_rows]
    refine ⟨rfl, ⟨by rw [rowsK_length, List.length_reverse, hl], .inr ⟨g, cap, _, rfl, hb, heap_rows _ hh, hnc, hcap, by simp [putCells, hsz], ?_⟩⟩, ?_⟩
    · have := take_rows cur (rowsK l.reverse) (by rw [rowsK_length, List.length_reverse, hl, hsz]; exact Nat.mul_le_mul_right 2 hnc)
      rwa [rowsK_length, List.length_reverse, hl] at this
    · exact (keep_rows _).more (fun i hi e => by subst e; rfl)
end Go.Proofs.Ytlmdijijlbmddaa.pool

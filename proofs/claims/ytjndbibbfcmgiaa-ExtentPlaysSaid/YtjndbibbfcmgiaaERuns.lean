/-
  Layer 4's mathematics: runs in a list of sectors, each free or taken (no walk).
-/
import Derived.Test.YtjndbibbfcmgiaaAny
namespace Go.Proofs.Ytjndbibbfcmgiaa

theorem tw_at {α : Type} (f : α → Bool) : ∀ (M : List α) (k : Nat), k < (M.takeWhile f).length → ∃ x, M[k]? = some x ∧ f x = true
  | [], k, h => absurd h (by simp)
  | x :: M, k, h => by
    rw [List.takeWhile_cons] at h
    split at h
    · rename_i hx
      rcases k with _ | k
      · exact ⟨x, rfl, hx⟩
      · exact tw_at f M k (by simpa using h)
    · exact absurd h (by simp)
theorem tw_end {α : Type} (f : α → Bool) : ∀ (M : List α) (y : α), M[(M.takeWhile f).length]? = some y → f y = false
  | [], y, h => by simp at h
  | x :: M, y, h => by
    rw [List.takeWhile_cons] at h
    split at h
    · exact tw_end f M y (by simpa using h)
    · rename_i hx
      have : x = y := by simpa using h
      subst this
      simpa using hx
theorem tw_le {α : Type} (f : α → Bool) : ∀ (M : List α), (M.takeWhile f).length ≤ M.length
  | [] => Nat.le_refl _
  | x :: M => by
    rw [List.takeWhile_cons]
    split
    · have := tw_le f M
      simp
      exact this
    · simp
theorem tw_all {α : Type} (f : α → Bool) (M : List α) (n : Nat) (h1 : n ≤ M.length) (h : ∀ k x, k < n → M[k]? = some x → f x = true) : n ≤ (M.takeWhile f).length := by
  rcases Nat.lt_or_ge (M.takeWhile f).length n with hlt | hge
  · have hl : (M.takeWhile f).length < M.length := by omega
    have h2 := tw_end f M _ (List.getElem?_eq_getElem hl)
    have h3 := h _ _ hlt (List.getElem?_eq_getElem hl)
    rw [h3] at h2
    cases h2
  · exact hge
theorem tw_some {α : Type} (f : α → Bool) (M : List α) (n : Nat) (y : α) (h0 : M[n]? = some y) (hy : f y = false) (h : ∀ k x, k < n → M[k]? = some x → f x = true) : (M.takeWhile f).length = n := by
  have hl : n < M.length := (List.getElem?_eq_some_iff.1 h0).1
  have h1 := tw_all f M n (by omega) h
  rcases Nat.lt_or_ge n (M.takeWhile f).length with hlt | hge
  · obtain ⟨x, hx, hf⟩ := tw_at f M n hlt
    rw [h0] at hx
    injection hx with hx
    subst hx
    rw [hy] at hf
    cases hf
  · omega

/-- How long the run at p is. -/
def runN (L : List Bool) (p : Nat) : Nat := ((L.drop p).takeWhile (fun x => x == L.getD p false)).length
theorem runN_le (L : List Bool) {p : Nat} (h : p ≤ L.length) : p + runN L p ≤ L.length := by
  have := tw_le (fun x => x == L.getD p false) (L.drop p)
  unfold runN
  rw [List.length_drop] at this
  omega
theorem getD_some {L : List Bool} {p : Nat} (h : p < L.length) : L[p]? = some (L.getD p false) := by
  rw [List.getD_eq_getElem?_getD, List.getElem?_eq_getElem h]
  rfl
theorem runN_pos {L : List Bool} {p : Nat} (h : p < L.length) : 1 ≤ runN L p := by
  unfold runN
  refine tw_all _ _ 1 (by rw [List.length_drop]; omega) (fun k x hk hx => ?_)
  obtain rfl : k = 0 := by omega
  rw [List.getElem?_drop, Nat.add_zero, getD_some h] at hx
  injection hx with hx
  rw [hx]
  exact beq_self_eq_true x
theorem run_at {L : List Bool} {p k : Nat} (h : k < runN L p) : L[p + k]? = some (L.getD p false) := by
  obtain ⟨x, hx, hf⟩ := tw_at _ _ k h
  rw [List.getElem?_drop] at hx
  rw [hx, eq_of_beq hf]
theorem run_end {L : List Bool} {p : Nat} : L[p + runN L p]? ≠ some (L.getD p false) := by
  intro h
  have := tw_end (fun x => x == L.getD p false) (L.drop p) (L.getD p false) (by rw [List.getElem?_drop]; exact h)
  simp at this

/-- The runs of sectors that are so, from p on. -/
def runsAt (L : List Bool) (a : Bool) (p : Nat) : List (Nat × Nat) :=
  if _h : p < L.length then (if L.getD p false = a then (p, runN L p) :: runsAt L a (p + runN L p) else runsAt L a (p + runN L p)) else []
termination_by L.length - p
decreasing_by all_goals (have := runN_pos _h; omega)
theorem runs_hit {L : List Bool} {a : Bool} {p : Nat} (h : p < L.length) (ha : L.getD p false = a) : runsAt L a p = (p, runN L p) :: runsAt L a (p + runN L p) := by
  rw [runsAt, dif_pos h, if_pos ha]
theorem runs_miss {L : List Bool} {a : Bool} {p : Nat} (h : p < L.length) (ha : ¬ L.getD p false = a) : runsAt L a p = runsAt L a (p + runN L p) := by
  rw [runsAt, dif_pos h, if_neg ha]
theorem runs_stop {L : List Bool} {a : Bool} {p : Nat} (h : L.length ≤ p) : runsAt L a p = [] := by
  rw [runsAt, dif_neg (by omega)]
theorem runs_ind {L : List Bool} (P : Nat → Prop) (he : ∀ p, L.length ≤ p → P p) (hs : ∀ p, p < L.length → P (p + runN L p) → P p) (p : Nat) : P p := by
  suffices h : ∀ n p, L.length - p ≤ n → P p from h _ p (Nat.le_refl _)
  intro n
  induction n with
  | zero => exact fun p h => he p (by omega)
  | succ n ih =>
    intro p h
    by_cases hp : p < L.length
    · exact hs p hp (ih _ (by have := runN_pos hp; omega))
    · exact he p (by omega)

/-- All of m sectors from q on are so. -/
def AllAre (L : List Bool) (q m : Nat) (a : Bool) : Prop := ∀ k, k < m → L[q + k]? = some a
instance (L : List Bool) (q m : Nat) (a : Bool) : Decidable (AllAre L q m a) := by unfold AllAre; infer_instance
theorem AllAre.at_ {L : List Bool} {q m k : Nat} {a : Bool} (h : AllAre L q m a) (h1 : q ≤ k) (h2 : k < q + m) : L[k]? = some a := by
  have := h (k - q) (by omega)
  rwa [show q + (k - q) = k by omega] at this
theorem AllAre.le {L : List Bool} {q m : Nat} {a : Bool} (h : AllAre L q m a) (hm : 1 ≤ m) : q + m ≤ L.length := by
  have := (List.getElem?_eq_some_iff.1 (h (m - 1) (by omega))).1
  omega

/-- A run: all of it is so, and neither end can be moved; it stands at p or behind. -/
structure IsRun (L : List Bool) (a : Bool) (q m : Nat) : Prop where
  pos : 1 ≤ m
  all : AllAre L q m a
  stop : L[q + m]? ≠ some a
theorem runs_are {L : List Bool} {a : Bool} : ∀ p, ∀ r ∈ runsAt L a p, p ≤ r.1 ∧ IsRun L a r.1 r.2 := by
  refine runs_ind (L := L) _ (fun p h r hr => (by rw [runs_stop h] at hr; cases hr)) (fun p h ih r hr => ?_)
  by_cases ha : L.getD p false = a
  · rw [runs_hit h ha] at hr
    rcases List.mem_cons.1 hr with rfl | hr
    · subst ha
      exact ⟨Nat.le_refl _, runN_pos h, fun k hk => run_at hk, run_end⟩
    · obtain ⟨h1, h2⟩ := ih r hr
      exact ⟨by omega, h2⟩
  · rw [runs_miss h ha] at hr
    obtain ⟨h1, h2⟩ := ih r hr
    exact ⟨by omega, h2⟩
/-- Each one that is so is in a run. -/
theorem runs_cover {L : List Bool} {a : Bool} : ∀ p, ∀ k, p ≤ k → L[k]? = some a → ∃ r ∈ runsAt L a p, r.1 ≤ k ∧ k < r.1 + r.2 := by
  refine runs_ind (L := L) _ (fun p h k hk ha => by rw [List.getElem?_eq_none (by omega)] at ha; cases ha) (fun p h ih k hk hka => ?_)
  by_cases hkr : k < p + runN L p
  · have h1 := run_at (L := L) (p := p) (k := k - p) (by omega)
    rw [show p + (k - p) = k by omega, hka] at h1
    injection h1 with h1
    rw [runs_hit h h1.symm]
    exact ⟨_, List.mem_cons_self .., hk, hkr⟩
  · obtain ⟨r, hr, h1⟩ := ih k (by omega) hka
    by_cases ha : L.getD p false = a
    · rw [runs_hit h ha]
      exact ⟨r, List.mem_cons_of_mem _ hr, h1⟩
    · rw [runs_miss h ha]
      exact ⟨r, hr, h1⟩
/-- They rise, and do not touch. -/
theorem runs_rise {L : List Bool} {a : Bool} : ∀ p, (runsAt L a p).Pairwise (fun r s => r.1 + r.2 < s.1) := by
  refine runs_ind (L := L) _ (fun p h => by rw [runs_stop h]; exact List.Pairwise.nil) (fun p h ih => ?_)
  by_cases ha : L.getD p false = a
  · rw [runs_hit h ha]
    refine List.pairwise_cons.2 ⟨fun s hs => ?_, ih⟩
    obtain ⟨h1, h2⟩ := runs_are _ s hs
    rcases Nat.lt_or_ge (p + runN L p) s.1 with hlt | hge
    · exact hlt
    · have he : s.1 = p + runN L p := by omega
      have := h2.all 0 h2.pos
      rw [he, Nat.add_zero] at this
      exact absurd (ha ▸ this) run_end
  · rw [runs_miss h ha]
    exact ih

/-- The first run that is long enough. -/
def takeP (L : List Bool) (n : Nat) : Option Nat := ((runsAt L false 0).find? (fun r => decide (n ≤ r.2))).map (·.1)
theorem take_at {L : List Bool} {n : Nat} (hn : 1 ≤ n) : ∀ p, (∀ r, (runsAt L false p).find? (fun r => decide (n ≤ r.2)) = some r → AllAre L r.1 n false ∧ ∀ k, p ≤ k → k < r.1 → ¬ AllAre L k n false) ∧
    ((runsAt L false p).find? (fun r => decide (n ≤ r.2)) = none → ∀ k, p ≤ k → ¬ AllAre L k n false) := by
  refine runs_ind (L := L) _ (fun p h => ?_) (fun p h ih => ?_)
  · rw [runs_stop h]
    exact ⟨fun r hr => (by cases hr), fun _ k _ hA => (by have := hA.le hn; omega)⟩
  · have hno : (L.getD p false = false → runN L p < n) → ∀ k, p ≤ k → k < p + runN L p → ¬ AllAre L k n false := fun hs k h1 h2 hA => by
      have e1 := run_at (L := L) (p := p) (k := k - p) (by omega)
      rw [show p + (k - p) = k by omega] at e1
      have e2 := hA 0 hn
      rw [Nat.add_zero, e1] at e2
      injection e2 with e2
      have h3 := hs e2
      have e3 := hA.at_ (k := p + runN L p) (by omega) (by omega)
      exact run_end (by rw [e2]; exact e3)
    by_cases ha : L.getD p false = false
    · rw [runs_hit h ha]
      by_cases hl : n ≤ runN L p
      · rw [List.find?_cons_of_pos (by simpa using hl)]
        refine ⟨fun r hr => ?_, fun hr => (by cases hr)⟩
        injection hr with hr
        subst hr
        exact ⟨fun k hk => (by show L[p + k]? = some false; rw [run_at (by omega), ha]), fun k h1 h2 => (by simp only at h2; omega)⟩
      · rw [List.find?_cons_of_neg (by simpa using hl)]
        refine ⟨fun r hr => ⟨(ih.1 r hr).1, fun k h1 h2 => ?_⟩, fun hr k h1 => ?_⟩
        · by_cases hk : k < p + runN L p
          · exact hno (fun _ => by omega) k h1 hk
          · exact (ih.1 r hr).2 k (by omega) h2
        · by_cases hk : k < p + runN L p
          · exact hno (fun _ => by omega) k h1 hk
          · exact ih.2 hr k (by omega)
    · rw [runs_miss h ha]
      refine ⟨fun r hr => ⟨(ih.1 r hr).1, fun k h1 h2 => ?_⟩, fun hr k h1 => ?_⟩
      · by_cases hk : k < p + runN L p
        · exact hno (fun e => absurd e ha) k h1 hk
        · exact (ih.1 r hr).2 k (by omega) h2
      · by_cases hk : k < p + runN L p
        · exact hno (fun e => absurd e ha) k h1 hk
        · exact ih.2 hr k (by omega)
theorem takeP_some {L : List Bool} {n q : Nat} (hn : 1 ≤ n) (h : takeP L n = some q) : AllAre L q n false ∧ ∀ k, k < q → ¬ AllAre L k n false := by
  unfold takeP at h
  obtain ⟨r, hr, rfl⟩ := Option.map_eq_some_iff.1 h
  obtain ⟨h1, h2⟩ := (take_at hn 0).1 r hr
  exact ⟨h1, fun k hk => h2 k (Nat.zero_le _) hk⟩
theorem takeP_none {L : List Bool} {n : Nat} (hn : 1 ≤ n) (h : takeP L n = none) : ∀ k, ¬ AllAre L k n false := by
  unfold takeP at h
  exact fun k => (take_at hn 0).2 (Option.map_eq_none_iff.1 h) k (Nat.zero_le _)

/-- How many are free. -/
theorem count_runs {L : List Bool} (a : Bool) : ∀ p, ((runsAt L a p).map (·.2)).sum = (L.drop p).count a := by
  refine runs_ind (L := L) _ (fun p h => ?_) (fun p h ih => ?_)
  · rw [runs_stop h, List.drop_of_length_le h]
    rfl
  · have hd : L.drop p = List.replicate (runN L p) (L.getD p false) ++ L.drop (p + runN L p) := by
      apply List.ext_getElem?
      intro k
      rw [List.getElem?_drop]
      by_cases hk : k < runN L p
      · rw [List.getElem?_append_left (by simpa using hk), List.getElem?_replicate, if_pos hk, run_at hk]
      · rw [List.getElem?_append_right (by simpa using hk), List.getElem?_drop, List.length_replicate]
        congr 1
        omega
    rw [hd, List.count_append, List.count_replicate, ← ih]
    by_cases ha : L.getD p false = a
    · rw [runs_hit h ha, if_pos (by simpa using ha)]
      rfl
    · rw [runs_miss h ha, if_neg (by simpa using ha), Nat.zero_add]

/-- The longest of them. -/
def mostOf (rs : List (Nat × Nat)) : Nat := rs.foldl (fun m r => max m r.2) 0
theorem most_snoc (rs : List (Nat × Nat)) (r : Nat × Nat) : mostOf (rs ++ [r]) = max (mostOf rs) r.2 := by
  unfold mostOf
  rw [List.foldl_append]
  rfl
theorem le_most : ∀ (rs : List (Nat × Nat)) (m n : Nat), 1 ≤ n → (n ≤ rs.foldl (fun m r => max m r.2) m ↔ n ≤ m ∨ ∃ r ∈ rs, n ≤ r.2)
  | [], m, n, _ => by simp
  | r :: rs, m, n, hn => by
    rw [List.foldl_cons, le_most rs _ n hn]
    constructor
    · rintro (h | ⟨s, hs, h⟩)
      · rcases Nat.lt_or_ge m n with h1 | h1
        · exact .inr ⟨r, List.mem_cons_self .., by omega⟩
        · exact .inl h1
      · exact .inr ⟨s, List.mem_cons_of_mem _ hs, h⟩
    · rintro (h | ⟨s, hs, h⟩)
      · exact .inl (by omega)
      · rcases List.mem_cons.1 hs with rfl | hs
        · exact .inl (by omega)
        · exact .inr ⟨s, hs, h⟩
theorem longest_iff {L : List Bool} {n : Nat} (hn : 1 ≤ n) : (takeP L n).isSome = decide (n ≤ mostOf (runsAt L false 0)) := by
  unfold takeP mostOf
  rw [Option.isSome_map]
  refine Bool.eq_iff_iff.2 ?_
  rw [List.find?_isSome, decide_eq_true_iff, le_most _ _ _ hn]
  constructor
  · rintro ⟨r, hr, h⟩
    exact .inr ⟨r, hr, by simpa using h⟩
  · rintro (h | ⟨r, hr, h⟩)
    · omega
    · exact ⟨r, hr, by simpa using h⟩

/-- m sectors from q on are set. -/
def setR (L : List Bool) (q m : Nat) (a : Bool) : List Bool := L.mapIdx (fun k x => if q ≤ k ∧ k < q + m then a else x)
theorem setR_length (L : List Bool) (q m : Nat) (a : Bool) : (setR L q m a).length = L.length := List.length_mapIdx
theorem setR_at (L : List Bool) (q m : Nat) (a : Bool) (k : Nat) : (setR L q m a)[k]? = if q ≤ k ∧ k < q + m then L[k]?.map (fun _ => a) else L[k]? := by
  unfold setR
  rw [List.getElem?_mapIdx]
  split
  · rfl
  · rw [Option.map_id']
theorem setR_zero (L : List Bool) (q : Nat) (a : Bool) : setR L q 0 a = L := by
  apply List.ext_getElem?
  intro k
  rw [setR_at, if_neg (by omega)]
theorem setR_step (L : List Bool) (q m : Nat) (a : Bool) : setR L q (m + 1) a = (setR L q m a).set (q + m) a := by
  apply List.ext_getElem?
  intro k
  rw [setR_at]
  by_cases e : q + m = k
  · subst e
    rw [if_pos (by omega), List.getElem?_set, if_pos rfl, setR_length]
    by_cases hl : q + m < L.length
    · rw [if_pos hl, List.getElem?_eq_getElem hl]
      rfl
    · rw [if_neg hl, List.getElem?_eq_none (by omega)]
      rfl
  · rw [List.getElem?_set_ne e, setR_at]
    by_cases h : q ≤ k ∧ k < q + m
    · rw [if_pos h, if_pos (by omega)]
    · rw [if_neg h, if_neg (by omega)]
theorem setR_all (L : List Bool) {q m : Nat} (a : Bool) (h : q + m ≤ L.length) : AllAre (setR L q m a) q m a := fun k hk => by
  rw [setR_at, if_pos (by omega), List.getElem?_eq_getElem (by omega)]
  rfl
theorem setR_back {L : List Bool} {q m : Nat} {a b : Bool} (h : AllAre L q m a) : setR (setR L q m b) q m a = L := by
  apply List.ext_getElem?
  intro k
  rw [setR_at, setR_at]
  by_cases hk : q ≤ k ∧ k < q + m
  · rw [if_pos hk, if_pos hk, h.at_ hk.1 hk.2]
    rfl
  · rw [if_neg hk, if_neg hk]
theorem setR_count {L : List Bool} {q : Nat} : ∀ {m : Nat}, AllAre L q m false → (setR L q m true).count false + m = L.count false
  | 0, _ => by rw [setR_zero, Nat.add_zero]
  | m + 1, h => by
    have h1 := setR_count (L := L) (q := q) (m := m) (fun k hk => h k (by omega))
    have h2 := count_set (setR L q m true) (q + m) (by rw [setR_at, if_neg (by omega)]; exact h m (by omega))
    rw [setR_step]
    omega

/-- An extent's sectors all lie in one run, as the iterator's rounds find out. -/
def inRun (rs : List (Nat × Nat)) (q m : Nat) : Bool :=
  match rs with
  | [] => false
  | r :: rs => if r.1 ≤ q ∧ q + m ≤ r.1 + r.2 then true else if q < r.1 then false else inRun rs q m
theorem inRun_far {rs : List (Nat × Nat)} {q m : Nat} (h : ∀ r ∈ rs, q < r.1) : inRun rs q m = false := by
  cases rs with
  | nil => rfl
  | cons r rs =>
    have := h r (List.mem_cons_self ..)
    unfold inRun
    rw [if_neg (by omega), if_pos this]
theorem inRun_iff {L : List Bool} {a : Bool} {q m : Nat} (hm : 1 ≤ m) : ∀ p, p ≤ q → inRun (runsAt L a p) q m = decide (AllAre L q m a) := by
  refine runs_ind (L := L) _ (fun p h hq => ?_) (fun p h ih hq => ?_)
  · rw [runs_stop h, decide_eq_false (fun hA => by have := hA.le hm; omega)]
    rfl
  · have hfar : q < p + runN L p → ∀ r ∈ runsAt L a (p + runN L p), q < r.1 := fun hlt r hr => by
      have := (runs_are _ r hr).1
      omega
    by_cases ha : L.getD p false = a
    · rw [runs_hit h ha]
      unfold inRun
      by_cases hin : q + m ≤ p + runN L p
      · rw [if_pos ⟨hq, hin⟩, decide_eq_true]
        intro k hk
        have := run_at (L := L) (p := p) (k := q + k - p) (by omega)
        rw [show p + (q + k - p) = q + k by omega, ha] at this
        exact this
      · rw [if_neg (fun x => hin x.2), if_neg (by simp only; omega)]
        by_cases hlt : q < p + runN L p
        · rw [inRun_far (hfar hlt), decide_eq_false]
          intro hA
          have := hA.at_ (k := p + runN L p) (by omega) (by omega)
          exact run_end (by rw [ha]; exact this)
        · exact ih (by omega)
    · rw [runs_miss h ha]
      by_cases hlt : q < p + runN L p
      · rw [inRun_far (hfar hlt), decide_eq_false]
        intro hA
        have e1 := hA 0 hm
        have e2 := run_at (L := L) (p := p) (k := q - p) (by omega)
        rw [show p + (q - p) = q by omega] at e2
        rw [Nat.add_zero, e2] at e1
        injection e1 with e1
        exact ha e1
      · exact ih (by omega)
end Go.Proofs.Ytjndbibbfcmgiaa

/-
  Layer 11 (array): two arrays that may be have one text just if they are the same.
-/
import Derived.Test.YtiiapljjopcabaaDoorArTextF
namespace Go.Proofs.YtiiapljjopcabaaDoor.arr

def isDig (b : UInt8) : Bool := decide (48 ≤ b.toNat) && decide (b.toNat ≤ 57)
/-- Does not begin with a digit. -/
def NoDig (r : List UInt8) : Prop := ∀ b t, r = b :: t → isDig b = false
theorem dec_dig (u : Nat) : ∀ b ∈ Lib.decDigits u, isDig b = true := fun b hb => by
  have := dec_mem u b hb
  unfold isDig
  rw [decide_eq_true this.1, decide_eq_true this.2]
  rfl
theorem takeWhile_dig : ∀ (l r : List UInt8), (∀ b ∈ l, isDig b = true) → NoDig r → (l ++ r).takeWhile isDig = l
  | [], r, _, hr => by
    cases r with
    | nil => rfl
    | cons b t => simp [hr b t rfl]
  | b :: l, r, hl, hr => by
    rw [List.cons_append, List.takeWhile_cons, hl b (List.mem_cons_self ..)]
    simp only [if_true]
    rw [takeWhile_dig l r (fun c hc => hl c (List.mem_cons_of_mem _ hc)) hr]
def valD (l : List UInt8) : Nat := l.foldl (fun n b => n * 10 + (b.toNat - 48)) 0
theorem valD_dec : ∀ (u : Nat), valD (Lib.decDigits u) = u := by
  intro u
  induction u using Nat.strongRecOn with
  | ind u ih =>
    rw [Lib.decDigits]
    split
    · rename_i h
      show 0 * 10 + ((UInt8.ofNat (48 + u)).toNat - 48) = u
      rw [UInt8.toNat_ofNat', Nat.mod_eq_of_lt (by omega)]
      omega
    · rename_i h
      unfold valD
      rw [List.foldl_append]
      have := ih (u / 10) (by omega)
      unfold valD at this
      rw [this]
      show u / 10 * 10 + ((UInt8.ofNat (48 + u % 10)).toNat - 48) = u
      rw [UInt8.toNat_ofNat', Nat.mod_eq_of_lt (by omega)]
      omega
theorem dec_inj {u v : Nat} {r s : List UInt8} (hr : NoDig r) (hs : NoDig s) (h : Lib.decDigits u ++ r = Lib.decDigits v ++ s) : u = v ∧ r = s := by
  have h1 := takeWhile_dig _ r (dec_dig u) hr
  have h2 := takeWhile_dig _ s (dec_dig v) hs
  rw [h, h2] at h1
  have h3 : u = v := by rw [← valD_dec u, ← valD_dec v, h1]
  subst h3
  exact ⟨rfl, List.append_cancel_left h⟩
theorem num_head (n : Int) : ∃ b t, numB n = b :: t ∧ b ≠ 39 ∧ b ≠ 32 ∧ b ≠ 226 := by
  unfold numB
  split
  · exact ⟨194, _, rfl, by decide, by decide, by decide⟩
  · obtain ⟨b, t, hb⟩ := List.exists_cons_of_ne_nil (dec_ne n.toNat)
    have := dec_mem n.toNat b (by rw [hb]; exact List.mem_cons_self ..)
    refine ⟨b, t, hb, ?_, ?_, ?_⟩ <;> (rintro rfl; revert this; decide)
theorem numB_inj {n m : Int} {r s : List UInt8} (hr : NoDig r) (hs : NoDig s) (h : numB n ++ r = numB m ++ s) : n = m ∧ r = s := by
  have head : ∀ {k : Nat} {t : List UInt8} {q : List UInt8}, Lib.decDigits k ++ t = 194 :: q → False := fun {k t q} e => by
    obtain ⟨b, d, hb⟩ := List.exists_cons_of_ne_nil (dec_ne k)
    have := dec_mem k b (by rw [hb]; exact List.mem_cons_self ..)
    rw [hb, List.cons_append] at e
    injection e with e _
    subst e
    revert this
    decide
  unfold numB at h
  by_cases hn : n < 0
  · by_cases hm : m < 0
    · rw [if_pos hn, if_pos hm, List.append_assoc, List.append_assoc] at h
      have h := List.append_cancel_left h
      obtain ⟨e, e2⟩ := dec_inj hr hs h
      exact ⟨by omega, e2⟩
    · rw [if_pos hn, if_neg hm, List.append_assoc] at h
      exact (head h.symm).elim
  · by_cases hm : m < 0
    · rw [if_neg hn, if_pos hm, List.append_assoc] at h
      exact (head h).elim
    · rw [if_neg hn, if_neg hm] at h
      obtain ⟨e, e2⟩ := dec_inj hr hs h
      exact ⟨by omega, e2⟩
/-- Begins with no digit, and with no space. -/
def Stop (r : List UInt8) : Prop := ∀ b t, r = b :: t → isDig b = false ∧ b ≠ 32
theorem tail_nodig {l : List Int} {r : List UInt8} (hr : Stop r) : NoDig (Lib.joinTail [32] (l.map numB) ++ r) := by
  cases l with
  | nil => exact fun b t e => (hr b t e).1
  | cons x l =>
    intro b t e
    simp only [Lib.joinTail, List.map_cons, List.flatten_cons, List.cons_append, List.nil_append] at e
    injection e with e _
    rw [← e]
    decide
theorem tail_inj : ∀ {l k : List Int} {r s : List UInt8}, Stop r → Stop s → Lib.joinTail [32] (l.map numB) ++ r = Lib.joinTail [32] (k.map numB) ++ s → l = k ∧ r = s
  | [], [], _, _, _, _, h => ⟨rfl, h⟩
  | [], y :: k, r, s, hr, _, h => by
    simp only [Lib.joinTail, List.map_cons, List.flatten_cons, List.cons_append, List.nil_append, List.map_nil, List.flatten_nil] at h
    exact absurd rfl (hr _ _ h).2
  | x :: l, [], r, s, _, hs, h => by
    simp only [Lib.joinTail, List.map_cons, List.flatten_cons, List.cons_append, List.nil_append, List.map_nil, List.flatten_nil] at h
    exact absurd rfl (hs _ _ h.symm).2
  | x :: l, y :: k, r, s, hr, hs, h => by
    have e : ∀ (z : Int) (q : List Int) (t : List UInt8), Lib.joinTail [32] ((z :: q).map numB) ++ t = 32 :: (numB z ++ (Lib.joinTail [32] (q.map numB) ++ t)) := fun z q t => by
      simp [Lib.joinTail]
    rw [e, e] at h
    injection h with _ h
    obtain ⟨rfl, h2⟩ := numB_inj (tail_nodig hr) (tail_nodig hs) h
    obtain ⟨rfl, h3⟩ := tail_inj hr hs h2
    exact ⟨rfl, h3⟩
theorem numsB_inj {l k : List Int} {r s : List UInt8} (hl : l ≠ []) (hk : k ≠ []) (hr : Stop r) (hs : Stop s) (h : numsB l ++ r = numsB k ++ s) : l = k ∧ r = s := by
  obtain ⟨x, l, rfl⟩ := List.exists_cons_of_ne_nil hl
  obtain ⟨y, k, rfl⟩ := List.exists_cons_of_ne_nil hk
  unfold numsB at h
  rw [List.map_cons, List.map_cons, Lib.join_cons, Lib.join_cons, List.append_assoc, List.append_assoc] at h
  obtain ⟨rfl, h2⟩ := numB_inj (tail_nodig hr) (tail_nodig hs) h
  obtain ⟨rfl, h3⟩ := tail_inj hr hs h2
  exact ⟨rfl, h3⟩
theorem nums_head {l : List Int} (hl : l ≠ []) : ∃ b t, numsB l = b :: t ∧ b ≠ 39 ∧ b ≠ 226 := by
  obtain ⟨x, l, rfl⟩ := List.exists_cons_of_ne_nil hl
  obtain ⟨b, t, e, h1, _, h2⟩ := num_head x
  refine ⟨b, t ++ Lib.joinTail [32] (l.map numB), ?_, h1, h2⟩
  unfold numsB
  rw [List.map_cons, Lib.join_cons, e]
  rfl
theorem stop_nil : Stop [] := fun b t e => by cases e
theorem stop_rho (t : List UInt8) : Stop (226 :: t) := fun b t' e => by
  injection e with e _
  subst e
  decide

/-! ### Characters -/
/-- The first character of a text between quotes, and what is behind it. -/
def decC : List UInt8 → Int × List UInt8
  | [] => (0, [])
  | b :: t =>
    if b.toNat = 39 then (39, t.drop 1)
    else if b.toNat < 128 then ((b.toNat : Int), t)
    else if b.toNat < 224 then (64 * ((b.toNat : Int) - 192) + ((t.headD 0).toNat : Int) - 128, t.drop 1)
    else if b.toNat < 240 then (4096 * ((b.toNat : Int) - 224) + 64 * (((t.headD 0).toNat : Int) - 128) + (((t.drop 1).headD 0).toNat : Int) - 128, t.drop 2)
    else (262144 * ((b.toNat : Int) - 240) + 4096 * (((t.headD 0).toNat : Int) - 128) + 64 * ((((t.drop 1).headD 0).toNat : Int) - 128) + (((t.drop 2).headD 0).toNat : Int) - 128, t.drop 3)
theorem decC_cons (b : UInt8) (t : List UInt8) : decC (b :: t) = if b.toNat = 39 then (39, t.drop 1)
    else if b.toNat < 128 then ((b.toNat : Int), t)
    else if b.toNat < 224 then (64 * ((b.toNat : Int) - 192) + ((t.headD 0).toNat : Int) - 128, t.drop 1)
    else if b.toNat < 240 then (4096 * ((b.toNat : Int) - 224) + 64 * (((t.headD 0).toNat : Int) - 128) + (((t.drop 1).headD 0).toNat : Int) - 128, t.drop 2)
    else (262144 * ((b.toNat : Int) - 240) + 4096 * (((t.headD 0).toNat : Int) - 128) + 64 * ((((t.drop 1).headD 0).toNat : Int) - 128) + (((t.drop 2).headD 0).toNat : Int) - 128, t.drop 3) := rfl
theorem byte_of {z : Int} (h0 : 0 ≤ z) (h1 : z ≤ 255) : ((z.toNat.toUInt8).toNat : Int) = z := by
  rw [Nat.toUInt8, UInt8.toNat_ofNat', Nat.mod_eq_of_lt (by omega)]
  omega
theorem decC_charB {x : Int} (r : List UInt8) (hx : charOk x = true) : decC (charB x ++ r) = (x, r) := by
  obtain ⟨⟨h0, h1⟩, h2⟩ := charOk_iff.1 hx
  by_cases h39 : x = 39
  · subst h39
    rfl
  have hc : charB x = Lib.encodeRune x := by
    unfold charB
    rw [if_neg h39, List.append_nil]
  rw [hc]
  unfold Lib.encodeRune
  by_cases r1 : x ≤ 127
  · rw [Lib.encodeRuneZ_one h0 r1]
    have b0 := byte_of h0 (by omega)
    simp only [List.map_cons, List.map_nil, List.cons_append, List.nil_append]
    rw [decC_cons]
    rw [if_neg (by omega), if_pos (by omega), b0]
  by_cases r2 : x ≤ 2047
  · rw [Lib.encodeRuneZ_two (by omega) r2]
    have b0 := byte_of (z := 192 + x / 64) (by omega) (by omega)
    have b1 := byte_of (z := 128 + x % 64) (by omega) (by omega)
    simp only [List.map_cons, List.map_nil, List.cons_append, List.nil_append]
    rw [decC_cons]
    rw [if_neg (by omega), if_neg (by omega), if_pos (by omega)]
    simp only [List.headD_cons, List.drop_succ_cons, List.drop_zero, b0, b1]
    congr 1
    omega
  by_cases r3 : x ≤ 65535
  · rw [Lib.encodeRuneZ_three (by omega)]
    have b0 := byte_of (z := 224 + x / 4096) (by omega) (by omega)
    have b1 := byte_of (z := 128 + x / 64 % 64) (by omega) (by omega)
    have b2 := byte_of (z := 128 + x % 64) (by omega) (by omega)
    simp only [List.map_cons, List.map_nil, List.cons_append, List.nil_append]
    rw [decC_cons]
    rw [if_neg (by omega), if_neg (by omega), if_neg (by omega), if_pos (by omega)]
    simp only [List.headD_cons, List.drop_succ_cons, List.drop_zero, b0, b1, b2]
    congr 1
    omega
  · rw [Lib.encodeRuneZ_four (by omega) (by omega)]
    have b0 := byte_of (z := 240 + x / 262144) (by omega) (by omega)
    have b1 := byte_of (z := 128 + x / 4096 % 64) (by omega) (by omega)
    have b2 := byte_of (z := 128 + x / 64 % 64) (by omega) (by omega)
    have b3 := byte_of (z := 128 + x % 64) (by omega) (by omega)
    simp only [List.map_cons, List.map_nil, List.cons_append, List.nil_append]
    rw [decC_cons]
    rw [if_neg (by omega), if_neg (by omega), if_neg (by omega), if_neg (by omega)]
    simp only [List.headD_cons, List.drop_succ_cons, List.drop_zero, b0, b1, b2, b3]
    congr 1
    omega
theorem charB_ne_nil (x : Int) : charB x ≠ [] := by
  unfold charB
  intro h
  have h2 := (List.append_eq_nil_iff.1 h).1
  unfold Lib.encodeRune Lib.encodeRuneZ at h2
  rw [List.map_eq_nil_iff] at h2
  split at h2
  · cases h2
  · split at h2
    · cases h2
    · split at h2
      · cases h2
      · split at h2 <;> cases h2
theorem flat_inj : ∀ {l k : List Int}, l.all charOk = true → k.all charOk = true → (l.map charB).flatten = (k.map charB).flatten → l = k
  | [], [], _, _, _ => rfl
  | [], y :: k, _, _, h => by
    simp only [List.map_nil, List.flatten_nil, List.map_cons, List.flatten_cons] at h
    exact absurd (List.append_eq_nil_iff.1 h.symm).1 (charB_ne_nil y)
  | x :: l, [], _, _, h => by
    simp only [List.map_nil, List.flatten_nil, List.map_cons, List.flatten_cons] at h
    exact absurd (List.append_eq_nil_iff.1 h).1 (charB_ne_nil x)
  | x :: l, y :: k, hl, hk, h => by
    rw [List.all_cons, Bool.and_eq_true] at hl hk
    simp only [List.map_cons, List.flatten_cons] at h
    have h1 := decC_charB (l.map charB).flatten hl.1
    rw [h, decC_charB _ hk.1] at h1
    injection h1 with e1 e2
    rw [e1, flat_inj hl.2 hk.2 e2.symm]
theorem charsB_inj {l k : List Int} (hl : l.all charOk = true) (hk : k.all charOk = true) (h : charsB l = charsB k) : l = k := by
  unfold charsB at h
  rw [List.append_assoc, List.append_assoc] at h
  exact flat_inj hl hk (List.append_cancel_right (List.append_cancel_left h))

/-! ### Arrays -/
theorem text_inj {a b : AV} (ha : okA a = true) (hb : okA b = true) (h : textB a = textB b) : a = b := by
  obtain ⟨k, sh, el⟩ := a
  obtain ⟨k', sh', el'⟩ := b
  obtain ⟨a1, a2, a3⟩ := okA_iff.1 ha
  obtain ⟨b1, b2, b3⟩ := okA_iff.1 hb
  simp only at a1 a2 a3 b1 b2 b3
  have kd : ∀ {q : Int} {l : List Int}, kindOk q l = true → q = 1 ∨ (q = 2 ∧ l.all charOk = true) := fun {q l} e => by
    unfold kindOk at e
    simpa using e
  -- the elements' text tells kind and elements, as long as it is known how many there are, or that there is one
  have elems : ∀ {q q' : Int} {s s' l l' : List Int}, kindOk q l = true → kindOk q' l' = true → (q = 1 → l = [] → l' = [] ∨ q' = 2) → (q' = 1 → l' = [] → l = [] ∨ q = 2) → elemsB ⟨q, s, l⟩ = elemsB ⟨q', s', l'⟩ → q = q' ∧ l = l' := by
    intro q q' s s' l l' e1 e2 n1 n2 e
    unfold elemsB at e
    simp only at e
    have hd : ∀ (z : List Int), (if z.length = 0 then [48] else numsB z) ≠ charsB l ∧ (if z.length = 0 then [48] else numsB z) ≠ charsB l' := fun z => by
      have hz : ∃ b t, (if z.length = 0 then [48] else numsB z) = b :: t ∧ b ≠ (39 : UInt8) := by
        split
        · exact ⟨48, [], rfl, by decide⟩
        · rename_i hz
          obtain ⟨b, t, e, h1, _⟩ := nums_head (l := z) (fun e => hz (by rw [e]; rfl))
          exact ⟨b, t, e, h1⟩
      obtain ⟨b, t, e, h1⟩ := hz
      rw [e]
      refine ⟨fun e2 => ?_, fun e2 => ?_⟩ <;>
        (unfold charsB at e2
         rw [List.append_assoc] at e2
         injection e2 with e2 _
         exact h1 e2)
    rcases kd e1 with rfl | ⟨rfl, c1⟩
    · rcases kd e2 with rfl | ⟨rfl, c2⟩
      · have n12 : ¬ ((1 : Int) = 2) := by omega
        simp only [n12, if_false] at e
        refine ⟨rfl, ?_⟩
        by_cases h1 : l.length = 0
        · have hl := List.eq_nil_of_length_eq_zero h1
          rcases n1 rfl hl with h2 | h2
          · rw [hl, h2]
          · omega
        · by_cases h2 : l'.length = 0
          · have hl := List.eq_nil_of_length_eq_zero h2
            rcases n2 rfl hl with h3 | h3
            · exact absurd (by rw [h3]; rfl) h1
            · omega
          · rw [if_neg h1, if_neg h2] at e
            exact (numsB_inj (r := []) (s := []) (fun e => h1 (by rw [e]; rfl)) (fun e => h2 (by rw [e]; rfl)) stop_nil stop_nil (by rw [e])).1
      · rw [if_neg (by omega), if_pos rfl] at e
        exact absurd e (hd l).2
    · rcases kd e2 with rfl | ⟨rfl, c2⟩
      · rw [if_pos rfl, if_neg (by omega)] at e
        exact absurd e.symm (hd l').1
      · rw [if_pos rfl, if_pos rfl] at e
        exact ⟨rfl, charsB_inj c1 c2 e⟩
  have shp : ∀ {q : Int} {s l : List Int}, (l.length : Int) = prodI s → tellsA ⟨q, s, l⟩ = true → s = (if l.length = 1 then [] else [(l.length : Int)]) ∧ (q = 1 → l ≠ []) := by
    intro q s l hp ht
    unfold tellsA at ht
    simp only [Bool.or_eq_true, Bool.and_eq_true, decide_eq_true_eq] at ht
    rcases ht with h0 | ⟨h1, h2⟩
    · have hs := List.eq_nil_of_length_eq_zero h0
      subst hs
      have hl : (l.length : Int) = 1 := hp
      have hl2 : l.length = 1 := by omega
      rw [if_pos hl2]
      exact ⟨rfl, fun _ e => by rw [e] at hl2; cases hl2⟩
    · obtain ⟨x, hx⟩ := List.length_eq_one_iff.1 h1
      subst hx
      have hx : (l.length : Int) = x := by rw [hp]; show x * 1 = x; omega
      rw [if_neg (by omega), hx]
      refine ⟨rfl, fun hq e => ?_⟩
      rw [e] at h2
      simp at h2
      omega
  have nsh : ∀ {q : Int} {s l : List Int}, tellsA ⟨q, s, l⟩ = false → s ≠ [] := by
    intro q s l ht e
    subst e
    cases ht
  have rho : ∀ (s : List Int) (e : List UInt8), numsB s ++ [226, 141, 180] ++ e = numsB s ++ (226 :: 141 :: 180 :: e) := fun s e => by rw [List.append_assoc]; rfl
  -- a text of elements alone is no text with a shape
  have mix : ∀ {q : Int} {s l s' : List Int} {e : List UInt8}, kindOk q l = true → (q = 1 → l ≠ []) → s' ≠ [] → elemsB ⟨q, s, l⟩ = numsB s' ++ (226 :: 141 :: 180 :: e) → False := by
    intro q s l s' e e1 hne hs' h
    unfold elemsB at h
    simp only at h
    rcases kd e1 with rfl | ⟨rfl, c1⟩
    · have hl := hne rfl
      rw [if_neg (by omega), if_neg (fun e => hl (List.eq_nil_of_length_eq_zero e))] at h
      have := (numsB_inj (r := []) hl hs' stop_nil (stop_rho _) (by rw [List.append_nil]; exact h)).2
      cases this
    · rw [if_pos rfl] at h
      obtain ⟨b, t, e2, h1, _⟩ := nums_head hs'
      rw [e2] at h
      unfold charsB at h
      rw [List.append_assoc] at h
      injection h with h _
      exact h1 h.symm
  unfold textB at h
  simp only at h
  cases ta : tellsA ⟨k, sh, el⟩
  · rw [ta, if_neg Bool.false_ne_true, rho] at h
    have hs1 := nsh ta
    cases tb : tellsA ⟨k', sh', el'⟩
    · rw [tb, if_neg Bool.false_ne_true, rho] at h
      obtain ⟨rfl, h2⟩ := numsB_inj hs1 (nsh tb) (stop_rho _) (stop_rho _) h
      injection h2 with _ h2
      injection h2 with _ h2
      injection h2 with _ h2
      have hll : el.length = el'.length := by omega
      obtain ⟨rfl, rfl⟩ := elems a3 b3 (fun _ e => .inl (List.eq_nil_of_length_eq_zero (by rw [← hll, e]; rfl))) (fun _ e => .inl (List.eq_nil_of_length_eq_zero (by rw [hll, e]; rfl))) h2
      rfl
    · rw [tb, if_pos rfl] at h
      exact (mix b3 (shp b2 tb).2 hs1 h.symm).elim
  · rw [ta, if_pos rfl] at h
    cases tb : tellsA ⟨k', sh', el'⟩
    · rw [tb, if_neg Bool.false_ne_true, rho] at h
      exact (mix a3 (shp a2 ta).2 (nsh tb) h).elim
    · rw [tb, if_pos rfl] at h
      obtain ⟨s1, n1⟩ := shp a2 ta
      obtain ⟨s2, n2⟩ := shp b2 tb
      obtain ⟨rfl, rfl⟩ := elems a3 b3 (fun e e2 => absurd e2 (n1 e)) (fun e e2 => absurd e2 (n2 e)) h
      rw [s1, s2]
end Go.Proofs.YtiiapljjopcabaaDoor.arr

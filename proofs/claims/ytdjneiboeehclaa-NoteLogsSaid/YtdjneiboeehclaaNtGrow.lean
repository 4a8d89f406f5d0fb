/-
  Layer 9 without any program: logs that grow. And 'great', of payloads.
-/
import Derived.Test.YtdjneiboeehclaaNtAlive
import Derived.Test.YtdjneiboeehclaaNtOpen
namespace Go.Proofs.Ytdjneiboeehclaa.note
open Go.RowKit Go.Maps Go.Proofs.Ytdjneiboeehclaa.crc Go.Proofs.Ytdjneiboeehclaa.root

theorem go_full : ∀ r : List (List UInt8), (takeN r).length = r.length → (∀ x, (takeN r).getLast? = some x → x.k ≤ 3) → GoL r r.length
  | [], _, _ => fun i h => by simp at h
  | p :: r, hl, hk => by
    have e : takeN (p :: r) = if endsN p = true then [] else if lastN p = true then [decN p] else decN p :: takeN r := rfl
    rw [e] at hl hk
    cases he : endsN p
    · rw [he] at hl hk
      rw [if_neg (by decide)] at hl hk
      cases hla : lastN p
      · rw [hla, if_neg (by decide)] at hl hk
        have h1 : GoL r r.length := go_full r (by simpa using hl) (fun x hx => hk x (by
          rw [List.getLast?_cons, hx]
          rfl))
        intro i hi
        rcases i with _ | i
        · exact ⟨he, hla⟩
        · exact h1 i (by simpa using hi)
      · exfalso
        rw [hla, if_pos rfl] at hk
        have h3 := hk (decN p) rfl
        have h4 := (ends_not he).2.2.2
        have h5 : lastN p = false := last_iff.2 (by omega)
        rw [hla] at h5
        cases h5
    · rw [he, if_pos rfl] at hl
      simp at hl
theorem GoL.append {r s : List (List UInt8)} (h : GoL r r.length) : GoL (r ++ s) r.length := fun i hi => by
  have e : (r ++ s).getD i [] = r.getD i [] := by
    rw [List.getD_eq_getElem?_getD, List.getD_eq_getElem?_getD, List.getElem?_append_left hi]
  rw [e]
  exact h i hi
theorem takeN_append {r : List (List UInt8)} (h : GoL r r.length) (s : List (List UInt8)) : takeN (r ++ s) = takeN r ++ takeN s := by
  rw [takeN_go (r ++ s) r.length (by simp) h.append, takeN_go r r.length (Nat.le_refl _) h]
  simp [takeN]
theorem goes_enc {x : NV} (hok : okN x = true) (hf : x.Fine) (hk : x.k = 2 ∨ x.k = 3) : endsN (encN x) = false ∧ lastN (encN x) = false := by
  have hd := dec_enc hok hf
  have hg := good_enc hok hf
  refine ⟨?_, last_iff.2 (by rw [hd.1]; exact hk)⟩
  unfold endsN
  rw [hg.1, hd.1]
  simp
  omega
theorem takeN_enc {x : NV} (hok : okN x = true) (hf : x.Fine) (hk : x.k = 2 ∨ x.k = 3) (r : List (List UInt8)) : takeN (encN x :: r) = x :: takeN r := by
  obtain ⟨h1, h2⟩ := goes_enc hok hf hk
  have e : takeN (encN x :: r) = if endsN (encN x) = true then [] else if lastN (encN x) = true then [decN (encN x)] else decN (encN x) :: takeN r := rfl
  rw [e, h1, h2, if_neg (by decide), if_neg (by decide), (dec_enc hok hf).1]
theorem begun_append {st : Int} {l s : List (List UInt8)} (h : begunN st l = true) : begunN st (l ++ s) = true := by
  cases l with
  | nil => cases h
  | cons p r => exact h
/-- A log that goes on takes more notes in. -/
theorem notes_more {st : Int} {l : List (List UInt8)} (hb : begunN st l = true) (hl : (notesN st l).length + 1 = l.length) (hk : ∀ x, (notesN st l).getLast? = some x → x.k ≤ 3) (s : List (List UInt8)) : notesN st (l ++ s) = notesN st l ++ takeN s := by
  have e1 : notesN st l = takeN l.tail := by unfold notesN; rw [hb]; rfl
  have e2 : notesN st (l ++ s) = takeN (l ++ s).tail := by unfold notesN; rw [begun_append hb]; rfl
  rw [e1] at hl hk ⊢
  rw [e2]
  cases l with
  | nil => cases hb
  | cons p r => exact takeN_append (go_full r (by simpa using hl) hk) s
theorem takeN_prefix : ∀ (r : List (List UInt8)) (k : Nat), takeN (r.take k) <+: takeN r
  | [], k => by simp
  | p :: r, 0 => by
    rw [List.take_zero]
    exact List.nil_prefix
  | p :: r, k + 1 => by
    rw [List.take_succ_cons]
    have e : ∀ q, takeN (p :: q) = if endsN p = true then [] else if lastN p = true then [decN p] else decN p :: takeN q := fun _ => rfl
    rw [e, e]
    split
    · exact List.prefix_rfl
    · split
      · exact List.prefix_rfl
      · exact (List.cons_prefix_cons).2 ⟨rfl, takeN_prefix r k⟩
theorem begun_take {st : Int} {l : List (List UInt8)} {k : Nat} (hk : 0 < k) : begunN st (l.take k) = begunN st l := by
  cases l with
  | nil => rw [List.take_nil]
  | cons p r =>
    obtain ⟨k, rfl⟩ : ∃ m, k = m + 1 := ⟨k - 1, by omega⟩
    rfl
theorem notes_prefix (st : Int) (l : List (List UInt8)) (k : Nat) : notesN st (l.take k) <+: notesN st l := by
  rcases Nat.eq_zero_or_pos k with rfl | hk
  · rw [List.take_zero]
    exact List.nil_prefix
  · unfold notesN
    rw [begun_take hk]
    split
    · cases l with
      | nil => rw [List.take_nil]; exact List.prefix_rfl
      | cons p r =>
        obtain ⟨k, rfl⟩ : ∃ m, k = m + 1 := ⟨k - 1, by omega⟩
        exact takeN_prefix r k
    · exact List.prefix_rfl
theorem file_mono_one (l : List NV) (x : NV) (k s p : Int) (h : (fileN l k s p).isSome = true) : (fileN (l ++ [x]) k s p).isSome = true := by
  rw [fileN_snoc]
  split
  · rfl
  · exact h
theorem prefix_ind {P : List NV → Prop} (hP : ∀ l x, P l → P (l ++ [x])) {a b : List NV} (h : a <+: b) (ha : P a) : P b := by
  obtain ⟨t, rfl⟩ := h
  have g : ∀ (t a : List NV), P a → P (a ++ t) := by
    intro t
    induction t with
    | nil => intro a h; rwa [List.append_nil]
    | cons x t ih =>
      intro a h
      have := ih (a ++ [x]) (hP a x h)
      rwa [List.append_assoc] at this
  exact g t a ha
theorem file_mono {a b : List NV} (h : a <+: b) {k s p : Int} (ha : (fileN a k s p).isSome = true) : (fileN b k s p).isSome = true := prefix_ind (P := fun l => (fileN l k s p).isSome = true) (fun l x => file_mono_one l x k s p) h ha
theorem steps_mono {a b : List NV} (h : a <+: b) : stepsN a ≤ stepsN b := prefix_ind (P := fun l => stepsN a ≤ stepsN l) (fun l x hl => by
  rw [stepsN_snoc]
  split <;> omega) h (Int.le_refl _)
theorem done_mono {a b : List NV} (h : a <+: b) (s : Int) : doneN a s ≤ doneN b s := prefix_ind (P := fun l => doneN a s ≤ doneN l s) (fun l x hl => by
  rw [doneN_snoc]
  omega) h (Nat.le_refl _)
/-- Who is noted is told. -/
theorem file_of : ∀ (a : List NV) (i : Nat) (x : NV), a[i]? = some x → (fileN a x.k x.a x.b).isSome = true := by
  intro a i x h
  have hlt := (List.getElem?_eq_some_iff.1 h).1
  refine file_mono (a := a.take (i + 1)) (List.take_prefix _ _) ?_
  rw [List.take_add_one, h]
  have := fileN_snoc (a.take i) x x.k x.a x.b
  rw [if_pos ⟨rfl, rfl, rfl⟩] at this
  show (fileN (a.take i ++ [x]) x.k x.a x.b).isSome = true
  rw [this]
  rfl

/-- One of the payloads handed in. -/
theorem RArgs.one {n c k : Nat} {W : World} {A : Option Addr} {ls : List (List UInt8)} {us : List Value} (h : RArgs W A n c ls us) (hk : k < n) :
    ∃ ad B d, A = some ad ∧ W.cell? (ad.add k) = some (.slice B (ls.getD k []).length d) ∧ Reads W W.heap.size 1 B (ls.getD k []).length ((ls.getD k []).map bv) ∧ (ls.getD k []).length ≤ d ∧ d ≤ 9223372036854775807 := by
  have hkl : k < ls.length := by rw [h.len]; exact hk
  have hl : ls[k]? = some (ls.getD k []) := by rw [List.getD_eq_getElem?_getD, List.getElem?_eq_getElem hkl]; rfl
  obtain ⟨B, d, h1, h2, h3, h4⟩ := h.heads k _ hl
  obtain ⟨ad, e, hb, hc⟩ := h.reads.2 (by omega)
  exact ⟨ad, B, d, e, hc k _ h1, h4, h2, h3⟩
theorem RArgs.rws {n c : Nat} {W : World} {A : Option Addr} {ls : List (List UInt8)} {us : List Value} (h : RArgs W A n c ls us) : Rws W.heap.size W A n ls us :=
  ⟨h.reads, h.len, fun i l hl => by obtain ⟨B, d, h1, _, _, h4⟩ := h.heads i l hl; exact ⟨B, d, h1, h4⟩⟩

/-! ### great -/
def bigL (ls : List (List UInt8)) : Bool := decide (150 < ls.length) || ls.any (fun l => decide (100 < l.length))
theorem bigL_no {ls : List (List UInt8)} (h : bigL ls = false) : ls.length ≤ 150 ∧ ∀ l ∈ ls, l.length ≤ 100 := by
  unfold bigL at h
  rw [Bool.or_eq_false_iff] at h
  refine ⟨by have := of_decide_eq_false h.1; omega, fun l hl => ?_⟩
  have := List.any_eq_false.1 h.2 l hl
  simp at this
  exact this
theorem any_take {ls : List (List UInt8)} {k : Nat} {p : List UInt8} (h : ls[k]? = some p) : (ls.take (k + 1)).any (fun l => decide (100 < l.length)) = ((ls.take k).any (fun l => decide (100 < l.length)) || decide (100 < p.length)) := by
  rw [List.take_add_one, h, List.any_append]
  simp

set_option maxRecDepth 100000 in
set_option maxHeartbeats 2000000 in
theorem great_any {A : Option Addr} {n c : Nat} {ls : List (List UInt8)} {us : List Value} {w : World} (hr : Rws w.heap.size w A n ls us) (hbig : n ≤ 9223372036854775807) :
    Calls Try.prog 13 #[.slice A n c] w fun e w' => e = .returned (.bool (bigL ls)) ∧ w = w' := by
  have hlen := hr.len
  have HR := Lib.hid hr
  have HN := Lib.hid hlen
  by_cases h1 : 150 < n
  · have hB : bigL ls = true := by unfold bigL; rw [hlen, decide_eq_true h1]; rfl
    have hd : (150 : Int) < (n : Int) := by omega
    rw [hB]
    clear hr hlen hB h1
    go_enter Try.func13, Try.ntmps13
    go_wp2
    go_ret
    exact ⟨rfl, rfl⟩
  · have hB : bigL ls = ls.any (fun l => decide (100 < l.length)) := by unfold bigL; rw [hlen, decide_eq_false h1]; rfl
    have hd : ¬ (150 : Int) < (n : Int) := by omega
    rw [hB]
    obtain ⟨G, hG⟩ : ∃ G, ls.any (fun l => decide (100 < l.length)) = G := ⟨_, rfl⟩
    rw [hG]
    have HG := Lib.hid hG
    clear hr hlen hB h1 hG
    go_enter Try.func13, Try.ntmps13
    go_wp2
    go_loop [9] (fun i => ∃ k : Nat, k ≤ n ∧ i = .int .i64 (k : Int) ∧ (ls.take k).any (fun l => decide (100 < l.length)) = false) (fun i => n - (intOf i).toNat)
    case atStart => exact ⟨0, Nat.zero_le _, rfl, rfl⟩
    case round =>
      obtain ⟨k, hk, rfl, hf⟩ := hrel
      by_cases hlt : k < n
      · obtain ⟨ad, B, d, rfl, _, ck, hrk⟩ := HR.out.one hlt
        have hkl : k < ls.length := by rw [HN.out]; exact hlt
        have hat : ls[k]? = some (ls.getD k []) := by rw [List.getD_eq_getElem?_getD, List.getElem?_eq_getElem hkl]; rfl
        have htk := any_take hat
        rw [hf, Bool.false_or] at htk
        have hmem : ls.getD k [] ∈ ls := List.mem_of_getElem? hat
        obtain ⟨p, hp⟩ : ∃ p, ls.getD k [] = p := ⟨_, rfl⟩
        rw [hp] at ck hrk htk hmem
        obtain ⟨m, hm⟩ : ∃ m, p.length = m := ⟨_, rfl⟩
        rw [hm] at ck htk
        have HM := Lib.hid hm
        have HMEM := Lib.hid hmem
        have hkn : (k : Int) < (n : Int) := by omega
        clear hrk hf hat hp hm hmem hkl
        by_cases hbg : 100 < m
        · have hd2 : (100 : Int) < (m : Int) := by omega
          have HT : Hid (G = true) := Lib.hid (by
            rw [← HG.out]
            exact List.any_eq_true.2 ⟨p, HMEM.out, decide_eq_true (by rw [HM.out]; exact hbg)⟩)
          clear htk hbg
          go_wp2
          go_ret
          exact ⟨by rw [HT.out]; rfl, rfl⟩
        · have hd2 : ¬ (100 : Int) < (m : Int) := by omega
          rw [decide_eq_false hbg] at htk
          have HT := Lib.hid htk
          clear htk hbg
          go_wp2
          go_round
          case rel => exact ⟨k + 1, by omega, by go_num, HT.out⟩
          case measure => simp [intOf]; omega
      · obtain rfl : k = n := by omega
        have hg : G = false := by
          rw [← HG.out]
          rw [← HN.out, List.take_length] at hf
          exact hf
        have HT := Lib.hid hg
        clear hf hg
        go_wp2
        go_ret
        exact ⟨by rw [HT.out]; rfl, rfl⟩
end Go.Proofs.Ytdjneiboeehclaa.note

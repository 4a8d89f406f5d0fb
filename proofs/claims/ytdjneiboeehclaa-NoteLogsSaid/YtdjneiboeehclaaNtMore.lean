/-
  Layer 9: payloads put behind payloads: what statements hand to New.
-/
import Derived.Test.YtdjneiboeehclaaNtGrow
namespace Go.Proofs.Ytdjneiboeehclaa.note
open Go.RowKit Go.Maps Go.Proofs.Ytdjneiboeehclaa.crc Go.Proofs.Ytdjneiboeehclaa.root

theorem quiet_left9 {P : Program} {f : FuncId} {args : Array Value} {w : World} {n : Nat} {v : Value}
    (h : Calls P f args (w.drewN n) fun e w' => e = .returned v ∧ w.drewN n = w') : Calls P f args (w.drewN n) fun e w'' => e = .returned v ∧ ∃ m, w'' = w.drewN m :=
  h.mono fun _ _ ⟨he, hm⟩ => ⟨he, n, hm.symm⟩
theorem rows_empty (w : World) (base : Nat) (hb : base ≤ w.heap.size) : (w.alloc (.cells #[] 24)).ownsRow base 24 1 (.slice (some ⟨w.heap.size, 0, none⟩) 0 0) 0 [] := World.ownsRow_made w #[] 0 hb (Nat.zero_le _) rfl
/-- Payloads and payloads. -/
theorem Rws.cat {W : World} {base M1 M2 m n k c : Nat} {A A1 A2 : Option Addr} {L C : List (List UInt8)} {us cs : List Value} (ho : W.ownsRow base 24 1 (.slice A m c) m (us ++ cs)) (h1 : Rws M1 W A1 n L us) (h2 : Rws M2 W A2 k C cs) (hM1 : M1 ≤ W.heap.size) (hM2 : M2 ≤ W.heap.size) : Rws W.heap.size W A m (L ++ C) (us ++ cs) := by
  have hu : us.length = L.length := by rw [h1.len, h1.reads.1, Nat.mul_one]
  refine ⟨Reads.of_own ho, by rw [List.length_append, ← hu, h2.len]; have := ho.1; rw [List.length_append, h2.reads.1] at this; omega, fun i l hl => ?_⟩
  by_cases hi : i < L.length
  · rw [List.getElem?_append_left hi] at hl
    obtain ⟨B, d, e1, e2⟩ := h1.heads i l hl
    exact ⟨B, d, by rw [List.getElem?_append_left (by rw [hu]; exact hi)]; exact e1, e2.more hM1⟩
  · rw [List.getElem?_append_right (by omega)] at hl
    obtain ⟨B, d, e1, e2⟩ := h2.heads _ l hl
    exact ⟨B, d, by rw [List.getElem?_append_right (by rw [hu]; omega), hu]; exact e1, e2.more hM2⟩
/-- Payloads stay where a row of another type grows. -/
theorem Rws.keep {W W' : World} {S : Nat → Prop} {M n : Nat} {A : Option Addr} {ls : List (List UInt8)} {us : List Value} (h : Rws M W A n ls us) (hk : Keep S W W') (hM : M ≤ W.heap.size) (hS : ∀ i, S i → M ≤ i) : Rws M W' A n ls us :=
  h.below (hk.below hM (fun i hi e => by have := hS i e; omega))
theorem Rws.one_val {W : World} {M n : Nat} {A : Option Addr} {ls : List (List UInt8)} {us : List Value} (h : Rws M W A n ls us) : ∀ u ∈ us, u.oneCell' = true := by
  intro u hu
  obtain ⟨i, hi⟩ := List.getElem?_of_mem hu
  have hl : us.length = ls.length := by rw [h.len, h.reads.1, Nat.mul_one]
  have hil := (List.getElem?_eq_some_iff.1 hi).1
  obtain ⟨B, d, e1, _⟩ := h.heads i (ls[i]'(by omega)) (List.getElem?_eq_getElem (by omega))
  rw [e1] at hi
  injection hi with hi
  subst hi
  rfl
theorem app_rows {w0 W W1 : World} {A : Option Addr} {n c m p : Nat} {v : Value} {xs ys zs : List Value} (hb : Below w0.heap.size w0 W) (ho : W.ownsRow w0.heap.size 24 1 (.slice A n c) n xs)
    (hown : W1.ownsRow w0.heap.size 24 1 v (n + m) (xs ++ ys)) (hg : W.grownBy W1 (Value.slice A n c).ownBlock) (hp : n + m = p) (hK : xs ++ ys = zs) :
    ∃ A' c', v = .slice A' p c' ∧ W1.ownsRow w0.heap.size 24 1 (.slice A' p c') p zs ∧ Below w0.heap.size w0 W1 := by
  subst hp hK
  obtain ⟨A', c', rfl⟩ := own_slice4 hown
  exact ⟨A', c', rfl, hown, hb.grown hg hb.size (fun k e => (ho.lt k e).1)⟩
theorem Rws.cat1 {W : World} {base M1 m n d c : Nat} {A A1 B : Option Addr} {L : List (List UInt8)} {l : List UInt8} {us : List Value} (ho : W.ownsRow base 24 1 (.slice A m c) m (us ++ [.slice B l.length d])) (h1 : Rws M1 W A1 n L us) (hl : Reads W W.heap.size 1 B l.length (l.map bv)) (hM1 : M1 ≤ W.heap.size) : Rws W.heap.size W A m (L ++ [l]) (us ++ [.slice B l.length d]) := by
  have hu : us.length = L.length := by rw [h1.len, h1.reads.1, Nat.mul_one]
  refine ⟨Reads.of_own ho, by rw [List.length_append, ← hu]; have := ho.1; rw [List.length_append] at this; simpa using this, fun i x hx => ?_⟩
  by_cases hi : i < L.length
  · rw [List.getElem?_append_left hi] at hx
    obtain ⟨B', d', e1, e2⟩ := h1.heads i x hx
    exact ⟨B', d', by rw [List.getElem?_append_left (by rw [hu]; exact hi)]; exact e1, e2.more hM1⟩
  · rw [List.getElem?_append_right (by omega)] at hx
    have h0 : i - L.length = 0 := by
      have := (List.getElem?_eq_some_iff.1 hx).1
      simp at this
      omega
    rw [h0] at hx
    injection hx with hx
    subst hx
    exact ⟨B, d, by rw [List.getElem?_append_right (by rw [hu]; omega), hu, h0]; rfl, hl⟩
theorem new_more1 (st : Int) {w6 w8 : World} {A B A8 : Option Addr} {n c d m c8 : Nat} {ls : List (List UInt8)} {l : List UInt8} {us : List Value} (h1 : RArgs w6 A n c ls us) (h2 : Reads w6 w6.heap.size 1 B l.length (l.map bv)) (hb : Below w6.heap.size w6 w8)
    (ho : w8.ownsRow w6.heap.size 24 1 (.slice A8 m c8) m (us ++ [.slice B l.length d])) (hm : m ≤ 1000) :
    Calls Try.prog 14 #[.int .i64 st, .slice A8 m c8] w8 fun e w' => ∃ b mf md v, e = .returned (.pointer (some ⟨b, 0, none⟩)) ∧ LogN w8.heap.size w' b mf md v (begunN st (ls ++ [l])) (notesN st (ls ++ [l])) (notesN st (ls ++ [l])) ∧ Below w8.heap.size w8 w' :=
  nnew_any st (Rws.cat1 ho (h1.rws.below hb) ((h2.below hb).more hb.size) hb.size) hm (own_cap9 ho)
/-- The first of the payloads. -/
theorem RArgs.front {W : World} {A : Option Addr} {n c k : Nat} {ls : List (List UInt8)} {us : List Value} (h : RArgs W A n c ls us) (hk : k ≤ n) : Rws W.heap.size W A k (ls.take k) (us.take k) := by
  have hu : us.length = n := by rw [h.reads.1, Nat.mul_one]
  refine ⟨⟨by rw [List.length_take, hu]; omega, fun h0 => ?_⟩, by rw [List.length_take, h.len]; omega, fun i l hl => ?_⟩
  · obtain ⟨ad, e, hb, hc⟩ := h.reads.2 (by omega)
    refine ⟨ad, e, hb, fun j u hu => hc j u ?_⟩
    rw [List.getElem?_take] at hu
    split at hu
    · exact hu
    · cases hu
  · rw [List.getElem?_take] at hl
    split at hl
    · rename_i hik
      obtain ⟨B, d, h1, _, _, h4⟩ := h.heads i l hl
      exact ⟨B, d, by rw [List.getElem?_take, if_pos hik]; exact h1, h4⟩
    · cases hl
/-- New of payloads put behind those handed in. -/
theorem new_more (st : Int) {w6 w8 : World} {A A2 A8 : Option Addr} {n c k m c8 : Nat} {ls C : List (List UInt8)} {us cs : List Value} (h1 : RArgs w6 A n c ls us) (h2 : Rws w6.heap.size w6 A2 k C cs) (hb : Below w6.heap.size w6 w8)
    (ho : w8.ownsRow w6.heap.size 24 1 (.slice A8 m c8) m (us ++ cs)) (hm : m ≤ 1000) :
    Calls Try.prog 14 #[.int .i64 st, .slice A8 m c8] w8 fun e w' => ∃ b mf md v, e = .returned (.pointer (some ⟨b, 0, none⟩)) ∧ LogN w8.heap.size w' b mf md v (begunN st (ls ++ C)) (notesN st (ls ++ C)) (notesN st (ls ++ C)) ∧ Below w8.heap.size w8 w' :=
  nnew_any st (Rws.cat ho (h1.rws.below hb) (h2.below hb) hb.size hb.size) hm (own_cap9 ho)
def lastB (ns : List NV) : Bool := match ns.getLast? with
  | none => true
  | some z => decide (z.k ≤ 3)
theorem lastB_iff {ns : List NV} : lastB ns = true ↔ ∀ z, ns.getLast? = some z → z.k ≤ 3 := by
  unfold lastB
  cases ns.getLast? with
  | none => simp
  | some z => simp
theorem last_at {ns : List NV} {m : Nat} (h : ns.length = m + 1) : ∃ z, ns[m]? = some z ∧ ns.getLast? = some z := by
  have hlt : m < ns.length := by omega
  refine ⟨ns[m], List.getElem?_eq_getElem hlt, ?_⟩
  rw [List.getLast?_eq_getElem?, h]
  exact List.getElem?_eq_getElem hlt
end Go.Proofs.Ytdjneiboeehclaa.note

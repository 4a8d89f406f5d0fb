/-
  How the arguments of layer 8's statements open: lists of slices of bytes.
-/
import Derived.Test.YtddhldmeknmgpaaDOpen
import Derived.Test.YtddhldmeknmgpaaJAlive
namespace Go.Proofs.Ytddhldmeknmgpaa.journal
open Go.ChangeShapes Go.WideShapes Go.ChangeAt Go.RowKit Go.Deep

/-- A list of slices of bytes as an argument. -/
structure RArgs (W : World) (A : Option Addr) (n c : Nat) (ls : List (List UInt8)) (us : List Value) : Prop where
  reads : Reads W W.heap.size 1 A n us
  len : ls.length = n
  heads : ∀ (i : Nat) (l : List UInt8), ls[i]? = some l → ∃ B d, us[i]? = some (.slice B l.length d) ∧ Sl W W.heap.size B d (l.map bv)
  cap : n ≤ c ∧ c ≤ 9223372036854775807

theorem cellsBytes : Try.prog.cellsOf 23 = 1 := by kernel_rfl

set_option maxRecDepth 100000 in
theorem open_rows {H : Type} {enc : TypeId × Value → H} {W : World} {base : Nat} {v : Value} {d : DataW H} {p : List MemPlace} (hval : Value.okWide Try.prog W .any base 44 v)
    (h : DataW.Trod enc Try.prog W 0 (fun _ => true) true 44 v d p) : ∃ A n c ls us, v = .slice A n c ∧ RArgs W A n c ls us := by
  obtain ⟨a0, len, cap, rfl⟩ := okWide_slice Try.underlying44 hval
  obtain ⟨fuel, hf⟩ := h
  rcases open_slice Try.underlying44 hf with ⟨hcs, hx⟩ | ⟨a, len', cap', m, n, D, Pl, hcs, _, hl, hm, hmm, hx, hi⟩
  · simp [Value.cells] at hcs
    obtain ⟨rfl, rfl, rfl⟩ := hcs
    exact ⟨none, 0, 0, [], [], rfl, Reads.none_, rfl, fun i l hl => by simp at hl, by omega⟩
  · simp [Value.cells] at hcs
    obtain ⟨rfl, rfl, rfl⟩ := hcs
    simp only [if_true] at hmm
    subst hmm
    have hmx : m ≤ 9223372036854775807 := by unfold maxLen at hm; omega
    have hall : ∀ i, i < len → ∃ o : List UInt8 × Value, W.cell? (a.add i) = some o.2 ∧ ∃ B d, o.2 = .slice B o.1.length d ∧ Sl W W.heap.size B d (o.1.map bv) := by
      intro i hil
      obtain ⟨cs', hc, ht'⟩ := hi i (by omega)
      rw [cellsBytes] at hc
      obtain ⟨_, hcl, hat⟩ := World.cells?_some hc
      obtain ⟨v0, rfl⟩ : ∃ v0, cs' = [v0] := by
        match cs', hcl with
        | [x], _ => exact ⟨x, rfl⟩
      obtain ⟨B, d, L, rfl, hs⟩ := sl_bytes ht'
      have g0 := hat 0 (by omega)
      have ha0 : (a.add (i * 1)).add 0 = a.add i := by rw [Nat.mul_one]; generalize a.add i = q; unfold Addr.add; cases q; simp
      rw [ha0] at g0
      exact ⟨⟨L, _⟩, g0, B, d, rfl, hs⟩
    obtain ⟨l, hll, hp⟩ := exists_list len hall
    refine ⟨some a, len, _, l.map (·.1), l.map (·.2), rfl, ⟨by rw [List.length_map, hll]; omega, fun h0 => ⟨a, rfl, ?_, fun j u hu => ?_⟩⟩, by rw [List.length_map, hll], fun i x hx => ?_, hl, hmx⟩
    · obtain ⟨o, ho⟩ : ∃ o, l[0]? = some o := ⟨_, List.getElem?_eq_getElem (by omega)⟩
      have := lt_of_cell (hp 0 o ho).1
      rwa [block_of_add] at this
    · rw [List.getElem?_map] at hu
      cases ho : l[j]? with
      | none => rw [ho] at hu; cases hu
      | some o =>
        rw [ho] at hu
        exact (hp j o ho).1.trans hu
    · rw [List.getElem?_map] at hx
      cases ho : l[i]? with
      | none => rw [ho] at hx; cases hx
      | some o =>
        rw [ho] at hx
        injection hx with hx
        subst hx
        obtain ⟨_, B, d, e, hs⟩ := hp i o ho
        exact ⟨B, d, by rw [List.getElem?_map, ho]; exact congrArg some e, hs⟩
theorem RArgs.below {w w' : World} {A : Option Addr} {n c : Nat} {ls : List (List UInt8)} {us : List Value} (h : RArgs w A n c ls us) (hb : Below w.heap.size w w') : RArgs w' A n c ls us :=
  ⟨(h.reads.below hb).more hb.size, h.len, fun i l hl => by obtain ⟨B, d, h1, h2⟩ := h.heads i l hl; exact ⟨B, d, h1, (h2.below hb).more hb.size⟩, h.cap⟩
theorem RArgs.rheads {w : World} {A : Option Addr} {n c : Nat} {ls : List (List UInt8)} {us : List Value} (h : RArgs w A n c ls us) : RHeads w ls us :=
  ⟨by rw [h.len]; have := h.reads.1; omega, fun i l hl => by obtain ⟨B, d, h1, h2⟩ := h.heads i l hl; exact ⟨B, d, h1, by have := h2.reads; rwa [List.length_map] at this⟩⟩

/-- A journal of 30 sectors from the third on, as statements fill it. -/
def JB (w0 w : World) (d : DAt) (b ep : Nat) (S0 : List (List UInt8)) (ls : List (List UInt8)) (m : Nat) : Prop :=
  ∃ S pv vs, S.length = 40 ∧ OnDisk S 3 ep ls ∧ (∀ i, 3 + ls.length ≤ i → S.getD i [] = S0.getD i []) ∧ Lives w0.heap.size w0 w d (flat S m) ∧ JAt w0.heap.size w b (some ⟨d.b, 0, none⟩) pv vs ⟨3, 30, ep, ls⟩ ∧ (∀ l ∈ ls, l.length ≤ 64) ∧ (∀ (i : Nat) (x : List UInt8), S[i]? = some x → x.length = 128)
theorem fit30 {ls : List (List UInt8)} {ep : Nat} (h : ls.length ≤ 30) (he : ep < 18446744073709551616) : (⟨3, 30, ep, ls⟩ : JS).Fit := ⟨h, (show 1 ≤ 30 by decide), (show (0 : Int) ≤ 3 by decide), (show (3 : Int) + ((30 : Nat) : Int) ≤ 4096 by decide), he⟩
theorem JB.next {w0 w w' : World} {d : DAt} {b ep m : Nat} {S0 ls : List (List UInt8)} (h : JB w0 w d b ep S0 ls m) (hb : Below w.heap.size w w') : JB w0 w' d b ep S0 ls m := by
  obtain ⟨S, pv, vs, h1, h2, h3, h4, h5, h6, h7⟩ := h
  exact ⟨S, pv, vs, h1, h2, h3, h4.next h4.lt hb, h5.below hb, h6, h7⟩
theorem JB.below {w0 w : World} {d : DAt} {b ep m : Nat} {S0 ls : List (List UInt8)} (h : JB w0 w d b ep S0 ls m) : Below w0.heap.size w0 w := by
  obtain ⟨S, pv, vs, h1, h2, h3, h4, h5, h6, h7⟩ := h
  exact h4.below
theorem sep_arg {w0 w : World} {d : DAt} {s : RSt} {B : Option Addr} {n : Nat} {xs : List Value} (L : Lives w0.heap.size w0 w d s) (hr : Reads w0 w0.heap.size 1 B n xs) : 0 < n → ∀ ad, B = some ad → ¬ d.foot ad.block := fun h0 ad e hf => by
  obtain ⟨ad', e', hlt, _⟩ := hr.2 h0
  rw [e] at e'
  injection e' with e'
  subst e'
  have := L.foot _ hf
  omega
theorem JB.app {w0 w : World} {d : DAt} {b ep m n c : Nat} {S0 ls : List (List UInt8)} {B : Option Addr} {l : List UInt8} (h : JB w0 w d b ep S0 ls m) (hep : ep < 18446744073709551616) (hl : l.length = n) (h64 : n ≤ 64) (hr : Reads w0 w0.heap.size 1 B n (l.map bv)) (hlt : ls.length < 30) (hm : m < 1000000) :
    Calls Try.prog 15 #[.pointer (some ⟨b, 0, none⟩), .slice B n c] w fun e w' => e = .returned (.int .i64 0) ∧ JB w0 w' d b ep S0 (ls ++ [l]) (m + 1) := by
  obtain ⟨S, pv, vs, h1, h2, h3, h4, h5, h6, h7⟩ := h
  refine (lapp (a := 3) h4 h5 (fit30 (by omega) hep) hl ((hr.below h4.below).more h4.below.size) (sep_arg h4 hr) h64 hlt (by omega) hm rfl).mono ?_
  rintro e w' ⟨h8, h9, ⟨pv', vs', h10⟩, _⟩
  have hsl : (sectJ ⟨ep, ls.length + 1, l⟩).length = 128 := sectJ_length (by show l.length ≤ 64; omega)
  refine ⟨h8, _, pv', vs', by rw [List.length_set]; exact h1, h2.app (by omega), fun i hi => ?_, h9, h10, fun x hx => ?_, fun i x hx => ?_⟩
  · rw [List.length_append] at hi
    simp only [List.length_cons, List.length_nil] at hi
    rw [getD_set_ne (by omega)]
    exact h3 i (by omega)
  · rcases List.mem_append.1 hx with hx | hx
    · exact h6 x hx
    · rw [List.mem_singleton.1 hx]; omega
  · rw [List.getElem?_set] at hx
    split at hx
    · split at hx
      · injection hx with hx
        rw [← hx]
        exact hsl
      · cases hx
    · exact h7 i x hx
end Go.Proofs.Ytddhldmeknmgpaa.journal

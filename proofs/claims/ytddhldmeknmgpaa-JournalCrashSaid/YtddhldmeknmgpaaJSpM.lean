/-
  Layer 8 without any program: what is found of a journal with a sector that was turned.
-/
import Derived.Test.YtddhldmeknmgpaaJOpenA
import Derived.Test.YtddhldmeknmgpaaJTurn
namespace Go.Proofs.Ytddhldmeknmgpaa.journal
open Go.RowKit Go.Proofs.Ytddhldmeknmgpaa.crc Go.Proofs.Ytddhldmeknmgpaa.root

theorem OnDisk.take {S : List (List UInt8)} {a ep : Nat} {ls : List (List UInt8)} (h : OnDisk S a ep ls) (q : Nat) : OnDisk S a ep (ls.take q) := fun i l hl => by
  rw [List.getElem?_take] at hl
  split at hl
  · exact h i l hl
  · cases hl
theorem OnDisk.set_ {S : List (List UInt8)} {a ep q : Nat} {ls : List (List UInt8)} (h : OnDisk S a ep ls) (hq : ls.length ≤ q) (x : List UInt8) : OnDisk (S.set (a + q) x) a ep ls := fun i l hl => by
  have := (List.getElem?_eq_some_iff.1 hl).1
  rw [getD_set_ne (by omega)]
  exact h i l hl
/-- The records ahead of a sector that is turned are found, and no more. -/
theorem spoilt_open {S : List (List UInt8)} {ep q m p : Nat} {ls : List (List UInt8)} {x y : UInt8} (hS : S.length = 40) (hep : ep < 18446744073709551616) (h : OnDisk S 3 ep ls) (h64 : ∀ l ∈ ls, l.length ≤ 64) (hn : ls.length ≤ 30) (hq : q < ls.length) (hx : (S.getD (3 + q) [])[p]? = some x) (hy : y ≠ 0) :
    openL (flat (S.set (3 + q) ((S.getD (3 + q) []).set p (x ^^^ y))) m) (3 : Int) 30 ep = ls.take q := by
  obtain ⟨l, hl⟩ : ∃ l, ls[q]? = some l := ⟨_, List.getElem?_eq_getElem hq⟩
  have hsec := h q l hl
  have hlen : (S.set (3 + q) ((S.getD (3 + q) []).set p (x ^^^ y))).length = 40 := by rw [List.length_set]; exact hS
  have htl : (ls.take q).length = q := by rw [List.length_take]; omega
  refine openL_is (a := 3) (by rw [hlen]; omega) (by rw [hlen]; omega) hep (fun l hl => h64 l (List.mem_of_mem_take hl)) ((h.take q).set_ (by omega) _) (by omega) (fun _ => ?_)
  rw [htl, getD_set_eq (by omega)]
  rw [hsec] at hx ⊢
  exact validJ_bad (turned_bad (okJ_iff.2 ⟨by show 1 ≤ q + 1; omega, h64 l (List.mem_of_getElem? hl)⟩) ⟨hep, by show q + 1 < _; omega⟩ hx hy)
theorem whole_open {S : List (List UInt8)} {ep m : Nat} {ls : List (List UInt8)} (hS : S.length = 40) (hep : ep < 18446744073709551616) (h : OnDisk S 3 ep ls) (h64 : ∀ l ∈ ls, l.length ≤ 64) (hn : ls.length ≤ 30) (hnext : ls.length < 30 → validJ ep ls.length (S.getD (3 + ls.length) []) = false) : openL (flat S m) (3 : Int) 30 ep = ls :=
  openL_is (a := 3) (by omega) (by omega) hep h64 h hn hnext
theorem zeros_at (n i : Nat) (h : i < n) : (zeros n).getD i [] = List.replicate 128 0 := by
  unfold zeros
  rw [List.getD_eq_getElem?_getD, List.getElem?_replicate, if_pos h]
  rfl
theorem u8_xor (x y : UInt8) : bits .xor .u8 (x.toNat : Int) (y.toNat : Int) = (((x ^^^ y).toNat : Nat) : Int) := by
  have h := u8_xor_nat x.toNat y.toNat x.toNat_lt y.toNat_lt
  rw [UInt8.toNat_xor]
  exact h
theorem open30 {S : List (List UInt8)} {m : Nat} (hS : S.length = 40) : openE (flat S m) 3 (30 : Nat) = 0 := open_flat (a := 3) (by decide) (by omega) (by omega)
theorem ls30_new {ep : Nat} (hep : ep < 18446744073709551616) : openL (flat (zeros 40) 0) 3 30 ep = [] := whole_open (zeros_length 40) hep (OnDisk.nil _ _ _) (fun l h => by cases h) (by decide) (fun _ => by
  show validJ ep 0 ((zeros 40).getD 3 []) = false
  rw [zeros_at 40 3 (by decide)]
  exact validJ_bad zero_bad)
/-- What is read of a sector may be written to. -/
theorem read_turn {w w' : World} {v : Value} {l : List UInt8} (h : ReadOut w w' v l) (hl : l.length = 128) {p : Nat} {x : UInt8} (hx : l[p]? = some x) :
    ∃ g, v = .slice (some ⟨g, 0, none⟩) 128 128 ∧ w'.cell? ⟨g, p, none⟩ = some (.int .u8 x.toNat) ∧ w'.frozen? ⟨g, p, none⟩ = false ∧ ∀ y : UInt8, Below w.heap.size w (w'.setCell ⟨g, p, none⟩ (.int .u8 y.toNat)) ∧ Reads (w'.setCell ⟨g, p, none⟩ (.int .u8 y.toNat)) (w'.setCell ⟨g, p, none⟩ (.int .u8 y.toNat)).heap.size 1 (some ⟨g, 0, none⟩) 128 ((l.set p y).map bv) := by
  obtain ⟨b, ⟨rfl, _, _⟩ | ⟨_, g, hg, rfl, hb⟩⟩ := h
  · cases hl
  · refine ⟨g, rfl, ?_, hb.frozen p, fun y => ⟨b.setCell hg _, ?_⟩⟩
    · rw [hb.cell p]
      simp [hx, bv]
    · have hs := hb.set_ p (.int .u8 y.toNat)
      refine ⟨by rw [List.length_map, List.length_set, hl], fun _ => ⟨_, rfl, hs.lt, fun j u hu => ?_⟩⟩
      have hp : (⟨g, 0, none⟩ : Addr).add j = ⟨g, j, none⟩ := by unfold Addr.add; split <;> simp_all
      rw [hp, hs.cell, ← hu]
      simp [List.map_set, bv]
theorem RArgs.front {w : World} {A : Option Addr} {n c q : Nat} {ls : List (List UInt8)} {us : List Value} (h : RArgs w A n c ls us) (hq : q ≤ n) : Reads w w.heap.size 1 A q (us.take q) ∧ RHeads w (ls.take q) (us.take q) := by
  have hul : us.length = n := by have := h.reads.1; omega
  refine ⟨⟨by rw [List.length_take]; omega, fun h0 => ?_⟩, by rw [List.length_take, List.length_take, h.len, hul], fun i l hl => ?_⟩
  · obtain ⟨ad, e, hb, hc⟩ := h.reads.2 (by omega)
    refine ⟨ad, e, hb, fun j u hu => hc j u ?_⟩
    rw [List.getElem?_take] at hu
    split at hu
    · exact hu
    · cases hu
  · rw [List.getElem?_take] at hl ⊢
    split at hl
    · rename_i hi
      rw [if_pos hi]
      exact h.rheads.2 i l hl
    · cases hl
theorem getD_set_same {S : List (List UInt8)} {a p : Nat} {l : List UInt8} {x : UInt8} (h : S.getD a [] = l) (hx : l[p]? = some x) : S.set a (l.set p (x ^^^ 0)) = S := by
  have e : l.set p (x ^^^ 0) = l := by
    rw [UInt8.xor_zero]
    obtain ⟨hp, rfl⟩ := List.getElem?_eq_some_iff.1 hx
    exact List.set_getElem_self hp
  rw [e]
  by_cases ha : a < S.length
  · subst h
    rw [List.getD_eq_getElem?_getD, List.getElem?_eq_getElem ha]
    exact List.set_getElem_self ha
  · exact List.set_eq_of_length_le (by omega)
theorem jrecords_n {N w b p pv vs a M ep n} {ls : List (List UInt8)} (h : JAt N w b p pv vs ⟨a, M, ep, ls⟩) (h64 : ∀ l ∈ ls, l.length ≤ 64) (hn : ls.length = n) : Calls Try.prog 20 #[.pointer (some ⟨b, 0, none⟩)] w fun e w' => ∃ A c us, e = .returned (.slice A n c) ∧ Grows w w' ls n (.slice A n c) us := by
  subst hn
  exact jrecords_any h (fun l hl => by have := h64 l hl; omega)
/-- What is found when one byte of the record's sector was turned, or none was. -/
theorem spoilt_is {S : List (List UInt8)} {q p m a : Nat} {ls : List (List UInt8)} {x y : UInt8} {old : List UInt8} (hS : S.length = 40) (hon : OnDisk S 3 5 ls) (hrest : ∀ i, 3 + ls.length ≤ i → S.getD i [] = (zeros 40).getD i []) (h64 : ∀ l ∈ ls, l.length ≤ 64) (hn : ls.length ≤ 20) (hq : q < ls.length) (ha : 3 + q = a) (hold : S.getD a [] = old) (hx : old[p]? = some x) :
    openL (flat (S.set a (old.set p (x ^^^ y))) m) (3 : Int) 30 5 = if y = 0 then ls else ls.take q := by
  split
  · rename_i hy
    subst hy
    rw [getD_set_same hold hx]
    refine whole_open hS (by decide) hon h64 (by omega) (fun _ => ?_)
    rw [hrest _ (Nat.le_refl _), zeros_at _ _ (by omega)]
    exact validJ_bad zero_bad
  · rename_i hy
    subst ha hold
    exact spoilt_open hS (by decide) hon h64 (by omega) hq hx hy
end Go.Proofs.Ytddhldmeknmgpaa.journal

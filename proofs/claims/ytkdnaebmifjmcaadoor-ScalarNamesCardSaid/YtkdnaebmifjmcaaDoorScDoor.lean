/-
  The table of glyphs, as the row's condition lays it; what Glyph and Named answer of it.
-/
import Derived.Test.YtkdnaebmifjmcaaDoorByt
import Derived.LaidMore
import Derived.Stop.Joined
import Derived.Lib.LaidTab
import Derived.ProofKit
namespace Go.Proofs.YtkdnaebmifjmcaaDoor.sc
open Go.ChangeShapes Go.WideShapes Go.ChangeAt Go.WideMaps Go.WideElems Go.RowKit

/-- The glyphs' bytes. -/
def glyB : List (List UInt8) := [[], [43], [45], [195, 151], [195, 183], [124], [226, 140, 138], [226, 140, 136], [42], [61], [226, 137, 160], [60], [226, 137, 164], [226, 137, 165], [62], [226, 136, 167], [226, 136, 168], [126]]
def glyV (l : List UInt8) : Value := .string ⟨l.toArray⟩
def laidG : List (String × DataW Unit) := [("quadrat/scalar.glyphs", Rows.laid_quadrat_scalar_glyphs)]
/-- The table holds them: block 0. -/
def Gly (W : World) : Prop := W.var? Tryd.prog "quadrat/scalar.glyphs" = some (glyB.map glyV).toArray
theorem gGly : Tryd.prog.globalNamed "quadrat/scalar.glyphs" = some 0 := by kernel_rfl

theorem gly_met (os : Os) (args : Array Value) : laidMetH Tryd.prog laidG ((World.doorLaid Tryd.prog 400 os).forCall (fun _ _ => 0) ⟨#[], args, []⟩).memory :=
  laidMetH_of_parts3 (fuel := 8) (laidMet_of_run' 8 (by kernel_rfl) (by kernel_rfl)) (by kernel_rfl) (by kernel_rfl)

theorem Gly.below {w w' : World} (h : Gly w) (hb : Below w.heap.size w w') : Gly w' := by
  have hgn := gGly
  unfold Gly World.var? at h ⊢
  rw [hgn] at h ⊢
  simp only [Option.bind_some] at h ⊢
  have hlt : 0 < w.heap.size := by
    rcases Nat.lt_or_ge 0 w.heap.size with h' | h'
    · exact h'
    · rw [Array.getElem?_eq_none h'] at h; cases h
  rw [hb.block 0 hlt]
  exact h
theorem cells_of_strs {H : Type} {enc : TypeId × Value → H} {P : Program} {w : World} {base : Nat} {sp : Nat → Bool} {held : Bool} {fuel : Nat} {t e : TypeId} {n : Nat} {cs : List Value} {zs : List (List UInt8)} {p : List MemPlace}
    (ht : P.underlying t = some (.array n e)) (he : P.underlying e = some .string) (hce : P.cellsOf e = 1) (hct : P.cellsOf t = n)
    (h : DataW.trod enc P w base sp held fuel t cs = some (.agg (zs.map fun z => .lit (.string z)), p)) : cs = zs.map glyV := by
  cases fuel with
  | zero => simp [DataW.trod] at h
  | succ fuel =>
    simp only [DataW.trod, ht, hce, hct, Nat.mul_one] at h
    split at h
    · rename_i hl
      obtain ⟨xs, hm, hx⟩ := Option.map_eq_some_iff.1 h
      have hxs : xs.map (·.1) = zs.map fun z => (DataW.lit (.string z) : DataW H) := by
        have := congrArg Prod.fst hx
        simpa using this
      have hxl : xs.length = n := by simpa using Lib.mapM_length hm
      have hzl : zs.length = n := by
        have := congrArg List.length hxs
        simp at this
        omega
      apply List.ext_getElem?
      intro i
      by_cases hi : i < n
      · obtain ⟨b, hb, hf⟩ := Lib.mapM_at hm i i (by simp [hi])
        obtain ⟨z, hc, rfl, _⟩ := DataW.trod_string he hf
        have h1 : cs[i]? = some (.string z) := by
          have := congrArg (·[0]?) hc
          simpa [List.getElem?_take, List.getElem?_drop] using this
        have h2 : (xs.map (·.1))[i]? = some (DataW.lit (.string z.data.toList) : DataW H) := by simp [hb]
        rw [hxs] at h2
        simp only [List.getElem?_map, Option.map_eq_some_iff, DataW.lit.injEq, Lit.string.injEq] at h2
        obtain ⟨z', hz', hz2⟩ := h2
        rw [h1, List.getElem?_map, hz', hz2]
        rfl
      · rw [List.getElem?_eq_none (by omega), List.getElem?_eq_none (by simp; omega)]
    · cases h
theorem gly_of_laid {W : World} (h : laidMetH Tryd.prog laidG W) : Gly W := by
  rw [MakeChecks.laidMetH_plain _ _ _ (by kernel_rfl)] at h
  obtain ⟨ps, ⟨g0, t0, cs0, f0, p0, q0, hg0, ht0, hv0, hd0, _, _⟩, _, _⟩ := h
  obtain rfl := Option.some.inj (gGly.symm.trans hg0)
  have hty : (Tryd.prog.globals[0]?).map (·.type) = some 68 := by kernel_rfl
  obtain rfl := Option.some.inj (hty.symm.trans ht0)
  have hdat : Rows.laid_quadrat_scalar_glyphs = (.agg (glyB.map fun z => .lit (.string z)) : DataW Unit) := by kernel_rfl
  rw [hdat] at hd0
  unfold Gly
  rw [hv0, ← cells_of_strs Tryd.underlying68 Tryd.underlying9 (by kernel_rfl) (by kernel_rfl) hd0]
theorem Gly.cell {W : World} (h : Gly W) (i : Nat) (l : List UInt8) (hi : glyB[i]? = some l) : W.cell? ⟨0, i, none⟩ = some (glyV l) := by
  have := World.var?_cell gGly h i
  simpa [hi] using this

theorem glyph_at {W : World} (h : Gly W) (i : Nat) (l : List UInt8) (hi : glyB[i]? = some l) : Calls Tryd.prog 15 #[.int .i64 (i : Int)] W fun e w' => e = .returned (glyV l) ∧ W = w' := by
  have c0 := h.cell i l hi
  have hlt : i < 18 := by
    have := (List.getElem?_eq_some_iff.1 hi).1
    exact this
  have hlt2 : ¬ (18 : Int) ≤ (i : Int) := by omega
  have hlt0 : ¬ (i : Int) < 0 := by omega
  clear hi h
  unfold glyV at *
  go_enter Tryd.func15, Tryd.ntmps15
  go_wp2
  go_ret
  exact ⟨rfl, rfl⟩
theorem glyph_no {W : World} (f : Int) (h : f < 0 ∨ 18 ≤ f) : Calls Tryd.prog 15 #[.int .i64 f] W fun e w' => e = .returned (.string ⟨#[]⟩) ∧ W = w' := by
  have hF : (decide (f < 0) || decide ((18 : Int) ≤ f)) = true := by simp; exact h
  rcases h with h | h
  · go_enter Tryd.func15, Tryd.ntmps15
    go_wp2
    go_ret
    exact ⟨rfl, rfl⟩
  · have h0 : ¬ f < 0 := by omega
    go_enter Tryd.func15, Tryd.ntmps15
    go_wp2
    go_ret
    exact ⟨rfl, rfl⟩
/-- What Named answers of a text. -/
def NamedV (s : ByteArray) (n : Int) : Prop := (∃ j : Nat, n = j ∧ glyB[j]? = some s.toList ∧ ∀ m : Nat, m < j → glyB[m]? ≠ some s.toList) ∨ (n = 0 ∧ ∀ m : Nat, glyB[m]? ≠ some s.toList)
theorem gly_some {j : Nat} (h : j < 18) : ∃ l, glyB[j]? = some l := ⟨_, List.getElem?_eq_getElem (show j < glyB.length from h)⟩
theorem named_any {W : World} (h : Gly W) (s : ByteArray) : Calls Tryd.prog 17 #[.string s] W fun e w' => (∃ n : Int, e = .returned (.int .i64 n) ∧ NamedV s n) ∧ W = w' := by
  have HC := Lib.hid h
  clear h
  go_enter Tryd.func17, Tryd.ntmps17
  go_wp2
  go_loopw [4] (fun i wr => ∃ j : Nat, j ≤ 18 ∧ i = .int .i64 (j : Int) ∧ Hid (W = wr ∧ ∀ m : Nat, m < j → glyB[m]? ≠ some s.toList)) (fun i _ => 18 - (intOf i).toNat)
  case atStart => exact ⟨0, by decide, rfl, Lib.hid ⟨rfl, fun m h => absurd h (Nat.not_lt_zero _)⟩⟩
  case round =>
    obtain ⟨j, hj, rfl, hw⟩ := hrel
    obtain ⟨rfl, hno⟩ := hw.out
    clear hw
    by_cases hlt : j < 18
    · obtain ⟨l, hl⟩ := gly_some hlt
      have c0 := HC.out.cell j l hl
      have HL := Lib.hid hl
      have HN := Lib.hid hno
      clear hl hno
      unfold glyV at c0
      have hd : (j : Int) < 18 := by omega
      by_cases hs : l = s.toList
      · have hb : (l == s.toList) = true := by rw [hs]; simp
        go_wp2
        go_ret
        exact ⟨⟨(j : Int), by first | rfl | trivial, .inl ⟨j, rfl, hs ▸ HL.out, HN.out⟩⟩, by first | rfl | trivial⟩
      · have hb : (l == s.toList) = false := by rw [beq_eq_false_iff_ne]; exact hs
        go_wp2
        exact ⟨⟨j + 1, by omega, by go_num, Lib.hid ⟨trivial, fun m hm => by
          by_cases h : m = j
          · subst h
            rw [HL.out]
            intro h2
            injection h2 with h2
            exact hs h2
          · exact HN.out m (by omega)⟩⟩, by simp [intOf]; omega⟩
    · obtain rfl : j = 18 := by omega
      go_wp2
      go_ret
      exact ⟨⟨0, rfl, .inr ⟨rfl, fun m => by
        by_cases h : m < 18
        · exact hno m h
        · rw [List.getElem?_eq_none (show glyB.length ≤ m by show 18 ≤ m; omega)]
          intro h2
          cases h2⟩⟩, rfl⟩
theorem named_hit {W : World} (h : Gly W) (s : ByteArray) (n : Int) (hn : ∀ k, NamedV s k → k = n) : Calls Tryd.prog 17 #[.string s] W fun e w' => e = .returned (.int .i64 n) ∧ W = w' := (named_any h s).mono (by
  rintro e w' ⟨⟨k, rfl, hk⟩, rfl⟩
  exact ⟨by rw [hn k hk], rfl⟩)
theorem tl_and : (⟨#[226, 136, 167]⟩ : ByteArray).toList = [226, 136, 167] := by decide +kernel
theorem tl_none : (⟨#[]⟩ : ByteArray).toList = [] := by decide +kernel
theorem named_and (k : Int) (h : NamedV ⟨#[226, 136, 167]⟩ k) : k = 15 := by
  unfold NamedV at h
  rw [tl_and] at h
  rcases h with ⟨j, rfl, h1, h2⟩ | ⟨_, h⟩
  · rcases Nat.lt_trichotomy j 15 with hj | hj | hj
    · exfalso
      have : ∀ j, j < 15 → glyB[j]? ≠ some [226, 136, 167] := by decide
      exact this j hj h1
    · omega
    · exact absurd (by decide) (h2 15 hj)
  · exact absurd (by decide) (h 15)
theorem named_none (k : Int) (h : NamedV ⟨#[]⟩ k) : k = 0 := by
  unfold NamedV at h
  rw [tl_none] at h
  rcases h with ⟨j, rfl, h1, h2⟩ | ⟨h, _⟩
  · rcases Nat.lt_or_ge 0 j with hj | hj
    · exact absurd (by decide) (h2 0 hj)
    · omega
  · exact h
end Go.Proofs.YtkdnaebmifjmcaaDoor.sc

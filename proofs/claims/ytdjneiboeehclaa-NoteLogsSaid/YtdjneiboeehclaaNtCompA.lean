/-
  The log of layer 9: what complete leaves.
-/
import Derived.Test.YtdjneiboeehclaaNtLog
namespace Go.Proofs.Ytdjneiboeehclaa.note
open Go.RowKit Go.Maps Go.Proofs.Ytdjneiboeehclaa.crc Go.Proofs.Ytdjneiboeehclaa.root

theorem run_max (st a r : Int) (hr : max st a = r) (ts : Array TypeId) (t : TypeId) (w : World) : (Builtin.max_ ts t #[.int .i64 st, .int .i64 a]).run Try.prog w = .ok (.int .i64 r) w := by
  have hm : (if a > st then a else st) = r := by
    subst hr
    split <;> omega
  rw [run_max_int2, hm]
theorem map_not_blk {w : World} {P : Program} {k : TypeId} {R : Value → Option (DataW Unit × List MemPlace)} {b n : Nat} {D : DataW Unit} {t : TypeId} {cs : Array Value} (h : w.ownsMap P k R b n D) (hb : Blk w b t cs) : False := by
  obtain ⟨es, clock, h1, _⟩ := h
  unfold Blk at hb
  rw [h1] at hb
  cases hb
theorem put_file {D : DataW Unit} {fs : List NV} {x : NV} (h : Files D fs) (hD : IsMap D) (hx : x.Fine) : Files (D.put (keyP x.k x.a x.b) (.lit (.int .i64 x.n))) (fs ++ [x]) := by
  intro k s p hk' hs hp
  have hk64 : i64ok k := by unfold i64ok; omega
  have hlit : WideAt.IsKeyLit (keyP x.k x.a x.b) := keyed_piece.key (key_piece hx.k hx.a hx.b)
  rw [fileN_snoc]
  by_cases he : x.k = k ∧ x.a = s ∧ x.b = p
  · obtain ⟨rfl, rfl, rfl⟩ := he
    rw [if_pos ⟨rfl, rfl, rfl⟩]
    exact ⟨has_put_same hD hlit _, atKey_put_same hD hlit _ _⟩
  · rw [if_neg he]
    have hne : keyP k s p ≠ keyP x.k x.a x.b := fun e => he (by
      obtain ⟨h1, h2, h3⟩ := keyP_inj hk64 hs hp hx.k hx.a hx.b e
      exact ⟨h1.symm, h2.symm, h3.symm⟩)
    obtain ⟨h1, h2⟩ := h k s p hk' hs hp
    exact ⟨by rw [has_put_other hne]; exact h1, by rw [atKey_put_other hne]; exact h2⟩
theorem put_done {E : DataW Unit} {fs : List NV} {x : NV} (h : Dones E fs) (hE : IsMap E) (hk : x.k = 2) (hn : fileN fs 2 x.a x.b = none) : Dones (E.put (.int .i64 x.a) (.lit (.int .i64 ((doneN fs x.a : Int) + 1)))) (fs ++ [x]) := by
  intro s hs
  rw [doneN_snoc]
  by_cases he : x.a = s
  · subst he
    rw [if_pos ⟨hk, rfl, hn⟩, atKey_put_same hE (keyed_int.key (key_int hs))]
    simp
  · have hne : (Lit.int .i64 s) ≠ Lit.int .i64 x.a := fun e => he ((Lit.int.inj e).2).symm
    rw [if_neg (fun h => he h.2.1), atKey_put_other hne]
    exact h s hs
theorem same_done {E : DataW Unit} {fs : List NV} {x : NV} (h : Dones E fs) (hn : ¬ (x.k = 2 ∧ fileN fs 2 x.a x.b = none)) : Dones E (fs ++ [x]) := by
  intro s hs
  rw [doneN_snoc, if_neg (fun h => hn ⟨h.1, h.2.2⟩)]
  exact h s hs

section
variable {N b mf md : Nat} {w w' : World} {v : Value} {bg : Bool} {ns fs : List NV}
/-- What stands behind 'complete', told apart. -/
theorem LogN.finish {W : World} (k a p n : Int) {D E : DataW Unit} (h : LogN N w b mf md v bg ns fs) (hx : okN ⟨k, a, p, n⟩ = true ∧ (⟨k, a, p, n⟩ : NV).Fine ∧ 2 ≤ (⟨k, a, p, n⟩ : NV).k) (hk : k ≤ 3) (hfew : fs.length < 100000)
    (hK : Keep (fun i => i = b ∨ i = mf ∨ i = md) w W) (hB : Blk W b 71 #[.pointer (some ⟨b, 0, none⟩), .bool bg, v, .map (some mf), .map (some md), .int .i64 (stepsN fs)])
    (hD : W.ownsMap Try.prog 77 (plainElem Try.prog 2) mf (fs.length + 1) D) (hF : Files D (fs ++ [⟨k, a, p, n⟩])) (hE : W.ownsMap Try.prog 3 (plainElem Try.prog 3) md (fs.length + 1) E) (hG : Dones E (fs ++ [⟨k, a, p, n⟩])) :
    LogN N (W.setCell ⟨b, 5, none⟩ (.int .i64 (max (stepsN fs) (a + 1)))) b mf md v bg ns (fs ++ [⟨k, a, p, n⟩]) ∧ Keep (fun i => i = b ∨ i = mf ∨ i = md) w (W.setCell ⟨b, 5, none⟩ (.int .i64 (max (stepsN fs) (a + 1)))) := by
  have hK2 : Keep (fun i => i = b ∨ i = mf ∨ i = md) w (W.setCell ⟨b, 5, none⟩ (.int .i64 (max (stepsN fs) (a + 1)))) := hK.setCell _ _ (fun _ => .inl rfl)
  have h1 : Keep (fun i => i = b) W (W.setCell ⟨b, 5, none⟩ (.int .i64 (max (stepsN fs) (a + 1)))) := (Keep.refl _ _).setCell _ _ (fun _ => rfl)
  have hs : stepsN (fs ++ [⟨k, a, p, n⟩]) = max (stepsN fs) (a + 1) := by rw [stepsN_snoc, if_pos (show (⟨k, a, p, n⟩ : NV).k ≤ 3 from hk)]
  obtain ⟨⟨D0, hD0, _⟩, E0, hE0, _⟩ := h.m
  have hl : (fs ++ [(⟨k, a, p, n⟩ : NV)]).length = fs.length + 1 := by simp
  have nf : ¬ mf = b := fun e => map_not_blk hD (t := 71) (by rw [e]; exact hB)
  have nd : ¬ md = b := fun e => map_not_blk hE (t := 71) (by rw [e]; exact hB)
  refine ⟨⟨by rw [hs]; exact hB.set_ 5 _, hK2.own h.own (fun g e e2 => ?_), ⟨⟨D, by rw [hl]; exact map_keep hD h1 nf, hF⟩, E, by rw [hl]; exact map_keep hE h1 nd, hG⟩, h.lo, h.ne, h.ok, fun y hy => ?_, h.few.1, by rw [hl]; omega⟩, hK2⟩
  · obtain ⟨_, _, cur, hc⟩ := own_is h.own g e
    rcases e2 with rfl | rfl | rfl
    · exact own_blk_ne h.own h.blk (by decide) e
    · exact map_not_blk hD0 hc
    · exact map_not_blk hE0 hc
  · rcases List.mem_append.1 hy with hy | hy
    · exact h.fok y hy
    · rw [List.mem_singleton.1 hy]
      exact hx
end
end Go.Proofs.Ytdjneiboeehclaa.note

/-
  Layer 13 (mold): what the region of cutWay's round turns: two rows that grow.
  Layer 13 (mold): cutWay.
-/
import Derived.Test.YtkabdkblcgklmaaMoSrc
import Derived.Test.YtkabdkblcgklmaaDoneIn
namespace Go.Proofs.Ytkabdkblcgklmaa.mo
open Go.RowKit Go.Proofs.Ytkabdkblcgklmaa.arr

theorem own_typ {w : World} {base size n : Nat} {e : TypeId} {v : Value} {xs : List Value} (h : w.ownsRow base e size v n xs) : ∀ g, v.ownBlock = some g → ∃ cs, Blk w g e cs := by
  intro g hg
  rcases h.2 with ⟨rfl, _⟩ | ⟨g', cap, cur, rfl, _, hh, _⟩
  · simp [Value.ownBlock] at hg
  · have : g' = g := by simpa [Value.ownBlock] using hg
    subst this
    exact ⟨cur, hh⟩
theorem blk_gr {W W' : World} {g : Nat} {e t : TypeId} {cs : Array Value} {row : Option Nat} (h : Blk W g e cs) (hg : W.grownBy W' row) (ht : ∀ r, row = some r → ∃ cs, Blk W r t cs) (hne : e ≠ t) : Blk W' g e cs :=
  h.grown hg (fun e1 => by
    obtain ⟨cs2, h2⟩ := ht g e1.symm
    exact Blk.ne_ h h2 hne rfl)
theorem own_gr {W W' : World} {base size n : Nat} {e t : TypeId} {v : Value} {xs : List Value} {row : Option Nat} (h : W.ownsRow base e size v n xs) (hg : W.grownBy W' row) (ht : ∀ r, row = some r → ∃ cs, Blk W r t cs) (hne : e ≠ t) : W'.ownsRow base e size v n xs := by
  refine ⟨h.1, ?_⟩
  rcases h.2 with ⟨rfl, h0⟩ | ⟨g, cap, cur, rfl, hb, hh, hrest⟩
  · exact .inl ⟨rfl, h0⟩
  · exact .inr ⟨g, cap, cur, rfl, hb, blk_gr (show Blk W g e cur from hh) hg ht hne, hrest⟩
theorem kf_gr {B : Nat} {W0 W W' : World} {t : TypeId} {row : Option Nat} (h : KeepsFrom B W0 W) (hg : W.grownBy W' row) (ht : ∀ r, row = some r → ∃ cs, Blk W r t cs) : KeepsFrom B W0 W' :=
  mo_keeps_on h ⟨hg.size, fun i o _ hi ho => by
    refine (hg.block i (Array.getElem?_eq_some_iff.1 hi).1 (fun e => ?_)).trans hi
    obtain ⟨cs, hb⟩ := ht i e.symm
    unfold Blk at hb
    rw [hb] at hi
    injection hi with hi
    subst hi
    cases ho⟩

section
variable {b3 zs zl rb k : Nat} {W0 : World} {vs vl : Value} {xs ys x3 : List Value} {yv : Value} {vals : List Value} {dn : Nat → Bool} {i : Nat}
theorem upd_off {dn : Nat → Bool} {i j : Nat} (h : i ≠ j) : upd dn i j = dn j := by
  cases h1 : dn j with
  | true => exact upd_on h1
  | false =>
    cases h2 : upd dn i j with
    | false => rfl
    | true => rw [upd_ne h2 (fun e => h e.symm)] at h1; cases h1
theorem reads1 {w : World} {g : Nat} {t : TypeId} {x : Value} (h : Blk w g t #[x]) : Reads w w.heap.size 1 (some ⟨g, 0, none⟩) 1 [x] :=
  ⟨rfl, fun _ => ⟨_, rfl, h.lt, fun j u hu => by
    rw [Addr.add_mid, Nat.zero_add, h.cell j]
    rcases j with _ | j
    · simpa using hu
    · simp at hu⟩⟩
end

section
variable {P : Program} {ops : Array Oper} {Q : Exit → Act → World → Prop} {md : Region.Mode} {a0 : Act} {o : Oper} {b3 zs zl rb k i : Nat} {W0 : World} {vs vl : Value} {xs ys x3 : List Value} {yv : Value} {vals : List Value}
end
end Go.Proofs.Ytkabdkblcgklmaa.mo

namespace Go.Proofs.Ytkabdkblcgklmaa.mo
open Go.RowKit Go.Proofs.Ytkabdkblcgklmaa.arr

theorem mo_own_slice {w : World} {base e size n : Nat} {v : Value} {xs : List Value} (h : w.ownsRow base e size v n xs) : ∃ A c, v = .slice A n c := by
  rcases h.2 with ⟨rfl, h0⟩ | ⟨g, cap, cur, e, _⟩
  · exact ⟨none, 0, by rw [h0]⟩
  · exact ⟨_, cap, e⟩
theorem cut_fin {w w8 : World} {D : Nat} {a0 a1 v0 v1 : Value} (hx : Blk w8 (w.heap.size + 1 + 1) 87 #[a0, a1]) (hb : Below w.heap.size w w8) (hK : w8.heap[D]? = some (.deferred (some []))) (hD : w.heap.size + 1 + 1 < D) :
    ((w8.setCell ⟨w.heap.size + 1 + 1, 0, none⟩ v0).setCell ⟨w.heap.size + 1 + 1, 1, none⟩ v1).heap[D]? = some (.deferred (some [])) ∧
    Blk (((w8.setCell ⟨w.heap.size + 1 + 1, 0, none⟩ v0).setCell ⟨w.heap.size + 1 + 1, 1, none⟩ v1).putObj D (.deferred none)) (w.heap.size + 1 + 1) 87 #[v0, v1] ∧
    Below w.heap.size w (((w8.setCell ⟨w.heap.size + 1 + 1, 0, none⟩ v0).setCell ⟨w.heap.size + 1 + 1, 1, none⟩ v1).putObj D (.deferred none)) ∧
    ∀ zs, w.heap.size + 2 < zs → ∀ v sh f, WayAt zs w8 v sh f → WayAt zs (((w8.setCell ⟨w.heap.size + 1 + 1, 0, none⟩ v0).setCell ⟨w.heap.size + 1 + 1, 1, none⟩ v1).putObj D (.deferred none)) v sh f := by
  have hk := mokeep_two w8 (w.heap.size + 1 + 1) v0 v1
  have hx2 := moblk_two v0 v1 hx
  obtain ⟨W, hW⟩ : ∃ W, (w8.setCell ⟨w.heap.size + 1 + 1, 0, none⟩ v0).setCell ⟨w.heap.size + 1 + 1, 1, none⟩ v1 = W := ⟨_, rfl⟩
  rw [hW] at hk hx2 ⊢
  have hDl : D < w8.heap.size := (Array.getElem?_eq_some_iff.1 hK).1
  have hKD : W.heap[D]? = some (.deferred (some [])) := (hk.block D hDl (by omega)).trans hK
  have hp : Keep (fun k => k = D) W (W.putObj D (.deferred none)) := (Keep.refl _ _).grown (grownBy_putObj' _ D _) (fun k e _ => by injection e with e; exact e.symm)
  refine ⟨hKD, hp.blk hx2 (by omega), (hb.trans (hk.below hb.size (fun i hi e => by omega))).trans (hp.below (Nat.le_trans hb.size hk.size) (fun i hi e => by omega)), fun zs hz v sh f h => ?_⟩
  exact (h.sin (Sin.keep hk (fun i hi e => by omega))).sin (Sin.put (fun cs t fr e => by rw [hKD] at e; cases e))
def sh1 (sh : List Int) : List Int := if sh.length = 0 then [1] else sh
def cutL (cf : Int → Int → Sp) (l sh : List Int) : List Sp := List.zipWith cf l sh
/-- cutWay's error. -/
def cwE (cf : Int → Int → Sp) (a : AV) (sh : List Int) : Int := if axE a sh ≠ 0 then axE a sh else if (axL a sh).length ≠ (sh1 sh).length then 4 else if okShape (lensI (cutL cf (axL a sh) (sh1 sh))) = true then 0 else 9

theorem spL_succ (L : List Sp) (k : Nat) (s : Sp) (h : L[k]? = some s) : spL (L.take (k + 1)) = spL (L.take k) ++ spC s ∧ (lensI (L.take (k + 1))).map iv = (lensI (L.take k)).map iv ++ [.int .i64 s.len] := by
  obtain ⟨h1, h2⟩ := List.getElem?_eq_some_iff.1 h
  rw [List.take_succ_eq_append_getElem h1, h2]
  unfold spL lensI
  simp [iv]
theorem cutL_at {cf : Int → Int → Sp} {l sh : List Int} (h : l.length = sh.length) {k : Nat} (hk : k < l.length) : (cutL cf l sh)[k]? = some (cf (l.getD k 0) (sh.getD k 0)) := by
  unfold cutL
  rw [List.getElem?_zipWith, List.getD_eq_getElem?_getD, List.getD_eq_getElem?_getD, List.getElem?_eq_getElem hk, List.getElem?_eq_getElem (show k < sh.length by omega)]
  rfl
theorem cutL_len {cf : Int → Int → Sp} {l sh : List Int} (h : l.length = sh.length) : (cutL cf l sh).length = l.length := by
  unfold cutL
  rw [List.length_zipWith, h, Nat.min_self]
theorem axL_bounds (a : AV) (sh : List Int) : ∀ x ∈ axL a sh, -4097 ≤ x ∧ x ≤ 4097 := by
  intro x hx
  unfold axL at hx
  split at hx
  · obtain ⟨y, _, rfl⟩ := List.mem_map.1 hx
    exact limN_bounds y
  · cases hx
theorem sh1_bounds {sh : List Int} (h : okShape sh = true) : ∀ x ∈ sh1 sh, 0 ≤ x ∧ x ≤ 4096 := by
  intro x hx
  unfold sh1 at hx
  split at hx
  · rw [List.mem_singleton] at hx
    subst hx
    decide
  · exact lenOk_iff.1 (List.all_eq_true.1 (okShape_iff.1 h).2.1 x hx)
theorem getD_mem {l : List Int} {k : Nat} (hk : k < l.length) : l.getD k 0 ∈ l := by
  rw [List.getD_eq_getElem?_getD, List.getElem?_eq_getElem hk]
  exact List.getElem_mem hk

section
attribute [local go_sem] Oper.semAt_some

end
end Go.Proofs.Ytkabdkblcgklmaa.mo

/-
  The given disk of layer 3: Read, Spoil, Arm.
-/
import Derived.Test.YtomimkackekjkaaRDisk
namespace Go.Proofs.Ytomimkackekjkaa
open Go.RowKit

def readErr3 (s : RSt) (a : Int) : Int := if s.down then 31 else if has3 s a then 0 else 30
/-- What is read of a sector. -/
def seen (s : RSt) (k : Nat) : List UInt8 := if 0 < (s.cache.getD k []).length then s.cache.getD k [] else s.stays.getD k []
def readOut3 (s : RSt) (a : Int) : List UInt8 := if readErr3 s a = 0 then seen s a.toNat else []

theorem get_at {ls : List (List UInt8)} {k : Nat} (h : k < ls.length) : ls[k]? = some (ls.getD k []) := by
  simp [List.getD, List.getElem?_eq_getElem h]
theorem get_mem {ls : List (List UInt8)} {k : Nat} (h : k < ls.length) : ls.getD k [] ∈ ls := List.mem_of_getElem? (get_at h)

section
variable {b gS gC cS cC : Nat} {kv : Value} {vs ws : List Value} {s : RSt} {w : World}

/-- The cells at sector k. -/
theorem RD.sector (h : RD w b gS gC cS cC kv vs ws s) {k : Nat} (hk : k < s.stays.length) :
    (∃ v, w.cell? ⟨gS, k, none⟩ = some v ∧ w.frozen? ⟨gS, k, none⟩ = false ∧ Head w 5 ((s.stays.getD k []).map bv) v) ∧
    (∃ v, w.cell? ⟨gC, k, none⟩ = some v ∧ w.frozen? ⟨gC, k, none⟩ = false ∧ Head w 5 ((s.cache.getD k []).map bv) v) := by
  obtain ⟨v, hv, hh⟩ := h.sHead.2 k _ (get_at hk)
  obtain ⟨u, hu, hg⟩ := h.cHead.2 k _ (get_at (by rw [h.ok.same]; exact hk))
  exact ⟨⟨v, (own_at h.sOwn hv).1, (own_at h.sOwn hv).2, hh⟩, ⟨u, (own_at h.cOwn hu).1, (own_at h.cOwn hu).2, hg⟩⟩

set_option maxHeartbeats 1000000 in
theorem rread_any (a : Int) (h1 : -9223372036854775808 ≤ a) (h2 : a ≤ 9223372036854775807) (h : RD w b gS gC cS cC kv vs ws s) :
    Calls Try.prog 11 #[.pointer (some ⟨b, 0, none⟩), .int .i64 a] w fun e w' => ∃ v, e = .returned (.tuple #[v, .int .i64 (readErr3 s a)]) ∧ Gives w w' v (readOut3 s a) := by
  have c0 : w.cell? ⟨b, 0, none⟩ = some (.slice (some ⟨gS, 0, none⟩) s.stays.length cS) := h.blk.cell 0
  have c1 : w.cell? ⟨b, 1, none⟩ = some (.slice (some ⟨gC, 0, none⟩) s.stays.length cC) := h.blk.cell 1
  have c7 : w.cell? ⟨b, 7, none⟩ = some (.bool s.down) := h.blk.cell 7
  have HH := Lib.hid (rhas_any b gS gC cS cC kv vs ws s a w h)
  have hf := h.ok.few
  cases hd : s.down
  · rw [hd] at c7
    cases hh : has3 s a
    · have he : readErr3 s a = 30 := by unfold readErr3; rw [hd, hh]; rfl
      have ho : readOut3 s a = [] := by unfold readOut3; rw [he]; rfl
      rw [hh] at HH
      rw [he, ho]
      clear h hd hh he ho
      go_enter Try.func11, Try.ntmps11
      go_wp2_with (go_at_call 37; refine HH.out.mono ?_; rintro e _ ⟨rfl, rfl⟩)
      go_ret2
      exact ⟨_, rfl, Gives.nil w⟩
    · have he : readErr3 s a = 0 := by unfold readErr3; rw [hd, hh]; rfl
      have ho : readOut3 s a = seen s a.toNat := by unfold readOut3; rw [he]; rfl
      have hin : 0 ≤ a ∧ a < (s.stays.length : Int) := of_decide_eq_true hh
      obtain ⟨k, rfl⟩ := Int.eq_ofNat_of_zero_le hin.1
      have hk : k < s.stays.length := by omega
      rw [hh] at HH
      rw [he, ho, Int.toNat_natCast]
      obtain ⟨⟨v, sv, _, AS, cs, rfl, s1, s2, s3, _⟩, ⟨u, cu, _, AC, cc, rfl, d1, d2, d3, _⟩⟩ := h.sector hk
      rw [List.length_map] at sv cu s1 d1 s3 d3
      have l1 : (s.stays.getD k []).length = 128 := h.ok.stay _ (get_mem hk)
      have l2 := h.ok.wait _ (get_mem (k := k) (by rw [h.ok.same]; exact hk))
      by_cases hc : 0 < (s.cache.getD k []).length
      · have hs : seen s k = s.cache.getD k [] := by unfold seen; rw [if_pos hc]
        have l3 : (s.cache.getD k []).length = 128 := by omega
        rw [hs]
        have HT := Lib.hid (twin_any AC cc (s.cache.getD k []).length (s.cache.getD k []) w d3 (by omega))
        generalize hx : s.cache.getD k [] = x at *
        have HL := Lib.hid l3
        rw [l3] at cu HT
        generalize s.stays.length = n at *
        clear h hd hh he ho hs d3 s3 l2 l1 l3 hin hx sv s1 d1
        go_enter Try.func11, Try.ntmps11
        go_wp2_with (first
          | (go_at_call 37; refine HH.out.mono ?_; rintro e _ ⟨rfl, rfl⟩)
          | (go_at_call 20; refine HT.out.mono ?_; rintro e w2 ⟨A', c', rfl, ho, hb⟩; have HO := Lib.hid ho; have HB := Lib.hid hb; clear ho hb))
        go_ret2
        exact ⟨_, rfl, A', c', by rw [HL.out]; rfl, by rw [HL.out]; exact HO.out, HB.out⟩
      · have hs : seen s k = s.stays.getD k [] := by unfold seen; rw [if_neg hc]
        have l3 : (s.cache.getD k []).length = 0 := by omega
        rw [hs]
        have HT := Lib.hid (twin_any AS cs (s.stays.getD k []).length (s.stays.getD k []) w s3 (by omega))
        generalize hx : s.stays.getD k [] = x at *
        have HL := Lib.hid l1
        rw [l1] at sv HT
        rw [l3] at cu
        generalize s.stays.length = n at *
        clear h hd hh he ho hs d3 s3 l2 l1 l3 hin hx s1 d1 hc
        go_enter Try.func11, Try.ntmps11
        go_wp2_with (first
          | (go_at_call 37; refine HH.out.mono ?_; rintro e _ ⟨rfl, rfl⟩)
          | (go_at_call 20; refine HT.out.mono ?_; rintro e w2 ⟨A', c', rfl, ho, hb⟩; have HO := Lib.hid ho; have HB := Lib.hid hb; clear ho hb))
        go_ret2
        exact ⟨_, rfl, A', c', by rw [HL.out]; rfl, by rw [HL.out]; exact HO.out, HB.out⟩
  · have he : readErr3 s a = 31 := by unfold readErr3; rw [hd]; rfl
    have ho : readOut3 s a = [] := by unfold readOut3; rw [he]; rfl
    rw [hd] at c7
    rw [he, ho]
    clear h hd he ho HH
    go_enter Try.func11, Try.ntmps11
    go_wp2
    go_ret2
    exact ⟨_, rfl, Gives.nil w⟩
end

end Go.Proofs.Ytomimkackekjkaa

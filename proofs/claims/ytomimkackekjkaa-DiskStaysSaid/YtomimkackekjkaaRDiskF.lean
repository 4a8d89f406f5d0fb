/-
  The given disk of layer 3: Flush, Waits.
-/
import Derived.Test.YtomimkackekjkaaRDiskW
namespace Go.Proofs.Ytomimkackekjkaa
open Go.RowKit

/-- The sectors ahead of k flushed. -/
def flushTo (s : RSt) : Nat → RSt
  | 0 => s
  | k + 1 => if 0 < ((flushTo s k).cache.getD k []).length then { flushTo s k with stays := (flushTo s k).stays.set k ((flushTo s k).cache.getD k []), cache := (flushTo s k).cache.set k [] } else flushTo s k
theorem flushTo_length (s : RSt) : ∀ k, (flushTo s k).stays.length = s.stays.length
  | 0 => rfl
  | k + 1 => by
    unfold flushTo
    split
    · show (List.set _ _ _).length = _
      rw [List.length_set]
      exact flushTo_length s k
    · exact flushTo_length s k
theorem flushTo_down (s : RSt) : ∀ k, (flushTo s k).down = s.down
  | 0 => rfl
  | k + 1 => by
    unfold flushTo
    split
    · exact flushTo_down s k
    · exact flushTo_down s k

def flushErr3 (s : RSt) : Int := if s.down then 31 else 0
def flushSt3 (s : RSt) : RSt := if s.down then s else flushTo s s.stays.length

theorem RD.drew {w : World} {b gS gC cS cC : Nat} {kv : Value} {vs ws : List Value} {s : RSt} (h : RD w b gS gC cS cC kv vs ws s) : RD w.drew b gS gC cS cC kv vs ws s :=
  h.below (Below.refl _ _).drew

section
variable {b gS gC cS cC : Nat} {kv : Value} {vs ws : List Value} {s : RSt} {w : World}

set_option maxRecDepth 100000 in
set_option maxHeartbeats 2000000 in
theorem rflush_any (h : RD w b gS gC cS cC kv vs ws s) :
    Calls Try.prog 23 #[.pointer (some ⟨b, 0, none⟩)] w fun e w' => e = .returned (.int .i64 (flushErr3 s)) ∧ (∃ vs' ws', RD w' b gS gC cS cC kv vs' ws' (flushSt3 s)) ∧ Keep (rfoot b gS gC) w w' := by
  have c7 : w.cell? ⟨b, 7, none⟩ = some (.bool s.down) := h.blk.cell 7
  unfold flushErr3 flushSt3
  cases hd : s.down
  · rw [hd] at c7
    have H := Lib.hid h
    have hfew := h.ok.few
    clear h
    go_enter Try.func23, Try.ntmps23
    go_wp2
    clear c7
    go_loopw [3] (fun i wr => ∃ k vs' ws', k ≤ s.stays.length ∧ i = .int .i64 ((k : Nat) : Int) ∧ RD wr b gS gC cS cC kv vs' ws' (flushTo s k) ∧ Keep (rfoot b gS gC) w wr) (fun i _ => s.stays.length - (intOf i).toNat)
    case atStart => exact ⟨0, vs, ws, Nat.zero_le _, rfl, H.out, Keep.refl _ _⟩
    case round =>
      obtain ⟨k, vs', ws', hk, rfl, hrd, hkp⟩ := hrel
      have hlen := flushTo_length s k
      have c0 : wr.cell? ⟨b, 0, none⟩ = some (.slice (some ⟨gS, 0, none⟩) (flushTo s k).stays.length cS) := hrd.blk.cell 0
      have c1 : wr.cell? ⟨b, 1, none⟩ = some (.slice (some ⟨gC, 0, none⟩) (flushTo s k).stays.length cC) := hrd.blk.cell 1
      rw [hlen] at c0 c1
      have HRD := Lib.hid hrd
      have HKP := Lib.hid hkp
      have HLEN := Lib.hid hlen
      have hnx : flushTo s (k + 1) = if 0 < ((flushTo s k).cache.getD k []).length then { flushTo s k with stays := (flushTo s k).stays.set k ((flushTo s k).cache.getD k []), cache := (flushTo s k).cache.set k [] } else flushTo s k := rfl
      have HNX := Lib.hid hnx
      clear hkp hlen hnx
      by_cases hlt : k < s.stays.length
      · obtain ⟨⟨v, sv, sf, _⟩, ⟨u, cu, cf, hu⟩⟩ := hrd.sector (k := k) (by rw [HLEN.out]; exact hlt)
        have HU := Lib.hid hu
        obtain ⟨AC, cc, rfl, _, hcb, _, _⟩ := hu
        rw [List.length_map] at cu
        have hw8 := hrd.ok.wait _ (get_mem (k := k) (by rw [hrd.ok.same, HLEN.out]; exact hlt))
        have HW8 := Lib.hid hw8
        generalize hx : (flushTo s k).cache.getD k [] = x at *
        clear hrd hw8
        by_cases hc : 0 < x.length
        · have hx8 : x.length = 128 := by have := HW8.out; omega
          have hbS : b ≠ gS := fun e => absurd (HRD.out.blk.typ.ne (e ▸ own_typ HRD.out.sOwn)) (by decide)
          have hbC : b ≠ gC := fun e => absurd (HRD.out.blk.typ.ne (e ▸ own_typ HRD.out.cOwn)) (by decide)
          have hSC := HRD.out.ne
          rw [hx8] at cu
          rw [if_pos hc] at HNX
          have HX8 := Lib.hid hx8
          generalize s.stays.length = n at *
          clear hc hx8
          go_wp2
          go_region
          go_wp2
          have hp1 := (HRD.out.putS (k := k) (l := x) (v := .slice AC 128 cc) HX8.out (by have h := HU.out; rw [List.length_map, HX8.out] at h; exact h))
          have hp2 := hp1.putC (k := k) (l := []) (v := .slice none 0 0) (.inl rfl) (Head.nil _ _)
          have hp3 : RD ((wr.setCell ⟨gS, k, none⟩ (.slice AC 128 cc)).setCell ⟨gC, k, none⟩ (.slice none 0 0)).drew b gS gC cS cC kv _ _ _ := hp2.drew
          refine ⟨⟨k + 1, _, _, by omega, by go_num, by rw [HNX.out]; exact hp3, ?_⟩, by simp [intOf]; omega⟩
          exact ((HKP.out.setCell _ _ (fun _ => .inr (.inl rfl))).setCell _ _ (fun _ => .inr (.inr rfl))).drew
        · have h0 : x.length = 0 := by omega
          rw [h0] at cu
          rw [if_neg hc] at HNX
          generalize hn : s.stays.length = n at *
          clear hc h0 hn
          go_wp2
          exact ⟨⟨k + 1, vs', ws', by omega, by go_num, by rw [HNX.out]; exact HRD.out, HKP.out⟩, by simp [intOf]; omega⟩
      · obtain ⟨n, hn⟩ : ∃ n, s.stays.length = n := ⟨_, rfl⟩
        have HNN := Lib.hid hn
        rw [hn] at hk hlt c0 c1 hfew
        obtain rfl : k = n := by omega
        clear hrd hn HLEN HNX
        go_wp2
        go_ret
        exact ⟨rfl, ⟨vs', ws', by rw [HNN.out]; exact HRD.out⟩, HKP.out⟩
  · rw [hd] at c7
    have H := Lib.hid h
    clear h
    go_enter Try.func23, Try.ntmps23
    go_wp2
    go_ret
    exact ⟨rfl, ⟨vs, ws, H.out⟩, Keep.refl _ _⟩
theorem reads_blk3 {w : World} {g : Nat} {t : TypeId} {x : Value} (h : Blk w g t #[x]) : Reads w w.heap.size 1 (some ⟨g, 0, none⟩) 1 [x] := by
  refine ⟨rfl, fun _ => ⟨_, rfl, h.lt, fun j u hu => ?_⟩⟩
  rcases j with _ | j
  · simp at hu
    subst hu
    exact h.cell 0
  · simp at hu

theorem infoInt : (Try.prog.info? 3).map (fun i => (i.zero, i.size, i.bytes)) = some (some (.int .i64 0), 1, 8) := by kernel_rfl

/-- Which of the sectors ahead of k wait. -/
def waitsTo (s : RSt) : Nat → List Int
  | 0 => []
  | k + 1 => if 0 < (s.cache.getD k []).length then waitsTo s k ++ [(k : Int)] else waitsTo s k
theorem waitsTo_length (s : RSt) : ∀ k, (waitsTo s k).length ≤ k
  | 0 => Nat.le_refl _
  | k + 1 => by
    unfold waitsTo
    have := waitsTo_length s k
    split
    · rw [List.length_append]
      simp only [List.length_cons, List.length_nil]
      omega
    · omega
def waits3 (s : RSt) : List Int := waitsTo s s.stays.length

set_option maxRecDepth 100000 in
set_option maxHeartbeats 2000000 in
theorem rwaits_any (h : RD w b gS gC cS cC kv vs ws s) :
    Calls Try.prog 32 #[.pointer (some ⟨b, 0, none⟩)] w fun e w' => ∃ A c, e = .returned (.slice A (waits3 s).length c) ∧ w'.ownsRow w.heap.size 3 1 (.slice A (waits3 s).length c) (waits3 s).length ((waits3 s).map iv) ∧ Below w.heap.size w w' := by
  obtain ⟨i0, hi, hz0, hz1, hz2⟩ := info_parts infoInt
  have H := Lib.hid h
  have hfew := h.ok.few
  unfold waits3
  obtain ⟨n, hn⟩ : ∃ n, s.stays.length = n := ⟨_, rfl⟩
  rw [hn] at hfew ⊢
  have HN := Lib.hid hn
  clear h hn
  go_enter Try.func32, Try.ntmps32
  go_wp2
  go_loopw [3, 4] (fun o i wr => ∃ k A c m, k ≤ n ∧ i = .int .i64 ((k : Nat) : Int) ∧ (waitsTo s k).length = m ∧ o = .slice A m c ∧ wr.ownsRow w.heap.size 3 1 (.slice A m c) m ((waitsTo s k).map iv) ∧ Below w.heap.size w wr) (fun _ i _ => n - (intOf i).toNat)
  case atStart => exact ⟨0, none, 0, 0, Nat.zero_le _, rfl, rfl, rfl, World.ownsRow_nil _ _ _ _, Below.refl _ _⟩
  case round =>
    obtain ⟨k, A, c, m, hk, rfl, hm, rfl, hown, hB⟩ := hrel
    have hrd := H.out.below hB
    have c1 : wr.cell? ⟨b, 1, none⟩ = some (.slice (some ⟨gC, 0, none⟩) s.stays.length cC) := hrd.blk.cell 1
    rw [HN.out] at c1
    have HM := Lib.hid hm
    have hmk : m ≤ k := by rw [← hm]; exact waitsTo_length s k
    have HO := Lib.hid hown
    have HB := Lib.hid hB
    have hnx : waitsTo s (k + 1) = if 0 < (s.cache.getD k []).length then waitsTo s k ++ [(k : Int)] else waitsTo s k := rfl
    have HNX := Lib.hid hnx
    clear hown hB hm hnx
    by_cases hlt : k < n
    · obtain ⟨_, ⟨u, cu, _, hu⟩⟩ := hrd.sector (k := k) (by rw [HN.out]; exact hlt)
      obtain ⟨AC, cc, rfl, _, hcb, _, _⟩ := hu
      rw [List.length_map] at cu
      have hw8 := hrd.ok.wait _ (get_mem (k := k) (by rw [hrd.ok.same, HN.out]; exact hlt))
      have HW8 := Lib.hid hw8
      clear hrd hw8
      generalize (s.cache.getD k []).length = z at *
      by_cases hc : 0 < z
      · have hz8 : z = 128 := by have := HW8.out; omega
        subst hz8
        rw [if_pos hc] at HNX
        clear hc
        go_wp2_with (at_builtin; refine wpList_append_any _ rfl _ _ 34 rfl w.heap.size 3 i0 (.int .i64 0) 1 8 Try.underlying34 hi hz0 hz1 hz2 rfl (by decide) _ m _ rfl (HO.out.alloc _) _ _ 1 1 [.int .i64 (k : Int)] rfl (reads_blk3 (Blk.new wr _ _)) (by simp [Value.oneCell']) (by unfold maxLen; omega) (by omega) (by have := HB.out.size; simp; omega) ?_)
        intro v' w1 ho1 hg1 _
        obtain ⟨A', c', rfl⟩ : ∃ A' c', v' = .slice A' (m + 1) c' := by
          rcases ho1.2 with ⟨rfl, h0⟩ | ⟨g, cap, cur, e, _⟩
          · omega
          · exact ⟨_, cap, e⟩
        have hb1 : Below w.heap.size w w1 := (HB.out.alloc HB.out.size _).grown hg1 (by have := HB.out.size; simp; omega) (fun kk e => (HO.out.lt kk e).1)
        have hm1 : (waitsTo s (k + 1)).length = m + 1 := by rw [HNX.out, List.length_append, HM.out]; rfl
        have ho2 : w1.ownsRow w.heap.size 3 1 (.slice A' (m + 1) c') (m + 1) ((waitsTo s (k + 1)).map iv) := by rw [HNX.out, List.map_append]; exact ho1
        have HB1 := Lib.hid hb1
        have HM1 := Lib.hid hm1
        have HO2 := Lib.hid ho2
        clear ho1 hg1 hb1 hm1 ho2
        go_wp2
        exact ⟨⟨k + 1, A', c', m + 1, by omega, by go_num, HM1.out, rfl, HO2.out, HB1.out⟩, by simp [intOf]; omega⟩
      · have hz8 : z = 0 := by omega
        subst hz8
        rw [if_neg hc] at HNX
        clear hc
        go_wp2
        exact ⟨⟨k + 1, A, c, m, by omega, by go_num, by rw [HNX.out]; exact HM.out, rfl, by rw [HNX.out]; exact HO.out, HB.out⟩, by simp [intOf]; omega⟩
    · obtain rfl : k = n := by omega
      clear hrd
      go_wp2
      go_ret
      exact ⟨A, c, by rw [HM.out]; rfl, by rw [HM.out]; exact HO.out, HB.out⟩
end

end Go.Proofs.Ytomimkackekjkaa

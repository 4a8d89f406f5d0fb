/-
  Layer 11 (array): tellsShape, the text of the elements, Text.
-/
import Derived.Test.YtlmdijijlbmddaaDoorArCheck
namespace Go.Proofs.YtlmdijijlbmddaaDoor.arr
open Go.RowKit

set_option maxHeartbeats 2000000 in
theorem artells_any (a : AV) (p : AP) (w : World) (h : AEl w a p) :
    Calls Tryd.prog 22 #[.agg (arC a p)] w fun e w' => e = .returned (.bool (tellsA a)) ∧ Below w.heap.size w w' := by
  obtain ⟨k, sh, el⟩ := a
  obtain ⟨A0, c0, A1, c1⟩ := p
  have hbx := h.box
  have HB := Lib.hid hbx.b
  have hx := hbx.blk
  have hT : tellsA ⟨k, sh, el⟩ = (decide (sh.length = 0) || (decide (sh.length = 1) && (decide (1 < el.length) || (decide (el.length = 0) && decide (k = 2))))) := rfl
  rw [hT]
  clear h hbx hT
  unfold arC at *
  simp only at *
  obtain ⟨w1, hw1⟩ : ∃ w1, w.alloc (.cells #[.int .i64 k, .slice A0 sh.length c0, .slice A1 el.length c1] 36) = w1 := ⟨_, rfl⟩
  rw [hw1] at HB hx
  obtain ⟨z, hz⟩ : ∃ z, w.heap.size = z := ⟨_, rfl⟩
  rw [hz] at hx
  have x0 := hx.cell 0
  have x1 := hx.cell 1
  have x2 := hx.cell 2
  generalize sh.length = m at *
  generalize el.length = n at *
  clear hx
  by_cases h0 : m = 0
  · subst h0
    rw [decide_eq_true rfl, Bool.true_or]
    go_enter Tryd.func22, Tryd.ntmps22
    go_wp2
    go_ret
    first | exact ⟨rfl, HB.out⟩ | exact ⟨rfl, hz ▸ HB.out⟩
  rw [decide_eq_false h0, Bool.false_or]
  have n0 : ((m : Int) == 0) = false := by rw [beq_eq_false_iff_ne]; omega
  by_cases h1 : m = 1
  case neg =>
    have n1 : ((m : Int) == 1) = false := by rw [beq_eq_false_iff_ne]; omega
    rw [decide_eq_false h1, Bool.false_and]
    go_enter Tryd.func22, Tryd.ntmps22
    go_wp2
    go_ret
    first | exact ⟨rfl, HB.out⟩ | exact ⟨rfl, hz ▸ HB.out⟩
  subst h1
  rw [decide_eq_true rfl, Bool.true_and]
  by_cases h2 : 1 < n
  · have d2 : (1 : Int) < (n : Int) := by omega
    rw [decide_eq_true h2, Bool.true_or]
    clear n0 h0
    go_enter Tryd.func22, Tryd.ntmps22
    go_wp2
    go_ret
    first | exact ⟨rfl, HB.out⟩ | exact ⟨rfl, hz ▸ HB.out⟩
  have d2 : ¬ (1 : Int) < (n : Int) := by omega
  rw [decide_eq_false h2, Bool.false_or]
  clear n0 h0
  by_cases h3 : n = 0
  · subst h3
    rw [decide_eq_true rfl, Bool.true_and]
    by_cases h4 : k = 2
    · subst h4
      go_enter Tryd.func22, Tryd.ntmps22
      go_wp2
      go_ret
      first | exact ⟨rfl, HB.out⟩ | exact ⟨rfl, hz ▸ HB.out⟩
    · have n4 : (k == 2) = false := by rw [beq_eq_false_iff_ne]; exact h4
      rw [decide_eq_false h4]
      go_enter Tryd.func22, Tryd.ntmps22
      go_wp2
      go_ret
      first | exact ⟨rfl, HB.out⟩ | exact ⟨rfl, hz ▸ HB.out⟩
  · have n3 : ((n : Int) == 0) = false := by rw [beq_eq_false_iff_ne]; omega
    rw [decide_eq_false h3, Bool.false_and]
    go_enter Tryd.func22, Tryd.ntmps22
    go_wp2
    go_ret
    first | exact ⟨rfl, HB.out⟩ | exact ⟨rfl, hz ▸ HB.out⟩

set_option maxHeartbeats 2000000 in
theorem arelems_any (a : AV) (p : AP) (w : World) (h : AEl w a p) (hl : a.el.length ≤ 100000) (hk : a.kind = 2 → a.el.all charOk = true) (ht : Tab w) :
    Calls Tryd.prog 21 #[.agg (arC a p)] w fun e w' => e = .returned (.string ⟨(elemsB a).toArray⟩) ∧ Below w.heap.size w w' := by
  obtain ⟨k, sh, el⟩ := a
  obtain ⟨A0, c0, A1, c1⟩ := p
  have hbx := h.box
  have HB := Lib.hid hbx.b
  have hx := hbx.blk
  have HCH : Hid (k = 2 → Calls Tryd.prog 25 #[.slice A1 el.length c1] (w.alloc (.cells (arC ⟨k, sh, el⟩ ⟨A0, c0, A1, c1⟩) 36)) fun e w' => e = .returned (.string ⟨(charsB el).toArray⟩) ∧ Below (w.alloc (.cells (arC ⟨k, sh, el⟩ ⟨A0, c0, A1, c1⟩) 36)).heap.size (w.alloc (.cells (arC ⟨k, sh, el⟩ ⟨A0, c0, A1, c1⟩) 36)) w') := Lib.hid (fun e => archars_any A1 c1 el.length el _ rfl hbx.el.r1 hl (hk e))
  have HNU := Lib.hid (arnumsL_any A1 c1 el.length el _ rfl hbx.el.r1 hl h.f1 (ht.below hbx.b))
  have hE : elemsB ⟨k, sh, el⟩ = if k = 2 then charsB el else if el.length = 0 then [48] else numsB el := rfl
  rw [hE]
  clear h hbx hE ht hk hl
  unfold arC at *
  simp only at *
  obtain ⟨w1, hw1⟩ : ∃ w1, w.alloc (.cells #[.int .i64 k, .slice A0 sh.length c0, .slice A1 el.length c1] 36) = w1 := ⟨_, rfl⟩
  rw [hw1] at HB hx HCH HNU
  obtain ⟨z, hz⟩ : ∃ z, w.heap.size = z := ⟨_, rfl⟩
  rw [hz] at hx
  have x0 := hx.cell 0
  have x1 := hx.cell 1
  have x2 := hx.cell 2
  generalize sh.length = m at *
  generalize el.length = n at *
  clear hx
  by_cases h2 : k = 2
  · subst h2
    rw [if_pos rfl]
    have HC2 := Lib.hid (HCH.out rfl)
    go_enter Tryd.func21, Tryd.ntmps21
    go_wp2_with (go_at_call 25; (try rw [hw1]); refine HC2.out.mono ?_; rintro e w2 ⟨rfl, b2⟩; have HB2 := Lib.hid (HB.out.trans (b2.mono HB.out.size)); clear b2)
    go_ret
    exact ⟨rfl, HB2.out⟩
  rw [if_neg h2]
  have n2 : (k == 2) = false := by rw [beq_eq_false_iff_ne]; exact h2
  by_cases h3 : n = 0
  · subst h3
    rw [if_pos rfl]
    clear HCH HNU h2
    go_enter Tryd.func21, Tryd.ntmps21
    go_wp2
    go_ret
    exact ⟨rfl, HB.out⟩
  · have n3 : ((n : Int) == 0) = false := by rw [beq_eq_false_iff_ne]; omega
    rw [if_neg h3]
    clear HCH h2 h3
    go_enter Tryd.func21, Tryd.ntmps21
    go_wp2_with (go_at_call 26; (try rw [hw1]); refine HNU.out.mono ?_; rintro e w2 ⟨rfl, b2⟩; have HB2 := Lib.hid (HB.out.trans (b2.mono HB.out.size)); clear b2)
    go_ret
    exact ⟨rfl, HB2.out⟩

theorem elems_size {a : AV} (hl : a.el.length ≤ 4096) (hf : ∀ z ∈ a.el, -9223372036854775808 ≤ z ∧ z ≤ 9223372036854775807) : (elemsB a).length ≤ 1000000 := by
  unfold elemsB
  split
  · unfold charsB
    have := flat_le (B := 5) (a.el.map charB) (fun x hx => by
      obtain ⟨c, _, rfl⟩ := List.mem_map.1 hx
      exact charB_length c)
    rw [List.length_map] at this
    rw [List.length_append, List.length_append]
    simp only [List.length_cons, List.length_nil]
    omega
  · split
    · simp
    · unfold numsB
      have := join_le (sep := [32]) (B := 22) (a.el.map numB) (fun x hx => by
        obtain ⟨z, hz, rfl⟩ := List.mem_map.1 hx
        exact numB_length (hf z hz).1 (hf z hz).2)
      rw [List.length_map] at this
      simp only [List.length_cons, List.length_nil] at this
      omega

set_option maxHeartbeats 4000000 in
theorem artext_any (a : AV) (p : AP) (w : World) (h : AEl w a p) (ht : Tab w) :
    Calls Tryd.prog 16 #[.agg (arC a p)] w fun e w' => e = .returned (.tuple #[.string ⟨(textV a).toArray⟩, .int .i64 (checkE a)]) ∧ Below w.heap.size w w' := by
  have hbx := h.box
  have HB := Lib.hid hbx.b
  have hx := hbx.blk
  have HCK := Lib.hid (archeck_any a p _ hbx.el)
  obtain ⟨w1, hw1⟩ : ∃ w1, w.alloc (.cells (arC a p) 36) = w1 := ⟨_, rfl⟩
  rw [hw1] at HB hx HCK
  have hel : AEl w1 a p := by rw [← hw1]; exact hbx.el
  have HEL := Lib.hid hel
  have HT := Lib.hid (ht.below HB.out)
  obtain ⟨z, hz⟩ : ∃ z, w.heap.size = z := ⟨_, rfl⟩
  rw [hz] at hx
  have HX := Lib.hid hx
  have hl0 : Tryd.prog.underlying 36 = _ := Tryd.underlying36
  clear hbx hel ht
  cases hok : okA a
  · have e1 : textV a = [] := by unfold textV; rw [hok]; rfl
    have e2 : checkE a = 110 := by unfold checkE; rw [hok]; rfl
    rw [e1, e2]
    rw [e2] at HCK
    clear e1 e2 hok
    unfold arC at *
    have x0 := hx.cell 0
    have x1 := hx.cell 1
    have x2 := hx.cell 2
    clear hx
    go_enter Tryd.func16, Tryd.ntmps16
    go_wp2_with (go_at_call 20; (try rw [hw1]); refine HCK.out.mono ?_; rintro e w2 ⟨rfl, b2⟩; have HB2 := Lib.hid (HB.out.trans (b2.mono HB.out.size)); clear b2)
    go_ret2
    exact ⟨rfl, HB2.out⟩
  obtain ⟨o1, o2, o3⟩ := okA_iff.1 hok
  obtain ⟨l1, l2⟩ := okA_len hok
  have hch : a.kind = 2 → a.el.all charOk = true := fun e => by
    unfold kindOk at o3
    rw [e] at o3
    simpa using o3
  have e2 : checkE a = 0 := by unfold checkE; rw [hok]; rfl
  have e1 : textV a = textB a := by unfold textV; rw [hok]; rfl
  rw [e1, e2]
  rw [e2] at HCK
  have HELM := Lib.hid (fun W (hb : Below w1.heap.size w1 W) => arelems_any a p W (HEL.out.below hb) (by omega) hch (HT.out.below hb))
  have HTEL := Lib.hid (fun W (hb : Below w1.heap.size w1 W) => artells_any a p W (HEL.out.below hb))
  have hsh : ∀ z ∈ a.sh, -9223372036854775808 ≤ z ∧ z ≤ 9223372036854775807 := fun z hz => by
    have := lenOk_iff.1 (List.all_eq_true.1 (okShape_iff.1 o1).2.1 z hz)
    omega
  have HNUM := Lib.hid (fun W (hb : Below w1.heap.size w1 W) => arnumsI_any p.A0 p.c0 a.sh.length a.sh W rfl ((HEL.out.below hb).r0) (by omega) hsh (HT.out.below hb))
  have hs2 := elems_size l1 h.f1
  have hs1 : (numsB a.sh).length ≤ 1000 := by
    have := join_le (sep := [32]) (B := 22) (a.sh.map numB) (fun x hx => by
      obtain ⟨z, hz, rfl⟩ := List.mem_map.1 hx
      exact numB_length (hsh z hz).1 (hsh z hz).2)
    rw [List.length_map] at this
    simp only [List.length_cons, List.length_nil] at this
    unfold numsB
    omega
  have hTB : textB a = if tellsA a = true then elemsB a else numsB a.sh ++ [226, 141, 180] ++ elemsB a := rfl
  rw [hTB]
  have HKX : Hid (∀ W, Below w1.heap.size w1 W → Blk W z 36 (arC a p)) := Lib.hid (fun W hb => HX.out.below hb HX.out.lt)
  obtain ⟨s2, he2⟩ : ∃ s2, (⟨(elemsB a).toArray⟩ : ByteArray) = s2 := ⟨_, rfl⟩
  obtain ⟨s1, he1⟩ : ∃ s1, (⟨(numsB a.sh).toArray⟩ : ByteArray) = s1 := ⟨_, rfl⟩
  have z2 : s2.size ≤ 1000000 := by rw [← he2]; exact hs2
  have z1 : s1.size ≤ 1000 := by rw [← he1]; exact hs1
  rw [he2] at HELM
  rw [he1] at HNUM
  obtain ⟨tl, htl⟩ : ∃ tl, tellsA a = tl := ⟨_, rfl⟩
  rw [htl] at HTEL
  have HRES : Hid ((⟨(elemsB a).toArray⟩ : ByteArray) = s2 ∧ s1 ++ ⟨#[226, 141, 180]⟩ ++ s2 = ⟨(numsB a.sh ++ [226, 141, 180] ++ elemsB a).toArray⟩) := Lib.hid ⟨he2, by
    rw [← he1, ← he2]
    apply ByteArray.ext
    simp [ByteArray.data_append]⟩
  rw [htl]
  clear e1 e2 hok o1 o2 o3 l1 l2 hch hsh hs1 hs2 hTB he1 he2 htl h
  have c1 : ¬ 9223372036854775807 < s1.size + 3 := by omega
  have c2 : ¬ 9223372036854775807 < s1.size + 3 + s2.size := by omega
  have c3 : (s1 ++ (⟨#[226, 141, 180]⟩ : ByteArray)).size = s1.size + 3 := by rw [ByteArray.size_append]; rfl
  unfold arC at *
  have x0 := hx.cell 0
  have x1 := hx.cell 1
  have x2 := hx.cell 2
  clear hx
  cases tl
  · simp only [Bool.false_eq_true, if_false]
    go_enter Tryd.func16, Tryd.ntmps16
    go_wp2_with (first
      | (go_at_call 20; (try rw [hw1]); refine HCK.out.mono ?_; rintro e w2 ⟨rfl, b2⟩; have HB2 := Lib.hid b2; have hy2 := HKX.out w2 b2; have y0 := hy2.cell 0; have y1 := hy2.cell 1; have y2 := hy2.cell 2; clear b2 hy2)
      | (go_at_call 21; refine (HELM.out w2 HB2.out).mono ?_; rintro e w3 ⟨rfl, b3⟩; have HB3 := Lib.hid (HB2.out.trans (b3.mono HB2.out.size)); have hy3 := HKX.out w3 HB3.out; have u0 := hy3.cell 0; have u1 := hy3.cell 1; have u2 := hy3.cell 2; clear b3 hy3)
      | (go_at_call 22; refine (HTEL.out w3 HB3.out).mono ?_; rintro e w4 ⟨rfl, b4⟩; have HB4 := Lib.hid (HB3.out.trans (b4.mono HB3.out.size)); have hy4 := HKX.out w4 HB4.out; have v0 := hy4.cell 0; have v1 := hy4.cell 1; have v2 := hy4.cell 2; clear b4 hy4)
      | (go_at_call 23; refine (HNUM.out w4 HB4.out).mono ?_; rintro e w5 ⟨rfl, b5⟩; have HB5 := Lib.hid (HB4.out.trans (b5.mono HB4.out.size)); clear b5))
    go_ret2
    exact ⟨by rw [← HRES.out.2]; rfl, HB.out.trans (HB5.out.mono HB.out.size)⟩
  · simp only [if_true]
    go_enter Tryd.func16, Tryd.ntmps16
    go_wp2_with (first
      | (go_at_call 20; (try rw [hw1]); refine HCK.out.mono ?_; rintro e w2 ⟨rfl, b2⟩; have HB2 := Lib.hid b2; have hy2 := HKX.out w2 b2; have y0 := hy2.cell 0; have y1 := hy2.cell 1; have y2 := hy2.cell 2; clear b2 hy2)
      | (go_at_call 21; refine (HELM.out w2 HB2.out).mono ?_; rintro e w3 ⟨rfl, b3⟩; have HB3 := Lib.hid (HB2.out.trans (b3.mono HB2.out.size)); have hy3 := HKX.out w3 HB3.out; have u0 := hy3.cell 0; have u1 := hy3.cell 1; have u2 := hy3.cell 2; clear b3 hy3)
      | (go_at_call 22; refine (HTEL.out w3 HB3.out).mono ?_; rintro e w4 ⟨rfl, b4⟩; have HB4 := Lib.hid (HB3.out.trans (b4.mono HB3.out.size)); clear b4))
    go_ret2
    exact ⟨by rw [HRES.out.1]; rfl, HB.out.trans (HB4.out.mono HB.out.size)⟩
end Go.Proofs.YtlmdijijlbmddaaDoor.arr

/-
  The disk of layer 3: Copy.
-/
import Derived.Test.YtkebbjodkhjbmaaKArm
import Derived.Test.YtkebbjodkhjbmaaShelf
namespace Go.Proofs.Ytkebbjodkhjbmaa
open Go.RowKit Go.Maps

theorem qSecs : ∀ (w : World) (a : Option Addr) (n c n' c' : Nat), (binOp .eql 48 (.slice a n c) (.slice none n' c')).run Try.prog w = .ok (.bool a.isNone) w := fun w a n c n' c' => Lib.run_eql_slice_nil w _ _ a n c n' c' Try.underlying48

set_option maxRecDepth 100000 in
set_option maxHeartbeats 2000000 in
/-- slices.Clone of sectors. -/
theorem cloneS_any (g n cS : Nat) (ls : List (List UInt8)) (w : World) (hD : Dur w g cS ls) (hl : ls.length = n) (h128 : ∀ l ∈ ls, l.length = 128) (hpos : 0 < n) (hn : n ≤ 4096) :
    Calls Try.prog 38 #[.slice (some ⟨g, 0, none⟩) n cS] w fun e w' => ∃ g' c', e = .returned (.slice (some ⟨g', 0, none⟩) n c') ∧ w.heap.size ≤ g' ∧ Dur w' g' c' ls ∧ Below w.heap.size w w' := by
  obtain ⟨i0, hi, hz0, hz1, hz2⟩ := info_parts infoSec
  have q := qSecs
  have z5 : ∀ w, Sem.run Try.prog (Go.sizeOf 64) w = .ok 128 w := fun w => by simp [Go.sizeOf, typeInfo, hi, hz1]
  obtain ⟨cur, hb, hc1, hc2, hc3⟩ := hD
  have hat : ∀ i, i < n * 128 → ∃ (k j : Nat) (l : List UInt8) (x : UInt8), i = k * 128 + j ∧ ls[k]? = some l ∧ l[j]? = some x ∧ cur[i]? = some (bv x) := fun i hlt => by
    have hk : i / 128 < ls.length := by omega
    have hj : i % 128 < (ls[i / 128]).length := by rw [h128 _ (List.getElem_mem hk)]; omega
    have e : i = i / 128 * 128 + i % 128 := by omega
    refine ⟨i / 128, i % 128, ls[i / 128], (ls[i / 128])[i % 128], e, List.getElem?_eq_getElem hk, List.getElem?_eq_getElem hj, ?_⟩
    have := hc3 _ _ (List.getElem?_eq_getElem hk) _ _ (List.getElem?_eq_getElem hj)
    rwa [← e] at this
  obtain ⟨xs, hxs⟩ : ∃ xs, cur.toList.take (n * 128) = xs := ⟨_, rfl⟩
  have hxl : xs.length = n * 128 := by rw [← hxs, List.length_take, Array.length_toList, hc2]; have : n * 128 ≤ cS * 128 := Nat.mul_le_mul_right _ (by omega); omega
  have hxa : ∀ i, i < n * 128 → xs[i]? = cur[i]? := fun i hlt => by rw [← hxs, List.getElem?_take_of_lt hlt, Array.getElem?_toList]
  have hx1 : ∀ u ∈ xs, u.oneCell' = true := fun u hu => by
    obtain ⟨i, hil, rfl⟩ := List.getElem_of_mem hu
    obtain ⟨k, j, l, x, _, _, _, hx⟩ := hat i (by omega)
    have := hxa i (by omega)
    rw [hx, List.getElem?_eq_getElem hil] at this
    injection this with this
    rw [this]
    rfl
  have hr : Reads w w.heap.size 128 (some ⟨g, 0, none⟩) n xs := ⟨hxl, fun _ => ⟨_, rfl, hb.lt, fun j u hu => by
    have hj : j < n * 128 := by have := (List.getElem?_eq_some_iff.1 hu).1; omega
    have hp : (⟨g, 0, none⟩ : Addr).add j = ⟨g, j, none⟩ := by unfold Addr.add; split <;> simp_all
    rw [hp, hb.cell, ← hxa j hj, hu]⟩⟩
  have hfin : Hid (∀ w', ∀ g' c' : Nat, ∀ cur', Blk w' g' 64 cur' → n ≤ c' → cur'.size = c' * 128 → cur'.toList.take (n * 128) = xs → Dur w' g' c' ls) := Lib.hid (fun w' g' c' cur' h1 h2 h3 h4 => ⟨cur', h1, by omega, h3, fun k l hk j x hj => by
    have hkl : k < ls.length := (List.getElem?_eq_some_iff.1 hk).1
    have hjl : j < 128 := by have := (List.getElem?_eq_some_iff.1 hj).1; rw [h128 _ (List.mem_of_getElem? hk)] at this; exact this
    have hlt : k * 128 + j < n * 128 := by omega
    have e1 := hxa _ hlt
    rw [← h4, List.getElem?_take_of_lt hlt, Array.getElem?_toList] at e1
    rw [e1]
    exact hc3 k l hk j x hj⟩)
  clear hb hc1 hc2 hc3 hat hxa hxs h128
  go_enter Try.func38, Try.ntmps38
  go_wp2_with (at_builtin; refine wpList_append_any _ rfl _ _ 48 rfl w.heap.size 64 i0 (secV (List.replicate 128 0)) 128 128 Try.underlying48 hi hz0 hz1 hz2 (by kernel_rfl) (by decide) _ _ _ rfl (World.ownsRow_made w #[] 0 (Nat.le_refl _) (Nat.zero_le _) rfl) w.heap.size (some ⟨g, 0, none⟩) n cS xs rfl (hr.alloc (Nat.le_refl _) _) hx1 (by unfold maxLen; omega) (by omega) (by simp) ?_)
  intro v' w1 hown hgrow hat
  have hB : Below w.heap.size w w1 := ((Below.refl _ w).alloc (Nat.le_refl _) _).grown hgrow (by simp) (by intro k hk; simp [Value.ownBlock] at hk; omega)
  rcases hown.2 with ⟨rfl, h0⟩ | ⟨g', cap, cur', rfl, hb', hh', hc', hm', hs', ht'⟩
  · omega
  · have HD := Lib.hid (hfin.out w1 g' cap cur' hh' hc' hs' ht')
    have HB := Lib.hid hB
    have HG := Lib.hid hb'
    clear hat hB hown hgrow hr hh' hc' hm' hs' ht' hb'
    go_wp2
    go_ret
    exact ⟨_, _, rfl, HG.out, HD.out, HB.out⟩

theorem below_set {w W : World} (h : Below w.heap.size w W) (i : Nat) (v : Value) : Below w.heap.size w (W.setCell ⟨w.heap.size, i, none⟩ v) :=
  ((Keep.of_below (S := fun k => k = w.heap.size) h).setCell _ _ (fun _ => rfl)).below (Nat.le_refl _) (fun i hi e => by omega)
theorem Dur.apart {W : World} {b g cS i : Nat} {ls : List (List UInt8)} (h : Dur W g cS ls) (hne : g ≠ b) (v : Value) : Dur (W.setCell ⟨b, i, none⟩ v) g cS ls :=
  h.keep (S := fun k => k = b) ((Keep.refl _ _).setCell _ _ (fun _ => rfl)) hne
theorem Dur.next {W W' : World} {g cS : Nat} {ls : List (List UInt8)} (h : Dur W g cS ls) (hb : Below W.heap.size W W') : Dur W' g cS ls :=
  h.keep (S := fun _ => False) (Keep.of_below hb) (fun h => h)
theorem MapOf.set_ {W : World} {b m i : Nat} {cache : List (List UInt8)} (h : MapOf W m cache) (hne : m ≠ b) (v : Value) : MapOf (W.setCell ⟨b, i, none⟩ v) m cache :=
  h.keep (S := fun k => k = b) ((Keep.refl _ _).setCell _ _ (fun _ => rfl)) hne
theorem MapOf.next {W W' : World} {m : Nat} {cache : List (List UInt8)} (h : MapOf W m cache) (hb : Below W.heap.size W W') : MapOf W' m cache :=
  h.keep (S := fun _ => False) (Keep.of_below hb) (fun h => h)
theorem mapOf_clone {W : World} {m : Nat} {cache : List (List UInt8)} (h : MapOf W m cache) :
    Calls Try.prog 39 #[.map (some m)] W fun e w' => e = .returned (.map (some W.heap.size)) ∧ MapOf w' W.heap.size cache ∧ Below W.heap.size W w' := by
  obtain ⟨D, hown, hC⟩ := h
  have h1 := AnyW.maps_Clone_owns Try.cloneM 3 secR m 4096 D W hown
  change Calls Try.prog 39 _ _ _ at h1
  refine h1.mono ?_
  rintro e w' ⟨rfl, h2, _, h3⟩
  exact ⟨rfl, ⟨D, h2, hC⟩, h3⟩

section
variable {w : World} {d : DAt} {kv : Value} {s : RSt}

set_option maxRecDepth 100000 in
set_option maxHeartbeats 4000000 in
theorem dcopy_any (h : DK w d kv s) (hK : s.keep.length ≤ 17592186044416) :
    Calls Try.prog 22 #[.pointer (some ⟨d.b, 0, none⟩)] w fun e w' => ∃ d' kv', e = .returned (.pointer (some ⟨d'.b, 0, none⟩)) ∧ DK w' d' kv' s ∧ (∀ k, d'.foot k → w.heap.size ≤ k) ∧ Below w.heap.size w w' ∧ Fresh w.heap.size kv' := by
  have HV := Lib.hid (dvalid_any h)
  obtain ⟨A, kc, rfl, hk1, hk2, hk3, hk4⟩ := h.kHead
  rw [List.length_map] at hk1 hk3 h
  obtain ⟨kl, hkl⟩ : ∃ kl, s.keep.length = kl := ⟨_, rfl⟩
  obtain ⟨n, hnl⟩ : ∃ n, s.stays.length = n := ⟨_, rfl⟩
  have c0 := h.blk.cell 0
  have c1 := h.blk.cell 1
  have c2 := h.blk.cell 2
  have c3 := h.blk.cell 3
  have c4 := h.blk.cell 4
  have c5 := h.blk.cell 5
  have c6 := h.blk.cell 6
  have c7 := h.blk.cell 7
  have c8 := h.blk.cell 8
  rw [hkl] at c6 hk1 hk3 hK
  rw [hnl] at c1
  obtain ⟨W2, hW2⟩ : ∃ W2, (w.alloc (.cells #[.pointer (some ⟨d.b, 0, none⟩), .slice (some ⟨d.g, 0, none⟩) n d.cS, .map (some d.m), .int .i64 s.many, .bool s.down, .int .i64 s.write, .slice A kl kc, .int .i64 s.torn, .int .i64 s.at_] 51)).setCell ⟨w.heap.size, 0, none⟩ (.pointer (some ⟨w.heap.size, 0, none⟩)) = W2 := ⟨_, rfl⟩
  have hB1 : Below w.heap.size w (w.alloc (.cells #[.pointer (some ⟨d.b, 0, none⟩), .slice (some ⟨d.g, 0, none⟩) n d.cS, .map (some d.m), .int .i64 s.many, .bool s.down, .int .i64 s.write, .slice A kl kc, .int .i64 s.torn, .int .i64 s.at_] 51)) := (Below.refl _ _).alloc (Nat.le_refl _) _
  have hk12 : Keep (fun k => k = w.heap.size) w W2 := by rw [← hW2]; exact (Keep.of_below hB1).setCell _ _ (fun _ => rfl)
  have hB2 : Below w.heap.size w W2 := hk12.below (Nat.le_refl _) (fun i hi e => by omega)
  have hb2 : Blk W2 w.heap.size 51 #[.pointer (some ⟨w.heap.size, 0, none⟩), .slice (some ⟨d.g, 0, none⟩) n d.cS, .map (some d.m), .int .i64 s.many, .bool s.down, .int .i64 s.write, .slice A kl kc, .int .i64 s.torn, .int .i64 s.at_] := by
    rw [← hW2]
    exact (Blk.new w 51 _).set_ 0 _
  have h2 := h.below hB2
  have hfresh : d.b < w.heap.size := h.lt _ (.inl rfl)
  have hne : d.b ≠ w.heap.size := by omega
  have HDK : Hid (∀ W, Below w.heap.size w W → DK W d (.slice A s.keep.length kc) s) := Lib.hid (fun W hb => h.below hb)
  have HCS := Lib.hid (cloneS_any d.g n d.cS s.stays W2 h2.dur hnl h2.ok.stay (by have := h.some_; omega) (by have := h.ok.few; omega))
  have HB2 := Lib.hid hB2
  have HBK2 := Lib.hid hb2
  have HCELL : Hid (∀ W, Below w.heap.size w W → W.cell? ⟨d.b, 1, none⟩ = some (.slice (some ⟨d.g, 0, none⟩) n d.cS) ∧ W.cell? ⟨d.b, 2, none⟩ = some (.map (some d.m)) ∧ W.cell? ⟨d.b, 6, none⟩ = some (.slice A kl kc)) := Lib.hid (fun W hb => by
    have hx := (h.below hb).blk
    refine ⟨?_, hx.cell 2, ?_⟩
    · have := hx.cell 1
      rw [hnl] at this
      exact this
    · have := hx.cell 6
      rw [hkl] at this
      exact this)
  have q1 := (HCELL.out W2 hB2).1
  have HK3 := Lib.hid hk3
  have HKL := Lib.hid hkl
  have HNL := Lib.hid hnl
  have HH := Lib.hid h
  clear h h2 hB1 hB2 hk12 hb2 hk3 hk4 hkl hnl
  have HCI : Hid (∀ W, Below w.heap.size w W → Calls Try.prog 37 #[.slice A kl kc] W fun e w' => ∃ A' c', e = .returned (.slice A' kl c') ∧ Head w' 3 (s.keep.map iv) (.slice A' kl c') ∧ Fresh W.heap.size (.slice A' kl c') ∧ Below W.heap.size W w') := Lib.hid (fun W hb => cloneI_any A kl kc s.keep W HKL.out ((HK3.out.below hb).more hb.size) hK)
  go_enter Try.func22, Try.ntmps22
  go_wp2_with (first
    | (go_at_call 29; refine HV.out.mono ?_; rintro e _ ⟨rfl, rfl⟩)
    | (go_at_call 38; have l0 := HCS.out; clear l0; refine HCS.out.mono ?_; rintro e w3 ⟨g3, cs3, rfl, hg3, hD3, hb3⟩; have hk3 := HBK2.out.below hb3 HBK2.out.lt; have y1 := hk3.cell 1; have f1 := hk3.frozen 1; have hb33 := HB2.out.trans (hb3.mono HB2.out.size); have hb4 := below_set hb33 1 (.slice (some ⟨g3, 0, none⟩) n cs3); have q2 := (HCELL.out _ hb4).2.1; have hng : g3 ≠ w.heap.size := (by have := HBK2.out.lt; omega); have HD4 := Lib.hid (hD3.apart (i := 1) hng (.slice (some ⟨g3, 0, none⟩) n cs3)); have HBK4 := Lib.hid (hk3.set_ 1 (.slice (some ⟨g3, 0, none⟩) n cs3)); have HB4 := Lib.hid hb4; have HNG := Lib.hid hng; have HG3 : Hid (w.heap.size ≤ g3) := Lib.hid (by have := HB2.out.size; omega); clear hk3 hb33 hb4 hD3 hb3 hg3 hng HCS)
    | (go_at_call 39; have l0 := HB4.out; clear l0; obtain ⟨mm, hmm⟩ : ∃ mm, (w3.setCell ⟨w.heap.size, 1, none⟩ (.slice (some ⟨g3, 0, none⟩) n cs3)).heap.size = mm := ⟨_, rfl⟩; have hcl := mapOf_clone (HDK.out _ HB4.out).cac; rw [hmm] at hcl; refine hcl.mono ?_; clear hcl; rintro e w5 ⟨rfl, hM5, hb50⟩; have hb5 : Below (w3.setCell ⟨w.heap.size, 1, none⟩ (.slice (some ⟨g3, 0, none⟩) n cs3)).heap.size (w3.setCell ⟨w.heap.size, 1, none⟩ (.slice (some ⟨g3, 0, none⟩) n cs3)) w5 := (by rw [hmm]; exact hb50); have hk5 := HBK4.out.below hb5 HBK4.out.lt; have y2 := hk5.cell 2; have f2 := hk5.frozen 2; have hb55 := HB4.out.trans (hb5.mono HB4.out.size); have hb6 := below_set hb55 2 (.map (some mm)); have q6 := (HCELL.out _ hb6).2.2; have hnm : mm ≠ w.heap.size := (by have := HBK4.out.lt; omega); have HM6 := Lib.hid (hM5.set_ (i := 2) hnm (.map (some mm))); have HD6 := Lib.hid ((HD4.out.next hb5).apart (i := 2) HNG.out (.map (some mm))); have HBK6 := Lib.hid (hk5.set_ 2 (.map (some mm))); have HB6 := Lib.hid hb6; have HNM := Lib.hid hnm; have HGM : Hid (w.heap.size ≤ mm) := Lib.hid (by have := HB4.out.size; omega); clear hk5 hb55 hb6 hnm hM5 hb5 hb50 hmm HD4 HBK4 HB4)
    | (go_at_call 37; have l0 := HB6.out; clear l0; refine (HCI.out _ HB6.out).mono ?_; rintro e w7 ⟨A7, c7, rfl, hH7, hF7, hb7⟩; have hk7 := HBK6.out.below hb7 HBK6.out.lt; have y6 := hk7.cell 6; have f6 := hk7.frozen 6; have hb77 := HB6.out.trans (hb7.mono HB6.out.size); have HB8 := Lib.hid (below_set hb77 6 (.slice A7 kl c7)); have HM8 := Lib.hid ((HM6.out.next hb7).set_ (i := 6) HNM.out (.slice A7 kl c7)); have HD8 := Lib.hid ((HD6.out.next hb7).apart (i := 6) HNG.out (.slice A7 kl c7)); have HBK8 := Lib.hid (hk7.set_ 6 (.slice A7 kl c7)); have HF8 := Lib.hid (hF7.mono HB6.out.size); have HH8 := Lib.hid (hH7.keep (S := fun k => k = w.heap.size) ((Keep.refl _ _).setCell ⟨w.heap.size, 6, none⟩ (.slice A7 kl c7) (fun _ => rfl)) (fun k e => by subst e; exact fun e => absurd (hk7.typ.ne e) (by decide))); clear hk7 hb77 hH7 hF7 hb7 HM6 HD6 HBK6 HB6))
  go_ret
  exact ⟨⟨w.heap.size, g3, mm, cs3⟩, _, rfl, ⟨HH.out.ok, HH.out.more, HH.out.some_, by rw [HNL.out]; exact HBK8.out, HD8.out, HM8.out, HH8.out⟩, (by
    rintro k (rfl | rfl | rfl)
    · exact Nat.le_refl _
    · exact HG3.out
    · exact HGM.out), HB8.out, HF8.out⟩
end
end Go.Proofs.Ytkebbjodkhjbmaa

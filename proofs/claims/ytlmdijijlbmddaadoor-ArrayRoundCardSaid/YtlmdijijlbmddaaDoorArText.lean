/-
  Layer 11 (array): the texts of numbers, and of lists of them.
-/
import Derived.Test.YtlmdijijlbmddaaDoorArTextF
import Derived.Test.YtlmdijijlbmddaaDoorArDoor
import Derived.Test.YtlmdijijlbmddaaDoorArLook
import Derived.Test.YtlmdijijlbmddaaDoorPut
import Derived.Test.YtlmdijijlbmddaaDoorShelfA
import Derived.Lib.AppendIntMem
import Derived.Deep.MidRow
namespace Go.Proofs.YtlmdijijlbmddaaDoor.arr
open Go.RowKit

theorem arown_stay {w w1 : World} {base e size n B : Nat} {v : Value} {xs : List Value} (h : w.ownsRow base e size v n xs) (hb : Below B w w1) (hB : ∀ g, v.ownBlock = some g → g < B) : w1.ownsRow base e size v n xs := by
  refine ⟨h.1, ?_⟩
  rcases h.2 with hv | ⟨g, cap, cur, rfl, h0, hh, h1, h2, h3, h4⟩
  · exact .inl hv
  · exact .inr ⟨g, cap, cur, rfl, h0, (hb.block g (hB g (by simp [Value.ownBlock]))).trans hh, h1, h2, h3, h4⟩
theorem arown_lt {w : World} {base e size n : Nat} {v : Value} {xs : List Value} (h : w.ownsRow base e size v n xs) : ∀ g, v.ownBlock = some g → base ≤ g ∧ g < w.heap.size := by
  intro g hg
  rcases h.2 with ⟨rfl, _⟩ | ⟨g', cap, cur, rfl, h0, hh, _⟩
  · simp [Value.ownBlock] at hg
  · simp [Value.ownBlock] at hg
    subst hg
    exact ⟨h0, (Array.getElem?_eq_some_iff.1 hh).1⟩

theorem arfmt_any (n : Int) (h0 : -9223372036854775808 ≤ n) (h1 : n ≤ 9223372036854775807) (w : World) (ht : Tab w) :
    Calls Tryd.prog 34 #[.int .i64 n, .int .i64 10] w fun e w' => e = .returned (.string ⟨(Lib.itoa n).toArray⟩) ∧ Below w.heap.size w w' := by
  have h : Calls Tryd.prog 34 #[.int .i64 n, .int .i64 10] w fun e w' => e = .returned (.string ⟨(Lib.itoa n).toArray⟩) ∧ ∃ k os, w' = Sort.grow (w.drewN k) os := Any.strconv_FormatInt_10 Tryd.fmtA n h0 h1 w ht
  refine h.mono ?_
  rintro e w' ⟨rfl, k, os, rfl⟩
  exact ⟨rfl, Lib.below_grow _ _ (Nat.le_refl _) _ _⟩
theorem arcut_any (s p : List UInt8) (w : World) :
    Calls Tryd.prog 35 #[.string ⟨s.toArray⟩, .string ⟨p.toArray⟩] w fun e w' => e = .returned (.tuple #[.string ⟨(Lib.trimPrefix s p).toArray⟩, .bool (Lib.hasPrefix s p)]) ∧ w = w' := by
  have h : Calls Tryd.prog 35 #[.string ⟨s.toArray⟩, .string ⟨p.toArray⟩] w fun e w' => e = .returned (.tuple #[.string ⟨(Lib.trimPrefix (⟨s.toArray⟩ : ByteArray).data.toList (⟨p.toArray⟩ : ByteArray).data.toList).toArray⟩, .bool (Lib.hasPrefix (⟨s.toArray⟩ : ByteArray).data.toList (⟨p.toArray⟩ : ByteArray).data.toList)]) ∧ w' = w := Any.strings_CutPrefix Tryd.cutA ⟨s.toArray⟩ ⟨p.toArray⟩ w
  refine h.mono ?_
  rintro e w' ⟨rfl, rfl⟩
  exact ⟨by simp, rfl⟩

theorem arnum_any (n : Int) (h0 : -9223372036854775808 ≤ n) (h1 : n ≤ 9223372036854775807) (w : World) (ht : Tab w) :
    Calls Tryd.prog 27 #[.int .i64 n] w fun e w' => e = .returned (.string ⟨(numB n).toArray⟩) ∧ Below w.heap.size w w' := by
  have HF := Lib.hid (arfmt_any n h0 h1 w ht)
  have HC := Lib.hid (fun W => arcut_any (Lib.itoa n) [45] W)
  obtain ⟨s, hs⟩ : ∃ s, (⟨(Lib.itoa n).toArray⟩ : ByteArray) = s := ⟨_, rfl⟩
  rw [hs] at HF HC
  obtain ⟨p, hp⟩ : ∃ p, (⟨(Lib.trimPrefix (Lib.itoa n) [45]).toArray⟩ : ByteArray) = p := ⟨_, rfl⟩
  rw [hp] at HC
  by_cases hn : n < 0
  · obtain ⟨e1, e2⟩ := numB_neg hn
    rw [e1] at HC
    have HE : Hid ((⟨#[194, 175]⟩ : ByteArray) ++ p = ⟨(numB n).toArray⟩) := Lib.hid (by
      rw [← e2, ← hp]
      apply ByteArray.ext
      simp [ByteArray.data_append])
    have hps : ¬ 9223372036854775807 < 2 + p.size := by
      have h2 := congrArg List.length e2
      have h3 := numB_length h0 h1
      have h4 : p.size = (Lib.trimPrefix (Lib.itoa n) [45]).length := by rw [← hp]; rfl
      rw [List.length_append, ← h4] at h2
      simp only [List.length_cons, List.length_nil] at h2
      omega
    clear e1 e2 hs hp h0 h1 hn
    go_enter Tryd.func27, Tryd.ntmps27
    go_wp2_with (first
      | (go_at_call 34; refine HF.out.mono ?_; rintro e w1 ⟨rfl, b1⟩; have HB1 := Lib.hid b1; clear b1)
      | (go_at_call 35; refine (HC.out _).mono ?_; rintro e _ ⟨rfl, rfl⟩))
    go_ret
    exact ⟨by rw [← HE.out]; rfl, HB1.out⟩
  · obtain ⟨e1, e2⟩ := numB_pos hn
    rw [e1] at HC
    have HE : Hid (s = ⟨(numB n).toArray⟩) := Lib.hid (by rw [← e2, ← hs])
    clear e1 e2 hs hp h0 h1 hn
    go_enter Tryd.func27, Tryd.ntmps27
    go_wp2_with (first
      | (go_at_call 34; refine HF.out.mono ?_; rintro e w1 ⟨rfl, b1⟩; have HB1 := Lib.hid b1; clear b1)
      | (go_at_call 35; refine (HC.out _).mono ?_; rintro e _ ⟨rfl, rfl⟩))
    go_ret
    exact ⟨by rw [← HE.out]; rfl, HB1.out⟩

/-- A number's text as a cell. -/
def nv (z : Int) : Value := .string ⟨(numB z).toArray⟩
theorem arInfoStr : (Tryd.prog.info? 9).map (fun i => (i.zero, i.size, i.bytes)) = some (some (.string ⟨#[]⟩), 1, 16) := by kernel_rfl
theorem arjoin_any (A : Option Addr) (c n : Nat) (l : List Int) (w : World) {B : Nat} (hl : l.length = n) (ho : w.ownsRow B 9 1 (.slice A n c) n (l.map nv)) (hn : n ≤ 100000) (hf : ∀ z ∈ l, -9223372036854775808 ≤ z ∧ z ≤ 9223372036854775807) :
    Calls Tryd.prog 28 #[.slice A n c, .string ⟨#[32]⟩] w fun e w' => e = .returned (.string ⟨(numsB l).toArray⟩) ∧ Below w.heap.size w w' := by
  rcases Nat.eq_zero_or_pos n with h0 | h0
  · subst h0
    have hnil : l = [] := List.eq_nil_of_length_eq_zero hl
    subst hnil
    have h : Calls Tryd.prog 28 #[.slice A 0 c, .string ⟨#[32]⟩] w fun e w' => e = .returned (.string ⟨#[]⟩) ∧ w' = w := Any.strings_Join_none Tryd.joinA Tryd.joinAX A c ⟨#[32]⟩ w
    refine h.mono ?_
    rintro e w' ⟨rfl, rfl⟩
    exact ⟨rfl, Below.refl _ _⟩
  · obtain ⟨g, rfl⟩ : ∃ g, A = some ⟨g, 0, none⟩ := by
      rcases ho.2 with ⟨_, h1⟩ | ⟨g, cap, cur, e, _⟩
      · omega
      · injection e with e1 _ _
        exact ⟨g, e1⟩
    have hcap : n ≤ c := by
      rcases ho.2 with ⟨e1, h0⟩ | ⟨g, cap, cur, e1, _, _, hc, _⟩
      · omega
      · injection e1 with _ _ e3
        omega
    have hx : ((l.map fun z => (⟨(numB z).toArray⟩ : ByteArray)).map (·.data.toList)) = l.map numB := by
      rw [List.map_map]
      apply List.map_congr_left
      intro z _
      simp
    have hlen : (Lib.join ((l.map fun z => (⟨(numB z).toArray⟩ : ByteArray)).map (·.data.toList)) (⟨#[32]⟩ : ByteArray).data.toList).length ≤ 140737488355328 := by
      rw [hx]
      have := join_le (sep := [32]) (B := 22) (l.map numB) (fun x hx => by
        obtain ⟨z, hz, rfl⟩ := List.mem_map.1 hx
        exact numB_length (hf z hz).1 (hf z hz).2)
      rw [List.length_map, hl] at this
      simp only [List.length_cons, List.length_nil] at this
      show (Lib.join (l.map numB) [32]).length ≤ _
      omega
    have h := Any.strings_Join Tryd.joinA Tryd.joinAX g 0 c (l.map fun z => (⟨(numB z).toArray⟩ : ByteArray)) ⟨#[32]⟩ w (fun j x hx => by
      have hx2 : (l.map nv)[j]? = some (.string x) := by
        rw [List.getElem?_map] at hx ⊢
        cases hz : l[j]? with
        | none => rw [hz] at hx; cases hx
        | some z =>
          rw [hz] at hx
          injection hx with hx
          subst hx
          rfl
      have := ho.cells (g := g) rfl j _ hx2
      rw [Addr.add_mid] at this
      exact this) ((arown_lt ho g (by simp [Value.ownBlock])).2) (by rw [List.length_map]; omega) (by rw [List.length_map]; omega) hlen
    rw [hx, List.length_map, hl] at h
    exact h

set_option maxRecDepth 100000 in
set_option maxHeartbeats 4000000 in
theorem arnumsI_any (A : Option Addr) (c n : Nat) (l : List Int) (w : World) (hl : l.length = n) (ha : Reads w w.heap.size 1 A n (l.map iv)) (hn : n ≤ 100000) (hf : ∀ z ∈ l, -9223372036854775808 ≤ z ∧ z ≤ 9223372036854775807) (ht : Tab w) :
    Calls Tryd.prog 23 #[.slice A n c] w fun e w' => e = .returned (.string ⟨(numsB l).toArray⟩) ∧ Below w.heap.size w w' := by
  obtain ⟨i0, hi, hz0, hz1, hz2⟩ := info_parts arInfoStr
  have HA := Lib.hid ha
  have HL := Lib.hid hl
  have HF := Lib.hid hf
  have HT := Lib.hid ht
  clear ha hl hf ht
  go_enter Tryd.func23, Tryd.ntmps23
  go_wp2
  go_loopw [8, 3] (fun i v wr => ∃ (j : Nat) (A1 : Option Addr) (c1 : Nat), j ≤ n ∧ i = .int .i64 (j : Int) ∧ v = .slice A1 j c1 ∧ wr.ownsRow w.heap.size 9 1 (.slice A1 j c1) j ((l.take j).map nv) ∧ Below w.heap.size w wr) (fun i _ _ => n - (intOf i).toNat)
  case atStart => exact ⟨0, none, 0, Nat.zero_le _, rfl, rfl, World.ownsRow_nil _ _ _ _, Below.refl _ _⟩
  case round =>
    obtain ⟨j, A1, c1, hj, rfl, rfl, ho, hbw⟩ := hrel
    by_cases hlt : j < n
    · have hd : (j : Int) < (n : Int) := by omega
      obtain ⟨adA, rfl, _, cA⟩ := (HA.out.below hbw).int_at hlt HL.out
      have hjl : j < l.length := by have := HL.out; omega
      obtain ⟨z0, z1⟩ := HF.out l[j] (List.getElem_mem hjl)
      have htk : (l.take (j + 1)).map nv = (l.take j).map nv ++ [nv l[j]] := by rw [List.take_succ_eq_append_getElem hjl, List.map_append]; rfl
      generalize l[j] = z at *
      have HN := Lib.hid (arnum_any z z0 z1 wr (HT.out.below hbw))
      have HO := Lib.hid ho
      have HBW := Lib.hid hbw
      have HTK := Lib.hid htk
      obtain ⟨s, hs⟩ : ∃ s, (⟨(numB z).toArray⟩ : ByteArray) = s := ⟨_, rfl⟩
      rw [hs] at HN
      have HS : Hid (nv z = .string s) := Lib.hid (by rw [← hs]; rfl)
      have hnew : ∀ W : World, ∀ k u, [Value.string s][k]? = some u → (W.alloc (.cells #[.string s] 9)).cell? ((⟨W.heap.size, 0, none⟩ : Addr).add k) = some u := fun W k u hu => by
        rw [Addr.add_mid, Nat.zero_add, (Blk.new W 9 _).cell k, List.getElem?_toArray]
        exact hu
      have HNEW := Lib.hid hnew
      clear ho hbw htk hs z0 z1 hnew
      go_wp2_with (first
        | (go_at_call 27; refine HN.out.mono ?_; rintro e w2 ⟨rfl, b2⟩; have B2 := Lib.hid b2; have O2 := Lib.hid (arown_stay HO.out b2 (fun g hg => (arown_lt HO.out g hg).2)); clear b2)
        | (at_builtin; refine wpList_append_own _ rfl _ _ 56 rfl w.heap.size 9 i0 (.string ⟨#[]⟩) 1 16 Tryd.underlying56 hi hz0 hz1 hz2 rfl (by decide) _ j _ rfl (arown_stay O2.out ((Below.refl _ w2).alloc (Nat.le_refl _) _) (fun g hg => (arown_lt O2.out g hg).2)) ⟨w2.heap.size, 0, none⟩ 1 1 [.string s] rfl rfl (HNEW.out w2) (by intro u hu; rw [List.mem_singleton] at hu; subst hu; rfl) (by unfold maxLen; omega) (by omega) (by have h1 := B2.out.size; have h2 := HBW.out.size; simp; omega) ?_; intro v3 w3 hown hgrow _
           have b3 : Below w.heap.size w w3 := ((HBW.out.trans (B2.out.mono HBW.out.size)).alloc (by have h1 := B2.out.size; have h2 := HBW.out.size; omega) _).grown hgrow (by have h1 := B2.out.size; have h2 := HBW.out.size; simp; omega) (fun g e => (arown_lt O2.out g e).1)
           have B3 := Lib.hid b3
           have O3 := Lib.hid hown
           clear hown hgrow b3))
      obtain ⟨A3, c3, rfl⟩ : ∃ A3 c3, v3 = .slice A3 (j + 1) c3 := by
        rcases O3.out.2 with ⟨_, h0⟩ | ⟨g, cap, cur, e, _⟩
        · omega
        · exact ⟨_, cap, e⟩
      refine ⟨⟨j + 1, A3, c3, by omega, by go_num, rfl, ?_, B3.out⟩, by simp [intOf]; omega⟩
      rw [HTK.out, HS.out]
      exact O3.out
    · obtain rfl : j = n := by omega
      rw [List.take_of_length_le (by have := HL.out; omega)] at ho
      have HO := Lib.hid ho
      have HBW := Lib.hid hbw
      have HJ := Lib.hid (arjoin_any A1 c1 j l wr HL.out ho hn HF.out)
      clear ho hbw
      go_wp2_with (go_at_call 28; refine HJ.out.mono ?_; rintro e w9 ⟨rfl, b9⟩; have HB9 := Lib.hid (HBW.out.trans (b9.mono HBW.out.size)); clear b9)
      go_ret
      exact ⟨rfl, HB9.out⟩


set_option maxRecDepth 100000 in
set_option maxHeartbeats 4000000 in
theorem arnumsL_any (A : Option Addr) (c n : Nat) (l : List Int) (w : World) (hl : l.length = n) (ha : Reads w w.heap.size 1 A n (l.map iv)) (hn : n ≤ 100000) (hf : ∀ z ∈ l, -9223372036854775808 ≤ z ∧ z ≤ 9223372036854775807) (ht : Tab w) :
    Calls Tryd.prog 26 #[.slice A n c] w fun e w' => e = .returned (.string ⟨(numsB l).toArray⟩) ∧ Below w.heap.size w w' := by
  obtain ⟨i0, hi, hz0, hz1, hz2⟩ := info_parts arInfoStr
  have HA := Lib.hid ha
  have HL := Lib.hid hl
  have HF := Lib.hid hf
  have HT := Lib.hid ht
  clear ha hl hf ht
  go_enter Tryd.func26, Tryd.ntmps26
  go_wp2
  go_loopw [8, 3] (fun i v wr => ∃ (j : Nat) (A1 : Option Addr) (c1 : Nat), j ≤ n ∧ i = .int .i64 (j : Int) ∧ v = .slice A1 j c1 ∧ wr.ownsRow w.heap.size 9 1 (.slice A1 j c1) j ((l.take j).map nv) ∧ Below w.heap.size w wr) (fun i _ _ => n - (intOf i).toNat)
  case atStart => exact ⟨0, none, 0, Nat.zero_le _, rfl, rfl, World.ownsRow_nil _ _ _ _, Below.refl _ _⟩
  case round =>
    obtain ⟨j, A1, c1, hj, rfl, rfl, ho, hbw⟩ := hrel
    by_cases hlt : j < n
    · have hd : (j : Int) < (n : Int) := by omega
      obtain ⟨adA, rfl, _, cA⟩ := (HA.out.below hbw).int_at hlt HL.out
      have hjl : j < l.length := by have := HL.out; omega
      obtain ⟨z0, z1⟩ := HF.out l[j] (List.getElem_mem hjl)
      have htk : (l.take (j + 1)).map nv = (l.take j).map nv ++ [nv l[j]] := by rw [List.take_succ_eq_append_getElem hjl, List.map_append]; rfl
      generalize l[j] = z at *
      have HN := Lib.hid (arnum_any z z0 z1 wr (HT.out.below hbw))
      have HO := Lib.hid ho
      have HBW := Lib.hid hbw
      have HTK := Lib.hid htk
      obtain ⟨s, hs⟩ : ∃ s, (⟨(numB z).toArray⟩ : ByteArray) = s := ⟨_, rfl⟩
      rw [hs] at HN
      have HS : Hid (nv z = .string s) := Lib.hid (by rw [← hs]; rfl)
      have hnew : ∀ W : World, ∀ k u, [Value.string s][k]? = some u → (W.alloc (.cells #[.string s] 9)).cell? ((⟨W.heap.size, 0, none⟩ : Addr).add k) = some u := fun W k u hu => by
        rw [Addr.add_mid, Nat.zero_add, (Blk.new W 9 _).cell k, List.getElem?_toArray]
        exact hu
      have HNEW := Lib.hid hnew
      clear ho hbw htk hs z0 z1 hnew
      go_wp2_with (first
        | (go_at_call 27; refine HN.out.mono ?_; rintro e w2 ⟨rfl, b2⟩; have B2 := Lib.hid b2; have O2 := Lib.hid (arown_stay HO.out b2 (fun g hg => (arown_lt HO.out g hg).2)); clear b2)
        | (at_builtin; refine wpList_append_own _ rfl _ _ 56 rfl w.heap.size 9 i0 (.string ⟨#[]⟩) 1 16 Tryd.underlying56 hi hz0 hz1 hz2 rfl (by decide) _ j _ rfl (arown_stay O2.out ((Below.refl _ w2).alloc (Nat.le_refl _) _) (fun g hg => (arown_lt O2.out g hg).2)) ⟨w2.heap.size, 0, none⟩ 1 1 [.string s] rfl rfl (HNEW.out w2) (by intro u hu; rw [List.mem_singleton] at hu; subst hu; rfl) (by unfold maxLen; omega) (by omega) (by have h1 := B2.out.size; have h2 := HBW.out.size; simp; omega) ?_; intro v3 w3 hown hgrow _
           have b3 : Below w.heap.size w w3 := ((HBW.out.trans (B2.out.mono HBW.out.size)).alloc (by have h1 := B2.out.size; have h2 := HBW.out.size; omega) _).grown hgrow (by have h1 := B2.out.size; have h2 := HBW.out.size; simp; omega) (fun g e => (arown_lt O2.out g e).1)
           have B3 := Lib.hid b3
           have O3 := Lib.hid hown
           clear hown hgrow b3))
      obtain ⟨A3, c3, rfl⟩ : ∃ A3 c3, v3 = .slice A3 (j + 1) c3 := by
        rcases O3.out.2 with ⟨_, h0⟩ | ⟨g, cap, cur, e, _⟩
        · omega
        · exact ⟨_, cap, e⟩
      refine ⟨⟨j + 1, A3, c3, by omega, by go_num, rfl, ?_, B3.out⟩, by simp [intOf]; omega⟩
      rw [HTK.out, HS.out]
      exact O3.out
    · obtain rfl : j = n := by omega
      rw [List.take_of_length_le (by have := HL.out; omega)] at ho
      have HO := Lib.hid ho
      have HBW := Lib.hid hbw
      have HJ := Lib.hid (arjoin_any A1 c1 j l wr HL.out ho hn HF.out)
      clear ho hbw
      go_wp2_with (go_at_call 28; refine HJ.out.mono ?_; rintro e w9 ⟨rfl, b9⟩; have HB9 := Lib.hid (HBW.out.trans (b9.mono HBW.out.size)); clear b9)
      go_ret
      exact ⟨rfl, HB9.out⟩

end Go.Proofs.YtlmdijijlbmddaaDoor.arr

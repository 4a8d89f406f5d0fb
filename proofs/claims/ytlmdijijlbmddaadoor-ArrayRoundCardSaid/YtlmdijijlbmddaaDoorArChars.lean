/-
  Layer 11 (array): the text of characters.
-/
import Derived.Test.YtlmdijijlbmddaaDoorArText
namespace Go.Proofs.YtlmdijijlbmddaaDoor.arr
open Go.RowKit

/-- A builder of the call's own that holds these bytes. -/
abbrev Bld (B b : Nat) (l : List UInt8) (w : World) : Prop := Lib.IsBuilderF 64 5 B b (Lib.byteCells l) w
theorem Bld.fresh {w : World} {b : Nat} (h : Blk w b 64 #[.pointer none, .slice none 0 0]) (B : Nat) (hB : B ≤ b) : Bld B b [] w :=
  .inl ⟨hB, .slice none 0 0, h, World.ownsRowF_of (World.ownsRow_nil _ _ _ _), by simp [Value.ownBlock]⟩
theorem bld_wb (B b : Nat) (l : List UInt8) (x : UInt8) (w : World) (h : Bld B b l w) (hl : l.length ≤ 1000000) (hB : B ≤ w.heap.size) :
    Calls Tryd.prog 31 #[.pointer (some ⟨b, 0, none⟩), .int .u8 (x.toNat : Int)] w fun e w' => e = .returned .nilIface ∧ Bld B b (l ++ [x]) w' ∧ Below B w w' := by
  have hh : Calls Tryd.prog 31 #[.pointer (some ⟨b, 0, none⟩), .int .u8 (x.toNat : Int)] w fun e w' => e = .returned .nilIface ∧ (Lib.BuilderAtF 64 5 B b (.pointer (some ⟨b, 0, none⟩)) (Lib.byteCells l ++ [.int .u8 (x.toNat : Int)]) w' ∧ Below B w w' ∧ Lib.OthersKept 5 (some b) w w') :=
    Any.Builder_WriteByte_k Tryd.wbA Tryd.wbAX B b (Lib.byteCells l) (x.toNat : Int) w h (by rw [Lib.byteCells_length]; omega) hB
  refine hh.mono ?_
  rintro e w' ⟨rfl, h1, h2, _⟩
  exact ⟨rfl, .inr (by rw [Lib.byteCells_append]; exact h1), h2⟩
theorem bld_wr (B b : Nat) (l : List UInt8) (r : Int) (h0 : 0 ≤ r) (h1 : r ≤ 1114111) (w : World) (h : Bld B b l w) (hl : l.length ≤ 1000000) (hB : B ≤ w.heap.size) :
    Calls Tryd.prog 32 #[.pointer (some ⟨b, 0, none⟩), .int .i32 r] w fun e w' => (∃ v, e = .returned v) ∧ Bld B b (l ++ Lib.encodeRune r) w' ∧ Below B w w' := by
  have hh : Calls Tryd.prog 32 #[.pointer (some ⟨b, 0, none⟩), .int .i32 r] w fun e w' => e = .returned (.tuple #[.int .i64 (Lib.runeCells r).length, .nilIface]) ∧ (Lib.BuilderAtF 64 5 B b (.pointer (some ⟨b, 0, none⟩)) (Lib.byteCells l ++ Lib.runeCells r) w' ∧ Below B w w' ∧ Lib.OthersKept 5 (some b) w w') :=
    Any.Builder_WriteRune_k Tryd.wrA Tryd.wrAX B b (Lib.byteCells l) r (by omega) (by omega) w h (by rw [Lib.byteCells_length]; omega) hB
  refine hh.mono ?_
  rintro e w' ⟨rfl, h1, h2, _⟩
  exact ⟨⟨_, rfl⟩, .inr (by rw [Lib.byteCells_append, Lib.byteCells_encodeRune]; exact h1), h2⟩
theorem bld_str (B b : Nat) (l : List UInt8) (w : World) (h : Bld B b l w) (hB : B ≤ w.heap.size) :
    Calls Tryd.prog 33 #[.pointer (some ⟨b, 0, none⟩)] w fun e w' => e = .returned (.string ⟨l.toArray⟩) ∧ Below B w w' := by
  have hh : Calls Tryd.prog 33 #[.pointer (some ⟨b, 0, none⟩)] w fun e w' => e = .returned (.string ⟨l.toArray⟩) ∧ (Lib.IsBuilderF 64 5 B b (Lib.byteCells l) w' ∧ Below B w w' ∧ Lib.OthersKept 5 (some b) w w') :=
    Any.Builder_String_any_k Tryd.strA Tryd.strAX B b l w h hB
  refine hh.mono ?_
  rintro e w' ⟨rfl, _, h2, _⟩
  exact ⟨rfl, h2⟩

theorem wrap32 {x : Int} (h0 : 0 ≤ x) (h1 : x ≤ 1114111) : IntKind.i32.wrap x = x := by
  have e1 : (2 : Int) ^ IntKind.i32.bits = 4294967296 := rfl
  have e2 : (2 : Int) ^ (IntKind.i32.bits - 1) = 2147483648 := rfl
  unfold IntKind.wrap
  simp [e1, e2]
  omega
theorem charB_39 : charB 39 = Lib.encodeRune 39 ++ [39] := rfl
theorem charB_ne {x : Int} (h : ¬ x = 39) : charB x = Lib.encodeRune x := by
  unfold charB
  rw [if_neg h, List.append_nil]
/-- What stands when j characters are written. -/
structure ChI (w : World) (l : List Int) (j : Nat) (wr : World) : Prop where
  bld : Bld w.heap.size w.heap.size ([39] ++ ((l.take j).map charB).flatten) wr
  b : Below w.heap.size w wr
theorem ch_len (l : List Int) (j : Nat) : ([39] ++ ((l.take j).map charB).flatten).length ≤ 1 + l.length * 5 := by
  rw [List.length_append]
  have := flat_le (B := 5) ((l.take j).map charB) (fun x hx => by
    obtain ⟨c, _, rfl⟩ := List.mem_map.1 hx
    exact charB_length c)
  rw [List.length_map, List.length_take] at this
  have h2 : min j l.length * 5 ≤ l.length * 5 := by omega
  simp only [List.length_cons, List.length_nil]
  omega

set_option maxRecDepth 100000 in
set_option maxHeartbeats 4000000 in
theorem archars_any (A : Option Addr) (c n : Nat) (l : List Int) (w : World) (hl : l.length = n) (ha : Reads w w.heap.size 1 A n (l.map iv)) (hn : n ≤ 100000) (hok : l.all charOk = true) :
    Calls Tryd.prog 25 #[.slice A n c] w fun e w' => e = .returned (.string ⟨(charsB l).toArray⟩) ∧ Below w.heap.size w w' := by
  obtain ⟨z, hz⟩ : ∃ z, w.heap.size = z := ⟨_, rfl⟩
  obtain ⟨w1, hw1⟩ : ∃ w1, w.alloc (.cells #[.pointer none, .slice none 0 0] 64) = w1 := ⟨_, rfl⟩
  have hb1 : Below w.heap.size w w1 := by rw [← hw1]; exact (Below.refl _ _).alloc (Nat.le_refl _) _
  have hf : Bld z z [] w1 := by
    rw [← hw1, ← hz]
    exact Bld.fresh (Blk.new w _ _) _ (Nat.le_refl _)
  have HW1 := Lib.hid (bld_wb z z [] 39 w1 hf (by simp) (by have := hb1.size; omega))
  have HA := Lib.hid ha
  have HL := Lib.hid hl
  have HOK : Hid (∀ x ∈ l, charOk x = true) := Lib.hid (List.all_eq_true.1 hok)
  have HB1 := Lib.hid hb1
  have HZ := Lib.hid hz
  have HLEN : Hid (∀ j, ([39] ++ ((l.take j).map charB).flatten).length ≤ 500001) := Lib.hid (fun j => by have := ch_len l j; omega)
  clear ha hl hok hb1 hf
  go_enter Tryd.func25, Tryd.ntmps25
  go_wp2_with (go_at_call 31; (try rw [hw1]); (try rw [hz]); refine HW1.out.mono ?_; rintro e w2 ⟨rfl, h2, b2⟩; have H2 := Lib.hid h2; have B2 := Lib.hid b2; clear h2 b2)
  have HI0 : Hid (ChI w l 0 w2) := Lib.hid ⟨by rw [hz]; exact H2.out, by rw [hz]; exact (hz ▸ HB1.out).trans B2.out⟩
  clear HW1 hw1
  go_loopw [9] (fun i wr => ∃ j : Nat, j ≤ n ∧ i = .int .i64 (j : Int) ∧ ChI w l j wr) (fun i _ => n - (intOf i).toNat)
  case atStart => exact ⟨0, Nat.zero_le _, rfl, HI0.out⟩
  case round =>
    obtain ⟨j, hj, rfl, hI⟩ := hrel
    by_cases hlt : j < n
    · have hd : (j : Int) < (n : Int) := by omega
      obtain ⟨adA, rfl, _, cA⟩ := (HA.out.below hI.b).int_at hlt HL.out
      have hjl : j < l.length := by have := HL.out; omega
      have hco := HOK.out l[j] (List.getElem_mem hjl)
      have htk : ((l.take (j + 1)).map charB).flatten = ((l.take j).map charB).flatten ++ charB l[j] := by
        rw [List.take_succ_eq_append_getElem hjl, List.map_append, List.flatten_append]
        simp
      generalize l[j] = x at *
      obtain ⟨⟨x0, x1⟩, _⟩ := charOk_iff.1 hco
      have hwr := wrap32 x0 x1
      have HI := Lib.hid hI
      have HTK := Lib.hid htk
      have hlen := HLEN.out j
      obtain ⟨S, hS⟩ : ∃ S, [39] ++ ((l.take j).map charB).flatten = S := ⟨_, rfl⟩
      rw [hS] at hlen
      have hsz := hI.b.size
      have HR := Lib.hid (bld_wr z z S x x0 x1 wr (by rw [← hz, ← hS]; exact hI.bld) (by omega) (by omega))
      have HLN := Lib.hid hlen
      have HSS := Lib.hid hS
      clear hI htk hlen hS hco
      by_cases h39 : x = 39
      · have hee : (x == 39) = true := by rw [beq_iff_eq]; exact h39
        subst h39
        have hz2 := HZ.out
        have hen : (Lib.encodeRune 39) = [39] := by decide
        go_wp2_with (first
          | (go_at_call 32; (have l0 := M3.out; clear l0); (try rw [hz]); refine (bld_wr z z (S ++ Lib.encodeRune 39) 39 (by omega) (by omega) w3 H3.out (by rw [List.length_append, hen]; have := HLN.out; simp; omega) (by have := B3.out.size; omega)).mono ?_; rintro e w4 ⟨⟨v4, rfl⟩, h4, b4⟩; have H4 := Lib.hid h4; have B4 := Lib.hid (B3.out.trans b4); clear h4 b4)
          | (go_at_call 32; (try rw [hz]); refine HR.out.mono ?_; rintro e w3 ⟨⟨v3, rfl⟩, h3, b3⟩; have H3 := Lib.hid h3; have B3 := Lib.hid b3; have M3 : Hid (3 = 3) := Lib.hid rfl; clear h3 b3))
        refine ⟨⟨j + 1, by omega, by go_num, ?_, ?_⟩, by simp [intOf]; omega⟩
        · rw [hz2, HTK.out]
          have h5 := H4.out
          rw [charB_39, ← List.append_assoc, ← List.append_assoc, HSS.out]
          rw [hen] at h5 ⊢
          exact h5
        · rw [hz2]
          exact (hz2 ▸ HI.out.b).trans B4.out
      · have hee : (x == 39) = false := by rw [beq_eq_false_iff_ne]; exact h39
        have H39 := Lib.hid h39
        have hz2 := HZ.out
        clear h39
        go_wp2_with (go_at_call 32; (try rw [hz]); refine HR.out.mono ?_; rintro e w3 ⟨⟨v3, rfl⟩, h3, b3⟩; have H3 := Lib.hid h3; have B3 := Lib.hid b3; clear h3 b3)
        refine ⟨⟨j + 1, by omega, by go_num, ?_, ?_⟩, by simp [intOf]; omega⟩
        · rw [hz2, HTK.out]
          rw [charB_ne H39.out, ← List.append_assoc, HSS.out]
          exact H3.out
        · rw [hz2]
          exact (hz2 ▸ HI.out.b).trans B3.out
    · obtain rfl : j = n := by omega
      have hI1 := hI.bld
      have hI2 := hI.b
      have hlen := HLEN.out j
      have hsz := hI2.size
      rw [List.take_of_length_le (by have := HL.out; omega)] at hI1 hlen
      rw [hz] at hI1 hI2 hsz
      have HW := Lib.hid (bld_wb z z _ 39 wr hI1 (by omega) (by omega))
      have HI2 := Lib.hid hI2
      have HSZ := Lib.hid hsz
      clear hI hI1 hI2 hlen hsz
      go_wp2_with (first
        | (go_at_call 31; (try rw [hz]); refine HW.out.mono ?_; rintro e w8 ⟨rfl, h8, b8⟩; have H8 := Lib.hid h8; have B8 := Lib.hid (HI2.out.trans b8); clear h8 b8)
        | (go_at_call 33; (try rw [hz]); refine (bld_str z z _ w8 H8.out (by have := B8.out.size; have := HZ.out; omega)).mono ?_; rintro e w9 ⟨rfl, b9⟩; have B9 := Lib.hid (B8.out.trans b9); clear b9))
      go_ret
      have hz2 := HZ.out
      exact ⟨rfl, by rw [hz2]; exact B9.out⟩
end Go.Proofs.YtlmdijijlbmddaaDoor.arr

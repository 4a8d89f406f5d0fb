/-
  Layer 14 (turn): reversed; ahead, the check of amounts, rotated.
  Layer 14 (turn): rotated; ReverseWay, RotateWay.
  Layer 14 (turn): where a list puts each axis.
  Layer 14 (turn): axes in another order: where elements come from.
  Layer 14 (turn): axes in another order: the shape; what a drawn region lays.
  Layer 14 (turn): axes in another order: the map.
  Layer 14 (turn): ReverseWay, RotateWay; turned.
  Layer 14 (turn): Reverse; turnedBy, Rotate.
  Layer 14 (turn): transposed, permuted; TransposeWay, PermuteWay, Transpose, Permute.
  Layer 14 (turn): TransposeWay, PermuteWay, Transpose, Permute.
-/
import Derived.Test.YtkabdkblcgklmaaTuAll1
import Derived.Test.YtkabdkblcgklmaaMoCatE
import Derived.Test.YtkabdkblcgklmaaDone
import Derived.Test.YtkabdkblcgklmaaMoVec
namespace Go.Proofs.Ytkabdkblcgklmaa.tu
open Go.RowKit Go.Proofs.Ytkabdkblcgklmaa.arr Go.Proofs.Ytkabdkblcgklmaa.mo

def revV (sh : List Int) (n : Nat) : Nat := rowS sh - 1 - n % rowS sh
theorem emod_ahead (q x : Int) (R : Int) (hR : 0 < R) (hq : 0 ≤ q) : (q + x.tmod R + R).tmod R = (q + x) % R := by
  have h1 := Int.tmod_lt_of_pos x hR
  have h2 : -R < x.tmod R := by
    rcases Int.le_total 0 x with h | h
    · have := Int.tmod_nonneg R h
      omega
    · have h3 := Int.tmod_lt_of_pos (-x) hR
      rw [Int.neg_tmod] at h3
      omega
  rw [Int.tmod_eq_emod_of_nonneg (by omega), Int.add_emod_right]
  have h3 := Int.mul_tdiv_add_tmod x R
  rw [show q + x = q + x.tmod R + R * x.tdiv R by rw [Int.add_assoc, Int.add_comm (x.tmod R), h3], Int.add_mul_emod_self_left]
/-- Where an element comes from in its row, by amounts. -/
def rotV (sh el : List Int) (n : Nat) : Nat := ((((n % rowS sh : Nat) : Int) + el.getD ((n / rowS sh) % el.length) 0) % ((rowS sh : Nat) : Int)).toNat
/-- The error of amounts. -/
def rotE (l : AV) (sh : List Int) : Int :=
  if okShape sh = true then if okA l = true then if l.sh.length = 0 then (if l.kind = 2 then 5 else 0) else if l.sh.length + 1 ≠ sh.length then 3 else if l.sh ≠ sh.take l.sh.length then 4 else if l.kind = 2 then 5 else 0 else 110 else 110
theorem tu_slice (A : Option Addr) (n c k : Nat) (h : k ≤ n) (hc : n ≤ c) (W : World) : (Instr.sliceAt 130 (.slice A n c) none (some (.int .i64 (k : Int))) none).run Try.prog W = .ok (.slice A k c) W := by
  obtain ⟨i0, hi, hz0, hz1, hz2⟩ := info_parts arInfoInt
  have he : Try.prog.elem 130 = 3 := by kernel_rfl
  have hu : Try.prog.underlying 130 = some (.slice (Try.prog.elem 130)) := by kernel_rfl
  have z5 : ∀ w, Sem.run Try.prog (Go.sizeOf 3) w = .ok 1 w := fun w => by simp [Go.sizeOf, typeInfo, hi, hz1]
  rw [run_sliceAt_slice (h := hu), run_slice_h (ht := hu) (h0 := by omega) (h2 := by omega), he, z5]
  cases A with
  | none => simp [Result.andThen, sliced]
  | some a => simp [Result.andThen, sliced, Addr.add]
theorem reads_cut {W : World} {A : Option Addr} {n k : Nat} {xs : List Value} (h : Reads W W.heap.size 1 A n xs) (hk : k ≤ n) : Reads W W.heap.size 1 A k (xs.take k) := by
  refine ⟨by rw [List.length_take]; have := h.1; omega, fun h0 => ?_⟩
  obtain ⟨ad, e, hb, hc⟩ := h.2 (by omega)
  refine ⟨ad, e, hb, fun j u hu => hc j u ?_⟩
  rw [List.getElem?_take] at hu
  split at hu
  · exact hu
  · cases hu
end Go.Proofs.Ytkabdkblcgklmaa.tu

namespace Go.Proofs.Ytkabdkblcgklmaa.tu
open Go.RowKit Go.Proofs.Ytkabdkblcgklmaa.arr Go.Proofs.Ytkabdkblcgklmaa.mo

theorem rotE_ok {l : AV} {sh : List Int} (h : rotE l sh = 0) : okShape sh = true ∧ okA l = true ∧ (l.sh = [] ∨ (l.sh.length + 1 = sh.length ∧ l.sh = sh.take l.sh.length)) := by
  unfold rotE at h
  split at h
  · rename_i h1
    split at h
    · rename_i h2
      refine ⟨h1, h2, ?_⟩
      split at h
      · rename_i h3
        exact .inl (List.eq_nil_of_length_eq_zero h3)
      · split at h
        · omega
        · rename_i h4
          split at h
          · omega
          · rename_i h5
            exact .inr ⟨by omega, Decidable.not_not.1 h5⟩
    · omega
  · omega
theorem rot_len {l : AV} {sh : List Int} (h : rotE l sh = 0) (hp : 0 < prodI sh) : 0 < l.el.length := by
  obtain ⟨h1, h2, h3⟩ := rotE_ok h
  have h4 := (okA_iff.1 h2).2
  have hl : (l.el.length : Int) = prodI l.sh := by omega
  rcases h3 with h3 | ⟨h5, h6⟩
  · rw [h3] at hl
    have : prodI [] = 1 := rfl
    omega
  · have h7 := prodI_take_drop sh l.sh.length
    rw [← h6] at h7
    have h8 := (prodI_bounds _ (okShape_iff.1 (okA_iff.1 h2).1).2.1).1
    rcases Int.lt_or_eq_of_le h8 with h9 | h9
    · omega
    · rw [← h9, Int.zero_mul] at h7
      omega
theorem rotV_lt {sh el : List Int} {n : Nat} (hp : 0 < rowS sh) : rotV sh el n < rowS sh ∧ ((rotV sh el n : Nat) : Int) = (((n % rowS sh : Nat) : Int) + el.getD ((n / rowS sh) % el.length) 0) % ((rowS sh : Nat) : Int) := by
  unfold rotV
  have h1 := Int.emod_nonneg (((n % rowS sh : Nat) : Int) + el.getD ((n / rowS sh) % el.length) 0) (show ((rowS sh : Nat) : Int) ≠ 0 by omega)
  have h2 := Int.emod_lt_of_pos (((n % rowS sh : Nat) : Int) + el.getD ((n / rowS sh) % el.length) 0) (show (0 : Int) < ((rowS sh : Nat) : Int) by omega)
  omega

end Go.Proofs.Ytkabdkblcgklmaa.tu

namespace Go.Proofs.Ytkabdkblcgklmaa.tu
open Go.RowKit Go.Proofs.Ytkabdkblcgklmaa.arr Go.Proofs.Ytkabdkblcgklmaa.mo

def permB (m : Nat) (el : List Int) : Bool := el.all (fun x => decide (1 ≤ x) && decide (x ≤ (m : Int))) && decide el.Nodup
def perE (l : AV) (sh : List Int) : Int := if okShape sh = true then if listE l = 0 then if l.el.length = sh.length then if permB sh.length l.el = true then 0 else 5 else 4 else listE l else 110
def preL (el : List Int) : List Int := el.map (fun x => x - 1)
def ordL (l : AV) (sh : List Int) : List Int := if perE l sh = 0 then preL l.el else []
theorem permB_iff {m : Nat} {el : List Int} : permB m el = true ↔ (∀ x ∈ el, 1 ≤ x ∧ x ≤ (m : Int)) ∧ el.Nodup := by
  unfold permB
  rw [Bool.and_eq_true, List.all_eq_true, decide_eq_true_eq]
  simp only [Bool.and_eq_true, decide_eq_true_eq]
theorem pre_mem {el : List Int} {x : Int} : x - 1 ∈ preL el ↔ x ∈ el := by
  unfold preL
  rw [List.mem_map]
  constructor
  · rintro ⟨y, hy, e⟩
    obtain rfl : y = x := by omega
    exact hy
  · intro h
    exact ⟨x, h, rfl⟩
theorem preL_take (el : List Int) (j : Nat) : (preL el).take j = preL (el.take j) := by unfold preL; rw [List.map_take]

end Go.Proofs.Ytkabdkblcgklmaa.tu

namespace Go.Proofs.Ytkabdkblcgklmaa.tu
open Go.RowKit Go.Proofs.Ytkabdkblcgklmaa.arr Go.Proofs.Ytkabdkblcgklmaa.mo

/-- The index tuple in the array, of the one in the result. -/
def numsO (M : List Nat) (tos : List Nat) (n : Nat) : List Int := tos.map (fun a : Nat => numV M n (a : Int))
theorem numsO_length (M tos : List Nat) (n : Nat) : (numsO M tos n).length = tos.length := by unfold numsO; rw [List.length_map]
theorem numV_in {M : List Nat} {n a : Nat} (hp : ∀ x ∈ M, 0 < x) (ha : a < M.length) : 0 ≤ numV M n (a : Int) ∧ numV M n (a : Int) < ((M.getD a 1 : Nat) : Int) := by
  unfold numV
  rw [if_pos ⟨by omega, by omega⟩, Int.toNat_natCast]
  have h : 0 < M.getD a 1 := by
    rw [List.getD_eq_getElem?_getD, List.getElem?_eq_getElem ha]
    exact hp _ (List.getElem_mem _)
  have := Nat.mod_lt (n / prodN (M.drop (a + 1))) h
  unfold numN
  omega
/-- tos says where each axis of L lies in M. -/
structure Ordd (L M tos : List Nat) : Prop where
  l1 : tos.length = L.length
  l2 : M.length = L.length
  lt : ∀ (i a : Nat), tos[i]? = some a → a < M.length
  at_ : ∀ (i a : Nat), tos[i]? = some a → M.getD a 1 = L.getD i 1
theorem Ordd.tup {L M tos : List Nat} (h : Ordd L M tos) (hp : ∀ x ∈ M, 0 < x) (n : Nat) : inTup (iL L) (numsO M tos n) = true := by
  obtain ⟨l1, l2, lt, at_⟩ := h
  clear l2
  unfold numsO
  induction tos generalizing L with
  | nil =>
    obtain rfl : L = [] := List.eq_nil_of_length_eq_zero (by simpa using l1.symm)
    rfl
  | cons a tos ih =>
    rcases L with _ | ⟨x, L⟩
    · simp at l1
    · have h0 := at_ 0 a rfl
      have h1 := numV_in (n := n) hp (lt 0 a rfl)
      have h2 : M.getD a 1 = x := h0
      rw [h2] at h1
      show (decide (0 ≤ numV M n (a : Int)) && decide (numV M n (a : Int) < (x : Int)) && inTup (iL L) (tos.map fun a : Nat => numV M n (a : Int))) = true
      have h3 := ih (L := L) (by simpa using l1) (fun i a h => lt (i + 1) a h) (fun i a h => at_ (i + 1) a h)
      rw [decide_eq_true h1.1, decide_eq_true h1.2, h3]
      rfl
theorem hor_step (l a : List Int) (k : Nat) (x y : Int) (h : l.length = a.length) (hx : l[k]? = some x) (hy : a[k]? = some y) : hor 0 (l.take (k + 1)) (a.take (k + 1)) = hor 0 (l.take k) (a.take k) * x + y := by
  obtain ⟨hk, rfl⟩ := List.getElem?_eq_some_iff.1 hx
  obtain ⟨hk2, rfl⟩ := List.getElem?_eq_some_iff.1 hy
  rw [List.take_succ_eq_append_getElem hk, List.take_succ_eq_append_getElem (by omega : k < a.length), hor_snoc _ _ _ _ _ (by rw [List.length_take, List.length_take]; omega)]

set_option maxRecDepth 100000 in
set_option maxHeartbeats 4000000 in
theorem tureord1_any (n : Nat) (L M tos : List Nat) (b6 b7 b3 : Nat) (A B C : Option Addr) (c d co : Nat) (w : World) (hO : Ordd L M tos) (hn : n ≤ 4096) (hL4 : L.length ≤ 4) (hok : (iL L).all lenOk = true) (hpos : ∀ x ∈ M, 0 < x) (hx : ∀ x ∈ M, x ≤ 4096)
    (x6 : Blk w b6 130 #[.slice A L.length c]) (ra : Reads w w.heap.size 1 A L.length ((iL L).map iv)) (x7 : Blk w b7 130 #[.slice B L.length d]) (rb : Reads w w.heap.size 1 B L.length ((iL M).map iv)) (x3 : Blk w b3 22 #[.slice C L.length co]) (rc : Reads w w.heap.size 1 C L.length ((iL tos).map iv)) :
    Calls Try.prog 201 #[.int .i64 (n : Int), .pointer (some ⟨b6, 0, none⟩), .pointer (some ⟨b7, 0, none⟩), .pointer (some ⟨b3, 0, none⟩)] w fun e w' => e = .returned (.int .i64 (hor 0 (iL L) (numsO M tos n))) ∧ Below w.heap.size w w' := by
  have htup := hO.tup hpos n
  have hlen : (iL L).length = (numsO M tos n).length := by rw [iL_length, numsO_length, hO.l1]
  have c6 := x6.cell 0
  have HST := Lib.hid (fun k x y => hor_step (iL L) (numsO M tos n) k x y hlen)
  have HBD := Lib.hid (fun k => hor_bounds ((iL L).take k) ((numsO M tos n).take k) 0 0 (all_take hok k) (inTup_take k htup) (by omega) (by decide))
  have HCW0 : Hid (∀ W, Below w.heap.size w W → W.cell? ⟨b6, 0, none⟩ = some (.slice A L.length c) ∧ W.cell? ⟨b7, 0, none⟩ = some (.slice B L.length d) ∧ W.cell? ⟨b3, 0, none⟩ = some (.slice C L.length co)) := Lib.hid (fun W hb => ⟨(x6.below hb x6.lt).cell 0, (x7.below hb x7.lt).cell 0, (x3.below hb x3.lt).cell 0⟩)
  have hlm := hO.l2
  have HRB : Hid (∀ W (a : Nat), Below w.heap.size w W → a < M.length → Calls Try.prog 202 #[.slice B L.length d, .int .i64 (n : Int), .int .i64 (a : Int)] W fun e w' => e = .returned (.int .i64 (numV M n (a : Int))) ∧ Below W.heap.size W w') := Lib.hid (fun W a hb ha => by
    have hr := (rb.below hb).more hb.size
    rw [← hlm] at hr ⊢
    exact tunumber_any B d M n (a : Int) W hr (by omega) hpos hx hn (by omega) (by omega))
  have HRA := Lib.hid ra
  have HRC := Lib.hid rc
  have HO := Lib.hid hO
  obtain ⟨N, hN⟩ : ∃ N, numsO M tos n = N := ⟨_, rfl⟩
  have HN := Lib.hid hN
  rw [hN] at HST HBD hlen
  rw [hN]
  obtain ⟨l, hl⟩ : ∃ l, iL L = l := ⟨_, rfl⟩
  have hll : l.length = L.length := by rw [← hl, iL_length]
  have HLV := Lib.hid hl
  rw [hl] at HST HBD HRA hlen hok
  rw [hl]
  obtain ⟨m, hm⟩ : ∃ m, L.length = m := ⟨_, rfl⟩
  rw [hm] at HCW0 HRB HRA HRC hL4 hll c6
  have HM := Lib.hid hm
  have HLL := Lib.hid hll
  have HLN := Lib.hid hlen
  have HOK := Lib.hid hok
  clear hO x6 x7 x3 ra rb rc hpos hx hN hl hm hll hlen htup hok hlm
  go_enter Try.func201, Try.ntmps201
  go_wp2
  go_loopw [10, 5] (fun i v wr => ∃ k : Nat, k ≤ m ∧ i = .int .i64 (k : Int) ∧ v = .int .i64 (hor 0 (l.take k) (N.take k)) ∧ Below w.heap.size w wr) (fun i _ _ => m - (intOf i).toNat)
  case atStart => exact ⟨0, Nat.zero_le _, rfl, rfl, Below.refl _ _⟩
  case round =>
    obtain ⟨k, hk, rfl, rfl, hbw⟩ := hrel
    by_cases hlt : k < m
    · obtain ⟨adA, rfl, _, cA⟩ := (HRA.out.below hbw).int_at hlt HLL.out
      have hkt : k < tos.length := by have := HO.out.l1; have := HM.out; omega
      obtain ⟨adO, rfl, hla, cO⟩ := (HRC.out.below hbw).int_at (l := iL tos) hlt (by rw [iL_length]; have := HO.out.l1; have := HM.out; omega)
      have hto : tos[k]? = some tos[k] := List.getElem?_eq_getElem hkt
      have halt := HO.out.lt k _ hto
      have hte : (iL tos)[k]'(by rw [iL_length]; exact hkt) = ((tos[k] : Nat) : Int) := List.getElem_map (f := fun n : Nat => (n : Int)) ..
      rw [hte] at cO
      have hkl : k < l.length := by rw [HLL.out]; exact hlt
      have hkN : k < N.length := by rw [← HLN.out]; exact hkl
      have hNk : N[k]? = some (numV M n ((tos[k] : Nat) : Int)) := by
        rw [← HN.out]
        unfold numsO
        rw [List.getElem?_map, hto]
        rfl
      have hst := HST.out k _ _ (List.getElem?_eq_getElem hkl) hNk
      have hb1 := HBD.out k
      have hb2 := HBD.out (k + 1)
      have hlk : 0 ≤ l[k] ∧ l[k] ≤ 4096 := lenOk_iff.1 (List.all_eq_true.1 HOK.out _ (List.getElem_mem hkl))
      have HNU := Lib.hid (fun W (hb : Below wr.heap.size wr W) => HRB.out W tos[k] (bon hbw hb) halt)
      generalize tos[k] = a at *
      generalize numV M n ((a : Nat) : Int) = y at *
      generalize l[k] = x at *
      obtain ⟨P, hP⟩ : ∃ P, hor 0 (l.take k) (N.take k) = P := ⟨_, rfl⟩
      rw [hP] at hst hb1
      rw [hP]
      have hp1 : (4096 : Int) ^ (0 + (l.take k).length) ≤ 281474976710656 := pow_four (by rw [List.length_take]; have := HLL.out; omega)
      have hp2 : (4096 : Int) ^ (0 + (l.take (k + 1)).length) ≤ 281474976710656 := pow_four (by rw [List.length_take]; have := HLL.out; omega)
      rw [hst] at hb2
      have hPx : 0 ≤ P * x ∧ P * x ≤ 281474976710656 * 4096 := ⟨Int.mul_nonneg hb1.1 hlk.1, Int.mul_le_mul (by omega) hlk.2 hlk.1 (by omega)⟩
      have w1 : IntKind.i64.wrap (P * x) = P * x := by rw [IntKind.wrap_i64]; omega
      have w2 : IntKind.i64.wrap (P * x + y) = P * x + y := by rw [IntKind.wrap_i64]; omega
      have HCW : Hid (∀ W, Below wr.heap.size wr W → W.cell? ⟨b6, 0, none⟩ = some (.slice (some adA) m c) ∧ W.cell? ⟨b7, 0, none⟩ = some (.slice B m d) ∧ W.cell? ⟨b3, 0, none⟩ = some (.slice (some adO) m co)) := Lib.hid (fun W hb => HCW0.out W (bon hbw hb))
      have HCA : Hid (∀ W, Below wr.heap.size wr W → W.cell? (adO.add k) = some (.int .i64 (a : Int))) := Lib.hid (fun W hb => (hb.cell (by rw [block_of_add]; exact Nat.lt_of_lt_of_le hla hbw.size)).trans cO)
      have HS := Lib.hid hst
      have HBW := Lib.hid hbw
      have hkm : (k : Int) < (m : Int) := by omega
      have hk4 : (k : Int) ≤ 4 := by omega
      clear hst hbw hP hp1 hp2 hb1 hb2 hPx hlk cO hla hkt hto halt hte hkl hkN hNk
      go_wp2
      refine wp_region_done_on (GS wr) (GR [9] (fun (_ : Nat) (u : Value) (_ : World) => u = .int .i64 y) [.int .i64 P, .int .i64 x, .int .i64 (P * x), .slice B m d, .int .i64 (n : Int), .slice (some adO) m co, .int .i64 (k : Int), .pointer (some (adO.add k)), .int .i64 (a : Int), undef, .int .i64 (P * x + y), .int .i64 (P * x + y)]) (by kernel_rfl) 28 rfl (by kernel_rfl) ((Below.refl _ _).drew) ?_ ?_
      · intro i hi
        have hi2 : i < 12 := hi
        clear hi
        rcases i with _ | i
        · refine gr_value rfl (by decide) (.int .i64 P) rfl ?_
          intro a8 w8 hb8 ho hn
          have o5 : a8.tmps[5]? = some _ := (ho 5 (by kernel_rfl)).trans rfl
          clear ho hn
          refine ⟨wanted_free rfl, ?_⟩
          go_simp
        rcases i with _ | i
        · refine gr_value rfl (by decide) (.int .i64 x) rfl ?_
          intro a8 w8 hb8 ho hn
          have o7 : a8.tmps[7]? = some _ := (ho 7 (by kernel_rfl)).trans rfl
          clear ho hn
          refine ⟨wanted_free rfl, ?_⟩
          go_simp
        rcases i with _ | i
        · refine gr_value rfl (by decide) (.int .i64 (P * x)) rfl ?_
          intro a8 w8 hb8 ho hn
          obtain ⟨v15, n15, hq15⟩ := hn 0 15 (by kernel_rfl) rfl
          obtain rfl := hq15.1 (by decide)
          obtain ⟨v16, n16, hq16⟩ := hn 1 16 (by kernel_rfl) rfl
          obtain rfl := hq16.1 (by decide)
          clear ho hn
          refine ⟨wanted_free rfl, ?_⟩
          go_simp
        rcases i with _ | i
        · refine gr_value rfl (by decide) (.slice B m d) rfl ?_
          intro a8 w8 hb8 ho hn
          have o2 : a8.tmps[2]? = some _ := (ho 2 (by kernel_rfl)).trans rfl
          clear ho hn
          refine ⟨wanted_free rfl, ?_⟩
          obtain ⟨y0, y1, y2⟩ := HCW.out w8 hb8
          go_simp
        rcases i with _ | i
        · refine gr_value rfl (by decide) (.int .i64 (n : Int)) rfl ?_
          intro a8 w8 hb8 ho hn
          have o0 : a8.tmps[0]? = some _ := (ho 0 (by kernel_rfl)).trans rfl
          clear ho hn
          refine ⟨wanted_free rfl, ?_⟩
          go_simp
        rcases i with _ | i
        · refine gr_value rfl (by decide) (.slice (some adO) m co) rfl ?_
          intro a8 w8 hb8 ho hn
          have o3 : a8.tmps[3]? = some _ := (ho 3 (by kernel_rfl)).trans rfl
          clear ho hn
          refine ⟨wanted_free rfl, ?_⟩
          obtain ⟨y0, y1, y2⟩ := HCW.out w8 hb8
          go_simp
        rcases i with _ | i
        · refine gr_value rfl (by decide) (.int .i64 (k : Int)) rfl ?_
          intro a8 w8 hb8 ho hn
          have o6 : a8.tmps[6]? = some _ := (ho 6 (by kernel_rfl)).trans rfl
          clear ho hn
          refine ⟨wanted_free rfl, ?_⟩
          go_simp
        rcases i with _ | i
        · refine gr_value rfl (by decide) (.pointer (some (adO.add k))) rfl ?_
          intro a8 w8 hb8 ho hn
          obtain ⟨v20, n20, hq20⟩ := hn 5 20 (by kernel_rfl) rfl
          obtain rfl := hq20.1 (by decide)
          obtain ⟨v21, n21, hq21⟩ := hn 6 21 (by kernel_rfl) rfl
          obtain rfl := hq21.1 (by decide)
          clear ho hn
          refine ⟨wanted_free rfl, ?_⟩
          go_simp
        rcases i with _ | i
        · refine gr_value rfl (by decide) (.int .i64 (a : Int)) rfl ?_
          intro a8 w8 hb8 ho hn
          obtain ⟨v22, n22, hq22⟩ := hn 7 22 (by kernel_rfl) rfl
          obtain rfl := hq22.1 (by decide)
          clear ho hn
          refine ⟨wanted_free rfl, ?_⟩
          have y3 := HCA.out w8 hb8
          go_simp
        rcases i with _ | i
        · refine gr_call (fun _ _ _ _ _ h => h) 202 rfl (by decide) ?_
          intro a8 w8 hb8 ho hn
          obtain ⟨v18, n18, hq18⟩ := hn 3 18 (by kernel_rfl) rfl
          obtain rfl := hq18.1 (by decide)
          obtain ⟨v19, n19, hq19⟩ := hn 4 19 (by kernel_rfl) rfl
          obtain rfl := hq19.1 (by decide)
          obtain ⟨v23, n23, hq23⟩ := hn 8 23 (by kernel_rfl) rfl
          obtain rfl := hq23.1 (by decide)
          clear ho hn
          refine ⟨wanted_free rfl, ?_⟩
          refine ⟨_, ?_, (HNU.out w8 hb8).mono ?_⟩
          · go_simp
          rintro e w9 ⟨rfl, b9⟩
          exact ⟨_, rfl, b9, rfl⟩
        rcases i with _ | i
        · refine gr_value rfl (by decide) (.int .i64 (P * x + y)) rfl ?_
          intro a8 w8 hb8 ho hn
          obtain ⟨v17, n17, hq17⟩ := hn 2 17 (by kernel_rfl) rfl
          obtain rfl := hq17.1 (by decide)
          obtain ⟨v24, n24, hq24⟩ := hn 9 24 (by kernel_rfl) rfl
          have hv24 := hq24.2 (by decide)
          clear ho hn
          refine ⟨wanted_free rfl, ?_⟩
          obtain rfl : v24 = .int .i64 y := hv24
          go_simp
        rcases i with _ | i
        · refine gr_value rfl (by decide) (.int .i64 (P * x + y)) rfl ?_
          intro a8 w8 hb8 ho hn
          obtain ⟨v25, n25, hq25⟩ := hn 10 25 (by kernel_rfl) rfl
          obtain rfl := hq25.1 (by decide)
          clear ho hn
          refine ⟨wanted_free rfl, ?_⟩
          go_simp
        omega
      · intro dn fv w5 hb5 hR5 hall
        have h5 : fv 5 = _ := (hR5 11 5 rfl).1 (by decide)
        simp only [putAll, List.foldl_cons, List.foldl_nil, Act.put, List.setIfInBounds_toArray, List.set_cons_succ, List.set_cons_zero, h5, List.getD_cons_zero, List.getD_cons_succ]
        have HB5 := Lib.hid hb5
        clear hR5 hall hb5
        go_wp2
        exact ⟨⟨k + 1, by omega, by go_num, by rw [HS.out], bon HBW.out HB5.out⟩, by
          simp [intOf]
          try omega⟩
    · obtain rfl : k = m := by omega
      have e1 : l.take k = l := List.take_of_length_le (by rw [HLL.out]; omega)
      have e2 : N.take k = N := List.take_of_length_le (by rw [← HLN.out, HLL.out]; omega)
      rw [e1, e2]
      have HBW := Lib.hid hbw
      clear hbw e1 e2
      go_wp2
      go_ret
      exact ⟨rfl, HBW.out⟩
end Go.Proofs.Ytkabdkblcgklmaa.tu

namespace Go.Proofs.Ytkabdkblcgklmaa.tu
open Go.RowKit Go.Proofs.Ytkabdkblcgklmaa.arr Go.Proofs.Ytkabdkblcgklmaa.mo

/-- The lengths laid, as far as the first k axes. -/
def stepO (sh : List Int) (tos : List Nat) : Nat → List Int
  | 0 => List.replicate sh.length 0
  | k + 1 => (stepO sh tos k).set (tos.getD k 0) (sh.getD k 0)
theorem stepO_length (sh : List Int) (tos : List Nat) : ∀ k, (stepO sh tos k).length = sh.length
  | 0 => List.length_replicate ..
  | k + 1 => by
    show ((stepO sh tos k).set _ _).length = _
    rw [List.length_set, stepO_length sh tos k]
/-- The axes in that order. -/
def shO (sh : List Int) (tos : List Nat) : List Int := stepO sh tos tos.length
structure PermO (m : Nat) (tos : List Nat) : Prop where
  len : tos.length = m
  lt : ∀ a ∈ tos, a < m
  nd : tos.Nodup
theorem stepO_at {sh : List Int} {tos : List Nat} (h : PermO sh.length tos) : ∀ (k : Nat), k ≤ tos.length → ∀ i, i < k → (stepO sh tos k).getD (tos.getD i 0) 0 = sh.getD i 0
  | 0, _, i, hi => by omega
  | k + 1, hk, i, hi => by
    have hi2 : i < tos.length := by omega
    have hk2 : k < tos.length := by omega
    have ei : tos.getD i 0 = tos[i] := by rw [List.getD_eq_getElem?_getD, List.getElem?_eq_getElem hi2]; rfl
    have ek : tos.getD k 0 = tos[k] := by rw [List.getD_eq_getElem?_getD, List.getElem?_eq_getElem hk2]; rfl
    show ((stepO sh tos k).set (tos.getD k 0) (sh.getD k 0)).getD (tos.getD i 0) 0 = _
    by_cases hik : i = k
    · subst hik
      have hl : tos.getD i 0 < (stepO sh tos i).length := by rw [stepO_length, ei]; exact h.lt _ (List.getElem_mem _)
      rw [List.getD_eq_getElem?_getD, List.getElem?_set_self hl]
      rfl
    · have hne : tos.getD k 0 ≠ tos.getD i 0 := by
        rw [ei, ek]
        intro e
        exact hik ((List.getElem_inj h.nd).1 e.symm)
      rw [List.getD_eq_getElem?_getD, List.getElem?_set_ne hne, ← List.getD_eq_getElem?_getD]
      exact stepO_at h k (by omega) i (by omega)
theorem shO_at {sh : List Int} {tos : List Nat} (h : PermO sh.length tos) (i a : Nat) (hi : tos[i]? = some a) : (shO sh tos)[a]? = sh[i]? := by
  obtain ⟨hlt, rfl⟩ := List.getElem?_eq_some_iff.1 hi
  have e := stepO_at h tos.length (Nat.le_refl _) i hlt
  rw [List.getD_eq_getElem?_getD (l := tos), hi] at e
  have h1 : tos[i] < (shO sh tos).length := by unfold shO; rw [stepO_length]; exact h.lt _ (List.getElem_mem _)
  have h2 : i < sh.length := by rw [← h.len]; exact hlt
  rw [List.getElem?_eq_getElem h1, List.getElem?_eq_getElem h2]
  have e : (shO sh tos).getD tos[i] 0 = sh.getD i 0 := e
  rw [List.getD_eq_getElem?_getD, List.getD_eq_getElem?_getD, List.getElem?_eq_getElem h1, List.getElem?_eq_getElem h2] at e
  exact congrArg some e
theorem shO_nat {sh : List Int} {tos : List Nat} (h : PermO sh.length tos) (hok : okShape (shO sh tos) = true) : ∃ L M, sh = iL L ∧ shO sh tos = iL M ∧ Ordd L M tos ∧ (∀ x ∈ M, x ≤ 4096) ∧ (iL L).all lenOk = true ∧ L.length ≤ 4 ∧ prodI (shO sh tos) = (prodN M : Int) ∧ prodN M ≤ 4096 := by
  obtain ⟨M, hM, _, hMx, hM4, hP, hP4⟩ := shape_nat hok
  have hlen : (shO sh tos).length = sh.length := stepO_length _ _ _
  have hall : sh.all lenOk = true := by
    rw [List.all_eq_true]
    intro x hx
    obtain ⟨i, hi, rfl⟩ := List.mem_iff_getElem.1 hx
    have hi2 : i < tos.length := by rw [h.len]; exact hi
    have e := shO_at h i tos[i] (List.getElem?_eq_getElem hi2)
    rw [List.getElem?_eq_getElem hi] at e
    exact List.all_eq_true.1 (okShape_iff.1 hok).2.1 _ (List.mem_of_getElem? e)
  obtain ⟨L, rfl, _⟩ := nat_of hall
  have hl2 : M.length = L.length := by rw [hM, iL_length, iL_length] at hlen; exact hlen
  refine ⟨L, M, rfl, hM, ⟨by rw [h.len, iL_length], hl2, fun i a ha => by rw [hl2, ← iL_length]; exact h.lt _ (List.mem_of_getElem? ha), fun i a ha => ?_⟩, hMx, hall, by omega, hP, hP4⟩
  have e := shO_at h i a ha
  rw [hM] at e
  unfold iL at e
  rw [List.getElem?_map, List.getElem?_map] at e
  rw [List.getD_eq_getElem?_getD, List.getD_eq_getElem?_getD]
  cases h1 : M[a]? with
  | none =>
    rw [h1] at e
    cases h2 : L[i]? with
    | none => rfl
    | some y => rw [h2] at e; cases e
  | some x =>
    rw [h1] at e
    cases h2 : L[i]? with
    | none => rw [h2] at e; cases e
    | some y =>
      rw [h2] at e
      simp only [Option.map_some, Option.some.injEq] at e
      show x = y
      omega

theorem blk_ne {W : World} {g g' : Nat} {t t' : TypeId} {cs cs' : Array Value} (h : Blk W g t cs) (k : Blk W g' t' cs') (ht : t ≠ t') : g ≠ g' := by
  intro e
  subst e
  have h1 : W.heap[g]? = some (.cells cs t (0, 0)) := h
  have h2 : W.heap[g]? = some (.cells cs' t' (0, 0)) := k
  rw [h1] at h2
  injection h2 with h2
  injection h2 with _ h2
  exact ht h2
theorem own_ne {W : World} {base size n g : Nat} {e t : TypeId} {v : Value} {xs : List Value} {cs : Array Value} (h : W.ownsRow base e size v n xs) (hb : Blk W g t cs) (ht : t ≠ e) : ∀ k, v.ownBlock = some k → k ≠ g := by
  intro k hk e2
  subst e2
  rcases h.2 with ⟨rfl, _⟩ | ⟨g, cap, cur, rfl, _, hh, _⟩
  · simp [Value.ownBlock] at hk
  · have hg : g = k := by simpa [Value.ownBlock] using hk
    subst hg
    have h2 : W.heap[g]? = some (.cells cs t (0, 0)) := hb
    rw [hh] at h2
    injection h2 with h2
    injection h2 with _ h2
    exact ht h2.symm

/-- What stands while the clone, the new row and the two boxes are laid. -/
structure ReS (w0 : World) (m : Nat) (xs : List Value) (dn : Nat → Bool) (T : Array Value) (W : World) : Prop where
  b : Below w0.heap.size w0 W
  h1 : dn 1 = true → ∃ A c, T[11]? = some (.slice A m c) ∧ W.ownsRow w0.heap.size 3 1 (.slice A m c) m xs
  h4 : dn 4 = true → ∃ g, T[14]? = some (.slice (some ⟨g, 0, none⟩) m m) ∧ w0.heap.size ≤ g ∧ Blk W g 3 (List.replicate m (.int .i64 0)).toArray
  h5 : dn 5 = true → ∃ g x, T[6]? = some (.pointer (some ⟨g, 0, none⟩)) ∧ w0.heap.size ≤ g ∧ Blk W g 130 #[x] ∧ (dn 7 = true → T[11]? = some x)
  h6 : dn 6 = true → ∃ g x, T[7]? = some (.pointer (some ⟨g, 0, none⟩)) ∧ w0.heap.size ≤ g ∧ Blk W g 130 #[x] ∧ (dn 8 = true → T[14]? = some x)
  ne : dn 5 = true → dn 6 = true → T[6]? ≠ T[7]?
  d7 : dn 7 = true → dn 5 = true ∧ dn 1 = true
  d8 : dn 8 = true → dn 6 = true ∧ dn 4 = true
  n2 : dn 1 = true → dn 4 = true → ∀ A c g, T[11]? = some (.slice A m c) → T[14]? = some (.slice (some ⟨g, 0, none⟩) m m) → ∀ k, (Value.slice A m c).ownBlock = some k → k ≠ g
theorem ReS.go {w0 : World} {m : Nat} {xs : List Value} {dn : Nat → Bool} {T T' : Array Value} {W W' : World} (h : ReS w0 m xs dn T W) (hb : Below W.heap.size W W') (t1 : dn 1 = true → T'[11]? = T[11]?) (t4 : dn 4 = true → T'[14]? = T[14]?) (t5 : dn 5 = true → T'[6]? = T[6]?) (t6 : dn 6 = true → T'[7]? = T[7]?) : ReS w0 m xs dn T' W' := by
  refine ⟨h.b.trans (hb.mono h.b.size), fun e => ?_, fun e => ?_, fun e => ?_, fun e => ?_, fun e f => ?_, h.d7, h.d8, fun e f A c g h1 h2 => h.n2 e f A c g ((t1 e).symm.trans h1) ((t4 f).symm.trans h2)⟩
  · obtain ⟨A, c, h1, h2⟩ := h.h1 e
    exact ⟨A, c, (t1 e).trans h1, arown_stay h2 hb (fun g hg => (arown_lt h2 g hg).2)⟩
  · obtain ⟨g, h1, h2, h3⟩ := h.h4 e
    exact ⟨g, (t4 e).trans h1, h2, h3.below hb h3.lt⟩
  · obtain ⟨g, x, h1, h2, h3, h4⟩ := h.h5 e
    exact ⟨g, x, (t5 e).trans h1, h2, h3.below hb h3.lt, fun e7 => (t1 (h.d7 e7).2).trans (h4 e7)⟩
  · obtain ⟨g, x, h1, h2, h3, h4⟩ := h.h6 e
    exact ⟨g, x, (t6 e).trans h1, h2, h3.below hb h3.lt, fun e8 => (t4 (h.d8 e8).2).trans (h4 e8)⟩
  · rw [t5 e, t6 f]
    exact h.ne e f
theorem upd_or {dn : Nat → Bool} {i k : Nat} (h : upd dn i k = true) (hne : k ≠ i) : dn k = true := by
  rwa [upd_off (Ne.symm hne)] at h
theorem ReS.mark {w0 : World} {m : Nat} {xs : List Value} {dn : Nat → Bool} {T : Array Value} {W : World} {i : Nat} (h : ReS w0 m xs dn T W) (h7 : i ≠ 7) (h8 : i ≠ 8)
    (n1 : i = 1 → ∃ A c, T[11]? = some (.slice A m c) ∧ W.ownsRow w0.heap.size 3 1 (.slice A m c) m xs)
    (n4 : i = 4 → ∃ g, T[14]? = some (.slice (some ⟨g, 0, none⟩) m m) ∧ w0.heap.size ≤ g ∧ Blk W g 3 (List.replicate m (.int .i64 0)).toArray)
    (n5 : i = 5 → dn 7 = false ∧ (∃ g x, T[6]? = some (.pointer (some ⟨g, 0, none⟩)) ∧ w0.heap.size ≤ g ∧ Blk W g 130 #[x]) ∧ (dn 6 = true → T[6]? ≠ T[7]?))
    (n14 : (i = 1 → dn 4 = true → ∀ A c g, T[11]? = some (.slice A m c) → T[14]? = some (.slice (some ⟨g, 0, none⟩) m m) → ∀ k, (Value.slice A m c).ownBlock = some k → k ≠ g) ∧ (i = 4 → dn 1 = true → ∀ A c g, T[11]? = some (.slice A m c) → T[14]? = some (.slice (some ⟨g, 0, none⟩) m m) → ∀ k, (Value.slice A m c).ownBlock = some k → k ≠ g))
    (n6 : i = 6 → dn 8 = false ∧ (∃ g x, T[7]? = some (.pointer (some ⟨g, 0, none⟩)) ∧ w0.heap.size ≤ g ∧ Blk W g 130 #[x]) ∧ (dn 5 = true → T[6]? ≠ T[7]?)) : ReS w0 m xs (upd dn i) T W := by
  refine ⟨h.b, fun e => ?_, fun e => ?_, fun e => ?_, fun e => ?_, fun e f => ?_, fun e => ?_, fun e => ?_, fun e f => ?_⟩
  · by_cases hi : 1 = i
    · exact n1 hi.symm
    · exact h.h1 (upd_or e hi)
  · by_cases hi : 4 = i
    · exact n4 hi.symm
    · exact h.h4 (upd_or e hi)
  · by_cases hi : 5 = i
    · obtain ⟨a, ⟨g, x, h1, h2, h3⟩, _⟩ := n5 hi.symm
      exact ⟨g, x, h1, h2, h3, fun e7 => by rw [upd_or e7 (Ne.symm h7)] at a; cases a⟩
    · obtain ⟨g, x, h1, h2, h3, h4⟩ := h.h5 (upd_or e hi)
      exact ⟨g, x, h1, h2, h3, fun e7 => h4 (upd_or e7 (Ne.symm h7))⟩
  · by_cases hi : 6 = i
    · obtain ⟨a, ⟨g, x, h1, h2, h3⟩, _⟩ := n6 hi.symm
      exact ⟨g, x, h1, h2, h3, fun e8 => by rw [upd_or e8 (Ne.symm h8)] at a; cases a⟩
    · obtain ⟨g, x, h1, h2, h3, h4⟩ := h.h6 (upd_or e hi)
      exact ⟨g, x, h1, h2, h3, fun e8 => h4 (upd_or e8 (Ne.symm h8))⟩
  · by_cases hi : 5 = i
    · exact (n5 hi.symm).2.2 (upd_or f (by omega))
    · by_cases hj : 6 = i
      · exact (n6 hj.symm).2.2 (upd_or e hi)
      · exact h.ne (upd_or e hi) (upd_or f hj)
  · have := h.d7 (upd_or e (Ne.symm h7))
    exact ⟨upd_on this.1, upd_on this.2⟩
  · have := h.d8 (upd_or e (Ne.symm h8))
    exact ⟨upd_on this.1, upd_on this.2⟩
  · by_cases hi : 1 = i
    · exact n14.1 hi.symm (upd_or f (by omega))
    · by_cases hj : 4 = i
      · exact n14.2 hj.symm (upd_or e hi)
      · exact h.n2 (upd_or e hi) (upd_or f hj)
theorem ReS.put7 {w0 : World} {m : Nat} {xs : List Value} {dn : Nat → Bool} {T : Array Value} {W : World} {g : Nat} {x : Value} (h : ReS w0 m xs dn T W) (e5 : dn 5 = true) (e1 : dn 1 = true) (hg : T[6]? = some (.pointer (some ⟨g, 0, none⟩))) (hx : T[11]? = some x) : ReS w0 m xs (upd dn 7) T (W.setCell ⟨g, 0, none⟩ x) := by
  obtain ⟨g', x', k1, k2, k3, k4⟩ := h.h5 e5
  obtain rfl : g' = g := by
    rw [hg] at k1
    injection k1 with k1
    injection k1 with k1
    injection k1 with k1
    injection k1 with k1
    exact k1.symm
  have hk : Keep (fun i => i = g') W (W.setCell ⟨g', 0, none⟩ x) := (Keep.refl _ _).setCell _ _ (fun _ => rfl)
  have of_ : ∀ {k}, k ≠ 7 → upd dn 7 k = true → dn k = true := fun hk e => upd_or e hk
  refine ⟨h.b.setCell (p := ⟨g', 0, none⟩) k2 _, fun e => ?_, fun e => ?_, fun e => ?_, fun e => ?_, fun e f => h.ne (of_ (by decide) e) (of_ (by decide) f), fun _ => ⟨upd_on e5, upd_on e1⟩, fun e => ?_, fun e f => h.n2 (of_ (by decide) e) (of_ (by decide) f)⟩
  · obtain ⟨A, c, h1, h2⟩ := h.h1 e1
    exact ⟨A, c, h1, hk.own h2 (own_ne h2 k3 (by decide))⟩
  · obtain ⟨q, h1, h2, h3⟩ := h.h4 (of_ (by decide) e)
    exact ⟨q, h1, h2, hk.blk h3 (blk_ne h3 k3 (by decide))⟩
  · exact ⟨g', x, hg, k2, k3.set_ 0 x, fun _ => hx⟩
  · obtain ⟨q, y, h1, h2, h3, h4⟩ := h.h6 (of_ (by decide) e)
    have hne : q ≠ g' := fun e2 => h.ne e5 (of_ (by decide) e) (by rw [hg, h1, e2])
    exact ⟨q, y, h1, h2, hk.blk h3 hne, fun e8 => h4 (of_ (by decide) e8)⟩
  · have := h.d8 (of_ (by decide) e)
    exact ⟨upd_on this.1, upd_on this.2⟩
theorem ReS.put8 {w0 : World} {m : Nat} {xs : List Value} {dn : Nat → Bool} {T : Array Value} {W : World} {g : Nat} {x : Value} (h : ReS w0 m xs dn T W) (e6 : dn 6 = true) (e4 : dn 4 = true) (hg : T[7]? = some (.pointer (some ⟨g, 0, none⟩))) (hx : T[14]? = some x) : ReS w0 m xs (upd dn 8) T (W.setCell ⟨g, 0, none⟩ x) := by
  obtain ⟨g', x', k1, k2, k3, k4⟩ := h.h6 e6
  obtain rfl : g' = g := by
    rw [hg] at k1
    injection k1 with k1
    injection k1 with k1
    injection k1 with k1
    injection k1 with k1
    exact k1.symm
  have hk : Keep (fun i => i = g') W (W.setCell ⟨g', 0, none⟩ x) := (Keep.refl _ _).setCell _ _ (fun _ => rfl)
  have of_ : ∀ {k}, k ≠ 8 → upd dn 8 k = true → dn k = true := fun hk e => upd_or e hk
  refine ⟨h.b.setCell (p := ⟨g', 0, none⟩) k2 _, fun e => ?_, fun e => ?_, fun e => ?_, fun e => ?_, fun e f => h.ne (of_ (by decide) e) (of_ (by decide) f), fun e => ?_, fun _ => ⟨upd_on e6, upd_on e4⟩, fun e f => h.n2 (of_ (by decide) e) (of_ (by decide) f)⟩
  · obtain ⟨A, c, h1, h2⟩ := h.h1 (of_ (by decide) e)
    exact ⟨A, c, h1, hk.own h2 (own_ne h2 k3 (by decide))⟩
  · obtain ⟨q, h1, h2, h3⟩ := h.h4 e4
    exact ⟨q, h1, h2, hk.blk h3 (blk_ne h3 k3 (by decide))⟩
  · obtain ⟨q, y, h1, h2, h3, h4⟩ := h.h5 (of_ (by decide) e)
    have hne : q ≠ g' := fun e2 => h.ne (of_ (by decide) e) e6 (by rw [hg, h1, e2])
    exact ⟨q, y, h1, h2, hk.blk h3 hne, fun e7 => h4 (of_ (by decide) e7)⟩
  · exact ⟨g', x, hg, k2, k3.set_ 0 x, fun _ => hx⟩
  · have := h.d7 (of_ (by decide) e)
    exact ⟨upd_on this.1, upd_on this.2⟩
end Go.Proofs.Ytkabdkblcgklmaa.tu

namespace Go.Proofs.Ytkabdkblcgklmaa.tu
open Go.RowKit Go.Proofs.Ytkabdkblcgklmaa.arr Go.Proofs.Ytkabdkblcgklmaa.mo

section
variable {P : Program} {ops : Array Oper} {Q : Exit → Act → World → Prop} {md : Region.Mode} {a0 : Act} {o : Oper} {i : Nat} {w0 : World} {vals : List Value} {m : Nat} {xs : List Value}
theorem doneT_call {S : (Nat → Bool) → Array Value → World → Prop} {R : (Nat → Bool) → Nat → Value → World → Prop} (f : FuncId) (hi : ops[i]? = some o)
    (h : ∀ (done : Nat → Bool) (a : Act) (w : World), S done a.tmps w → done i = false → (∀ j, behind md ops j i = true → done j = false) → (∀ t, free md ops i t = true → a.tmps[t]? = a0.tmps[t]?) → (∀ j d, behind md ops i j = true → dstOf ops j = some d → ∃ v, a.tmps[d]? = some v ∧ R done j v w) →
      Region.wanted o (yielded ops a.tmps) = true ∧ ∃ args, (execOp a.eval o).run P w = .ok (.enter f args) w ∧ Calls P f args w fun e w' => ∃ v, e = .returned v ∧ S (upd done i) (a.put (dstOf ops i) v).tmps w' ∧ R (upd done i) i v w' ∧ ∀ j u, j ≠ i → done j = true → R done j u w → R (upd done i) j u w') : DoneStepT P md ops Q S R a0 i := by
  intro done a w hs hd hx ho hn
  obtain ⟨h1, args, h2, h3⟩ := h done a w hs hd hx ho hn
  unfold wpOp
  rw [hi]
  simp only [h1, if_true]
  refine .inl ?_
  unfold Oper.wp
  rw [h2, Oper.upon_enter]
  refine h3.mono ?_
  rintro e w' ⟨v, rfl, h4, h5, h6⟩
  have hdo : dstOf ops i = o.dst := by simp [dstOf, hi]
  rw [hdo] at h4
  exact ⟨v, by simp [dstOf, hi], h4, h5, h6⟩
def reR (vals : List Value) (dn : Nat → Bool) (i : Nat) (v : Value) (_ : World) : Prop := (i ∉ [1, 4, 5, 6] → v = vals.getD i undef) ∧ (i = 1 → dn 1 = true) ∧ (i = 4 → dn 4 = true) ∧ (i = 5 → dn 5 = true) ∧ (i = 6 → dn 6 = true)
theorem reR_up {dn : Nat → Bool} {j : Nat} {u : Value} {W W' : World} (h : reR vals dn j u W) : reR vals (upd dn i) j u W' := ⟨h.1, fun e => upd_on (h.2.1 e), fun e => upd_on (h.2.2.1 e), fun e => upd_on (h.2.2.2.1 e), fun e => upd_on (h.2.2.2.2 e)⟩
theorem re_value (h1 : i ≠ 1) (h4 : i ≠ 4) (h5 : i ≠ 5) (h6 : i ≠ 6) (h7 : i ≠ 7) (h8 : i ≠ 8) (hi : ops[i]? = some o) (d : Tmp) (hdst : dstOf ops i = some d) (d11 : d ≠ 11) (d14 : d ≠ 14) (d6 : d ≠ 6) (d7 : d ≠ 7) (v : Value) (hv : vals.getD i undef = v)
    (h : ∀ (a : Act) (w : World), Below w0.heap.size w0 w → (∀ t, free md ops i t = true → a.tmps[t]? = a0.tmps[t]?) → (∀ j d, behind md ops i j = true → dstOf ops j = some d → ∃ v, a.tmps[d]? = some v ∧ (j ∉ [1, 4, 5, 6] → v = vals.getD j undef)) →
      Region.wanted o (yielded ops a.tmps) = true ∧ (execOp a.eval o).run P w = .ok (.value v) w) : DoneStepT P md ops Q (ReS w0 m xs) (reR vals) a0 i :=
  doneT_make hi (fun dn a w hS _ _ ho hn => by
    obtain ⟨e1, e2⟩ := h a w hS.b ho (fun j d hb hd => by
      obtain ⟨u, hu, hR⟩ := hn j d hb hd
      exact ⟨u, hu, hR.1⟩)
    refine ⟨e1, v, w, e2, ?_, ⟨fun _ => hv.symm, fun e => absurd e h1, fun e => absurd e h4, fun e => absurd e h5, fun e => absurd e h6⟩, fun j u _ _ hR => reR_up hR⟩
    rw [hdst]
    have hT : ∀ t, t ≠ d → (a.put (some d) v).tmps[t]? = a.tmps[t]? := fun t ht => Array.getElem?_setIfInBounds_ne (Ne.symm ht)
    have hG := hS.go (Below.refl _ _) (T' := (a.put (some d) v).tmps) (fun _ => hT 11 (Ne.symm d11)) (fun _ => hT 14 (Ne.symm d14)) (fun _ => hT 6 (Ne.symm d6)) (fun _ => hT 7 (Ne.symm d7))
    exact ReS.mark hG h7 h8 (fun e => absurd e h1) (fun e => absurd e h4) (fun e => absurd e h5) ⟨fun e => absurd e h1, fun e => absurd e h4⟩ (fun e => absurd e h6))
end

/-- Where the elements come from. -/
def ordF (sh : List Int) (tos : List Nat) (n : Nat) : Int × Int := (0, hor 0 sh (numsO ((shO sh tos).map Int.toNat) tos n))

set_option maxRecDepth 100000 in
set_option maxHeartbeats 8000000 in
theorem tureord_any (S : Nat → Prop) (A C : Option Addr) (c co : Nat) (sh : List Int) (tos : List Nat) (w : World) (ha : Reads w w.heap.size 1 A sh.length (sh.map iv)) (hs : sh.length ≤ 1000) (hp : PermO sh.length tos)
    (ho : w.ownsRow 0 3 1 (.slice C sh.length co) sh.length ((iL tos).map iv)) (hS : ∀ k, S k → k < w.heap.size) (hoS : ∀ k, (Value.slice C sh.length co).ownBlock = some k → S k) :
    Calls Try.prog 160 #[.slice A sh.length c, .slice C sh.length co] w (GiveP (fun k => S k ∨ (w.heap.size ≤ k ∧ k ≠ w.heap.size + 1)) (shO sh tos) (ordF sh tos) (if okShape (shO sh tos) = true then 0 else 110) w) := by
  have hb2 := mobelow2 (w := w) (.cells #[.slice C sh.length co] 22) (.cells #[.slice none 0 0, .nilFunc] 87)
  have h3 := (Blk.new w 22 #[.slice C sh.length co]).alloc (.cells #[.slice none 0 0, .nilFunc] 87)
  have h4 := Blk.new (w.alloc (.cells #[.slice C sh.length co] 22)) 87 #[.slice none 0 0, .nilFunc]
  rw [World.size_alloc] at h4
  obtain ⟨w1, hw1⟩ : ∃ w1, (w.alloc (.cells #[.slice C sh.length co] 22)).alloc (.cells #[.slice none 0 0, .nilFunc] 87) = w1 := ⟨_, rfl⟩
  rw [hw1] at hb2 h3 h4
  have hsz : w1.heap.size = w.heap.size + 2 := by rw [← hw1]; simp
  have HCL := Lib.hid (fun (W : World) (hb : Below w1.heap.size w1 W) => tuclone_any A sh.length c sh W rfl ((ha.below (bon hb2 hb)).more (bon hb2 hb).size) (by omega))
  obtain ⟨i0, hi, hz0, hz1, hz2⟩ := info_parts arInfoInt
  obtain ⟨m, hm⟩ : ∃ m, sh.length = m := ⟨_, rfl⟩
  have HM := Lib.hid hm
  have HP := Lib.hid hp
  have HO := Lib.hid ho
  have HSS := Lib.hid hS
  have HOS := Lib.hid hoS
  have HA := Lib.hid ha
  have H3 := Lib.hid h3
  have H4 := Lib.hid h4
  have HB2 := Lib.hid hb2
  have HSZ := Lib.hid hsz
  rw [hm] at HCL HO HOS H3 hs hw1
  rw [hm]
  have hmk : ∀ w : World, (Instr.makeSlice 130 (.int .i64 (m : Int)) (.int .i64 (m : Int))).run Try.prog w = .ok (.slice (some ⟨w.heap.size, 0, none⟩) m m) (w.alloc (.cells (List.replicate m (.int .i64 0)).toArray 3)) := fun w => by
    have := run_make (P := Try.prog) w 130 3 i0 _ Try.underlying130 hi hz0 .i64 .i64 (m : Int) (m : Int) (by omega) (by omega) (by rw [hz2]; omega) (by omega)
    rw [hz1, Int.toNat_natCast] at this
    rw [this]
    congr 3
    apply Array.ext
    · simp [madeCells]
    · intro i h1 h2
      simp [madeCells, Value.cells, Nat.mod_one]
  obtain ⟨E, hE⟩ : ∃ E : Int, (if okShape (shO sh tos) = true then 0 else 110) = E := ⟨_, rfl⟩
  have HE0 := Lib.hid hE
  rw [hE]
  obtain ⟨F, hF⟩ : ∃ F, ordF sh tos = F := ⟨_, rfl⟩
  have HF0 := Lib.hid hF
  rw [hF]
  obtain ⟨X, hX⟩ : ∃ X, shO sh tos = X := ⟨_, rfl⟩
  have HX0 := Lib.hid hX
  rw [hX]
  clear ha hp ho hS hoS h3 h4 hb2 hm hsz hi hz0 hz1 hz2 hE hF hX
  go_enter Try.func160, Try.ntmps160
  go_wp2
  refine wp_region_doneT_on (ReS w1 m (sh.map iv)) (reR [.slice A m c, undef, .slice A m c, .int .i64 (m : Int), undef, undef, undef, undef, undef]) (by kernel_rfl) 35 rfl (by kernel_rfl) ⟨(Below.refl _ _).drew, fun e => (by cases e), fun e => (by cases e), fun e => (by cases e), fun e => (by cases e), fun e => (by cases e), fun e => (by cases e), fun e => (by cases e), fun e => (by cases e)⟩ ?_ ?_
  · intro i hi
    have hi2 : i < 9 := hi
    clear hi
    rcases i with _ | i
    · refine re_value (by decide) (by decide) (by decide) (by decide) (by decide) (by decide) rfl 10 rfl (by decide) (by decide) (by decide) (by decide) (.slice A m c) rfl ?_
      intro a8 w8 hb8 ho hn
      have o0 : a8.tmps[0]? = some _ := (ho 0 (by kernel_rfl)).trans rfl
      clear ho hn
      refine ⟨wanted_free rfl, ?_⟩
      go_simp
    rcases i with _ | i
    · refine doneT_call 199 rfl ?_
      intro dn a8 w8 hS hd hx ho hn
      have o34 : a8.tmps[34]? = some _ := (ho 34 (by kernel_rfl)).trans rfl
      have hsz : 34 < a8.tmps.size := (Array.getElem?_eq_some_iff.1 o34).1
      obtain ⟨v10, n10, hq10⟩ := hn 0 10 (by kernel_rfl) rfl
      obtain rfl := hq10.1 (by decide)
      have HS8 := Lib.hid hS
      have HQ := Lib.hid (HCL.out w8 hS.b)
      clear ho hn hx hS
      refine ⟨wanted_free rfl, _, ?_, HQ.out.mono ?_⟩
      · go_simp
      rintro e w9 ⟨A9, c9, rfl, o9, b9⟩
      have hS := HS8.out
      have hbs := hS.b.size
      have T11 : (a8.tmps.setIfInBounds 11 (.slice A9 m c9))[11]? = some (.slice A9 m c9) := by simp [show 11 < a8.tmps.size by omega]
      have TN : ∀ t, t ≠ 11 → (a8.tmps.setIfInBounds 11 (.slice A9 m c9))[t]? = a8.tmps[t]? := fun t ht => Array.getElem?_setIfInBounds_ne (Ne.symm ht)
      have hG := hS.go b9 (T' := a8.tmps.setIfInBounds 11 (.slice A9 m c9)) (fun e => by rw [hd] at e; cases e) (fun _ => TN 14 (by decide)) (fun _ => TN 6 (by decide)) (fun _ => TN 7 (by decide))
      refine ⟨_, rfl, ReS.mark hG (by decide) (by decide) (fun _ => ⟨A9, c9, T11, arown_mono o9 hbs⟩) (fun e => by omega) (fun e => by omega) ⟨fun _ f A c g k1 k2 k hk => ?_, fun e => by omega⟩ (fun e => by omega), ⟨fun h => absurd (by decide) h, fun _ => upd_self _ _, fun e => by omega, fun e => by omega, fun e => by omega⟩, fun j u _ _ hR => reR_up hR⟩
      have k1 := T11.symm.trans k1
      injection k1 with k1
      injection k1 with k1 _ k3
      subst k1
      subst k3
      obtain ⟨g4, j1, j2, j3⟩ := hS.h4 f
      have k2 := (TN 14 (by decide)).symm.trans k2
      rw [j1] at k2
      injection k2 with k2
      injection k2 with k2
      injection k2 with k2
      injection k2 with k2
      subst k2
      have := arown_lt o9 k hk
      have := j3.lt
      omega
    rcases i with _ | i
    · refine re_value (by decide) (by decide) (by decide) (by decide) (by decide) (by decide) rfl 12 rfl (by decide) (by decide) (by decide) (by decide) (.slice A m c) rfl ?_
      intro a8 w8 hb8 ho hn
      have o0 : a8.tmps[0]? = some _ := (ho 0 (by kernel_rfl)).trans rfl
      clear ho hn
      refine ⟨wanted_free rfl, ?_⟩
      go_simp
    rcases i with _ | i
    · refine re_value (by decide) (by decide) (by decide) (by decide) (by decide) (by decide) rfl 13 rfl (by decide) (by decide) (by decide) (by decide) (.int .i64 (m : Int)) rfl ?_
      intro a8 w8 hb8 ho hn
      obtain ⟨v12, n12, hq12⟩ := hn 2 12 (by kernel_rfl) rfl
      obtain rfl := hq12 (by decide)
      clear ho hn
      refine ⟨wanted_free rfl, ?_⟩
      go_simp
    rcases i with _ | i
    · refine doneT_make rfl ?_
      intro dn a8 w8 hS hd hx ho hn
      have o34 : a8.tmps[34]? = some _ := (ho 34 (by kernel_rfl)).trans rfl
      have hsz : 34 < a8.tmps.size := (Array.getElem?_eq_some_iff.1 o34).1
      obtain ⟨v13, n13, hq13⟩ := hn 3 13 (by kernel_rfl) rfl
      obtain rfl := hq13.1 (by decide)
      have HS8 := Lib.hid hS
      clear ho hn hx hS
      have T14 : (a8.tmps.setIfInBounds 14 (.slice (some ⟨w8.heap.size, 0, none⟩) m m))[14]? = some (.slice (some ⟨w8.heap.size, 0, none⟩) m m) := by simp [show 14 < a8.tmps.size by omega]
      have TN : ∀ t, t ≠ 14 → (a8.tmps.setIfInBounds 14 (.slice (some ⟨w8.heap.size, 0, none⟩) m m))[t]? = a8.tmps[t]? := fun t ht => Array.getElem?_setIfInBounds_ne (Ne.symm ht)
      refine ⟨wanted_free rfl, .slice (some ⟨w8.heap.size, 0, none⟩) m m, w8.alloc (.cells (List.replicate m (.int .i64 0)).toArray 3), (by go_simp), ?_, ⟨fun h => absurd (by decide) h, fun e => by omega, fun _ => upd_self _ _, fun e => by omega, fun e => by omega⟩, fun j u _ _ hR => reR_up hR⟩
      have hS := HS8.out
      have hG := hS.go (albel w8 (.cells (List.replicate m (.int .i64 0)).toArray 3)) (T' := a8.tmps.setIfInBounds 14 (.slice (some ⟨w8.heap.size, 0, none⟩) m m)) (fun _ => TN 11 (by decide)) (fun e => by rw [hd] at e; cases e) (fun _ => TN 6 (by decide)) (fun _ => TN 7 (by decide))
      refine ReS.mark hG (by decide) (by decide) (fun e => by omega) (fun _ => ⟨w8.heap.size, T14, hS.b.size, Blk.new _ _ _⟩) (fun e => by omega) ⟨fun e => by omega, fun _ f A c g k1 k2 k hk => ?_⟩ (fun e => by omega)
      have k2 := T14.symm.trans k2
      injection k2 with k2
      injection k2 with k2
      injection k2 with k2
      injection k2 with k2
      subst k2
      obtain ⟨A1, c1, j1, j2⟩ := hS.h1 f
      have k1 := (TN 11 (by decide)).symm.trans k1
      rw [j1] at k1
      injection k1 with k1
      injection k1 with k1 _ k3
      subst k1
      subst k3
      have := arown_lt j2 k hk
      omega
    rcases i with _ | i
    · refine doneT_make rfl ?_
      intro dn a8 w8 hS hd hx ho hn
      have o34 : a8.tmps[34]? = some _ := (ho 34 (by kernel_rfl)).trans rfl
      have hsz : 34 < a8.tmps.size := (Array.getElem?_eq_some_iff.1 o34).1
      have HS8 := Lib.hid hS
      clear ho hn hx hS
      have TS : (a8.tmps.setIfInBounds 6 (.pointer (some ⟨w8.heap.size, 0, none⟩)))[6]? = some (.pointer (some ⟨w8.heap.size, 0, none⟩)) := by simp [show 6 < a8.tmps.size by omega]
      have TN : ∀ t, t ≠ 6 → (a8.tmps.setIfInBounds 6 (.pointer (some ⟨w8.heap.size, 0, none⟩)))[t]? = a8.tmps[t]? := fun t ht => Array.getElem?_setIfInBounds_ne (Ne.symm ht)
      refine ⟨wanted_free rfl, .pointer (some ⟨w8.heap.size, 0, none⟩), w8.alloc (.cells #[.slice none 0 0] 130), (by go_simp), ?_, ⟨fun h => absurd (by decide) h, fun e => by omega, fun e => by omega, fun e => upd_self _ _, fun e => by omega⟩, fun j u _ _ hR => reR_up hR⟩
      have hS := HS8.out
      have hG := hS.go (albel w8 (.cells #[.slice none 0 0] 130)) (T' := a8.tmps.setIfInBounds 6 (.pointer (some ⟨w8.heap.size, 0, none⟩))) (fun _ => TN 11 (by decide)) (fun _ => TN 14 (by decide)) (fun e => by rw [hd] at e; cases e) (fun e => TN 7 (by decide))
      have hst : dn 7 = false := by
        cases h7 : dn 7 with
        | false => rfl
        | true => have := (hS.d7 h7).1; rw [hd] at this; cases this
      have hne : dn 6 = true → (a8.tmps.setIfInBounds 6 (.pointer (some ⟨w8.heap.size, 0, none⟩)))[6]? ≠ (a8.tmps.setIfInBounds 6 (.pointer (some ⟨w8.heap.size, 0, none⟩)))[7]? := fun f => by
        obtain ⟨g, x, j1, j2, j3, _⟩ := hS.h6 f
        rw [TS, TN 7 (by decide), j1]
        intro e
        injection e with e
        injection e with e
        injection e with e
        injection e with e
        have := j3.lt
        omega
      exact ReS.mark hG (by decide) (by decide) (fun e => by omega) (fun e => by omega) (fun e => ⟨hst, ⟨w8.heap.size, _, TS, hS.b.size, Blk.new _ _ _⟩, hne⟩) ⟨fun e => by omega, fun e => by omega⟩ (fun e => by omega)
    rcases i with _ | i
    · refine doneT_make rfl ?_
      intro dn a8 w8 hS hd hx ho hn
      have o34 : a8.tmps[34]? = some _ := (ho 34 (by kernel_rfl)).trans rfl
      have hsz : 34 < a8.tmps.size := (Array.getElem?_eq_some_iff.1 o34).1
      have HS8 := Lib.hid hS
      clear ho hn hx hS
      have TS : (a8.tmps.setIfInBounds 7 (.pointer (some ⟨w8.heap.size, 0, none⟩)))[7]? = some (.pointer (some ⟨w8.heap.size, 0, none⟩)) := by simp [show 7 < a8.tmps.size by omega]
      have TN : ∀ t, t ≠ 7 → (a8.tmps.setIfInBounds 7 (.pointer (some ⟨w8.heap.size, 0, none⟩)))[t]? = a8.tmps[t]? := fun t ht => Array.getElem?_setIfInBounds_ne (Ne.symm ht)
      refine ⟨wanted_free rfl, .pointer (some ⟨w8.heap.size, 0, none⟩), w8.alloc (.cells #[.slice none 0 0] 130), (by go_simp), ?_, ⟨fun h => absurd (by decide) h, fun e => by omega, fun e => by omega, fun e => by omega, fun e => upd_self _ _⟩, fun j u _ _ hR => reR_up hR⟩
      have hS := HS8.out
      have hG := hS.go (albel w8 (.cells #[.slice none 0 0] 130)) (T' := a8.tmps.setIfInBounds 7 (.pointer (some ⟨w8.heap.size, 0, none⟩))) (fun _ => TN 11 (by decide)) (fun _ => TN 14 (by decide)) (fun e => TN 6 (by decide)) (fun e => by rw [hd] at e; cases e)
      have hst : dn 8 = false := by
        cases h7 : dn 8 with
        | false => rfl
        | true => have := (hS.d8 h7).1; rw [hd] at this; cases this
      have hne : dn 5 = true → (a8.tmps.setIfInBounds 7 (.pointer (some ⟨w8.heap.size, 0, none⟩)))[6]? ≠ (a8.tmps.setIfInBounds 7 (.pointer (some ⟨w8.heap.size, 0, none⟩)))[7]? := fun f => by
        obtain ⟨g, x, j1, j2, j3, _⟩ := hS.h5 f
        rw [TS, TN 6 (by decide), j1]
        intro e
        injection e with e
        injection e with e
        injection e with e
        injection e with e
        have := j3.lt
        omega
      exact ReS.mark hG (by decide) (by decide) (fun e => by omega) (fun e => by omega) (fun e => by omega) ⟨fun e => by omega, fun e => by omega⟩ (fun e => ⟨hst, ⟨w8.heap.size, _, TS, hS.b.size, Blk.new _ _ _⟩, hne⟩)
    rcases i with _ | i
    · refine doneT_store rfl rfl ?_
      intro dn a8 w8 hS hd hx ho hn
      obtain ⟨v6, n6, hq6⟩ := hn 5 6 (by kernel_rfl) rfl
      have hk := hq6.2.2.2.1 rfl
      obtain ⟨v11, n11, hq11⟩ := hn 1 11 (by kernel_rfl) rfl
      have hl := hq11.2.1 rfl
      obtain ⟨g, x, e1, h2, h3, h4⟩ := hS.h5 hk
      obtain ⟨A9, c9, e2, _⟩ := hS.h1 hl
      have ev : v6 = .pointer (some ⟨g, 0, none⟩) := by
        rw [n6] at e1
        injection e1
      have ew : v11 = .slice A9 m c9 := by
        rw [n11] at e2
        injection e2
      subst ev
      subst ew
      have y0 := h3.cell 0
      have f0 := h3.frozen 0
      have HS8 := Lib.hid (hS.put7 hk hl e1 e2)
      clear ho hn hx hq6 hq11 h4 hS h2 h3
      refine ⟨wanted_free rfl, w8.setCell ⟨g, 0, none⟩ (.slice A9 m c9), (by go_simp), HS8.out, ⟨fun _ => rfl, fun e => by omega, fun e => by omega, fun e => by omega, fun e => by omega⟩, fun j u _ _ hR => reR_up hR⟩
    rcases i with _ | i
    · refine doneT_store rfl rfl ?_
      intro dn a8 w8 hS hd hx ho hn
      obtain ⟨v7, n7, hq7⟩ := hn 6 7 (by kernel_rfl) rfl
      have hk := hq7.2.2.2.2 rfl
      obtain ⟨v14, n14, hq14⟩ := hn 4 14 (by kernel_rfl) rfl
      have hl := hq14.2.2.1 rfl
      obtain ⟨g, x, e1, h2, h3, h4⟩ := hS.h6 hk
      obtain ⟨g9, e2, _⟩ := hS.h4 hl
      have ev : v7 = .pointer (some ⟨g, 0, none⟩) := by
        rw [n7] at e1
        injection e1
      have ew : v14 = .slice (some ⟨g9, 0, none⟩) m m := by
        rw [n14] at e2
        injection e2
      subst ev
      subst ew
      have y0 := h3.cell 0
      have f0 := h3.frozen 0
      have HS8 := Lib.hid (hS.put8 hk hl e1 e2)
      clear ho hn hx hq7 hq14 h4 hS h2 h3
      refine ⟨wanted_free rfl, w8.setCell ⟨g, 0, none⟩ (.slice (some ⟨g9, 0, none⟩) m m), (by go_simp), HS8.out, ⟨fun _ => rfl, fun e => by omega, fun e => by omega, fun e => by omega, fun e => by omega⟩, fun j u _ _ hR => reR_up hR⟩
    omega
  · intro dn fv w5 hS5 hR5 hall
    obtain ⟨A1, c1, e11, ho1⟩ := hS5.h1 (hall 1 (by decide))
    obtain ⟨g, e14, hg, hbg⟩ := hS5.h4 (hall 4 (by decide))
    obtain ⟨b6, x6, e6, hg6, hb6, hu6⟩ := hS5.h5 (hall 5 (by decide))
    obtain ⟨b7, x7, e7, hg7, hb7, hu7⟩ := hS5.h6 (hall 6 (by decide))
    have hx6 := hu6 (hall 7 (by decide))
    have hx7 := hu7 (hall 8 (by decide))
    have hx6 := e11.symm.trans hx6
    injection hx6 with hx6
    subst hx6
    have hx7 := e14.symm.trans hx7
    injection hx7 with hx7
    subst hx7
    have hng := hS5.n2 (hall 1 (by decide)) (hall 4 (by decide)) A1 c1 g e11 e14
    have hbw := hS5.b
    clear hS5 hR5 hall hu6 hu7 e11 e14
    simp only [putAll, List.foldl_cons, List.foldl_nil, Act.put, List.setIfInBounds_toArray, List.set_cons_succ, List.set_cons_zero, List.getElem?_toArray, List.getElem?_cons_succ, List.getElem?_cons_zero, Option.some.injEq] at e6 e7 ⊢
    rw [e6, e7]
    generalize fv 10 = u10
    generalize fv 11 = u11
    generalize fv 12 = u12
    generalize fv 13 = u13
    generalize fv 14 = u14
    have hzz := HSZ.out
    have hb6g : b6 ≠ g := blk_ne hb6 hbg (by decide)
    have hb7g : b7 ≠ g := blk_ne hb7 hbg (by decide)
    have h3w := H3.out.below hbw H3.out.lt
    have y3 := h3w.cell 0
    have HB6 := Lib.hid hb6
    have HB7 := Lib.hid hb7
    have HBG := Lib.hid hbg
    have HO1 := Lib.hid ho1
    have HNG := Lib.hid hng
    have HN67 := Lib.hid (And.intro hb6g hb7g)
    have HLE := Lib.hid (And.intro hg (And.intro hg6 hg7))
    have HBW := Lib.hid hbw
    have HZZ := Lib.hid hzz
    have HOR := Lib.hid (Reads.of_own HO.out)
    have HTL : Hid (tos.length = m) := Lib.hid (by rw [HP.out.len]; exact HM.out)
    have HBWW : Hid (∀ wr, Keep (fun i => i = g) w5 wr → Below w.heap.size w wr) := Lib.hid (fun wr hk => (bon HB2.out HBW.out).trans (hk.below (by have := (bon HB2.out HBW.out).size; omega) (fun i hi e => by omega)))
    clear hb6 hb7 hbg ho1 hng hb6g hb7g h3w hg hg6 hg7 hbw hzz
    go_wp2
    go_loopw [17] (fun i wr => ∃ k : Nat, k ≤ m ∧ i = .int .i64 (k : Int) ∧ Keep (fun i => i = g) w5 wr ∧ Blk wr g 3 ((stepO sh tos k).map iv).toArray) (fun i _ => m - (intOf i).toNat)
    case atStart =>
      refine ⟨0, Nat.zero_le _, rfl, Keep.refl _ _, ?_⟩
      have h := HBG.out
      show Blk w5 g 3 ((List.replicate sh.length (0 : Int)).map iv).toArray
      rw [List.map_replicate, HM.out]
      exact h
    case round =>
      obtain ⟨k, hk, rfl, hkp, hbk⟩ := hrel
      by_cases hlt : k < m
      · obtain ⟨adO, rfl, _, cO⟩ := ((HOR.out.below (HBWW.out wr hkp)).more (HBWW.out wr hkp).size).int_at (l := iL tos) hlt (by rw [iL_length]; exact HTL.out)
        obtain ⟨adA, rfl, _, cA⟩ := (Reads.of_own (hkp.own HO1.out HNG.out)).int_at (l := sh) hlt HM.out
        have hkt : k < tos.length := by rw [HTL.out]; exact hlt
        have hte : (iL tos)[k]'(by rw [iL_length]; exact hkt) = ((tos[k] : Nat) : Int) := List.getElem_map (f := fun n : Nat => (n : Int)) ..
        rw [hte] at cO
        have hal := HP.out.lt _ (List.getElem_mem hkt)
        rw [HM.out] at hal
        have hks : k < sh.length := by rw [HM.out]; exact hlt
        have hstep : stepO sh tos (k + 1) = (stepO sh tos k).set tos[k] sh[k] := by
          show (stepO sh tos k).set (tos.getD k 0) (sh.getD k 0) = _
          rw [List.getD_eq_getElem?_getD, List.getD_eq_getElem?_getD, List.getElem?_eq_getElem hkt, List.getElem?_eq_getElem hks]
          rfl
        generalize tos[k] = a at *
        generalize sh[k] = x at *
        obtain ⟨v0, hv0⟩ : ∃ v0, ((stepO sh tos k).map iv)[a]? = some v0 := ⟨_, List.getElem?_eq_getElem (by rw [List.length_map, stepO_length, HM.out]; exact hal)⟩
        have g0 : wr.cell? ⟨g, a, none⟩ = some v0 := by rw [hbk.cell a, List.getElem?_toArray, hv0]
        have g1 := hbk.frozen a
        have q6 := (hkp.blk HB6.out HN67.out.1).cell 0
        have q7 := (hkp.blk HB7.out HN67.out.2).cell 0
        have hbk2 : Blk (wr.setCell ⟨g, a, none⟩ (.int .i64 x)) g 3 ((stepO sh tos (k + 1)).map iv).toArray := by
          have h := hbk.set_ a (.int .i64 x)
          rw [List.setIfInBounds_toArray] at h
          rw [hstep, List.map_set]
          exact h
        have HK2 := Lib.hid hbk2
        have HKP := Lib.hid hkp
        have ham : (a : Int) < (m : Int) := by omega
        have hkm : (k : Int) < (m : Int) := by omega
        clear hbk2 hkp hbk hv0 hstep hks hal hte hkt
        go_wp2
        go_region
        go_wp2
        refine ⟨⟨k + 1, by omega, by go_num, ?_, ?_⟩, by simp [intOf]; try omega⟩
        · exact (HKP.out.setCell _ _ (fun _ => rfl)).drew
        · exact Blk.drew HK2.out
      · obtain rfl : k = m := by omega
        have hM : stepO sh tos k = shO sh tos := by unfold shO; rw [HTL.out]
        rw [hM] at hbk
        have hlM : (shO sh tos).length = k := by unfold shO; rw [stepO_length, HM.out]
        have hbwr := HBWW.out wr hkp
        have q6 := hkp.blk HB6.out HN67.out.1
        have q7 := hkp.blk HB7.out HN67.out.2
        have q3 := (H3.out.below HBW.out H3.out.lt).below (hkp.below (B := w1.heap.size) HBW.out.size (fun i hi e => by have := HLE.out.1; omega)) H3.out.lt
        have qo := hkp.own HO1.out HNG.out
        have hrg : Reads wr wr.heap.size 1 (some ⟨g, 0, none⟩) k ((shO sh tos).map iv) := ⟨by rw [List.length_map, hlM, Nat.mul_one], fun _ => ⟨_, rfl, hbk.lt, fun j u hu => by
          rw [Addr.add_mid, Nat.zero_add, hbk.cell j, List.getElem?_toArray]
          exact hu⟩⟩
        have HGA := tugather_any (fun i => S i ∨ i = w.heap.size ∨ (w.heap.size + 2 ≤ i ∧ i < wr.heap.size)) (some ⟨g, 0, none⟩) k (shO sh tos) 201 #[.pointer (some ⟨b6, 0, none⟩), .pointer (some ⟨b7, 0, none⟩), .pointer (some ⟨w.heap.size, 0, none⟩)] (enters_of Try.func201 (by kernel_rfl) rfl) (fun n => (ordF sh tos n).2) wr (by rw [hlM]; exact hrg) (by rw [hlM]; omega) (fun hok W' hs' n hn => by
          obtain ⟨L, M, hL, hMM, hOd, hMx, hal, hL4, hP, hP4⟩ := shO_nat HP.out hok
          rw [hP] at hn
          have e2 : (ordF sh tos n).2 = hor 0 (iL L) (numsO M tos n) := by
            unfold ordF
            rw [hMM, map_toNat, ← hL]
          rw [e2]
          have hLk : L.length = k := by rw [← HM.out, hL, iL_length]
          have hMk : M.length = k := by rw [hOd.l2, hLk]
          have hz := HZZ.out
          have hle := HLE.out
          have hsO : ∀ b, (Value.slice C k co).ownBlock = some b → S b := HOS.out
          have ob : wr.ownsRow 0 3 1 (.slice C k co) k ((iL tos).map iv) := arown_stay HO.out hbwr (fun b hb => HSS.out b (hsO b hb))
          have l6 := q6.lt
          have l7 := q7.lt
          have lg := hbk.lt
          have a6 := hs'.blk_ q6 (.inr (.inr ⟨by omega, l6⟩))
          have a7 := hs'.blk_ q7 (.inr (.inr ⟨by omega, l7⟩))
          have ag := hs'.blk_ hbk (.inr (.inr ⟨by omega, lg⟩))
          have a3 := hs'.blk_ q3 (.inr (.inl rfl))
          have ac := hs'.own_ qo (fun b hb => .inr (.inr (by have := arown_lt qo b hb; omega)))
          have ao := hs'.own_ ob (fun b hb => .inl (hsO b hb))
          have rg : Reads W' W'.heap.size 1 (some ⟨g, 0, none⟩) k ((shO sh tos).map iv) := ⟨by rw [List.length_map, hlM, Nat.mul_one], fun _ => ⟨_, rfl, ag.lt, fun j u hu => by
            rw [Addr.add_mid, Nat.zero_add, ag.cell j, List.getElem?_toArray]
            exact hu⟩⟩
          rw [hMM] at rg
          rw [hL] at ac
          rw [← hLk] at a6 a7 rg ac ao a3
          exact tureord1_any n L M tos b6 b7 w.heap.size A1 (some ⟨g, 0, none⟩) C c1 L.length co W' hOd (by omega) hL4 hal (shape_pos (by omega : n < prodN M)) hMx a6 (Reads.of_own ac) a7 rg a3 (Reads.of_own ao))
        rw [hlM] at HGA
        have HGA := Lib.hid HGA
        have HBWR := Lib.hid hbwr
        have H4W := Lib.hid ((H4.out.below HBW.out H4.out.lt).below (hkp.below (B := w1.heap.size) HBW.out.size (fun i hi e => by have := HLE.out.1; omega)) H4.out.lt)
        have c7 := q7.cell 0
        have HLW := Lib.hid q7.lt
        rw [HE0.out] at HGA
        have hE2 : E = 0 ∨ E ≠ 0 := by omega
        have HMM := Lib.hid hlM
        have hF2 : (fun n => ((0 : Int), (ordF sh tos n).2)) = F := by rw [← HF0.out]; rfl
        rw [hF2] at HGA
        rw [HX0.out] at HGA HMM
        clear hkp hbk hM hlM hbwr q6 q7 q3 qo hrg hF2
        rcases hE2 with rfl | hne
        · go_wp2_with (
            go_at_call 200
            refine HGA.out.mono ?_
            rintro e w6 ⟨v, rfl, b6', hy, hn⟩
            have hx := H4W.out.below b6' H4W.out.lt
            obtain ⟨hok4, A4, c4, gf4, cap4, rfl, hy5⟩ := hy rfl
            have HY : Hid (WayP (fun i => S i ∨ (w.heap.size ≤ i ∧ i ≠ w.heap.size + 1)) w6 (.agg #[.slice A4 X.length c4, .func (.func gf4) #[] cap4]) X F) := Lib.hid (WayP.more ⟨A4, c4, gf4, cap4, rfl, hy5⟩ (fun i h => by
              have h1 := HBWR.out.size
              have h2 := HZZ.out
              have h3 := H4W.out.lt
              rcases h with (h | h | h) | h
              · exact .inl h
              · exact .inr (by omega)
              · exact .inr (by omega)
              · exact .inr (by omega)))
            have x0 := hx.cell 0
            have x1 := hx.cell 1
            have f0 := hx.frozen 0
            have f1 := hx.frozen 1
            have HX := Lib.hid hx
            have HB6' := Lib.hid (bon HBWR.out b6')
            have HOK4 := Lib.hid hok4
            clear hok4 hn hx b6' hy hy5)
          refine bodyPost_ret (results_way2 rfl rfl rfl (moblk_two _ _ HX.out)) rfl ?_
          have hk := mokeep_two w6 (w.heap.size + 1) (.slice A4 X.length c4) (.func (.func gf4) #[] cap4)
          exact ⟨_, rfl, HB6'.out.trans (hk.below HB6'.out.size (fun i hi e => by omega)), fun h => ⟨HOK4.out, HY.out.sin (SinP.keep hk (fun i hi e => by
            rcases hi with hi | hi
            · have := HSS.out i hi
              omega
            · omega))⟩, fun h => absurd rfl h⟩
        · have HNE := Lib.hid hne
          go_wp2_with (
            go_at_call 200
            refine HGA.out.mono ?_
            rintro e w6 ⟨v, rfl, b6', hy, hn⟩
            have hx := H4W.out.below b6' H4W.out.lt
            obtain rfl := hn HNE.out
            have x0 := hx.cell 0
            have x1 := hx.cell 1
            have f0 := hx.frozen 0
            have f1 := hx.frozen 1
            have HX := Lib.hid hx
            have HB6' := Lib.hid (bon HBWR.out b6')
            clear hn hx b6' hy)
          refine bodyPost_ret (results_way2 rfl rfl rfl (moblk_two _ _ HX.out)) rfl ?_
          exact GiveP.no HNE.out (HB6'.out.trans ((mokeep_two w6 (w.heap.size + 1) (.slice none 0 0) (.nilFunc)).below HB6'.out.size (fun i hi e => by omega)))
end Go.Proofs.Ytkabdkblcgklmaa.tu

namespace Go.Proofs.Ytkabdkblcgklmaa.tu
open Go.RowKit Go.Proofs.Ytkabdkblcgklmaa.arr Go.Proofs.Ytkabdkblcgklmaa.mo

theorem GiveP.more {S T : Nat → Prop} {sh : List Int} {f : Nat → Int × Int} {E : Int} {w w' : World} {e : Ending} (h : GiveP S sh f E w e w') (hs : ∀ k, S k → T k) : GiveP T sh f E w e w' := by
  obtain ⟨v, rfl, b, hy, hn⟩ := h
  exact ⟨v, rfl, b, fun h => ⟨(hy h).1, (hy h).2.more hs⟩, hn⟩
theorem GiveP.way {S : Nat → Prop} {B : Nat} {sh : List Int} {f : Nat → Int × Int} {E : Int} {w w' : World} {e : Ending} (h : GiveP S sh f E w e w') (hs : ∀ k, S k → B ≤ k) (hB : B ≤ w.heap.size) : GiveW B sh f E w e w' := by
  obtain ⟨v, rfl, b, hy, hn⟩ := h
  exact ⟨v, rfl, b, fun h => ⟨(hy h).1, (hy h).2.at_ hs (by have := b.size; omega)⟩, hn⟩
set_option maxRecDepth 100000 in
set_option maxHeartbeats 4000000 in
theorem tuturned_any (wf : Nat) (b1 b2 : Array Value) (hwf : ∀ args w, (callFunc wf args).run Try.prog w = .ok (.enter wf args) w) (E : Int) (sh : List Int) (f : Nat → Int × Int) (a : AV) (q : AP) (w : World) (ha : AEl w a q)
    (hway : okA a = true → ∀ W, Below w.heap.size w W → Calls Try.prog wf (b1 ++ b2) W (GiveW W.heap.size sh f E W)) :
    Calls Try.prog 98 #[.func (.func wf) b1 b2, .agg (arC a q)] w (GiveE (mdA a E sh f) (mdE a E sh f) w) := by
  have hI := OnI.start ha
  obtain ⟨w1, hw1⟩ : ∃ w1, (w.alloc (.cells (arC a q) 25)).alloc (.cells #[.int .i64 0, .slice none 0 0, .slice none 0 0] 25) = w1 := ⟨_, rfl⟩
  rw [hw1] at hI
  have HCK := Lib.hid (archeck_any a q w1 hI.ea)
  have hE : mdE a E sh f = if okA a = false then 110 else if E ≠ 0 then E else goE a.kind [a] sh f := rfl
  have hA : mdA a E sh f = if okA a = false then noA else if E ≠ 0 then noA else goA a.kind [a] sh f := rfl
  have hc : checkE a = if okA a = true then 0 else 110 := rfl
  have hAC : arC a q = #[.int .i64 a.kind, .slice q.A0 a.sh.length q.c0, .slice q.A1 a.el.length q.c1] := rfl
  have HI := Lib.hid hI
  have HGO : Hid (∀ (v : Value) (W3 : World) (g : Nat), W3.heap.size = g → okShape sh = true → WayAt w.heap.size W3 v sh f → AEl W3 a q →
      Calls Try.prog 104 #[v, .int .i64 a.kind, .slice (some ⟨g, 0, none⟩) 1 1] (W3.alloc (.cells #[.int .i64 a.kind, .slice q.A0 a.sh.length q.c0, .slice q.A1 a.el.length q.c1] 25)) (GiveE (goA a.kind [a] sh f) (goE a.kind [a] sh f) (W3.alloc (.cells #[.int .i64 a.kind, .slice q.A0 a.sh.length q.c0, .slice q.A1 a.el.length q.c1] 25)))) := Lib.hid (fun v W3 g e hok hv he => by
    subst e
    exact mogo_any w.heap.size v sh f a.kind (some ⟨W3.heap.size, 0, none⟩) 1 [a] _ (hv.below (albel _ _)) hok (Els.one he) (fun x hx => by
      rw [List.mem_singleton] at hx
      subst hx
      exact he.f1))
  have HWY := Lib.hid hway
  have HFB := Lib.hid hI.fb
  have HC := Lib.hid (fun W (h : OnI w a q W) => h.cells)
  obtain ⟨⟨x0, x1, x2⟩, _⟩ := HC.out w1 hI
  obtain ⟨X, hX⟩ : ∃ X, mdA a E sh f = X := ⟨_, rfl⟩
  obtain ⟨E2, hE2⟩ : ∃ E2, mdE a E sh f = E2 := ⟨_, rfl⟩
  rw [hX, hE2]
  rw [hX] at hA
  rw [hE2] at hE
  rw [hAC] at HCK hw1
  rw [hAC]
  obtain ⟨ar, har⟩ : ∃ ar, b1 ++ b2 = ar := ⟨_, rfl⟩
  rw [har] at HWY
  clear ha hway hI hAC hX hE2
  cases ho : okA a
  · rw [ho, if_neg (by decide)] at hc
    rw [ho, if_pos rfl] at hE hA
    subst hE
    subst hA
    rw [hc] at HCK
    clear HGO HWY hc
    go_enter Try.func98, Try.ntmps98
    go_wp2_with (go_at_call 21; (try rw [hw1]); refine HCK.out.mono ?_; rintro e w2 ⟨rfl, b2⟩; have hI2 := HI.out.below b2; obtain ⟨_, ⟨r0, r1, r2⟩, f0, f1, f2⟩ := HC.out w2 hI2; have HI2 := Lib.hid hI2; clear b2 hI2)
    refine bodyPost_ret (results_arr2 rfl rfl rfl (arblk_three _ _ _ HI2.out.r)) rfl ?_
    exact GiveE.no rfl (HI2.out.fin _ _ _)
  rw [ho, if_pos rfl] at hc
  rw [ho, if_neg (by decide)] at hE hA
  rw [hc] at HCK
  have HWY2 := Lib.hid (HWY.out ho)
  clear HWY hc
  by_cases h0 : E = 0
  case neg =>
    rw [if_pos h0] at hE hA
    subst hA
    have hne : (E != 0) = true := by simp [h0]
    have H0 := Lib.hid h0
    have HE := Lib.hid hE
    clear h0 hE HGO
    go_enter Try.func98, Try.ntmps98
    go_wp2_with (first
      | (go_at_call 21; (try rw [hw1]); refine HCK.out.mono ?_; rintro e w2 ⟨rfl, b2⟩; have hI2 := HI.out.below b2; obtain ⟨⟨x0, x1, x2⟩, _⟩ := HC.out w2 hI2; have HI2 := Lib.hid hI2; clear b2 hI2)
      | ((with_reducible refine (HWY2.out w2 HI2.out.fb).mono ?_); rintro e w3 ⟨v, rfl, b3, hy, hn⟩
         obtain rfl := hn H0.out
         have hI3 := (HI2.out.below b3).below (albel w3 (.cells #[.slice none 0 0, .nilFunc] 87))
         obtain ⟨_, ⟨r0, r1, r2⟩, f0, f1, f2⟩ := HC.out _ hI3
         have HI3 := Lib.hid hI3
         clear b3 hI3 hy hn))
    refine bodyPost_ret (results_arr2 rfl rfl rfl (arblk_three _ _ _ HI3.out.r)) rfl ?_
    rw [HE.out]
    exact GiveE.no rfl (HI3.out.fin _ _ _)
  subst h0
  rw [if_neg (fun h => h rfl)] at hE hA
  rw [← hE, ← hA] at HGO
  have HPC : Hid (∀ p, arC X p = #[.int .i64 X.kind, .slice p.A0 X.sh.length p.c0, .slice p.A1 X.el.length p.c1]) := Lib.hid (fun p => rfl)
  clear hE hA
  go_enter Try.func98, Try.ntmps98
  go_wp2_with (first
    | (go_at_call 21; (try rw [hw1]); refine HCK.out.mono ?_; rintro e w2 ⟨rfl, b2⟩; have hI2 := HI.out.below b2; obtain ⟨⟨x0, x1, x2⟩, _⟩ := HC.out w2 hI2; have HI2 := Lib.hid hI2; clear b2 hI2)
    | ((with_reducible refine (HWY2.out w2 HI2.out.fb).mono ?_); rintro e w3 ⟨v, rfl, b3, hy, hn⟩
       obtain ⟨hok, A4, c4, gf4, cap4, rfl, hy5⟩ := hy rfl
       have hwy : WayAt w2.heap.size w3 (.agg #[.slice A4 sh.length c4, .func (.func gf4) #[] cap4]) sh f := ⟨A4, c4, gf4, cap4, rfl, hy5⟩
       have HV := Lib.hid ((hwy.below (albel w3 (.cells #[.slice A4 sh.length c4, .func (.func gf4) #[] cap4] 87))).base HI2.out.fb.size)
       have HOK := Lib.hid hok
       have hI3 := (HI2.out.below b3).below (albel w3 (.cells #[.slice A4 sh.length c4, .func (.func gf4) #[] cap4] 87))
       obtain ⟨⟨x0, x1, x2⟩, _⟩ := HC.out _ hI3
       have v0 := (Blk.new w3 87 #[.slice A4 sh.length c4, .func (.func gf4) #[] cap4]).cell 0
       have v1 := (Blk.new w3 87 #[.slice A4 sh.length c4, .func (.func gf4) #[] cap4]).cell 1
       have HI3 := Lib.hid hI3
       clear b3 hI3 hy hn hy5 hwy hok)
    | (go_at_call 104; refine (HGO.out (.agg #[.slice A4 sh.length c4, .func (.func gf4) #[] cap4]) (w3.alloc (.cells #[.slice A4 sh.length c4, .func (.func gf4) #[] cap4] 87)) (w3.heap.size + 1) (by simp) HOK.out HV.out HI3.out.ea).mono ?_; rintro e w5 ⟨r, rfl, o5, b5⟩
       rw [HPC.out r]
       have hI4 := HI3.out.below (albel _ (.cells #[.int .i64 a.kind, .slice q.A0 a.sh.length q.c0, .slice q.A1 a.el.length q.c1] 25))
       have HI5 := Lib.hid (hI4.below b5)
       have HGV := Lib.hid (hI4.give b5 o5)
       obtain ⟨_, ⟨r0, r1, r2⟩, f0, f1, f2⟩ := HC.out _ (hI4.below b5)
       clear hI4 o5 b5))
  refine bodyPost_ret (results_arr2 rfl rfl rfl (arblk_three _ _ _ HI5.out.r)) rfl ?_
  exact ⟨r, rfl, HGV.out⟩
end Go.Proofs.Ytkabdkblcgklmaa.tu

namespace Go.Proofs.Ytkabdkblcgklmaa.tu
open Go.RowKit Go.Proofs.Ytkabdkblcgklmaa.arr Go.Proofs.Ytkabdkblcgklmaa.mo

theorem tu_fin {w w1 w2 : World} {g : Nat} {X : AV} {r : AP} (hb : Below w.heap.size w w1) (hg : w.heap.size ≤ g) (hlt : g < w1.heap.size) (b2 : Below w1.heap.size w1 w2) (o : AOwn w1.heap.size w2 X r) :
    AOwn w.heap.size (((w2.setCell ⟨g, 0, none⟩ (.int .i64 X.kind)).setCell ⟨g, 1, none⟩ (.slice r.A0 X.sh.length r.c0)).setCell ⟨g, 2, none⟩ (.slice r.A1 X.el.length r.c1)) X r ∧
    Below w.heap.size w (((w2.setCell ⟨g, 0, none⟩ (.int .i64 X.kind)).setCell ⟨g, 1, none⟩ (.slice r.A0 X.sh.length r.c0)).setCell ⟨g, 2, none⟩ (.slice r.A1 X.el.length r.c1)) := by
  have hk := arkeep_three w2 g (.int .i64 X.kind) (.slice r.A0 X.sh.length r.c0) (.slice r.A1 X.el.length r.c1)
  have hs := hb.size
  have hbw := bon hb b2
  refine ⟨⟨?_, ?_⟩, hbw.trans (hk.below hbw.size (fun i hi e => by omega))⟩
  · exact arown_mono (hk.own o.o0 (fun b hb e => by have := (arown_lt o.o0 b hb).1; omega)) (by omega)
  · exact arown_mono (hk.own o.o1 (fun b hb e => by have := (arown_lt o.o1 b hb).1; omega)) (by omega)
end Go.Proofs.Ytkabdkblcgklmaa.tu

namespace Go.Proofs.Ytkabdkblcgklmaa.tu
open Go.RowKit Go.Proofs.Ytkabdkblcgklmaa.arr Go.Proofs.Ytkabdkblcgklmaa.mo

theorem prodI_perm {a b : List Int} (h : a.Perm b) : prodI a = prodI b := by
  induction h with
  | nil => rfl
  | cons x _ ih => show x * _ = x * _; rw [ih]
  | swap x y l =>
    show y * (x * prodI l) = x * (y * prodI l)
    rw [← Int.mul_assoc, Int.mul_comm y, Int.mul_assoc]
  | trans _ _ h1 h2 => exact h1.trans h2
theorem perm_range {m : Nat} {tos : List Nat} (h : PermO m tos) : tos.Perm (List.range m) := by
  rw [List.perm_ext_iff_of_nodup h.nd List.nodup_range]
  intro a
  rw [List.mem_range]
  refine ⟨h.lt a, fun ha => ?_⟩
  by_cases hm : a ∈ tos
  · exact hm
  · exfalso
    have h1 : (a :: tos).Nodup := List.nodup_cons.2 ⟨hm, h.nd⟩
    have h2 := List.Nodup.length_le_of_subset h1 (l₂ := List.range m) (fun x hx => by
      rw [List.mem_range]
      rcases List.mem_cons.1 hx with rfl | hx
      · exact ha
      · exact h.lt x hx)
    rw [List.length_range, List.length_cons, h.len] at h2
    omega
theorem shO_perm {sh : List Int} {tos : List Nat} (h : PermO sh.length tos) : sh.Perm (shO sh tos) := by
  have hl : (shO sh tos).length = sh.length := stepO_length _ _ _
  have e1 : sh = tos.map (fun a => (shO sh tos).getD a 0) := by
    apply List.ext_getElem?
    intro i
    rw [List.getElem?_map]
    cases hi : tos[i]? with
    | none =>
      have := List.getElem?_eq_none_iff.1 hi
      rw [List.getElem?_eq_none (by rw [← h.len]; exact this)]
      rfl
    | some a =>
      have h1 := shO_at h i a hi
      have h2 : a < (shO sh tos).length := by rw [hl]; exact h.lt a (List.mem_of_getElem? hi)
      show _ = some ((shO sh tos).getD a 0)
      rw [← h1, List.getD_eq_getElem?_getD, List.getElem?_eq_getElem h2]
      rfl
  have e2 : shO sh tos = (List.range sh.length).map (fun a => (shO sh tos).getD a 0) := by
    apply List.ext_getElem?
    intro i
    rw [List.getElem?_map]
    by_cases hi : i < sh.length
    · rw [List.getElem?_range hi, List.getElem?_eq_getElem (by rw [hl]; exact hi)]
      show _ = some ((shO sh tos).getD i 0)
      rw [List.getD_eq_getElem?_getD, List.getElem?_eq_getElem (by rw [hl]; exact hi)]
      rfl
    · rw [List.getElem?_eq_none (by rw [hl]; omega), List.getElem?_eq_none (by rw [List.length_range]; omega)]
      rfl
  have h3 := (perm_range h).map (fun a => (shO sh tos).getD a 0)
  rw [← e1, ← e2] at h3
  exact h3
theorem shO_ok {sh : List Int} {tos : List Nat} (h : PermO sh.length tos) : okShape (shO sh tos) = okShape sh := by
  have h1 := shO_perm h
  unfold okShape
  rw [← prodI_perm h1, ← h1.length_eq, ← List.Perm.all_eq h1]
theorem shO_prod {sh : List Int} {tos : List Nat} (h : PermO sh.length tos) : prodI (shO sh tos) = prodI sh := (prodI_perm (shO_perm h)).symm
def tosR (m : Nat) : List Nat := (List.range m).map (fun i => m - 1 - i)
theorem tosR_perm (m : Nat) : PermO m (tosR m) := by
  unfold tosR
  refine ⟨by rw [List.length_map, List.length_range], fun a ha => ?_, ?_⟩
  · obtain ⟨i, hi, rfl⟩ := List.mem_map.1 ha
    have := List.mem_range.1 hi
    omega
  · rw [List.nodup_iff_pairwise_ne, List.pairwise_map]
    refine List.Pairwise.imp_of_mem ?_ (List.nodup_iff_pairwise_ne.1 (List.nodup_range (n := m)))
    intro a b ha hb hab e
    have h1 := List.mem_range.1 ha
    have h2 := List.mem_range.1 hb
    exact hab (by omega)
def tosP (l : AV) : List Nat := (preL l.el).map Int.toNat
theorem perE_ok {l : AV} {sh : List Int} (h : perE l sh = 0) : okShape sh = true ∧ listE l = 0 ∧ l.el.length = sh.length ∧ permB sh.length l.el = true := by
  unfold perE at h
  split at h
  · rename_i h1
    split at h
    · rename_i h2
      split at h
      · rename_i h3
        split at h
        · rename_i h4
          exact ⟨h1, h2, h3, h4⟩
        · omega
      · omega
    · rename_i h2
      exact absurd h h2
  · omega
theorem tosP_perm {l : AV} {sh : List Int} (h : perE l sh = 0) : PermO sh.length (tosP l) ∧ preL l.el = iL (tosP l) := by
  obtain ⟨_, _, h3, h4⟩ := perE_ok h
  obtain ⟨h5, h6⟩ := permB_iff.1 h4
  unfold tosP
  refine ⟨⟨by rw [List.length_map]; unfold preL; rw [List.length_map, h3], fun a ha => ?_, ?_⟩, ?_⟩
  · obtain ⟨x, hx, rfl⟩ := List.mem_map.1 ha
    unfold preL at hx
    obtain ⟨y, hy, rfl⟩ := List.mem_map.1 hx
    have := h5 y hy
    omega
  · unfold preL
    rw [List.map_map, List.nodup_iff_pairwise_ne, List.pairwise_map]
    refine List.Pairwise.imp_of_mem ?_ (List.nodup_iff_pairwise_ne.1 h6)
    intro a b ha hb hab e
    have h1 := h5 a ha
    have h2 := h5 b hb
    have e : (a - 1).toNat = (b - 1).toNat := e
    exact hab (by omega)
  · unfold iL
    rw [List.map_map]
    conv => lhs; rw [← List.map_id (preL l.el)]
    apply List.map_congr_left
    intro x hx
    unfold preL at hx
    obtain ⟨y, hy, rfl⟩ := List.mem_map.1 hx
    have := h5 y hy
    show y - 1 = (((y - 1).toNat : Nat) : Int)
    omega

set_option maxRecDepth 100000 in
set_option maxHeartbeats 4000000 in
theorem tutransposed_any (A : Option Addr) (c : Nat) (sh : List Int) (w : World) (ha : Reads w w.heap.size 1 A sh.length (sh.map iv)) (hs : sh.length ≤ 1000) :
    Calls Try.prog 99 #[.slice A sh.length c] w (GiveP (fun k => w.heap.size < k) (shO sh (tosR sh.length)) (ordF sh (tosR sh.length)) (if okShape (shO sh (tosR sh.length)) = true then 0 else 110) w) := by
  obtain ⟨i0, hi, hz0, hz1, hz2⟩ := info_parts arInfoInt
  obtain ⟨w1, hw1⟩ : ∃ w1, w.alloc (.cells #[.slice none 0 0, .nilFunc] 87) = w1 := ⟨_, rfl⟩
  have hsz : w1.heap.size = w.heap.size + 1 := by rw [← hw1]; simp
  have hb1 : Below w.heap.size w w1 := by rw [← hw1]; exact albel _ _
  have hx1 : Blk w1 w.heap.size 87 #[.slice none 0 0, .nilFunc] := by rw [← hw1]; exact Blk.new _ _ _
  obtain ⟨E, hE⟩ : ∃ E : Int, (if okShape (shO sh (tosR sh.length)) = true then 0 else 110) = E := ⟨_, rfl⟩
  obtain ⟨F, hF⟩ : ∃ F, ordF sh (tosR sh.length) = F := ⟨_, rfl⟩
  obtain ⟨Y, hY⟩ : ∃ Y, shO sh (tosR sh.length) = Y := ⟨_, rfl⟩
  have HRE : Hid (∀ (C : Option Addr) (co : Nat) (wr : World), Below w1.heap.size w1 wr → wr.ownsRow w1.heap.size 3 1 (.slice C sh.length co) sh.length ((iL (tosR sh.length)).map iv) →
      Calls Try.prog 160 #[.slice A sh.length c, .slice C sh.length co] wr (GiveP (fun k => w.heap.size < k) Y F E wr)) := Lib.hid (fun C co wr hb ho => by
    have hbw := bon hb1 hb
    have hs1 := hb.size
    have h := tureord_any (fun k => w1.heap.size ≤ k ∧ k < wr.heap.size) A C c co sh (tosR sh.length) wr ((ha.below hbw).more hbw.size) hs (tosR_perm _) (arown_mono ho (Nat.zero_le _)) (fun k hk => hk.2) (fun k hk => arown_lt ho k hk)
    rw [hE, hF, hY] at h
    exact h.mono (fun e w' g => g.more (fun k hk => by rcases hk with hk | hk <;> omega)))
  rw [hE, hF, hY]
  have hE2 : E = 0 ∨ E ≠ 0 := by omega
  obtain ⟨m, hm⟩ : ∃ m, sh.length = m := ⟨_, rfl⟩
  rw [hm] at HRE hs
  rw [hm]
  have HX1 := Lib.hid hx1
  have HB1 := Lib.hid hb1
  clear ha hx1 hb1 hE hF hY hm hsz
  go_enter Try.func99, Try.ntmps99
  go_wp2
  try rw [hw1]
  go_loopw [8, 4] (fun i v wr => ∃ (j : Nat) (A1 : Option Addr) (c1 : Nat), j ≤ m ∧ i = .int .i64 (j : Int) ∧ v = .slice A1 j c1 ∧ wr.ownsRow w1.heap.size 3 1 (.slice A1 j c1) j ((iL ((tosR m).take j)).map iv) ∧ Below w1.heap.size w1 wr) (fun i _ _ => m - (intOf i).toNat)
  case atStart => exact ⟨0, none, 0, Nat.zero_le _, rfl, rfl, World.ownsRow_nil _ _ _ _, Below.refl _ _⟩
  case round =>
    obtain ⟨j, A1, c1, hj, rfl, rfl, o1, hbw⟩ := hrel
    by_cases hlt : j < m
    · have hst : (iL ((tosR m).take (j + 1))).map iv = (iL ((tosR m).take j)).map iv ++ [.int .i64 ((m - 1 - j : Nat) : Int)] := by
        have hjl : j < (tosR m).length := by rw [(tosR_perm m).len]; exact hlt
        have he0 : (tosR m)[j]? = some (m - 1 - j) := by
          unfold tosR
          rw [List.getElem?_map, List.getElem?_range hlt]
          rfl
        have he : (tosR m)[j] = m - 1 - j := (List.getElem?_eq_some_iff.1 he0).2
        rw [List.take_succ_eq_append_getElem hjl, he]
        unfold iL
        rw [List.map_append, List.map_append]
        rfl
      have e1 : (m : Int) - 1 - (j : Int) = ((m - 1 - j : Nat) : Int) := by omega
      obtain ⟨y, hy⟩ : ∃ y, m - 1 - j = y := ⟨_, rfl⟩
      have hym : (y : Int) ≤ 1000 := by omega
      have hjm : (j : Int) < (m : Int) := by omega
      rw [hy] at hst e1
      have HST := Lib.hid hst
      have HO1 := Lib.hid o1
      have HBW := Lib.hid hbw
      have HNEW : Hid (∀ W : World, ∀ k u, [Value.int .i64 (y : Int)][k]? = some u → (W.alloc (.cells #[.int .i64 (y : Int)] 3)).cell? ((⟨W.heap.size, 0, none⟩ : Addr).add k) = some u) := Lib.hid (fun W k u hu => by
        rw [Addr.add_mid, Nat.zero_add, (Blk.new W 3 _).cell k, List.getElem?_toArray]
        exact hu)
      clear hst o1 hbw hy
      go_wp2_with (
        at_builtin
        refine wpList_append_own _ rfl _ _ 22 rfl w1.heap.size 3 i0 (.int .i64 0) 1 8 Try.underlying22 hi hz0 hz1 hz2 rfl (by decide) _ j _ rfl (arown_stay HO1.out ((Below.refl _ wr).alloc (Nat.le_refl _) _) (fun g hg => (arown_lt HO1.out g hg).2)) ⟨wr.heap.size, 0, none⟩ 1 1 [.int .i64 (y : Int)] rfl rfl (HNEW.out wr) (by intro u hu; rw [List.mem_singleton] at hu; subst hu; rfl) (by unfold maxLen; omega) (by omega) (by have h2 := HBW.out.size; simp; omega) ?_
        intro v3 w3 hown hgrow _
        have b3 : Below w1.heap.size w1 w3 := (HBW.out.alloc HBW.out.size _).grown hgrow (by have h2 := HBW.out.size; simp; omega) (fun g e => (arown_lt HO1.out g e).1)
        have B3 := Lib.hid b3
        have O3 := Lib.hid hown
        clear hown hgrow b3)
      obtain ⟨A3, c3, rfl⟩ : ∃ A3 c3, v3 = .slice A3 (j + 1) c3 := by
        rcases O3.out.2 with ⟨_, h0⟩ | ⟨g, cap, cur, e, _⟩
        · omega
        · exact ⟨_, cap, e⟩
      refine ⟨⟨j + 1, A3, c3, by omega, by go_num, rfl, ?_, B3.out⟩, by simp [intOf]; omega⟩
      rw [HST.out]
      exact O3.out
    · obtain rfl : j = m := by omega
      have hfull : (tosR j).take j = tosR j := List.take_of_length_le (by rw [(tosR_perm j).len]; omega)
      rw [hfull] at o1
      have HC := Lib.hid (HRE.out A1 c1 wr hbw o1)
      have HBW := Lib.hid (bon HB1.out hbw)
      have HXW := Lib.hid (HX1.out.below hbw HX1.out.lt)
      clear o1 hbw hfull HRE
      rcases hE2 with rfl | hne
      · go_wp2_with (
          go_at_call 160
          refine HC.out.mono ?_
          rintro e w4 ⟨v, rfl, b4, hy, hn⟩
          have hx := HXW.out.below b4 HXW.out.lt
          obtain ⟨hok4, A4, c4, gf4, cap4, rfl, hy5⟩ := hy rfl
          have x0 := hx.cell 0
          have x1 := hx.cell 1
          have f0 := hx.frozen 0
          have f1 := hx.frozen 1
          have HX4 := Lib.hid hx
          have HB4 := Lib.hid (bon HBW.out b4)
          have HY : Hid (WayP (fun k => w.heap.size < k) w4 (.agg #[.slice A4 Y.length c4, .func (.func gf4) #[] cap4]) Y F) := Lib.hid ⟨A4, c4, gf4, cap4, rfl, hy5⟩
          have HOK4 := Lib.hid hok4
          clear hok4 hn hx b4 hy hy5)
        refine bodyPost_ret (results_way2 rfl rfl rfl (moblk_two _ _ HX4.out)) rfl ?_
        have hk := mokeep_two w4 w.heap.size (.slice A4 Y.length c4) (.func (.func gf4) #[] cap4)
        exact ⟨_, rfl, HB4.out.trans (hk.below HB4.out.size (fun i hi e => by omega)), fun h => ⟨HOK4.out, HY.out.sin (SinP.keep hk (fun i hi e => by have hi2 : w.heap.size < i := hi; omega))⟩, fun h => absurd rfl h⟩
      · have HNE := Lib.hid hne
        go_wp2_with (
          go_at_call 160
          refine HC.out.mono ?_
          rintro e w4 ⟨v, rfl, b4, hy, hn⟩
          have hx := HXW.out.below b4 HXW.out.lt
          obtain rfl := hn HNE.out
          have x0 := hx.cell 0
          have x1 := hx.cell 1
          have f0 := hx.frozen 0
          have f1 := hx.frozen 1
          have HX4 := Lib.hid hx
          have HB4 := Lib.hid (bon HBW.out b4)
          clear hn hx b4 hy)
        refine bodyPost_ret (results_way2 rfl rfl rfl (moblk_two _ _ HX4.out)) rfl ?_
        exact GiveP.no HNE.out (HB4.out.trans ((mokeep_two w4 w.heap.size (.slice none 0 0) (.nilFunc)).below HB4.out.size (fun i hi e => by omega)))

end Go.Proofs.Ytkabdkblcgklmaa.tu

namespace Go.Proofs.Ytkabdkblcgklmaa.tu
open Go.RowKit Go.Proofs.Ytkabdkblcgklmaa.arr Go.Proofs.Ytkabdkblcgklmaa.mo

set_option maxRecDepth 100000 in
set_option maxHeartbeats 4000000 in
theorem tutranspose_any (a : AV) (q : AP) (w : World) (ha : AEl w a q) :
    Calls Try.prog 53 #[.agg (arC a q)] w (GiveE (mdA a (if okShape (shO a.sh (tosR a.sh.length)) = true then 0 else 110) (shO a.sh (tosR a.sh.length)) (ordF a.sh (tosR a.sh.length))) (mdE a (if okShape (shO a.sh (tosR a.sh.length)) = true then 0 else 110) (shO a.sh (tosR a.sh.length)) (ordF a.sh (tosR a.sh.length))) w) := by
  obtain ⟨w1, hw1⟩ : ∃ w1, ((w.alloc (.cells (arC a q) 25)).alloc (.cells #[.int .i64 0, .slice none 0 0, .slice none 0 0] 25)) = w1 := ⟨_, rfl⟩
  have hsz : w1.heap.size = w.heap.size + 2 := by rw [← hw1]; simp
  have hb1 : Below w.heap.size w w1 := by
    rw [← hw1]
    exact ((Below.refl _ w).alloc (Nat.le_refl _) _).alloc (by simp) _
  have k0 : Blk w1 (w.heap.size + 0) 25 (arC a q) := by
    have h := Blk.new w 25 (arC a q)
    have h := h.alloc (.cells #[.int .i64 0, .slice none 0 0, .slice none 0 0] 25)
    rw [hw1] at h
    simpa only [World.size_alloc, Nat.add_assoc, Nat.reduceAdd, Nat.add_zero] using h
  have k1 : Blk w1 (w.heap.size + 1) 25 #[.int .i64 0, .slice none 0 0, .slice none 0 0] := by
    have h := Blk.new (w.alloc (.cells (arC a q) 25)) 25 #[.int .i64 0, .slice none 0 0, .slice none 0 0]
    rw [hw1] at h
    simpa only [World.size_alloc, Nat.add_assoc, Nat.reduceAdd, Nat.add_zero] using h
  have hAC : arC a q = #[.int .i64 a.kind, .slice q.A0 a.sh.length q.c0, .slice q.A1 a.el.length q.c1] := rfl
  have HC : Hid (Calls Try.prog 98 #[.func (.func 99) #[.slice q.A0 a.sh.length q.c0] #[], .agg (arC a q)] w1 (GiveE (mdA a (if okShape (shO a.sh (tosR a.sh.length)) = true then 0 else 110) (shO a.sh (tosR a.sh.length)) (ordF a.sh (tosR a.sh.length))) (mdE a (if okShape (shO a.sh (tosR a.sh.length)) = true then 0 else 110) (shO a.sh (tosR a.sh.length)) (ordF a.sh (tosR a.sh.length))) w1)) := Lib.hid (tuturned_any 99 #[.slice q.A0 a.sh.length q.c0] #[] (enters_of Try.func99 (by kernel_rfl) rfl) (if okShape (shO a.sh (tosR a.sh.length)) = true then 0 else 110) (shO a.sh (tosR a.sh.length)) (ordF a.sh (tosR a.sh.length)) a q w1 (ha.below hb1) (fun hok W hb => (tutransposed_any q.A0 q.c0 a.sh W ((ha.below (bon hb1 hb)).r0) (by have := (okA_len hok).2; omega)).mono (fun e w' h => h.way (fun k hk => by have hk2 : W.heap.size < k := hk; omega) (Nat.le_refl _))))
  have HX1 := Lib.hid k1
  have HB1 := Lib.hid hb1
  have HSZ := Lib.hid hsz
  obtain ⟨E, hE⟩ : ∃ E : Int, (mdE a (if okShape (shO a.sh (tosR a.sh.length)) = true then 0 else 110) (shO a.sh (tosR a.sh.length)) (ordF a.sh (tosR a.sh.length))) = E := ⟨_, rfl⟩
  obtain ⟨X, hX⟩ : ∃ X : AV, (mdA a (if okShape (shO a.sh (tosR a.sh.length)) = true then 0 else 110) (shO a.sh (tosR a.sh.length)) (ordF a.sh (tosR a.sh.length))) = X := ⟨_, rfl⟩
  rw [hE, hX] at HC
  rw [hE, hX]
  have HPC : Hid (∀ p, arC X p = #[.int .i64 X.kind, .slice p.A0 X.sh.length p.c0, .slice p.A1 X.el.length p.c1]) := Lib.hid (fun p => rfl)
  rw [hAC] at HC hw1 k0
  rw [hAC]
  have z0 := k0.cell 0
  have z1 := k0.cell 1
  have z2 := k0.cell 2
  rw [Nat.add_zero] at z0 z1 z2
  clear hE hX hb1 hsz k1 ha k0 hAC
  go_enter Try.func53, Try.ntmps53
  go_wp2_with (
    go_at_call 98
    (try rw [hw1])
    refine HC.out.mono ?_
    rintro e w4 ⟨r, rfl, o4, b4⟩
    rw [HPC.out r]
    have hx := HX1.out.below b4 HX1.out.lt
    have r0 := hx.cell 0
    have r1 := hx.cell 1
    have r2 := hx.cell 2
    have f0 := hx.frozen 0
    have f1 := hx.frozen 1
    have f2 := hx.frozen 2
    have HX4 := Lib.hid hx
    have HFN := Lib.hid (tu_fin (g := w.heap.size + 1) HB1.out (by omega) (by have := HX1.out.lt; omega) b4 o4)
    clear hx o4 b4)
  refine bodyPost_ret (results_arr2 rfl rfl rfl (arblk_three _ _ _ HX4.out)) rfl ?_
  exact ⟨r, rfl, HFN.out⟩
end Go.Proofs.Ytkabdkblcgklmaa.tu

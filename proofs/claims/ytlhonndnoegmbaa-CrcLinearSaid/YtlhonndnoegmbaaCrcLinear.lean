/-
  The statement CrcLinear is proved: sums of as many bytes go with bits: the sum of three byte slices laid over one another, cut to the shortest, is that of the three sums; for any three byte slices, without a condition.
-/
import Derived.Test.YtlhonndnoegmbaaCrcSeals
import Derived.Test.YtlhonndnoegmbaaCrcB
import Derived.Test.YtlhonndnoegmbaaDone
namespace Go.Proofs.Ytlhonndnoegmbaa.crcLinear
open Go.ChangeShapes Go.WideShapes Go.ChangeAt Go.RowKit Go.Proofs.Ytlhonndnoegmbaa.crc Go.Proofs.Ytlhonndnoegmbaa.crcJoins

/-- The less of two. -/
theorem run_min (n m r : Nat) (hr : min n m = r) (ts : Array TypeId) (t : TypeId) (w : World) : (Builtin.min_ ts t #[.int .i64 n, .int .i64 m]).run Try.prog w = .ok (.int .i64 (r : Int)) w := by
  have hm : (if (m : Int) < (n : Int) then (m : Int) else (n : Int)) = (r : Int) := by
    subst hr
    split <;> omega
  rw [run_min_int2, hm]

section
variable (A1 A2 A3 : Option Addr) (c1 c2 c3 : Nat) (w : World)

set_option maxRecDepth 100000 in
set_option maxHeartbeats 1000000 in
theorem walk_big (n1 n2 n3 m N : Nat) (hm : min n2 n3 = m) (hN : min n1 m = N) (h1 : 3000 < N) :
    Calls Try.prog 7 #[.slice A1 n1 c1, .slice A2 n2 c2, .slice A3 n3 c3] w fun e w' => e = .returned (.bool true) ∧ Below w.heap.size w w' := by
  have hq1 := run_min n2 n3 m hm
  have hq2 := run_min n1 m N hN
  clear hm hN
  go_enter Try.func7, Try.ntmps7
  go_wp2_with (go_at_call 15; with_reducible refine (calive_any _).mono ?_; rintro e w1 ⟨rfl, hb⟩)
  go_ret
  exact ⟨rfl, hb⟩

theorem bitsOf_xor (x y k : Nat) : bitsOf (x ^^^ y) k = List.zipWith Bool.xor (bitsOf x k) (bitsOf y k) := by
  apply List.ext_getElem?
  intro i
  rw [List.getElem?_zipWith, bitsOf_at, bitsOf_at, bitsOf_at]
  by_cases h : i < k
  · rw [if_pos h, if_pos h, if_pos h]; simp [Nat.testBit_xor]
  · rw [if_neg h, if_neg h, if_neg h]
theorem bitsB_xor : ∀ (l m : List UInt8), l.length = m.length → bitsB (List.zipWith (· ^^^ ·) l m) = List.zipWith Bool.xor (bitsB l) (bitsB m)
  | [], [], _ => rfl
  | x :: l, y :: m, h => by
    show bitsOf (x ^^^ y).toNat 8 ++ bitsB (List.zipWith (· ^^^ ·) l m) = List.zipWith Bool.xor (bitsOf x.toNat 8 ++ bitsB l) (bitsOf y.toNat 8 ++ bitsB m)
    rw [List.zipWith_append (by rw [bitsOf_length, bitsOf_length]), bitsB_xor l m (by simpa using h), UInt8.toNat_xor, bitsOf_xor]
  | [], _ :: _, h => by simp at h
  | _ :: _, [], h => by simp at h

/-- Three laid over one another. -/
def mix (a b c : List UInt8) : List UInt8 := List.zipWith (· ^^^ ·) (List.zipWith (· ^^^ ·) a b) c
theorem mix_length {a b c : List UInt8} {N : Nat} (ha : a.length = N) (hb : b.length = N) (hc : c.length = N) : (mix a b c).length = N := by
  unfold mix
  rw [List.length_zipWith, List.length_zipWith]
  omega
theorem sum_mix {a b c : List UInt8} {N : Nat} (ha : a.length = N) (hb : b.length = N) (hc : c.length = N) : sum (bitsB (mix a b c)) = sum (bitsB a) ^^^ sum (bitsB b) ^^^ sum (bitsB c) := by
  unfold mix
  rw [bitsB_xor _ _ (by rw [List.length_zipWith]; omega), bitsB_xor _ _ (by omega), sum_linear _ _ _ (by rw [bitsB_length, bitsB_length]; omega) (by rw [bitsB_length, bitsB_length]; omega)]
theorem mix_at {a b c : List UInt8} {k : Nat} {x y z : UInt8} (ha : a[k]? = some x) (hb : b[k]? = some y) (hc : c[k]? = some z) : (mix a b c)[k]? = some (x ^^^ y ^^^ z) := by
  unfold mix
  rw [List.getElem?_zipWith, List.getElem?_zipWith, ha, hb, hc]
theorem map_bv {l : List UInt8} {k : Nat} {u : Value} (h : (l.map bv)[k]? = some u) : ∃ x, l[k]? = some x ∧ u = .int .u8 ((x.toNat : Nat) : Int) := by
  rw [List.getElem?_map] at h
  cases hx : l[k]? with
  | none => rw [hx] at h; cases h
  | some x =>
    rw [hx] at h
    exact ⟨x, rfl, by injection h with h; rw [← h]; rfl⟩

set_option maxRecDepth 100000 in
set_option maxHeartbeats 4000000 in
theorem walk_small (l1 l2 l3 : List UInt8) (a1 : Arg w A1 c1 l1) (a2 : Arg w A2 c2 l2) (a3 : Arg w A3 c3 l3) (m N : Nat) (hm : min l2.length l3.length = m) (hN : min l1.length m = N) (hn : N ≤ 3000) :
    Calls Try.prog 7 #[.slice A1 l1.length c1, .slice A2 l2.length c2, .slice A3 l3.length c3] w fun e w' => e = .returned (.bool true) ∧ Below w.heap.size w w' := by
  obtain ⟨i0, hi, hz0, hz1, hz2⟩ := info_parts infoU8
  have hq1 := run_min l2.length l3.length m hm
  have hq2 := run_min l1.length m N hN
  have hl1 : (l1.take N).length = N := by rw [List.length_take]; omega
  have hl2 : (l2.take N).length = N := by rw [List.length_take]; omega
  have hl3 : (l3.take N).length = N := by rw [List.length_take]; omega
  have hml := mix_length hl1 hl2 hl3
  have hsum := sum_mix hl1 hl2 hl3
  have g1 : N ≤ l1.length := by omega
  have g2 : N ≤ l2.length := by omega
  have g3 : N ≤ l3.length := by omega
  have HML := Lib.hid hml
  have hat : ∀ (k : Nat) (x y z : UInt8), k < N → l1[k]? = some x → l2[k]? = some y → l3[k]? = some z → (mix (l1.take N) (l2.take N) (l3.take N))[k]? = some (x ^^^ y ^^^ z) := fun k x y z hk h1 h2 h3 =>
    mix_at (by rw [List.getElem?_take_of_lt hk]; exact h1) (by rw [List.getElem?_take_of_lt hk]; exact h2) (by rw [List.getElem?_take_of_lt hk]; exact h3)
  have HAT := Lib.hid hat
  clear hat
  have HC1 := Lib.hid (Nat.le_trans g1 a1.cap)
  have HC2 := Lib.hid (Nat.le_trans g2 a2.cap)
  have HC3 := Lib.hid (Nat.le_trans g3 a3.cap)
  have G1 := Lib.hid g1
  have G2 := Lib.hid g2
  have G3 := Lib.hid g3
  have o1 := fun W (hb : Below w.heap.size w W) => cof_cut A1 c1 (l1.take N) N W (((a1.reads.front g1).below hb).more hb.size) hl1 (by omega)
  have o2 := fun W (hb : Below w.heap.size w W) => cof_cut A2 c2 (l2.take N) N W (((a2.reads.front g2).below hb).more hb.size) hl2 (by omega)
  have o3 := fun W (hb : Below w.heap.size w W) => cof_cut A3 c3 (l3.take N) N W (((a3.reads.front g3).below hb).more hb.size) hl3 (by omega)
  have o0 := fun W A c h => cof_cut A c (mix (l1.take N) (l2.take N) (l3.take N)) N W h hml (by omega)
  have HL1 := Lib.hid hl1
  have HL2 := Lib.hid hl2
  have HL3 := Lib.hid hl3
  generalize sum (bitsB (mix (l1.take N) (l2.take N) (l3.take N))) = s0 at *
  generalize sum (bitsB (l1.take N)) = s1 at *
  generalize sum (bitsB (l2.take N)) = s2 at *
  generalize sum (bitsB (l3.take N)) = s3 at *
  generalize mix (l1.take N) (l2.take N) (l3.take N) = mx at *
  have hx12 := u32_xor_nat s1.toNat s2.toNat s1.isLt s2.isLt
  have hx123 := u32_xor_nat (s1 ^^^ s2).toNat s3.toNat (s1 ^^^ s2).isLt s3.isLt
  rw [← BitVec.toNat_xor] at hx12 hx123
  rw [← hsum] at hx123
  clear hsum
  generalize s1 ^^^ s2 = s12 at hx12 hx123
  have HX12 := Lib.hid hx12
  have HX123 := Lib.hid hx123
  unfold rv at o1 o2 o3 o0
  have O0 := Lib.hid o0
  have O1 := Lib.hid o1
  have O2 := Lib.hid o2
  have O3 := Lib.hid o3
  have R1 := Lib.hid a1.reads
  have R2 := Lib.hid a2.reads
  have R3 := Lib.hid a3.reads
  clear o0 o1 o2 o3 hx12 hx123 hml hl1 hl2 hl3 g1 g2 g3 a1 a2 a3 hm hN
  go_enter Try.func7, Try.ntmps7
  go_wp2_with (go_at_call 15; with_reducible refine (calive_any _).mono ?_; rintro e w1 ⟨rfl, hb⟩; have HB1 := Lib.hid hb; clear hb)
  go_loopw [9, 10] (fun all i wr => ∃ k AV cV, k ≤ N ∧ i = .int .i64 ((k : Nat) : Int) ∧ all = .slice AV k cV ∧ wr.ownsRow w.heap.size 5 1 (.slice AV k cV) k ((mx.take k).map bv) ∧ Below w.heap.size w wr) (fun _ i _ => N - (intOf i).toNat)
  case atStart => exact ⟨0, none, 0, Nat.zero_le _, rfl, rfl, World.ownsRow_nil _ _ _ _, HB1.out⟩
  case round =>
    obtain ⟨k, AV, cV, hk, rfl, rfl, hown, hB⟩ := hrel
    by_cases hlt : k < N
    · obtain ⟨ad1, u1, rfl, hb1, hu1, hc1⟩ := (R1.out.below hB).at_ (k := k) (by have := G1.out; omega)
      obtain ⟨ad2, u2, rfl, hb2, hu2, hc2⟩ := (R2.out.below hB).at_ (k := k) (by have := G2.out; omega)
      obtain ⟨ad3, u3, rfl, hb3, hu3, hc3⟩ := (R3.out.below hB).at_ (k := k) (by have := G3.out; omega)
      obtain ⟨x, hx, rfl⟩ := map_bv hu1
      obtain ⟨y, hy, rfl⟩ := map_bv hu2
      obtain ⟨z, hz, rfl⟩ := map_bv hu3
      have hmx := HAT.out k x y z hlt hx hy hz
      have htk : mx.take (k + 1) = mx.take k ++ [x ^^^ y ^^^ z] := by
        have hkl : k < mx.length := by have := HML.out; omega
        rw [List.take_succ_eq_append_getElem hkl]
        have : mx[k]? = some mx[k] := List.getElem?_eq_getElem hkl
        rw [hmx] at this
        injection this with this
        rw [← this]
      have hnew : ((mx.take (k + 1)).map bv) = (mx.take k).map bv ++ [.int .u8 ((x.toNat ^^^ y.toNat ^^^ z.toNat : Nat) : Int)] := by
        rw [htk, List.map_append]
        congr 1
      have hx8 := x.toNat_lt
      have hy8 := y.toNat_lt
      have hz8 := z.toNat_lt
      generalize x.toNat = x at *
      generalize y.toNat = y at *
      generalize z.toNat = z at *
      have hxy := u8_xor_nat x y hx8 hy8
      have hxy8 : x ^^^ y < 256 := Nat.xor_lt_two_pow (n := 8) hx8 hy8
      have hxyz := u8_xor_nat (x ^^^ y) z hxy8 hz8
      have hp1 : (ad1.add k).block < w.heap.size := by rw [block_of_add]; exact hb1
      have cx : ∀ w', Below w.heap.size w w' → w'.cell? (ad1.add k) = some (.int .u8 (x : Int)) := fun w' h => ((h.cell hp1).trans (hB.cell hp1).symm).trans hc1
      have hp2 : (ad2.add k).block < w.heap.size := by rw [block_of_add]; exact hb2
      have cy : ∀ w', Below w.heap.size w w' → w'.cell? (ad2.add k) = some (.int .u8 (y : Int)) := fun w' h => ((h.cell hp2).trans (hB.cell hp2).symm).trans hc2
      have hp3 : (ad3.add k).block < w.heap.size := by rw [block_of_add]; exact hb3
      have cz : ∀ w', Below w.heap.size w w' → w'.cell? (ad3.add k) = some (.int .u8 (z : Int)) := fun w' h => ((h.cell hp3).trans (hB.cell hp3).symm).trans hc3
      have CX := Lib.hid cx
      have CY := Lib.hid cy
      have CZ := Lib.hid cz
      have HXY := Lib.hid hxy
      have HXYZ := Lib.hid hxyz
      have HNEW := Lib.hid hnew
      have HO := Lib.hid hown
      have HB := Lib.hid hB
      have hk1 : k < l1.length := by have := G1.out; omega
      have hk2 : k < l2.length := by have := G2.out; omega
      have hk3 : k < l3.length := by have := G3.out; omega
      clear cx cy cz hxy hxyz hnew hown hB hmx htk hx hy hz hp1 hp2 hp3 hc1 hc2 hc3 hu1 hu2 hu3
      go_wp2
      generalize (mx.take k).map bv = xs at *
      have HM : ∀ {i : Nat} (done : Nat → Bool) (w' : World), (Below w.heap.size w w' ∧ (done 16 = false → w'.ownsRow w.heap.size 5 1 (.slice AV k cV) k xs)) → (Below w.heap.size w w' ∧ (upd done i 16 = false → w'.ownsRow w.heap.size 5 1 (.slice AV k cV) k xs)) := fun done w' h => ⟨h.1, fun e => h.2 (upd_false e)⟩
      refine wp_region_done_on (fun done w' => Below w.heap.size w w' ∧ (done 16 = false → w'.ownsRow w.heap.size 5 1 (.slice AV k cV) k xs)) (fun _ i v w' => match i with | 15 => ∃ g, v = .slice (some ⟨g, 0, none⟩) 1 1 ∧ w'.cell? ⟨g, 0, none⟩ = some (.int .u8 ((x ^^^ y ^^^ z : Nat) : Int)) ∧ g < w'.heap.size ∧ (∀ kk, (Value.slice AV k cV).ownBlock = some kk → kk ≠ g) | 16 => ∃ A' c', v = .slice A' (k + 1) c' ∧ w'.ownsRow w.heap.size 5 1 (.slice A' (k + 1) c') (k + 1) (xs ++ [.int .u8 ((x ^^^ y ^^^ z : Nat) : Int)]) | 17 => ∃ A' c', v = .slice A' (k + 1) c' ∧ w'.ownsRow w.heap.size 5 1 (.slice A' (k + 1) c') (k + 1) (xs ++ [.int .u8 ((x ^^^ y ^^^ z : Nat) : Int)]) | i => v = ([.slice AV k cV, .slice (some ad1) l1.length c1, .int .i64 k, .pointer (some (ad1.add k)), .int .u8 x, .slice (some ad2) l2.length c2, .int .i64 k, .pointer (some (ad2.add k)), .int .u8 y, .int .u8 ((x ^^^ y : Nat) : Int), .slice (some ad3) l3.length c3, .int .i64 k, .pointer (some (ad3.add k)), .int .u8 z, .int .u8 ((x ^^^ y ^^^ z : Nat) : Int), undef, undef, undef] : List Value).getD i undef) (by kernel_rfl) 69 rfl (by kernel_rfl) ⟨HB.out.drew, fun _ => HO.out⟩ ?_ ?_
      · intro i hi
        have hi2 : i < 18 := hi
        clear hi
        rcases i with _ | i
        · refine done_value HM (fun _ _ _ _ h => h) (.slice AV k cV) rfl ?_
          intro dn a8 w8 hS ho hn
          have o9 : a8.tmps[9]? = some _ := (ho 9 (by kernel_rfl)).trans rfl
          clear ho hn
          refine ⟨wanted_free rfl, ?_, rfl⟩
          go_simp
        rcases i with _ | i
        · refine done_value HM (fun _ _ _ _ h => h) (.slice (some ad1) l1.length c1) rfl ?_
          intro dn a8 w8 hS ho hn
          have o0 : a8.tmps[0]? = some _ := (ho 0 (by kernel_rfl)).trans rfl
          clear ho hn
          refine ⟨wanted_free rfl, ?_, rfl⟩
          go_simp
        rcases i with _ | i
        · refine done_value HM (fun _ _ _ _ h => h) (.int .i64 k) rfl ?_
          intro dn a8 w8 hS ho hn
          have o10 : a8.tmps[10]? = some _ := (ho 10 (by kernel_rfl)).trans rfl
          clear ho hn
          refine ⟨wanted_free rfl, ?_, rfl⟩
          go_simp
        rcases i with _ | i
        · refine done_value HM (fun _ _ _ _ h => h) (.pointer (some (ad1.add k))) rfl ?_
          intro dn a8 w8 hS ho hn
          obtain ⟨_, n33, rfl⟩ := hn 1 33 (by kernel_rfl) rfl
          obtain ⟨_, n34, rfl⟩ := hn 2 34 (by kernel_rfl) rfl
          clear ho hn
          refine ⟨wanted_free rfl, ?_, rfl⟩
          go_simp
        rcases i with _ | i
        · refine done_value HM (fun _ _ _ _ h => h) (.int .u8 x) rfl ?_
          intro dn a8 w8 hS ho hn
          obtain ⟨_, n35, rfl⟩ := hn 3 35 (by kernel_rfl) rfl
          clear ho hn
          refine ⟨wanted_free rfl, ?_, rfl⟩
          have cx := CX.out w8 hS.1
          go_simp
        rcases i with _ | i
        · refine done_value HM (fun _ _ _ _ h => h) (.slice (some ad2) l2.length c2) rfl ?_
          intro dn a8 w8 hS ho hn
          have o1 : a8.tmps[1]? = some _ := (ho 1 (by kernel_rfl)).trans rfl
          clear ho hn
          refine ⟨wanted_free rfl, ?_, rfl⟩
          go_simp
        rcases i with _ | i
        · refine done_value HM (fun _ _ _ _ h => h) (.int .i64 k) rfl ?_
          intro dn a8 w8 hS ho hn
          have o10 : a8.tmps[10]? = some _ := (ho 10 (by kernel_rfl)).trans rfl
          clear ho hn
          refine ⟨wanted_free rfl, ?_, rfl⟩
          go_simp
        rcases i with _ | i
        · refine done_value HM (fun _ _ _ _ h => h) (.pointer (some (ad2.add k))) rfl ?_
          intro dn a8 w8 hS ho hn
          obtain ⟨_, n37, rfl⟩ := hn 5 37 (by kernel_rfl) rfl
          obtain ⟨_, n38, rfl⟩ := hn 6 38 (by kernel_rfl) rfl
          clear ho hn
          refine ⟨wanted_free rfl, ?_, rfl⟩
          go_simp
        rcases i with _ | i
        · refine done_value HM (fun _ _ _ _ h => h) (.int .u8 y) rfl ?_
          intro dn a8 w8 hS ho hn
          obtain ⟨_, n39, rfl⟩ := hn 7 39 (by kernel_rfl) rfl
          clear ho hn
          refine ⟨wanted_free rfl, ?_, rfl⟩
          have cy := CY.out w8 hS.1
          go_simp
        rcases i with _ | i
        · refine done_value HM (fun _ _ _ _ h => h) (.int .u8 ((x ^^^ y : Nat) : Int)) rfl ?_
          intro dn a8 w8 hS ho hn
          obtain ⟨_, n36, rfl⟩ := hn 4 36 (by kernel_rfl) rfl
          obtain ⟨_, n40, rfl⟩ := hn 8 40 (by kernel_rfl) rfl
          clear ho hn
          refine ⟨wanted_free rfl, ?_, rfl⟩
          have hxy := HXY.out
          go_simp
        rcases i with _ | i
        · refine done_value HM (fun _ _ _ _ h => h) (.slice (some ad3) l3.length c3) rfl ?_
          intro dn a8 w8 hS ho hn
          have o2 : a8.tmps[2]? = some _ := (ho 2 (by kernel_rfl)).trans rfl
          clear ho hn
          refine ⟨wanted_free rfl, ?_, rfl⟩
          go_simp
        rcases i with _ | i
        · refine done_value HM (fun _ _ _ _ h => h) (.int .i64 k) rfl ?_
          intro dn a8 w8 hS ho hn
          have o10 : a8.tmps[10]? = some _ := (ho 10 (by kernel_rfl)).trans rfl
          clear ho hn
          refine ⟨wanted_free rfl, ?_, rfl⟩
          go_simp
        rcases i with _ | i
        · refine done_value HM (fun _ _ _ _ h => h) (.pointer (some (ad3.add k))) rfl ?_
          intro dn a8 w8 hS ho hn
          obtain ⟨_, n42, rfl⟩ := hn 10 42 (by kernel_rfl) rfl
          obtain ⟨_, n43, rfl⟩ := hn 11 43 (by kernel_rfl) rfl
          clear ho hn
          refine ⟨wanted_free rfl, ?_, rfl⟩
          go_simp
        rcases i with _ | i
        · refine done_value HM (fun _ _ _ _ h => h) (.int .u8 z) rfl ?_
          intro dn a8 w8 hS ho hn
          obtain ⟨_, n44, rfl⟩ := hn 12 44 (by kernel_rfl) rfl
          clear ho hn
          refine ⟨wanted_free rfl, ?_, rfl⟩
          have cz := CZ.out w8 hS.1
          go_simp
        rcases i with _ | i
        · refine done_value HM (fun _ _ _ _ h => h) (.int .u8 ((x ^^^ y ^^^ z : Nat) : Int)) rfl ?_
          intro dn a8 w8 hS ho hn
          obtain ⟨_, n41, rfl⟩ := hn 9 41 (by kernel_rfl) rfl
          obtain ⟨_, n45, rfl⟩ := hn 13 45 (by kernel_rfl) rfl
          clear ho hn
          refine ⟨wanted_free rfl, ?_, rfl⟩
          have hxyz := HXYZ.out
          go_simp
        rcases i with _ | i
        · refine done_make rfl ?_
          intro dn a8 w8 hS hd hx ho hn
          obtain ⟨_, n46, rfl⟩ := hn 14 46 (by kernel_rfl) rfl
          clear ho hn
          refine ⟨wanted_free rfl, ?_⟩
          refine ⟨.slice (some ⟨w8.heap.size, 0, none⟩) 1 1, w8.alloc (.cells #[.int .u8 ((x ^^^ y ^^^ z : Nat) : Int)] 5), by go_simp, ⟨hS.1.alloc hS.1.size _, fun h => (hS.2 (upd_false h)).alloc _⟩, ⟨w8.heap.size, rfl, by simp, by simp, fun kk e => by have := ((hS.2 (hx 16 (by kernel_rfl))).lt kk e).2; omega⟩, fun j u hj hdj hR => by rcases j with _ | _ | _ | _ | _ | _ | _ | _ | _ | _ | _ | _ | _ | _ | _ | _ | _ | _ | j <;> first | exact absurd rfl hj | exact hR | exact absurd (hdj.symm.trans (hx _ (by kernel_rfl))) (by decide)⟩
        rcases i with _ | i
        · refine done_make rfl ?_
          intro dn a8 w8 hS hd hx ho hn
          obtain ⟨_, n32, rfl⟩ := hn 0 32 (by kernel_rfl) rfl
          obtain ⟨_, n47, hR47⟩ := hn 15 47 (by kernel_rfl) rfl
          clear ho hn
          refine ⟨wanted_free rfl, ?_⟩
          obtain ⟨g, rfl, hg1, hg2, hg3⟩ := hR47
          obtain ⟨v', w', hrun, h2, h3, _⟩ := run_append_any (P := Try.prog) w8 w.heap.size 22 22 5 i0 (.int .u8 0) 1 1 Try.underlying22 hi hz0 hz1 hz2 rfl (by decide) (.slice AV k cV) k xs (hS.2 hd) w8.heap.size (some ⟨g, 0, none⟩) 1 1 [.int .u8 ((x ^^^ y ^^^ z : Nat) : Int)] ⟨rfl, fun _ => ⟨_, rfl, hg2, fun j u hu => by rcases j with _ | j; · { simp at hu; subst hu; exact hg1 }; · simp at hu⟩⟩ (by simp [Value.oneCell']) (by unfold maxLen; omega) (by omega) hS.1.size
          obtain ⟨A', c', rfl⟩ := own_slice h2
          refine ⟨.slice A' (k + 1) c', w', exec_append _ _ 22 rfl (eval_of n32) (eval_of n47) hrun, ⟨hS.1.grown h3 hS.1.size (fun kk e => ((hS.2 hd).lt kk e).1), fun h => absurd h (by rw [upd_self]; decide)⟩, ⟨A', c', rfl, h2⟩, fun j u hj hdj hR => by rcases j with _ | _ | _ | _ | _ | _ | _ | _ | _ | _ | _ | _ | _ | _ | _ | _ | _ | _ | j <;> first | exact absurd rfl hj | exact hR | exact (by obtain ⟨g0, rfl, q1, q2, q3⟩ := hR; exact ⟨g0, rfl, (World.cell?_of_block (a := ⟨g0, 0, none⟩) (h3.block g0 q2 (fun e => q3 g0 e.symm rfl))).trans q1, Nat.lt_of_lt_of_le q2 h3.size, q3⟩) | exact absurd (hdj.symm.trans (hx _ (by kernel_rfl))) (by decide)⟩
        rcases i with _ | i
        · refine done_make rfl ?_
          intro dn a8 w8 hS hd hx ho hn
          obtain ⟨_, n48, hR48⟩ := hn 16 48 (by kernel_rfl) rfl
          clear ho hn
          refine ⟨wanted_free rfl, ?_⟩
          obtain ⟨A', c', rfl, h2⟩ := hR48
          exact ⟨_, w8, by go_simp, HM _ _ hS, ⟨A', c', rfl, h2⟩, fun j u hj hdj hR => hR⟩
        omega
      · intro done f w8 hS hR _
        obtain ⟨A', c', e9, h9⟩ := hR 17 9 rfl
        have hB8 := hS.1
        clear hR hS
        simp only [putAll, List.foldl_cons, List.foldl_nil, Act.put, List.setIfInBounds_toArray, List.set_cons_succ, List.set_cons_zero]
        rw [e9]
        rw [← HNEW.out] at h9
        have H9 := Lib.hid h9
        have HB8 := Lib.hid hB8
        clear h9 hB8 e9
        go_wp2
        exact ⟨⟨k + 1, A', c', by omega, by go_num, by go_num, H9.out, HB8.out⟩, by simp [intOf]; omega⟩
    · obtain rfl : k = N := by omega
      rw [List.take_of_length_le (by have := HML.out; omega)] at hown
      have hrd := Reads.of_own hown
      have ho0 : ∀ w', Below wr.heap.size wr w' → Calls Try.prog 13 #[.slice AV k cV] w' fun e w9 => e = .returned (.int .u32 (s0.toNat : Int)) ∧ Below w'.heap.size w' w9 := fun w' h => O0.out w' AV cV ((hrd.below h).more h.size)
      have HO0 := Lib.hid ho0
      have HO1 := Lib.hid (fun w' (h : Below wr.heap.size wr w') => O1.out w' (hB.trans (h.mono hB.size)))
      have HO2 := Lib.hid (fun w' (h : Below wr.heap.size wr w') => O2.out w' (hB.trans (h.mono hB.size)))
      have HO3 := Lib.hid (fun w' (h : Below wr.heap.size wr w') => O3.out w' (hB.trans (h.mono hB.size)))
      have HB := Lib.hid hB
      clear hB hown hrd ho0
      go_wp2
      refine wp_region_steps_on (fun w' => Below wr.heap.size wr w') (fun i v _ => v = ([.bool true, .bool true, .slice AV k cV, .int .u32 (s0.toNat : Int), .slice A1 l1.length c1, .int .i64 k, .slice A1 k c1, .int .u32 (s1.toNat : Int), .slice A2 l2.length c2, .int .i64 k, .slice A2 k c2, .int .u32 (s2.toNat : Int), .int .u32 (s12.toNat : Int), .slice A3 l3.length c3, .int .i64 k, .slice A3 k c3, .int .u32 (s3.toNat : Int), .int .u32 (s0.toNat : Int), .bool true, .bool true, .bool true] : List Value).getD i undef) (by kernel_rfl) 69 rfl (by kernel_rfl) (Below.refl _ _).drew ?_ ?_
      · intro i hi
        have hi2 : i < 21 := hi
        clear hi
        rcases i with _ | i
        · refine step_value (.bool true) rfl ?_
          intro a8 w8 hS ho hn
          have o7 : a8.tmps[7]? = some _ := (ho 7 (by kernel_rfl)).trans rfl
          clear ho hn
          refine ⟨wanted_free rfl, ?_, rfl⟩
          go_simp
        rcases i with _ | i
        · refine step_value (.bool true) rfl ?_
          intro a8 w8 hS ho hn
          obtain ⟨_, n49, rfl⟩ := hn 0 49 (by kernel_rfl) rfl
          clear ho hn
          refine ⟨wanted_free rfl, ?_, rfl⟩
          go_simp
        rcases i with _ | i
        · refine step_value (.slice AV k cV) rfl ?_
          intro a8 w8 hS ho hn
          have o9 : a8.tmps[9]? = some _ := (ho 9 (by kernel_rfl)).trans rfl
          obtain ⟨_, n50, rfl⟩ := hn 1 50 (by kernel_rfl) rfl
          clear ho hn
          refine ⟨wanted_of 1 50 rfl rfl n50, ?_, rfl⟩
          go_simp
        rcases i with _ | i
        · refine step_call 13 #[.slice AV k cV] rfl ?_
          intro a8 w8 hS ho hn
          obtain ⟨_, n51, rfl⟩ := hn 2 51 (by kernel_rfl) rfl
          obtain ⟨_, n50, rfl⟩ := hn 1 50 (by kernel_rfl) rfl
          clear ho hn
          refine ⟨wanted_of 1 50 rfl rfl n50, by go_simp, ?_⟩
          refine (HO0.out w8 hS).mono ?_
          rintro e w9 ⟨rfl, hb⟩
          exact ⟨_, rfl, hS.trans (hb.mono hS.size), rfl, fun _ _ _ h => h⟩
        rcases i with _ | i
        · refine step_value (.slice A1 l1.length c1) rfl ?_
          intro a8 w8 hS ho hn
          have o0 : a8.tmps[0]? = some _ := (ho 0 (by kernel_rfl)).trans rfl
          obtain ⟨_, n50, rfl⟩ := hn 1 50 (by kernel_rfl) rfl
          clear ho hn
          refine ⟨wanted_of 1 50 rfl rfl n50, ?_, rfl⟩
          go_simp
        rcases i with _ | i
        · refine step_value (.int .i64 k) rfl ?_
          intro a8 w8 hS ho hn
          have o8 : a8.tmps[8]? = some _ := (ho 8 (by kernel_rfl)).trans rfl
          obtain ⟨_, n50, rfl⟩ := hn 1 50 (by kernel_rfl) rfl
          clear ho hn
          refine ⟨wanted_of 1 50 rfl rfl n50, ?_, rfl⟩
          go_simp
        rcases i with _ | i
        · refine step_value (.slice A1 k c1) rfl ?_
          intro a8 w8 hS ho hn
          obtain ⟨_, n53, rfl⟩ := hn 4 53 (by kernel_rfl) rfl
          obtain ⟨_, n54, rfl⟩ := hn 5 54 (by kernel_rfl) rfl
          obtain ⟨_, n50, rfl⟩ := hn 1 50 (by kernel_rfl) rfl
          clear ho hn
          refine ⟨wanted_of 1 50 rfl rfl n50, ?_, rfl⟩
          have hc := HC1.out
          go_simp
        rcases i with _ | i
        · refine step_call 13 #[.slice A1 k c1] rfl ?_
          intro a8 w8 hS ho hn
          obtain ⟨_, n55, rfl⟩ := hn 6 55 (by kernel_rfl) rfl
          obtain ⟨_, n50, rfl⟩ := hn 1 50 (by kernel_rfl) rfl
          clear ho hn
          refine ⟨wanted_of 1 50 rfl rfl n50, by go_simp, ?_⟩
          refine (HO1.out w8 hS).mono ?_
          rintro e w9 ⟨rfl, hb⟩
          exact ⟨_, rfl, hS.trans (hb.mono hS.size), rfl, fun _ _ _ h => h⟩
        rcases i with _ | i
        · refine step_value (.slice A2 l2.length c2) rfl ?_
          intro a8 w8 hS ho hn
          have o1 : a8.tmps[1]? = some _ := (ho 1 (by kernel_rfl)).trans rfl
          obtain ⟨_, n50, rfl⟩ := hn 1 50 (by kernel_rfl) rfl
          clear ho hn
          refine ⟨wanted_of 1 50 rfl rfl n50, ?_, rfl⟩
          go_simp
        rcases i with _ | i
        · refine step_value (.int .i64 k) rfl ?_
          intro a8 w8 hS ho hn
          have o8 : a8.tmps[8]? = some _ := (ho 8 (by kernel_rfl)).trans rfl
          obtain ⟨_, n50, rfl⟩ := hn 1 50 (by kernel_rfl) rfl
          clear ho hn
          refine ⟨wanted_of 1 50 rfl rfl n50, ?_, rfl⟩
          go_simp
        rcases i with _ | i
        · refine step_value (.slice A2 k c2) rfl ?_
          intro a8 w8 hS ho hn
          obtain ⟨_, n57, rfl⟩ := hn 8 57 (by kernel_rfl) rfl
          obtain ⟨_, n58, rfl⟩ := hn 9 58 (by kernel_rfl) rfl
          obtain ⟨_, n50, rfl⟩ := hn 1 50 (by kernel_rfl) rfl
          clear ho hn
          refine ⟨wanted_of 1 50 rfl rfl n50, ?_, rfl⟩
          have hc := HC2.out
          go_simp
        rcases i with _ | i
        · refine step_call 13 #[.slice A2 k c2] rfl ?_
          intro a8 w8 hS ho hn
          obtain ⟨_, n59, rfl⟩ := hn 10 59 (by kernel_rfl) rfl
          obtain ⟨_, n50, rfl⟩ := hn 1 50 (by kernel_rfl) rfl
          clear ho hn
          refine ⟨wanted_of 1 50 rfl rfl n50, by go_simp, ?_⟩
          refine (HO2.out w8 hS).mono ?_
          rintro e w9 ⟨rfl, hb⟩
          exact ⟨_, rfl, hS.trans (hb.mono hS.size), rfl, fun _ _ _ h => h⟩
        rcases i with _ | i
        · refine step_value (.int .u32 (s12.toNat : Int)) rfl ?_
          intro a8 w8 hS ho hn
          obtain ⟨_, n56, rfl⟩ := hn 7 56 (by kernel_rfl) rfl
          obtain ⟨_, n60, rfl⟩ := hn 11 60 (by kernel_rfl) rfl
          obtain ⟨_, n50, rfl⟩ := hn 1 50 (by kernel_rfl) rfl
          clear ho hn
          refine ⟨wanted_of 1 50 rfl rfl n50, ?_, rfl⟩
          have hx := HX12.out
          go_simp
        rcases i with _ | i
        · refine step_value (.slice A3 l3.length c3) rfl ?_
          intro a8 w8 hS ho hn
          have o2 : a8.tmps[2]? = some _ := (ho 2 (by kernel_rfl)).trans rfl
          obtain ⟨_, n50, rfl⟩ := hn 1 50 (by kernel_rfl) rfl
          clear ho hn
          refine ⟨wanted_of 1 50 rfl rfl n50, ?_, rfl⟩
          go_simp
        rcases i with _ | i
        · refine step_value (.int .i64 k) rfl ?_
          intro a8 w8 hS ho hn
          have o8 : a8.tmps[8]? = some _ := (ho 8 (by kernel_rfl)).trans rfl
          obtain ⟨_, n50, rfl⟩ := hn 1 50 (by kernel_rfl) rfl
          clear ho hn
          refine ⟨wanted_of 1 50 rfl rfl n50, ?_, rfl⟩
          go_simp
        rcases i with _ | i
        · refine step_value (.slice A3 k c3) rfl ?_
          intro a8 w8 hS ho hn
          obtain ⟨_, n62, rfl⟩ := hn 13 62 (by kernel_rfl) rfl
          obtain ⟨_, n63, rfl⟩ := hn 14 63 (by kernel_rfl) rfl
          obtain ⟨_, n50, rfl⟩ := hn 1 50 (by kernel_rfl) rfl
          clear ho hn
          refine ⟨wanted_of 1 50 rfl rfl n50, ?_, rfl⟩
          have hc := HC3.out
          go_simp
        rcases i with _ | i
        · refine step_call 13 #[.slice A3 k c3] rfl ?_
          intro a8 w8 hS ho hn
          obtain ⟨_, n64, rfl⟩ := hn 15 64 (by kernel_rfl) rfl
          obtain ⟨_, n50, rfl⟩ := hn 1 50 (by kernel_rfl) rfl
          clear ho hn
          refine ⟨wanted_of 1 50 rfl rfl n50, by go_simp, ?_⟩
          refine (HO3.out w8 hS).mono ?_
          rintro e w9 ⟨rfl, hb⟩
          exact ⟨_, rfl, hS.trans (hb.mono hS.size), rfl, fun _ _ _ h => h⟩
        rcases i with _ | i
        · refine step_value (.int .u32 (s0.toNat : Int)) rfl ?_
          intro a8 w8 hS ho hn
          obtain ⟨_, n61, rfl⟩ := hn 12 61 (by kernel_rfl) rfl
          obtain ⟨_, n65, rfl⟩ := hn 16 65 (by kernel_rfl) rfl
          obtain ⟨_, n50, rfl⟩ := hn 1 50 (by kernel_rfl) rfl
          clear ho hn
          refine ⟨wanted_of 1 50 rfl rfl n50, ?_, rfl⟩
          have hx := HX123.out
          go_simp
        rcases i with _ | i
        · refine step_value (.bool true) rfl ?_
          intro a8 w8 hS ho hn
          obtain ⟨_, n52, rfl⟩ := hn 3 52 (by kernel_rfl) rfl
          obtain ⟨_, n66, rfl⟩ := hn 17 66 (by kernel_rfl) rfl
          obtain ⟨_, n50, rfl⟩ := hn 1 50 (by kernel_rfl) rfl
          clear ho hn
          refine ⟨wanted_of 1 50 rfl rfl n50, ?_, rfl⟩
          go_simp
        rcases i with _ | i
        · refine step_value (.bool true) rfl ?_
          intro a8 w8 hS ho hn
          obtain ⟨_, n50, rfl⟩ := hn 1 50 (by kernel_rfl) rfl
          obtain ⟨_, n67, rfl⟩ := hn 18 67 (by kernel_rfl) rfl
          clear ho hn
          refine ⟨wanted_free rfl, ?_, rfl⟩
          go_simp
        rcases i with _ | i
        · refine step_value (.bool true) rfl ?_
          intro a8 w8 hS ho hn
          obtain ⟨_, n68, rfl⟩ := hn 19 68 (by kernel_rfl) rfl
          clear ho hn
          refine ⟨wanted_free rfl, ?_, rfl⟩
          go_simp
        omega
      · intro f w8 hS hR
        have e6 : f 6 = .bool true := hR 20 6 rfl
        clear hR
        simp only [putAll, List.foldl_cons, List.foldl_nil, Act.put, List.setIfInBounds_toArray, List.set_cons_succ, List.set_cons_zero]
        rw [e6]
        have hfin := HB.out.trans (hS.mono HB.out.size)
        have HF := Lib.hid hfin
        clear hfin hS e6
        go_wp2
        go_ret
        exact ⟨rfl, HF.out⟩

theorem walk (l1 l2 l3 : List UInt8) (a1 : Arg w A1 c1 l1) (a2 : Arg w A2 c2 l2) (a3 : Arg w A3 c3 l3) :
    Calls Try.prog 7 #[.slice A1 l1.length c1, .slice A2 l2.length c2, .slice A3 l3.length c3] w fun e w' => e = .returned (.bool true) ∧ Below w.heap.size w w' := by
  by_cases h : 3000 < min l1.length (min l2.length l3.length)
  · exact walk_big A1 A2 A3 c1 c2 c3 w _ _ _ _ _ rfl rfl h
  · exact walk_small A1 A2 A3 c1 c2 c3 w l1 l2 l3 a1 a2 a3 _ _ rfl rfl (by omega)
end

theorem own : ownKnob Try.prog.godebug = none := by kernel_rfl
theorem laidOut : laidOutB Try.prog = true := by kernel_rfl

set_option maxRecDepth 100000 in
theorem lifted (os : Os) (started : os.Started) (H : Type) (enc : TypeId × Value → H) :
    ReturnsInHanded {} Try.checked os 7 .any (Rows.crcLinearSpec.pre6 enc Try.prog Try.f7 Rows.crcLinearRow.domain false) (Rows.crcLinearSpec.post enc Try.prog Try.f7 false true false false) := by
  refine returnsInHanded_of_change_sized (C := Try.checked) own started (by kernel_rfl) Try.func7
    (ChangeSpec.witness6 (enc := enc) (C := Try.checked) false ⟨#[], #[.slice none 0 0, .slice none 0 0, .slice none 0 0], []⟩ 8 (by kernel_rfl) (by kernel_rfl) (by kernel_rfl) (by kernel_rfl)) ?_
  intro W base args ds gs before hval0 hW _ hsz0 _
  have hval : ∀ (j : Nat) t v, Try.f7.params[j]? = some t → args[j]? = some v → Value.okWide Try.prog W .any base t v := hval0
  have hsz : (DataW.weightsEach Try.prog (Try.f7.params.toList ++ Rows.crcLinearSpec.plain.varTypes Try.prog) (ds ++ gs)).all (· ≤ reachBytes) = true := hsz0
  have hW' := hW
  obtain ⟨p, q, hA0, hV, rfl, _, _⟩ := hW
  have hA : DataW.TrodAll enc Try.prog W 0 (fun _ => true) true Try.f7.params.toList args.toList ds p := hA0
  have hA2 := hA
  rw [Try.params7] at hA hval hsz
  obtain ⟨v0, vs0, d0, ds0, p0, q0, hargs, rfl, rfl, h0, r0⟩ := trodAll_cons hA
  obtain ⟨v1, vs1, d1, ds1, p1, q1, rfl, rfl, rfl, h1, r1⟩ := trodAll_cons r0
  obtain ⟨v2, vs2, d2, ds2, p2, q2, rfl, rfl, rfl, h2, r2⟩ := trodAll_cons r1
  obtain ⟨rfl, rfl, rfl⟩ := trodAll_nil r2
  obtain rfl : args = #[v0, v1, v2] := by cases args; simp_all
  obtain ⟨rfl, rfl⟩ := trodVars_none hV
  clear hA0 hval0 hsz0
  simp only [List.append_nil] at hW' hA2
  have hlt : ∀ x ∈ p0 ++ (p1 ++ p2), x.block < W.heap.size := fun x hx => by simpa using hW'.lt x (by simpa using hx)
  obtain ⟨A0, c0, L0, rfl, hb0⟩ := open_bytes (hval 0 22 v0 rfl rfl) h0 (fun n hn => by
    have := List.all_eq_true.1 hsz n (DataW.weights_mem_each (j := 0) rfl rfl n hn)
    simpa using this)
  obtain ⟨A1, c1, L1, rfl, hb1⟩ := open_bytes (hval 1 22 v1 rfl rfl) h1 (fun n hn => by
    have := List.all_eq_true.1 hsz n (DataW.weights_mem_each (j := 1) rfl rfl n hn)
    simpa using this)
  obtain ⟨A2, c2, L2, rfl, hb2⟩ := open_bytes (hval 2 22 v2 rfl rfl) h2 (fun n hn => by
    have := List.all_eq_true.1 hsz n (DataW.weights_mem_each (j := 2) rfl rfl n hn)
    simpa using this)
  refine (walk A0 A1 A2 c0 c1 c2 W L0 L1 L2 hb0 hb1 hb2).mono fun e W' ⟨he, hbw⟩ => ?_
  subst he
  exact ⟨_, rfl, _, _, _, [], _, [], hW', trodAll_cons_mk (shut_bool Try.underlying4 _) trodAll_mk0, below_trodAll laidOut hbw (by
    rw [Try.params7]
    intro t ht
    simp at ht
    subst ht
    exact ⟨by kernel_rfl, of_decide_eq_true (by kernel_rfl)⟩) hA2 hlt, rfl, hbw.frame _, fun h => by cases h⟩

/-- The statement. -/
theorem proved : Rows.CrcLinearSaid :=
  OpenClaim.holds_of_wide 7 Try.f7 rfl rfl rfl rfl rfl rfl rfl ⟨rfl, rfl, rfl, rfl, rfl⟩ rfl rfl rfl rfl rfl (by kernel_rfl) Try.func7 (by kernel_rfl)
    (of_decide_eq_true (by kernel_rfl)) (by unfold Func.isWrapper; first | (rw [if_pos (by decide +kernel)]; kernel_rfl) | (rw [if_neg (by decide +kernel)]; exact ⟨rfl, rfl⟩))
    (fun os started H enc _ => lifted os started H enc)

#print axioms proved
end Go.Proofs.Ytlhonndnoegmbaa.crcLinear

/-
  The walk of the statement PoolOrder.
-/
import Derived.Test.YtlmdijijlbmddaaPlClean
import Derived.Test.YtlmdijijlbmddaaPlOrd
import Derived.Deep.DeepCutAuto
namespace Go.Proofs.Ytlmdijijlbmddaa.pool
open Go.RowKit

theorem One.sum {s : PS} {f n : Int} {a : List FV} {x : FV} (h : One s f n a x) : s.pins = 1 := by
  have h0 : (a.map (·.pins)).sum = 0 := by
    have : a.map (·.pins) = a.map (fun _ => 0) := List.map_congr_left (fun v hv => (h.idle v hv).1)
    rw [this, List.map_const', List.sum_replicate_nat]
    simp
  unfold PS.pins
  rw [h.fr, List.map_append, List.sum_append, h0]
  simp [h.pins]
theorem One.after {s : PS} {f n : Int} {a : List FV} {x : FV} (h : One s f n a x) : (s.unpin f n).2.keys = (f, n) :: (a.map keyF).reverse ∧ (s.unpin f n).2.fr.length = a.length + 1 := by
  have hk : keyF x = (f, n) := is_key.1 h.is_
  unfold PS.unpin
  rw [h.fr, h.pinned rfl (by rw [h.pins]; decide)]
  refine ⟨?_, by simp⟩
  show ((a ++ [] ++ [{ x with pins := x.pins - 1 }]).map keyF).reverse = _
  rw [List.append_nil, List.map_append, List.reverse_append]
  show [keyF x].reverse ++ _ = _
  rw [hk]
  rfl
def kk (i : Nat) : Int × Int := (1 + (i : Int) / 4, (i : Int) % 4)
def pk : Nat → List (Int × Int)
  | 0 => []
  | i + 1 => kk i :: pk i
theorem pk_length : ∀ i, (pk i).length = i
  | 0 => rfl
  | i + 1 => by show (pk i).length + 1 = _; rw [pk_length i]
theorem pk_mem {k : Int × Int} : ∀ {i : Nat}, k ∈ pk i → ∃ j, j < i ∧ k = kk j
  | 0, h => by cases h
  | i + 1, h => by
    rcases List.mem_cons.1 h with rfl | h
    · exact ⟨i, Nat.lt_succ_self i, rfl⟩
    · obtain ⟨j, hj, e⟩ := pk_mem h
      exact ⟨j, by omega, e⟩
theorem pk_new (i : Nat) : kk i ∉ pk i := fun h => by
  obtain ⟨j, hj, e⟩ := pk_mem h
  unfold kk at e
  injection e with e1 e2
  omega
theorem pk_far {i : Nat} (hi : i ≤ 8) : ((3, 3) : Int × Int) ∉ pk i := fun h => by
  obtain ⟨j, hj, e⟩ := pk_mem h
  unfold kk at e
  injection e with e1 e2
  omega
structure OrH (z p mo : Nat) (w W : World) (s : PS) (n i : Nat) : Prop where
  pb : PB z W p z s
  zle : z ≤ W.heap.size
  b : Below z w W
  g : G (n + i) s
  h : Half s (pk i)
  size : s.size = mo
structure OrI (z p mo : Nat) (w W : World) (s : PS) (K : Nat) : Prop where
  pb : PB z W p z s
  zle : z ≤ W.heap.size
  b : Below z w W
  g : G K s
  i : Idle s
  size : s.size = mo

set_option maxRecDepth 100000 in
set_option maxHeartbeats 4000000 in
theorem porder_walk (fr : Nat) (A : Option Addr) (n c : Nat) (l : List (Int × Int)) (W : World) (hfr : fr ≤ 255) (H : PKeys W W.heap.size A n l) (hn : n ≤ 9223372036854775807) :
    Calls Try.prog 5 #[.int .u8 (fr : Int), .slice A n c] W fun e w' => e = .returned (.bool true) ∧ Below W.heap.size W w' := by
  obtain ⟨y, hy⟩ : ∃ y, W.heap.size = y := ⟨_, rfl⟩
  have ha := plalive_any W
  rw [hy] at ha H
  have HA := Lib.hid ha
  have HH := Lib.hid H
  have HY := Lib.hid hy
  have HBKH := Lib.hid (fun w => back_any w)
  obtain ⟨mo, hmo⟩ : ∃ mo : Nat, 1 + (fr : Int) % 8 = (mo : Int) := ⟨1 + fr % 8, by omega⟩
  have hm1 : 1 ≤ mo := by omega
  have hm2 : mo ≤ 8 := by omega
  clear H ha
  rw [hy]
  by_cases h100 : 100 < n
  · have h2 : (100 : Int) < (n : Int) := by omega
    go_enter Try.func5, Try.ntmps5
    go_wp2_with (go_at_call 26; refine HA.out.mono ?_; rintro e w2 ⟨rfl, hb2⟩; have HB2 := Lib.hid hb2; clear hb2)
    go_ret
    exact ⟨rfl, HB2.out⟩
  · have h2 : ¬ (100 : Int) < (n : Int) := by omega
    go_enter Try.func5, Try.ntmps5
    go_wp2_with (first
      | (go_at_call 26; refine HA.out.mono ?_; rintro e w2 ⟨rfl, hb2⟩; have HB2 := Lib.hid hb2; clear hb2)
      | (go_at_call 12; refine (HBKH.out w2).mono ?_; rintro e w3 ⟨rfl, v3, ll, hF⟩
         obtain ⟨z, hz⟩ : ∃ z, w2.heap.size = z := ⟨_, rfl⟩
         rw [hz] at hF
         simp only [hz]
         have HF := Lib.hid hF
         have hnew := Lib.hid (plnew_any mo z w3 hm1 (by omega))
         clear hF)
      | (go_at_call 13; (try simp only [hmo]); refine hnew.out.mono ?_; rintro e w4 ⟨rfl, hx4, hb4⟩
         have HX4 := Lib.hid hx4
         have HB4 := Lib.hid hb4
         clear hx4 hb4))
    have h4 : PB z w4 w3.heap.size z (ps0 mo) := pool_new HF.out (by omega) rfl HB4.out HX4.out
    have hzz : z < w3.heap.size := HF.out.box.lt
    have hbF := HF.out.b
    have hbz : Below z w2 w4 := hbF.trans (HB4.out.mono (by omega))
    have hi0 : Idle (ps0 mo) := ⟨fun v hv => by simp [ps0] at hv, List.nodup_nil⟩
    have H4 : Hid (OrI z w3.heap.size mo w2 w4 (ps0 mo) 0) := Lib.hid ⟨h4, by have := HB4.out.size; omega, hbz, G.zero mo, hi0, rfl⟩
    clear HX4 HB4 h4 hbz hbF hi0
    obtain ⟨p, hp⟩ : ∃ p, w3.heap.size = p := ⟨_, rfl⟩
    rw [hp] at H4
    simp only [hp]
    (try simp only [hmo])
    have hyz : y ≤ z := by have := HB2.out.size; omega
    clear hp hzz hnew
    have HYZ := Lib.hid hyz
    have HBY : Hid (Below y W w2) := Lib.hid HB2.out
    go_loopw [39] (fun x wr => ∃ (j : Nat) (s : PS), j ≤ n ∧ x = .int .i64 (j : Int) ∧ OrI z p mo w2 wr s j) (fun x _ => n + 1 - (intOf x).toNat)
    case atStart => exact ⟨0, _, Nat.zero_le _, rfl, H4.out⟩
    case round =>
      obtain ⟨j, s, hj, rfl, hS⟩ := hrel
      have HS := Lib.hid hS
      clear hS
      by_cases hlt : j < n
      · have hd : (j : Int) < (n : Int) := by omega
        have hyw : y ≤ w2.heap.size := by have := HB2.out.size; omega
        have hbW : Below y W wr := HBY.out.trans (HS.out.b.mono HYZ.out)
        obtain ⟨ad, ⟨kf, kn⟩, rfl, hadb, d0, d1⟩ := (HH.out.below hbW).at_ hlt
        simp only at d0 d1
        obtain ⟨t3, ht3⟩ : ∃ t3, kf.tmod 3 = t3 := ⟨_, rfl⟩
        obtain ⟨t4, ht4⟩ : ∃ t4, kn.tmod 4 = t4 := ⟨_, rfl⟩
        have b3 : -3 < t3 ∧ t3 < 3 := by rw [← ht3]; exact ⟨Int.lt_tmod_of_pos kf (by decide), Int.tmod_lt_of_pos kf (by decide)⟩
        have b4 : -4 < t4 ∧ t4 < 4 := by rw [← ht4]; exact ⟨Int.lt_tmod_of_pos kn (by decide), Int.tmod_lt_of_pos kn (by decide)⟩
        clear hbW
        go_upto_region 12 with (fail)
        obtain ⟨F, hF⟩ : ∃ F, 1 + t3 % 3 = F := ⟨_, rfl⟩
        obtain ⟨M, hM⟩ : ∃ M, t4 % 4 = M := ⟨_, rfl⟩
        have hFb : 1 ≤ F ∧ F ≤ 3 := by omega
        have hMb : 0 ≤ M ∧ M ≤ 3 := by omega
        rw [hF, hM]
        obtain ⟨Wb, hWb⟩ : ∃ Wb, wr.alloc (.cells #[.int .i64 F, .int .i64 M] 29) = Wb := ⟨_, rfl⟩
        have hbB : Below wr.heap.size wr Wb := by rw [← hWb]; exact (Below.refl _ _).alloc (Nat.le_refl _) _
        have hxB : Blk Wb wr.heap.size 29 #[.int .i64 F, .int .i64 M] := by rw [← hWb]; exact Blk.new wr _ _
        rw [hWb]
        have hzB : z ≤ Wb.heap.size := Nat.le_trans HS.out.zle hbB.size
        have hpB := HS.out.pb.below hbB
        have hs1 : 1 ≤ s.size := by rw [HS.out.size]; omega
        have hix : idxT F M s.L = some (4 * (F - 1) + M).toNat := by rw [idxT_map HS.out.g.keys]; exact idx0 hFb hMb
        have hp0 := HS.out.i.pin_ok hs1 hix
        have hg1 := HS.out.g.pin F M
        rcases HS.out.i.pin (f := F) (n := M) hs1 with ⟨hr, _⟩ | ⟨_, hL, hsz1, al, x, hone⟩
        · exact absurd hp0 hr
        have hpin := pin_any F M hpB (HS.out.g.ok (by omega)) hzB
        rw [hp0] at hpin
        have hroom := hg1.room
        have hgu := hg1.unpin F M
        obtain ⟨q1, hq1⟩ : ∃ q1, (s.pin F M).2 = q1 := ⟨_, rfl⟩
        rw [hq1] at hpin hone hg1 hsz1 hgu hroom
        obtain ⟨r1, r2, r3, r4⟩ := hone.unpin
        obtain ⟨e1, e2⟩ := hone.after
        have hsum := hone.sum
        have hup : ∀ X, PB z X p z q1 → z ≤ X.heap.size → Calls Try.prog 16 #[pv p, kvv F M] X fun e w' => e = .returned (.int .i64 0) ∧ PB z w' p z (q1.unpin F M).2 ∧ KT z TT X w' := fun X h hz => by
          have h := unpin_any F M h (hg1.ok (by omega)) hz
          rw [r1] at h
          exact h
        have hpn : ∀ X, PB z X p z q1 → Calls Try.prog 19 #[pv p] X fun e w' => e = .returned (.int .i64 1) ∧ Below X.heap.size X w' := fun X h => by
          have h := pins_any h (hg1.ok (by omega)).pins
          rw [hsum] at h
          exact h
        obtain ⟨q2, hq2⟩ : ∃ q2, (q1.unpin F M).2 = q2 := ⟨_, rfl⟩
        simp only [hq2] at hup
        rw [hq2] at r2 r4 e1 e2 hgu
        have hsz2 : q2.size = mo := r4.trans (hsz1.trans HS.out.size)
        have hroom2 := hgu.room
        have HP1 := Lib.hid hpin
        have HUP := Lib.hid hup
        have HPN := Lib.hid hpn
        have HXB := Lib.hid hxB
        have HB8 : Hid (Below z w2 Wb) := Lib.hid (HS.out.b.trans (hbB.mono HS.out.zle))
        have HZB := Lib.hid hzB
        have HQ2 : Hid (q2.keys = (F, M) :: (al.map keyF).reverse ∧ q2.fr.length = al.length + 1 ∧ q2.size = mo ∧ q2.fr.length ≤ mo ∧ Idle q2 ∧ G (j + 1) q2) := Lib.hid ⟨e1, e2, hsz2, by rw [← hsz2]; exact hroom2, r2, hgu⟩
        have z0 := hxB.cell 0
        have z1 := hxB.cell 1
        clear hpin hone hg1 hsz1 hgu hroom r1 r2 r3 r4 e1 e2 hsum hup hpn hq1 hq2 hsz2 hroom2 hp0 hix hL hpB hzB hxB hbB hF hM ht3 ht4 b3 b4 d0 d1 hadb
        go_wp2_with (first
          | (go_at_call 14; refine HP1.out.mono ?_; rintro e w5 ⟨rfl, h5, k5⟩
             have HK5 := Lib.hid k5
             have HX5 := Lib.hid (k5.blk HXB.out (by decide))
             have H5 := Lib.hid h5
             have HN5 := Lib.hid (HPN.out w5 h5)
             clear h5 k5)
          | (go_at_call 19; refine HN5.out.mono ?_; rintro e w6 ⟨rfl, hb6⟩
             have hx6 := HX5.out.below hb6 HX5.out.lt
             have s0 := hx6.cell 0
             have s1 := hx6.cell 1
             have HX6 := Lib.hid hx6
             have HB6 := Lib.hid hb6
             have HU6 := Lib.hid (HUP.out w6 (H5.out.below hb6) (Nat.le_trans HZB.out (Nat.le_trans HK5.out.keep.size hb6.size)))
             clear hb6 hx6)
          | (go_at_call 16; refine HU6.out.mono ?_; rintro e w7 ⟨rfl, h7, k7⟩
             have HK7 := Lib.hid k7
             have HX7 := Lib.hid (k7.blk HX6.out (by decide))
             have H7 := Lib.hid h7
             have HKY := Lib.hid (keys_any h7)
             clear h7 k7)
          | (go_at_call 18; refine HKY.out.mono ?_; rintro e w8 ⟨kv, rfl, ho8, hb8⟩
             have HO8 := Lib.hid ho8
             have HB9 := Lib.hid hb8
             clear ho8 hb8))
        have HPB := Lib.hid (H7.out.below HB9.out)
        have hxe := HX7.out.below HB9.out HX7.out.lt
        have HK8 : Hid (KT z TT Wb w8) := Lib.hid (((HK5.out.trans (KT.of_below HB6.out)).trans HK7.out).trans (KT.of_below HB9.out))
        have hkr := KR.of_own HO8.out
        have hlenk : q2.keys.length = q2.fr.length := by unfold PS.keys; rw [List.length_reverse, List.length_map]
        obtain ⟨A', kc, rfl, hat⟩ := hkr.sl
        obtain ⟨g, hA', k0, k1⟩ := hat 0 (F, M) (by rw [HQ2.out.1]; rfl)
        subst hA'
        simp only [Nat.zero_mul, Nat.zero_add] at k0 k1
        obtain ⟨L, hLe⟩ : ∃ L, q2.keys.length = L := ⟨_, rfl⟩
        rw [hLe]
        have hLf : q2.fr.length = L := by omega
        have hLp : 0 < L := by have := HQ2.out.2.1; omega
        have hLm : L ≤ mo := by have := HQ2.out.2.2.2.1; omega
        have HL : Hid (((0 : Int) < (L : Int) ∧ ¬ (L : Int) = 0 ∧ ¬ L = 0) ∧ (¬ (mo : Int) < (L : Int) ∧ ¬ mo < L) ∧ q2.fr.length = L) := Lib.hid ⟨⟨by omega, by omega, by omega⟩, ⟨by omega, by omega⟩, hLf⟩
        have HRC : Hid (∀ X, Below w8.heap.size w8 X → X.cell? ⟨g, 0, none⟩ = some (.int .i64 F) ∧ X.cell? ⟨g, 1, none⟩ = some (.int .i64 M) ∧ X.cell? ⟨wr.heap.size, 0, none⟩ = some (.int .i64 F) ∧ X.cell? ⟨wr.heap.size, 1, none⟩ = some (.int .i64 M)) := Lib.hid (fun X hX => ⟨(hX.cell (block_lt_of_cell k0)).trans k0, (hX.cell (block_lt_of_cell k1)).trans k1, (hxe.below hX hxe.lt).cell 0, (hxe.below hX hxe.lt).cell 1⟩)
        clear hxe hkr hlenk hat k0 k1 hLe hLf hLp hLm HO8 HB9 HK7 HB6 HK5 HX7 H7 HU6 HX6 HN5 H5 HX5 HP1 HUP HPN HXB HKY z0 z1
        refine wp_region_done_on (GS _) (GR [14] (fun _ w _ => w = .int .i64 (L : Int)) [.slice (some ⟨g, 0, none⟩) L kc, .int .i64 (L : Int), .bool false, .bool false, .slice (some ⟨g, 0, none⟩) L kc, .pointer (some ⟨g, 0, none⟩), .agg #[.int .i64 F, .int .i64 M], .agg #[.int .i64 F, .int .i64 M], .bool false, .bool false, .bool false, .slice (some ⟨g, 0, none⟩) L kc, .int .i64 (L : Int), pv p, undef, .bool false, .bool false, .bool false, .slice (some ⟨g, 0, none⟩) L kc, .int .i64 (L : Int), .int .i64 (mo : Int), .bool false, .bool false]) (by kernel_rfl) 138 rfl (by kernel_rfl) ((Below.refl _ _).drew) ?_ ?_
        · intro i hi
          have hi2 : i < 23 := hi
          clear hi
          rcases i with _ | i
          · refine gr_value rfl (by decide) (.slice (some ⟨g, 0, none⟩) L kc) rfl ?_
            intro a8 w8 hb8 ho hn
            have o11 : a8.tmps[11]? = some _ := (ho 11 (by kernel_rfl)).trans rfl
            clear ho hn
            refine ⟨wanted_free rfl, ?_⟩
            go_simp
          rcases i with _ | i
          · refine gr_value rfl (by decide) (.int .i64 (L : Int)) rfl ?_
            intro a8 w8 hb8 ho hn
            obtain ⟨v72, n72, hq72⟩ := hn 0 72 (by kernel_rfl) rfl
            obtain rfl := hq72.1 (by decide)
            clear ho hn
            refine ⟨wanted_free rfl, ?_⟩
            go_simp
          rcases i with _ | i
          · refine gr_value rfl (by decide) (.bool false) rfl ?_
            intro a8 w8 hb8 ho hn
            obtain ⟨v73, n73, hq73⟩ := hn 1 73 (by kernel_rfl) rfl
            obtain rfl := hq73.1 (by decide)
            clear ho hn
            refine ⟨wanted_free rfl, ?_⟩
            obtain ⟨l1, l2, l3⟩ := HL.out.1
            go_simp
          rcases i with _ | i
          · refine gr_value rfl (by decide) (.bool false) rfl ?_
            intro a8 w8 hb8 ho hn
            obtain ⟨v74, n74, hq74⟩ := hn 2 74 (by kernel_rfl) rfl
            obtain rfl := hq74.1 (by decide)
            clear ho hn
            refine ⟨wanted_free rfl, ?_⟩
            go_simp
          rcases i with _ | i
          · refine gr_value rfl (by decide) (.slice (some ⟨g, 0, none⟩) L kc) rfl ?_
            intro a8 w8 hb8 ho hn
            have o11 : a8.tmps[11]? = some _ := (ho 11 (by kernel_rfl)).trans rfl
            obtain ⟨v75, n75, hq75⟩ := hn 3 75 (by kernel_rfl) rfl
            obtain rfl := hq75.1 (by decide)
            clear ho hn
            refine ⟨wanted_of 3 75 rfl rfl n75, ?_⟩
            go_simp
          rcases i with _ | i
          · refine gr_value rfl (by decide) (.pointer (some ⟨g, 0, none⟩)) rfl ?_
            intro a8 w8 hb8 ho hn
            obtain ⟨v76, n76, hq76⟩ := hn 4 76 (by kernel_rfl) rfl
            obtain rfl := hq76.1 (by decide)
            obtain ⟨v75, n75, hq75⟩ := hn 3 75 (by kernel_rfl) rfl
            obtain rfl := hq75.1 (by decide)
            clear ho hn
            refine ⟨wanted_of 3 75 rfl rfl n75, ?_⟩
            obtain ⟨l1, l2, l3⟩ := HL.out.1
            go_simp
          rcases i with _ | i
          · refine gr_value rfl (by decide) (.agg #[.int .i64 F, .int .i64 M]) rfl ?_
            intro a8 w8 hb8 ho hn
            obtain ⟨v77, n77, hq77⟩ := hn 5 77 (by kernel_rfl) rfl
            obtain rfl := hq77.1 (by decide)
            obtain ⟨v75, n75, hq75⟩ := hn 3 75 (by kernel_rfl) rfl
            obtain rfl := hq75.1 (by decide)
            clear ho hn
            refine ⟨wanted_of 3 75 rfl rfl n75, ?_⟩
            obtain ⟨x0, x1, x2, x3⟩ := HRC.out w8 hb8
            go_simp
          rcases i with _ | i
          · refine gr_value rfl (by decide) (.agg #[.int .i64 F, .int .i64 M]) rfl ?_
            intro a8 w8 hb8 ho hn
            have o10 : a8.tmps[10]? = some _ := (ho 10 (by kernel_rfl)).trans rfl
            obtain ⟨v75, n75, hq75⟩ := hn 3 75 (by kernel_rfl) rfl
            obtain rfl := hq75.1 (by decide)
            clear ho hn
            refine ⟨wanted_of 3 75 rfl rfl n75, ?_⟩
            obtain ⟨x0, x1, x2, x3⟩ := HRC.out w8 hb8
            go_simp
          rcases i with _ | i
          · refine gr_value rfl (by decide) (.bool false) rfl ?_
            intro a8 w8 hb8 ho hn
            obtain ⟨v78, n78, hq78⟩ := hn 6 78 (by kernel_rfl) rfl
            obtain rfl := hq78.1 (by decide)
            obtain ⟨v79, n79, hq79⟩ := hn 7 79 (by kernel_rfl) rfl
            obtain rfl := hq79.1 (by decide)
            obtain ⟨v75, n75, hq75⟩ := hn 3 75 (by kernel_rfl) rfl
            obtain rfl := hq75.1 (by decide)
            clear ho hn
            refine ⟨wanted_of 3 75 rfl rfl n75, ?_⟩
            go_simp
          rcases i with _ | i
          · refine gr_value rfl (by decide) (.bool false) rfl ?_
            intro a8 w8 hb8 ho hn
            obtain ⟨v75, n75, hq75⟩ := hn 3 75 (by kernel_rfl) rfl
            obtain rfl := hq75.1 (by decide)
            obtain ⟨v80, n80, hq80⟩ := hn 8 80 (by kernel_rfl) rfl
            obtain rfl := hq80.1 (by decide)
            clear ho hn
            refine ⟨wanted_free rfl, ?_⟩
            go_simp
          rcases i with _ | i
          · refine gr_value rfl (by decide) (.bool false) rfl ?_
            intro a8 w8 hb8 ho hn
            obtain ⟨v81, n81, hq81⟩ := hn 9 81 (by kernel_rfl) rfl
            obtain rfl := hq81.1 (by decide)
            clear ho hn
            refine ⟨wanted_free rfl, ?_⟩
            go_simp
          rcases i with _ | i
          · refine gr_value rfl (by decide) (.slice (some ⟨g, 0, none⟩) L kc) rfl ?_
            intro a8 w8 hb8 ho hn
            have o11 : a8.tmps[11]? = some _ := (ho 11 (by kernel_rfl)).trans rfl
            obtain ⟨v82, n82, hq82⟩ := hn 10 82 (by kernel_rfl) rfl
            obtain rfl := hq82.1 (by decide)
            clear ho hn
            refine ⟨wanted_of 10 82 rfl rfl n82, ?_⟩
            go_simp
          rcases i with _ | i
          · refine gr_value rfl (by decide) (.int .i64 (L : Int)) rfl ?_
            intro a8 w8 hb8 ho hn
            obtain ⟨v83, n83, hq83⟩ := hn 11 83 (by kernel_rfl) rfl
            obtain rfl := hq83.1 (by decide)
            obtain ⟨v82, n82, hq82⟩ := hn 10 82 (by kernel_rfl) rfl
            obtain rfl := hq82.1 (by decide)
            clear ho hn
            refine ⟨wanted_of 10 82 rfl rfl n82, ?_⟩
            go_simp
          rcases i with _ | i
          · refine gr_value rfl (by decide) (pv p) rfl ?_
            intro a8 w8 hb8 ho hn
            have o7 : a8.tmps[7]? = some _ := (ho 7 (by kernel_rfl)).trans rfl
            obtain ⟨v82, n82, hq82⟩ := hn 10 82 (by kernel_rfl) rfl
            obtain rfl := hq82.1 (by decide)
            clear ho hn
            refine ⟨wanted_of 10 82 rfl rfl n82, ?_⟩
            go_simp
          rcases i with _ | i
          · refine gr_call (fun _ _ _ _ _ h => h) 20 rfl (by decide) ?_
            intro a8 w8 hb8 ho hn
            obtain ⟨v85, n85, hq85⟩ := hn 13 85 (by kernel_rfl) rfl
            obtain rfl := hq85.1 (by decide)
            obtain ⟨v82, n82, hq82⟩ := hn 10 82 (by kernel_rfl) rfl
            obtain rfl := hq82.1 (by decide)
            clear ho hn
            refine ⟨wanted_of 10 82 rfl rfl n82, ?_⟩
            refine ⟨#[pv p], (by go_simp), (held_any (HPB.out.below hb8)).mono ?_⟩
            rintro e w9 ⟨rfl, rfl⟩
            exact ⟨_, rfl, Below.refl _ _, by rw [HL.out.2.2]⟩
          rcases i with _ | i
          · refine gr_value rfl (by decide) (.bool false) rfl ?_
            intro a8 w8 hb8 ho hn
            obtain ⟨v84, n84, hq84⟩ := hn 12 84 (by kernel_rfl) rfl
            obtain rfl := hq84.1 (by decide)
            obtain ⟨v86, n86, hq86⟩ := hn 14 86 (by kernel_rfl) rfl
            have hv86 := hq86.2 (by decide)
            obtain ⟨v82, n82, hq82⟩ := hn 10 82 (by kernel_rfl) rfl
            obtain rfl := hq82.1 (by decide)
            clear ho hn
            refine ⟨wanted_of 10 82 rfl rfl n82, ?_⟩
            obtain rfl : v86 = .int .i64 (L : Int) := hv86
            go_simp
          rcases i with _ | i
          · refine gr_value rfl (by decide) (.bool false) rfl ?_
            intro a8 w8 hb8 ho hn
            obtain ⟨v82, n82, hq82⟩ := hn 10 82 (by kernel_rfl) rfl
            obtain rfl := hq82.1 (by decide)
            obtain ⟨v87, n87, hq87⟩ := hn 15 87 (by kernel_rfl) rfl
            obtain rfl := hq87.1 (by decide)
            clear ho hn
            refine ⟨wanted_free rfl, ?_⟩
            go_simp
          rcases i with _ | i
          · refine gr_value rfl (by decide) (.bool false) rfl ?_
            intro a8 w8 hb8 ho hn
            obtain ⟨v88, n88, hq88⟩ := hn 16 88 (by kernel_rfl) rfl
            obtain rfl := hq88.1 (by decide)
            clear ho hn
            refine ⟨wanted_free rfl, ?_⟩
            go_simp
          rcases i with _ | i
          · refine gr_value rfl (by decide) (.slice (some ⟨g, 0, none⟩) L kc) rfl ?_
            intro a8 w8 hb8 ho hn
            have o11 : a8.tmps[11]? = some _ := (ho 11 (by kernel_rfl)).trans rfl
            obtain ⟨v89, n89, hq89⟩ := hn 17 89 (by kernel_rfl) rfl
            obtain rfl := hq89.1 (by decide)
            clear ho hn
            refine ⟨wanted_of 17 89 rfl rfl n89, ?_⟩
            go_simp
          rcases i with _ | i
          · refine gr_value rfl (by decide) (.int .i64 (L : Int)) rfl ?_
            intro a8 w8 hb8 ho hn
            obtain ⟨v90, n90, hq90⟩ := hn 18 90 (by kernel_rfl) rfl
            obtain rfl := hq90.1 (by decide)
            obtain ⟨v89, n89, hq89⟩ := hn 17 89 (by kernel_rfl) rfl
            obtain rfl := hq89.1 (by decide)
            clear ho hn
            refine ⟨wanted_of 17 89 rfl rfl n89, ?_⟩
            go_simp
          rcases i with _ | i
          · refine gr_value rfl (by decide) (.int .i64 (mo : Int)) rfl ?_
            intro a8 w8 hb8 ho hn
            have o6 : a8.tmps[6]? = some _ := (ho 6 (by kernel_rfl)).trans rfl
            obtain ⟨v89, n89, hq89⟩ := hn 17 89 (by kernel_rfl) rfl
            obtain rfl := hq89.1 (by decide)
            clear ho hn
            refine ⟨wanted_of 17 89 rfl rfl n89, ?_⟩
            go_simp
          rcases i with _ | i
          · refine gr_value rfl (by decide) (.bool false) rfl ?_
            intro a8 w8 hb8 ho hn
            obtain ⟨v91, n91, hq91⟩ := hn 19 91 (by kernel_rfl) rfl
            obtain rfl := hq91.1 (by decide)
            obtain ⟨v92, n92, hq92⟩ := hn 20 92 (by kernel_rfl) rfl
            obtain rfl := hq92.1 (by decide)
            obtain ⟨v89, n89, hq89⟩ := hn 17 89 (by kernel_rfl) rfl
            obtain rfl := hq89.1 (by decide)
            clear ho hn
            refine ⟨wanted_of 17 89 rfl rfl n89, ?_⟩
            obtain ⟨l4, l5⟩ := HL.out.2.1
            go_simp
          rcases i with _ | i
          · refine gr_value rfl (by decide) (.bool false) rfl ?_
            intro a8 w8 hb8 ho hn
            obtain ⟨v89, n89, hq89⟩ := hn 17 89 (by kernel_rfl) rfl
            obtain rfl := hq89.1 (by decide)
            obtain ⟨v93, n93, hq93⟩ := hn 21 93 (by kernel_rfl) rfl
            obtain rfl := hq93.1 (by decide)
            clear ho hn
            refine ⟨wanted_free rfl, ?_⟩
            go_simp
          omega
        · intro dn fv w5 hb5 hR5 hall
          have h94 : fv 94 = _ := (hR5 22 94 rfl).1 (by decide)
          simp only [putAll, List.foldl_cons, List.foldl_nil, Act.put, List.setIfInBounds_toArray, List.set_cons_succ, List.set_cons_zero, h94, List.getD_cons_zero, List.getD_cons_succ]
          clear hR5 hall
          have HNX : Hid (OrI z p mo w2 w5 q2 (j + 1)) := Lib.hid (by
            have K := HK8.out.trans (KT.of_below (N := z) (T := TT) hb5)
            exact ⟨HPB.out.below hb5, Nat.le_trans HZB.out K.keep.size, HB8.out.trans (K.below HZB.out), HQ2.out.2.2.2.2.2, HQ2.out.2.2.2.2.1, HQ2.out.2.2.1⟩)
          clear hb5
          go_wp2
          go_roundw
          case rel => exact ⟨j + 1, q2, by omega, by go_num, HNX.out⟩
          case measure => (have e1 : ∀ n : Int, intOf (.int .i64 n) = n := fun _ => rfl); rw [e1, e1]; omega
      · obtain rfl : j = n := by omega
        have HS0 : Hid (OrH z p mo w2 wr s j 0) := Lib.hid ⟨HS.out.pb, HS.out.zle, HS.out.b, HS.out.g, Half.start HS.out.i, HS.out.size⟩
        clear HS
        go_wp2
        go_loopw [12] (fun x wr => ∃ (i : Nat) (s : PS), i ≤ mo ∧ x = .int .i64 (i : Int) ∧ OrH z p mo w2 wr s j i) (fun x _ => mo + 1 - (intOf x).toNat)
        case atStart => exact ⟨0, s, Nat.zero_le _, rfl, HS0.out⟩
        case round =>
          obtain ⟨i, s, hi, rfl, hS⟩ := hrel
          have HS := Lib.hid hS
          clear hS
          by_cases hlt2 : i < mo
          · have hd : (i : Int) < (mo : Int) := by omega
            have hix : idxT (1 + (i : Int) / 4) ((i : Int) % 4) s.L = some (4 * (1 + (i : Int) / 4 - 1) + (i : Int) % 4).toNat := by rw [idxT_map HS.out.g.keys]; exact idx0 (by omega) (by omega)
            have hlp : (pk i).length < s.size := by rw [pk_length, HS.out.size]; exact hlt2
            obtain ⟨r1, r2, r3, r4⟩ := HS.out.h.pin hlp (pk_new i) hix
            have hpin := pin_any (1 + (i : Int) / 4) ((i : Int) % 4) HS.out.pb (HS.out.g.ok (by omega)) HS.out.zle
            rw [r1] at hpin
            have HPI := Lib.hid hpin
            have HNX : Hid (∀ X, PB z X p z (s.pin (1 + (i : Int) / 4) ((i : Int) % 4)).2 → KT z TT wr X → OrH z p mo w2 X (s.pin (1 + (i : Int) / 4) ((i : Int) % 4)).2 j (i + 1)) := Lib.hid (fun X h k => ⟨h, Nat.le_trans HS.out.zle k.keep.size, HS.out.b.trans (k.below HS.out.zle), HS.out.g.pin _ _, r2, r4.trans HS.out.size⟩)
            clear hpin r1 r2 r3 r4 hlp hix
            go_wp2_with (go_at_call 14; refine HPI.out.mono ?_; rintro e w5 ⟨rfl, h5, k5⟩; have HC5 := Lib.hid (HNX.out w5 h5 k5); clear h5 k5)
            go_roundw
            case rel => exact ⟨i + 1, _, by omega, by go_num, HC5.out⟩
            case measure => (have e1 : ∀ n : Int, intOf (.int .i64 n) = n := fun _ => rfl); rw [e1, e1]; omega
          · obtain rfl : i = mo := by omega
            obtain ⟨f1, f2, f3⟩ := HS.out.h.full (by rw [pk_length, HS.out.size]; exact Nat.le_refl _) HS.out.g.room (pk_far (by omega))
            have hsz := HS.out.size
            rw [hsz] at f2 f3
            have HK1 := Lib.hid (keys_any HS.out.pb)
            have HPI : Hid (∀ X, PB z X p z s → z ≤ X.heap.size → Calls Try.prog 14 #[pv p, kvv 3 3] X fun e w' => e = .returned (.int .i64 101) ∧ PB z w' p z s ∧ KT z TT X w') := Lib.hid (fun X h hz => by
              have h := pin_any 3 3 h (HS.out.g.ok (by omega)) hz
              rw [f1] at h
              exact h)
            have HPS : Hid (∀ X, PB z X p z s → Calls Try.prog 19 #[pv p] X fun e w' => e = .returned (.int .i64 (i : Int)) ∧ Below X.heap.size X w') := Lib.hid (fun X h => by
              have h := pins_any h (HS.out.g.ok (by omega)).pins
              rw [f3] at h
              exact h)
            have HHD : Hid (∀ X, PB z X p z s → Calls Try.prog 20 #[pv p] X fun e w' => e = .returned (.int .i64 (i : Int)) ∧ X = w') := Lib.hid (fun X h => by
              have h := held_any h
              rw [f2] at h
              exact h)
            have hlen : s.keys.length ≤ 100000 := by unfold PS.keys; rw [List.length_reverse, List.length_map]; omega
            have HLN := Lib.hid hlen
            clear f1 f2 f3 hsz hlen
            go_wp2_with (first
              | (go_at_call 18; (have l0 := HK2.out; clear l0); refine HK2.out.mono ?_; rintro e w7 ⟨kv2, rfl, ho7, hb7⟩
                 have HR2 := Lib.hid (KR.of_own ho7)
                 have HR3 := Lib.hid (HR1.out.below hb7)
                 have HT7 := Lib.hid (HT6.out.below hb7)
                 clear ho7 hb7)
              | (go_at_call 18; refine HK1.out.mono ?_; rintro e w5 ⟨kv, rfl, ho5, hb5⟩
                 have HO5 := Lib.hid ho5
                 have HB5 := Lib.hid hb5
                 have HP5 := Lib.hid (HPI.out w5 (HS.out.pb.below hb5) (Nat.le_trans HS.out.zle hb5.size))
                 clear ho5 hb5)
              | (go_at_call 14; refine HP5.out.mono ?_; rintro e w6 ⟨rfl, h6, k6⟩
                 have HR1 := Lib.hid (KR.of_own (k6.own HO5.out (by decide)))
                 have HT6 : Hid (ClT z p w2 w6 s) := Lib.hid ⟨h6, Nat.le_trans HS.out.zle (Nat.le_trans HB5.out.size k6.keep.size), (HS.out.b.trans (HB5.out.mono HS.out.zle)).trans (k6.below (Nat.le_trans HS.out.zle HB5.out.size))⟩
                 have HK2 := Lib.hid (keys_any h6)
                 clear h6 k6)
              | (go_at_call 17; refine (rkeys_any _ _ _ _ w7 HR2.out HR3.out HLN.out).mono ?_; rintro e w9 ⟨rfl, hb9⟩
                 have HT9 := Lib.hid (HT7.out.below hb9)
                 have HPS9 := Lib.hid (HPS.out w9 HT9.out.1)
                 have hdt : decide (s.keys = s.keys) = true := decide_eq_true rfl
                 rw [hdt]
                 clear hb9 hdt)
              | (go_at_call 19; refine HPS9.out.mono ?_; rintro e w10 ⟨rfl, hb10⟩
                 have HT10 := Lib.hid (HT9.out.below hb10)
                 have HHD10 := Lib.hid (HHD.out w10 HT10.out.1)
                 clear hb10)
              | (go_at_call 20; refine HHD10.out.mono ?_; rintro e _ ⟨rfl, rfl⟩))
            go_ret
            exact ⟨rfl, HBY.out.trans (HT10.out.2.2.mono HYZ.out)⟩
end Go.Proofs.Ytlmdijijlbmddaa.pool

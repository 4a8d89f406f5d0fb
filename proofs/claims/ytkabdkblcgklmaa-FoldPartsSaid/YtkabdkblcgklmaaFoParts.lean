/-
  The walk of the statement FoldParts.
-/
import Derived.Test.YtkabdkblcgklmaaFoAlive
import Derived.Test.YtkabdkblcgklmaaArRSame
import Derived.Test.YtkabdkblcgklmaaArOpen
import Derived.BigQuiet
namespace Go.Proofs.Ytkabdkblcgklmaa.foldParts
open Go.RowKit Go.Proofs.Ytkabdkblcgklmaa.arr Go.Proofs.Ytkabdkblcgklmaa.sc Go.Proofs.Ytkabdkblcgklmaa.fo

theorem row_step {f : Int} (hb : binB f = true) {x : Int} {l : List Int} (hl : l ≠ []) : (rowE f l ≠ 0 → rowE f (x :: l) = rowE f l) ∧ (rowE f l = 0 → rowE f (x :: l) = twoE f x (rowV f l) ∧ rowV f (x :: l) = twoV f x (rowV f l)) := by
  rw [(row_bin hb (x :: l)).1, (row_bin hb (x :: l)).2, (row_bin hb l).1, (row_bin hb l).2]
  refine ⟨fun h => by rw [rowF_bad h], fun h => by rw [rowF_good hl h]; exact ⟨rfl, rfl⟩⟩
set_option maxRecDepth 100000 in
set_option maxHeartbeats 16000000 in
theorem walk (f : Int) (A : Option Addr) (c : Nat) (l : List Int) (u : Nat) (hu : u < 65536) (w : World) (hl : IArg w A c l) :
    Calls Try.prog 9 #[.int .i64 f, .slice A l.length c, .int .u16 (u : Int)] w fun e w' => e = .returned (.bool true) ∧ Below w.heap.size w w' := by
  have HAL := Lib.hid (l16alive w)
  have hbig := hl.cap
  have hbig1 := hl.big
  obtain ⟨n, hn⟩ : ∃ n, l.length = n := ⟨_, rfl⟩
  have hrd := hl.reads
  have hfi := hl.fine
  rw [hn] at hrd hbig
  rw [hn]
  by_cases h3 : 300 < n
  · have hd : decide (300 < (n : Int)) = true := decide_eq_true (by omega)
    clear hl hrd hfi hn
    go_enter Try.func9, Try.ntmps9
    go_wp2_with (go_at_call 45; refine HAL.out.mono ?_; rintro e w2 ⟨rfl, b2⟩)
    go_ret
    exact ⟨rfl, b2⟩
  have hd : decide (300 < (n : Int)) = false := decide_eq_false (by omega)
  have HID := Lib.hid (fun W => scident_any f W)
  have HR : Hid (∀ W, Below w.heap.size w W → Calls Try.prog 30 #[.int .i64 f, .slice A n c] W fun e w' => e = .returned (.tuple #[.int .i64 (rowV f l), .int .i64 (rowE f l)]) ∧ Below W.heap.size W w') := Lib.hid (fun W hb => forow_any f A n c l W hn ((hrd.below hb).more hb.size) (by omega) hfi)
  cases hbin : binB f
  · have he : idE f = 2 := by unfold idE; rw [hbin, if_neg (by decide)]
    rw [(row_no hbin l).1, (row_no hbin l).2] at HR
    rw [he] at HID
    clear hl hrd hfi hn he hbin
    go_enter Try.func9, Try.ntmps9
    go_wp2_with (first
      | (go_at_call 47; refine (HID.out _).mono ?_; rintro e _ ⟨rfl, rfl⟩)
      | (go_at_call 30; refine (HR.out _ b2).mono ?_; rintro e w3 ⟨rfl, b3⟩)
      | (go_at_call 45; refine HAL.out.mono ?_; rintro e w2 ⟨rfl, b2⟩))
    go_ret
    exact ⟨rfl, below_on b2 b3⟩
  have he : idE f = 0 := by unfold idE; rw [hbin, if_pos rfl]
  rw [he] at HID
  by_cases h0 : n = 0
  · subst h0
    have hnil : l = [] := List.eq_nil_of_length_eq_zero hn
    subst hnil
    rw [(row_bin hbin []).1, (row_bin hbin []).2, rowF_nil] at HR
    clear hl hrd hfi hn he hbin
    go_enter Try.func9, Try.ntmps9
    go_wp2_with (first
      | (go_at_call 47; refine (HID.out _).mono ?_; rintro e _ ⟨rfl, rfl⟩)
      | (go_at_call 30; refine (HR.out _ b2).mono ?_; rintro e w3 ⟨rfl, b3⟩)
      | (go_at_call 45; refine HAL.out.mono ?_; rintro e w2 ⟨rfl, b2⟩))
    go_ret
    exact ⟨rfl, below_on b2 b3⟩
  have hn0 : (n == 0) = false := by simp [h0]
  have hn0' : ((n : Int) == 0) = false := by simp; omega
  have hn00 : ¬ (n : Int) = 0 := by omega
  have hn000 : ¬ n = 0 := h0
  obtain ⟨k, hk⟩ : ∃ k, 1 + u % n = k := ⟨_, rfl⟩
  have hkn : k ≤ n := by have := Nat.mod_lt u (show 0 < n by omega); omega
  have hk1 : 1 ≤ k := by omega
  have etm : (u : Int).tmod (n : Int) = (k : Int) - 1 := by
    have := (Int.ofNat_tmod u n).symm
    omega
  obtain ⟨m, hm⟩ : ∃ m, n - 1 = m := ⟨_, rfl⟩
  have hm1 : (n : Int) - 1 = (m : Int) := by omega
  have hmn : m < n := by omega
  obtain ⟨ad, rfl, hla, hc0⟩ := hrd.int_at (k := 0) (by omega) hn
  -- the scan, and the scan of a beginning
  obtain ⟨s1, s2⟩ := scn_vec (f := f) hbin (l := l) (by omega)
  have hlk : (l.take k).length = k := by rw [List.length_take]; omega
  have hfk : ∀ z ∈ l.take k, InR z := fun z hz => hfi z (List.mem_of_mem_take hz)
  obtain ⟨t1, t2⟩ := scn_vec (f := f) hbin (l := l.take k) (by omega)
  obtain ⟨v1, v2⟩ := scn_take (f := f) (l := l) (k := k) (by omega)
  have hpre := scn_pre (f := f) (l := l) (k := k) (by omega)
  have hlast := scn_last (f := f) (l := l) (by omega)
  rw [v1] at t1
  rw [← t1, ← s1] at hpre
  rw [← s1, hn, hm] at hlast
  obtain ⟨L, hL⟩ : ∃ L, apL (scV f l) l.length = L := ⟨_, rfl⟩
  have hLn : L.length = n := by rw [← hL, apL_length, hn]
  have hLf : ∀ z ∈ L, InR z := by rw [← hL]; exact scL_in hfi _
  have hLm : L[m]? = some (scV f l m) := by rw [← hL]; exact apL_at (by omega)
  rw [hL] at s2
  rw [v2, hL] at t2
  obtain ⟨SA, hSA⟩ : ∃ SA, scnA f (vecF l) = SA := ⟨_, rfl⟩
  obtain ⟨SE, hSE⟩ : ∃ SE, scnE f (vecF l) = SE := ⟨_, rfl⟩
  obtain ⟨TA, hTA⟩ : ∃ TA, scnA f (vecF (l.take k)) = TA := ⟨_, rfl⟩
  obtain ⟨TE, hTE⟩ : ∃ TE, scnE f (vecF (l.take k)) = TE := ⟨_, rfl⟩
  have hlen : ∀ (g : List Int) (n : Nat), n ≤ 4096 → g.length = n → (∀ z ∈ g, InR z) → ∀ S, scnA f (vecF g) = S → S.sh.length ≤ 9223372036854775807 ∧ S.el.length ≤ 9223372036854775807 ∧ Fine S := fun g n h1 h2 h3 S hS => by
    subst hS
    obtain ⟨x1, x2⟩ := scn_vec (f := f) hbin (l := g) (by omega)
    by_cases hz : scnE f (vecF g) = 0
    · rw [x2 hz]
      exact ⟨show (1 : Nat) ≤ _ by omega, by show (apL (scV f g) g.length).length ≤ _; rw [apL_length]; omega, scL_in h3 _⟩
    · unfold scnA
      rw [if_neg hz]
      exact ⟨show (0 : Nat) ≤ _ by omega, show (0 : Nat) ≤ _ by omega, fun z hz => by cases hz⟩
  obtain ⟨a1, a2, a3⟩ := hlen l n (by omega) hn hfi SA hSA
  obtain ⟨c1, c2, c3⟩ := hlen (l.take k) k (by omega) hlk hfk TA hTA
  rw [hSE] at s2 hpre hlast
  rw [hTE] at t2 hpre
  rw [hSA] at s2
  rw [hTA] at t2
  have hvec : ∀ (g : List Int) (n cc : Nat) (W : World), n ≤ 300 → g.length = n → (∀ z ∈ g, InR z) → Reads W W.heap.size 1 (some ad) n (g.map iv) → Calls Try.prog 27 #[.slice (some ad) n cc] W fun e w' => ∃ p : AP, e = .returned (.agg #[.int .i64 1, .slice p.A0 1 p.c0, .slice p.A1 n p.c1]) ∧ AEl w' (vecF g) p ∧ Cap2 (vecF g) p ∧ Below W.heap.size W w' := fun g n cc W h1 h2 h3 h4 => by
    refine (vec_give g (by omega) h3 (some ad) n cc W h2 h4).mono ?_
    rintro e w' ⟨p, rfl, h, k, b⟩
    refine ⟨p, ?_, h, k, b⟩
    unfold arC
    rw [show (vecF g).el.length = n from h2]
    rfl
  have hrdW : ∀ W, Below w.heap.size w W → Reads W W.heap.size 1 (some ad) n (l.map iv) := fun W hb => (hrd.below hb).more hb.size
  have HV : Hid (∀ W, Below w.heap.size w W → Calls Try.prog 27 #[.slice (some ad) n c] W fun e w' => ∃ p : AP, e = .returned (.agg #[.int .i64 1, .slice p.A0 1 p.c0, .slice p.A1 n p.c1]) ∧ AEl w' (vecF l) p ∧ Cap2 (vecF l) p ∧ Below W.heap.size W w') := Lib.hid (fun W hb => hvec l n c W (by omega) hn hfi (hrdW W hb))
  have HV2 : Hid (∀ W, Below w.heap.size w W → Calls Try.prog 27 #[.slice (some ad) k c] W fun e w' => ∃ p : AP, e = .returned (.agg #[.int .i64 1, .slice p.A0 1 p.c0, .slice p.A1 k p.c1]) ∧ AEl w' (vecF (l.take k)) p ∧ Cap2 (vecF (l.take k)) p ∧ Below W.heap.size W w') := Lib.hid (fun W hb => hvec (l.take k) k c W (by omega) hlk hfk (reads_pre (hrdW W hb) hkn))
  have HS : Hid (∀ W (p : AP), AEl W (vecF l) p → Cap2 (vecF l) p → Calls Try.prog 36 #[.int .i64 f, .agg #[.int .i64 1, .slice p.A0 1 p.c0, .slice p.A1 n p.c1]] W fun e w' => ∃ p : AP, e = .returned (.tuple #[.agg #[.int .i64 SA.kind, .slice p.A0 SA.sh.length p.c0, .slice p.A1 SA.el.length p.c1], .int .i64 SE]) ∧ AEl w' SA p ∧ Cap2 SA p ∧ Below W.heap.size W w') := Lib.hid (fun W p h k => by
    have h1 := foscan_any f (vecF l) p W h k.l0 k.l1
    rw [hSA, hSE] at h1
    unfold arC at h1
    rw [show (vecF l).el.length = n from hn] at h1
    exact h1.mono (fun _ _ g => g.t a1 a2 a3))
  have HS2 : Hid (∀ W (p : AP), AEl W (vecF (l.take k)) p → Cap2 (vecF (l.take k)) p → Calls Try.prog 36 #[.int .i64 f, .agg #[.int .i64 1, .slice p.A0 1 p.c0, .slice p.A1 k p.c1]] W fun e w' => ∃ p : AP, e = .returned (.tuple #[.agg #[.int .i64 TA.kind, .slice p.A0 TA.sh.length p.c0, .slice p.A1 TA.el.length p.c1], .int .i64 TE]) ∧ AEl w' TA p ∧ Cap2 TA p ∧ Below W.heap.size W w') := Lib.hid (fun W p h k => by
    have h1 := foscan_any f (vecF (l.take _)) p W h k.l0 k.l1
    rw [hTA, hTE] at h1
    unfold arC at h1
    rw [show (vecF (l.take _)).el.length = _ from hlk] at h1
    exact h1.mono (fun _ _ g => g.t c1 c2 c3))
  -- the row without its first one
  have HR1 : Hid (1 < n → ∀ W, Below w.heap.size w W → Calls Try.prog 30 #[.int .i64 f, .slice (some ⟨ad.block, ad.off + 1, none⟩) (n - 1) (c - 1)] W fun e w' => e = .returned (.tuple #[.int .i64 (rowV f (l.drop 1)), .int .i64 (rowE f (l.drop 1))]) ∧ Below W.heap.size W w') := Lib.hid (fun h1 W hb => by
    have h := reads_win (i := 1) (k := m) (cap := c) (hrdW W hb) (by omega) (by omega)
    rw [if_neg (by omega), List.take_of_length_le (by rw [List.length_drop]; omega)] at h
    rw [hm]
    exact forow_any f (some (ad.add 1)) m (c - 1) (l.drop 1) W (by rw [List.length_drop]; omega) h (by omega) (fun z hz => hfi z (List.mem_of_mem_drop hz)))
  have hdr : l = (l[0]'(by omega)) :: l.drop 1 := by
    have := List.drop_eq_getElem_cons (l := l) (i := 0) (by omega)
    rwa [List.drop_zero] at this
  have hst : 1 < n → (rowE f (l.drop 1) ≠ 0 → rowE f l = rowE f (l.drop 1)) ∧ (rowE f (l.drop 1) = 0 → rowE f l = twoE f (l[0]'(by omega)) (rowV f (l.drop 1)) ∧ rowV f l = twoV f (l[0]'(by omega)) (rowV f (l.drop 1))) := fun h1 => by
    have h := row_step hbin (x := l[0]'(by omega)) (l := l.drop 1) (by
      intro e
      have := congrArg List.length e
      rw [List.length_drop, List.length_nil] at this
      omega)
    rwa [← hdr] at h
  have HTW : Hid (∀ W, Calls Try.prog 48 #[.int .i64 f, .int .i64 (l[0]'(by omega)), .int .i64 (rowV f (l.drop 1))] W fun e w' => e = .returned (.tuple #[.int .i64 (twoV f (l[0]'(by omega)) (rowV f (l.drop 1))), .int .i64 (twoE f (l[0]'(by omega)) (rowV f (l.drop 1)))]) ∧ Below W.heap.size W w') := Lib.hid (fun W => sctwo_any f _ _ (hfi _ (List.getElem_mem _)) (rowV_in (fun z hz => hfi z (List.mem_of_mem_drop hz))) W)
  have HC0 : Hid (∀ W, Below w.heap.size w W → W.cell? ad = some (.int .i64 (l[0]'(by omega)))) := Lib.hid (fun W hb => by
    obtain ⟨ad', e, _, h⟩ := (hrd.below hb).int_at (k := 0) (by omega) hn
    injection e with e
    subst e
    simpa [Addr.add] using h)
  generalize (l[0]'(by omega)) = x0 at *
  obtain ⟨Y, hY⟩ : ∃ Y, rowV f (l.drop 1) = Y := ⟨_, rfl⟩
  obtain ⟨H, hH⟩ : ∃ H, rowE f (l.drop 1) = H := ⟨_, rfl⟩
  obtain ⟨X, hX⟩ : ∃ X, rowV f l = X := ⟨_, rfl⟩
  obtain ⟨E, hE⟩ : ∃ E, rowE f l = E := ⟨_, rfl⟩
  rw [hY, hH] at HR1 hst
  rw [hY] at HTW
  rw [hX, hE] at HR hst hlast
  obtain ⟨ZV, hZV⟩ : ∃ ZV, twoV f x0 Y = ZV := ⟨_, rfl⟩
  obtain ⟨ZE, hZE⟩ : ∃ ZE, twoE f x0 Y = ZE := ⟨_, rfl⟩
  rw [hZV, hZE] at HTW hst
  have HN : Hid (k ≤ n ∧ n ≤ 300 ∧ 1 ≤ k ∧ m < n ∧ L.length = n) := Lib.hid ⟨hkn, by omega, hk1, hmn, hLn⟩
  have HLM := Lib.hid hLm
  have HLF := Lib.hid hLf
  have HLA := Lib.hid hlast
  have HPR := Lib.hid hpre
  have HSS := Lib.hid s2
  have HTT := Lib.hid t2
  have hw1 : wrap64 ((k : Int) - 1) = (k : Int) - 1 := by unfold wrap64; omega
  have hw2 : (1 : Int) + ((k : Int) - 1) = (k : Int) := by omega
  have hw3 : ((u : Int)) ≤ 65535 := by omega
  have hkc : (k : Int) ≤ (c : Int) := by omega
  have hkc2 : k ≤ c := by omega
  have hk300 : (k : Int) ≤ 300 := by omega
  have hn300 : (n : Int) ≤ 300 := by omega
  have three : n = 1 ∨ (1 < n ∧ H ≠ 0) ∨ (1 < n ∧ H = 0) := by omega
  have HST := Lib.hid hst
  clear hl hrd hfi hn he hbin hk hla hc0 s1 s2 hlk hfk t1 t2 v1 v2 hpre hlast hL hLn hLf hLm hSA hSE hTA hTE hlen a1 a2 a3 c1 c2 c3 hvec hrdW hdr hst hY hH hX hE hZV hZE hm h3
  go_enter Try.func9, Try.ntmps9
  rcases three with h1 | ⟨h1, hH⟩ | ⟨h1, hH⟩
  · have hd1 : decide (1 < (n : Int)) = false := decide_eq_false (by omega)
    clear h1
    go_upto_region 18 with (first
      | (go_at_call 47; refine (HID.out _).mono ?_; rintro e _ ⟨rfl, rfl⟩; have BZ := B3)
      | (go_at_call 30; (with_reducible refine (HR.out _ B2.out).mono ?_); rintro e w3 ⟨rfl, b3⟩; have B3 := Lib.hid (below_on B2.out b3); clear b3)
      | (go_at_call 45; refine HAL.out.mono ?_; rintro e w2 ⟨rfl, b2⟩; have B2 := Lib.hid b2; clear b2))
    clear HST HR1 HTW HID HR HAL
    go_upto_region 21 with (first
      | (go_at_call 36; (have l0 := E7.out; clear l0); (with_reducible refine (HS2.out _ _ E7.out C7.out).mono ?_); rintro e w8 ⟨q, rfl, e8, c8, b8⟩; have BX8 := Lib.hid (BX7.out.up b8); have E8 := Lib.hid e8; have B8 := Lib.hid (below_on B7.out b8); clear e8 c8 b8)
      | (go_at_call 27; (have l0 := E6.out; clear l0); (with_reducible refine (HV2.out _ B6.out).mono ?_); rintro e w7 ⟨q7, rfl, e7, c7, b7⟩; have E7 := Lib.hid e7; have C7 := Lib.hid c7; have BX7 := Lib.hid (BX6.out.up b7); have B7 := Lib.hid (below_on B6.out b7); clear e7 c7 b7)
      | (go_at_call 36; (with_reducible refine (HS.out _ _ E5.out C5.out).mono ?_); rintro e w6 ⟨r, rfl, e6, c6, b6⟩; have E6 := Lib.hid e6; have BX6 : Hid (BoxF (w6.alloc (.cells #[.int .i64 SA.kind, .slice r.A0 SA.sh.length r.c0, .slice r.A1 SA.el.length r.c1] 25)) w6.heap.size SA r) := Lib.hid (BoxF.new e6 c6); have B6 : Hid (Below w.heap.size w (w6.alloc (.cells #[.int .i64 SA.kind, .slice r.A0 SA.sh.length r.c0, .slice r.A1 SA.el.length r.c1] 25))) := Lib.hid (below_on (below_on B5.out b6) (alloc_below w6 _)); clear e6 c6 b6)
      | (go_at_call 27; (with_reducible refine (HV.out _ BZ.out).mono ?_); rintro e w5 ⟨q5, rfl, e5, c5, b5⟩; have E5 := Lib.hid e5; have C5 := Lib.hid c5; have B5 := Lib.hid (below_on BZ.out b5); clear e5 c5 b5))
    obtain ⟨w9, hw9⟩ : ∃ w9, w8.alloc (.cells #[.int .i64 TA.kind, .slice q.A0 TA.sh.length q.c0, .slice q.A1 TA.el.length q.c1] 25) = w9 := ⟨_, rfl⟩
    have hal := alloc_below w8 (.cells #[.int .i64 TA.kind, .slice q.A0 TA.sh.length q.c0, .slice q.A1 TA.el.length q.c1] 25)
    have hbt := Blk.new w8 25 #[.int .i64 TA.kind, .slice q.A0 TA.sh.length q.c0, .slice q.A1 TA.el.length q.c1]
    have hbs := BX8.out.up hal
    obtain ⟨gs, hgs⟩ : ∃ gs, w6.heap.size = gs := ⟨_, rfl⟩
    obtain ⟨gt, hgt⟩ : ∃ gt, w8.heap.size = gt := ⟨_, rfl⟩
    have het := E8.out.below hal
    have HB9 := Lib.hid (below_on B8.out hal)
    rw [hw9] at hal hbt hbs het HB9
    rw [hgs] at hbs
    rw [hgt] at hbt
    rw [hw9, hgs, hgt]
    have HBS0 := Lib.hid hbs
    have HBT0 := Lib.hid hbt
    have HET0 := Lib.hid het
    clear hal hbt hbs het hw9 hgs hgt HV HV2 HS HS2
    by_cases hs0 : SE = 0
    · subst hs0
      obtain rfl := HSS.out rfl
      have hTE : TE = 0 := HPR.out.elim id id
      subst hTE
      obtain rfl := HTT.out rfl
      obtain ⟨hE0, hXX⟩ := HLA.out rfl
      obtain ⟨adS, hA1, _, hcS⟩ := Reads.int_at (l := (vecF L).el) HBS0.out.e.r1 (k := m) (by show m < L.length; have := HN.out; omega) rfl
      have hlL : (vecF L).el.length = n := HN.out.2.2.2.2
      have hlT : (vecF (L.take k)).el.length = k := by show (L.take k).length = k; rw [List.length_take]; have := HN.out; omega
      have HBS : Hid (∀ W, Below w9.heap.size w9 W → W.cell? ⟨gs, 0, none⟩ = some (.int .i64 1) ∧ W.cell? ⟨gs, 1, none⟩ = some (.slice r.A0 1 r.c0) ∧ W.cell? ⟨gs, 2, none⟩ = some (.slice (some adS) n r.c1)) := Lib.hid (fun W hb => by
        have h := (HBS0.out.up hb).cells
        rw [hA1, hlL] at h
        exact h)
      have HBT : Hid (∀ W, Below w9.heap.size w9 W → W.cell? ⟨gt, 0, none⟩ = some (.int .i64 1) ∧ W.cell? ⟨gt, 1, none⟩ = some (.slice q.A0 1 q.c0) ∧ W.cell? ⟨gt, 2, none⟩ = some (.slice q.A1 k q.c1)) := Lib.hid (fun W hb => by
        have h := HBT0.out.below hb HBT0.out.lt
        have h2 := h.cell 2
        rw [hlT] at h2
        exact ⟨h.cell 0, h.cell 1, h2⟩)
      have HCS : Hid (∀ W, Below w9.heap.size w9 W → W.cell? (adS.add m) = some (.int .i64 X)) := Lib.hid (fun W hb => by
        obtain ⟨ad', e1, _, e2⟩ := Reads.int_at (l := (vecF L).el) (HBS0.out.up hb).e.r1 (k := m) (by show m < L.length; have := HN.out; omega) rfl
        rw [hA1] at e1
        injection e1 with e1
        subst e1
        rw [e2]
        have h1 : L[m]? = some (scV f l m) := HLM.out
        obtain ⟨h2, h3⟩ := List.getElem?_eq_some_iff.1 h1
        show some (Value.int .i64 L[m]) = _
        rw [h3, hXX])
      have HVS : Hid (∀ W, Below w9.heap.size w9 W → Calls Try.prog 27 #[.slice (some adS) k r.c1] W (GiveV (vecF (L.take k)) W)) := Lib.hid (fun W hb => by
        have h := (HBS0.out.up hb).e.r1
        rw [hA1, hlL] at h
        exact vec_give (L.take k) (by rw [List.length_take]; have := HN.out; omega) (fun z hz => HLF.out z (List.mem_of_mem_take hz)) (some adS) k r.c1 W hlT (reads_pre h HN.out.1))
      have HSM : Hid (∀ W, Below w9.heap.size w9 W → ∀ p9, AEl W (vecF (L.take k)) p9 → Calls Try.prog 38 #[.agg #[.int .i64 1, .slice q.A0 1 q.c0, .slice q.A1 k q.c1], .agg (arC (vecF (L.take k)) p9)] W fun e w' => e = .returned (.bool true) ∧ Below W.heap.size W w') := Lib.hid (fun W hb p9 h9 => by
        have h := r11same_eq (vecF (L.take k)) q p9 W (HET0.out.below hb) h9
        have e : arC (vecF (L.take k)) q = #[.int .i64 1, .slice q.A0 1 q.c0, .slice q.A1 k q.c1] := by
          unfold arC
          rw [hlT]
          rfl
        rwa [e] at h)
      have hcr : k ≤ r.c1 := by have := HBS0.out.c.l1; have := HN.out; omega
      obtain ⟨rc, hrc⟩ : ∃ rc, r.c1 = rc := ⟨_, rfl⟩
      rw [hrc] at HBS HVS hcr
      obtain ⟨TL, hTL⟩ : ∃ TL, L.take k = TL := ⟨_, rfl⟩
      rw [hTL] at HVS HSM
      subst hE0
      have hmn2 : (m : Int) < (n : Int) := by have := HN.out; omega
      have hwm : IntKind.i64.wrap (m : Int) = (m : Int) := by rw [IntKind.wrap_i64]; omega
      have hkr : (k : Int) ≤ (rc : Int) := by omega
      have HU : GU (lookU [(26, xw (vecF TL)), (27, xv (.bool true))]) := lookU_stay (by
        intro x hx
        simp only [List.mem_cons, List.not_mem_nil, or_false] at hx
        rcases hx with rfl | rfl <;> first | exact xw_stk _ | exact xv_stk _)
      clear hcS hrc hTL hXX hA1 hlL hlT
      go_upto_region 23 with (fail)
      refine wp_region_done_on (GS w9) (GR [26, 27] (lookU [(26, xw (vecF TL)), (27, xv (.bool true))]) [.bool true, .bool true, .int .i64 0, .bool true, .bool true, .bool true, .pointer (some ⟨gs, 2, none⟩), .slice (some adS) n rc, .slice (some ad) n c, .int .i64 (n : Int), .int .i64 (m : Int), .pointer (some (adS.add m)), .int .i64 X, .int .i64 X, .bool true, .bool true, .bool true, .int .i64 0, .bool true, .bool true, .bool true, .agg #[.int .i64 1, .slice q.A0 1 q.c0, .slice q.A1 k q.c1], .pointer (some ⟨gs, 2, none⟩), .slice (some adS) n rc, .int .i64 (k : Int), .slice (some adS) k rc, undef, undef, .bool true, .bool true]) (by kernel_rfl) 156 rfl (by kernel_rfl) ((Below.refl _ _).drew) ?_ ?_
      · intro i hi
        have hi2 : i < 30 := hi
        clear hi
        rcases i with _ | i
        · refine gr_value rfl (by decide) (.bool true) rfl ?_
          intro a8 w8 hb8 ho hn
          have o7 : a8.tmps[7]? = some _ := (ho 7 (by kernel_rfl)).trans rfl
          clear ho hn
          refine ⟨wanted_free rfl, ?_⟩
          go_simp
        rcases i with _ | i
        · refine gr_value rfl (by decide) (.bool true) rfl ?_
          intro a8 w8 hb8 ho hn
          obtain ⟨v127, n127, hq127⟩ := hn 0 127 (by kernel_rfl) rfl
          obtain rfl := hq127.1 (by decide)
          clear ho hn
          refine ⟨wanted_free rfl, ?_⟩
          go_simp
        rcases i with _ | i
        · refine gr_value rfl (by decide) (.int .i64 0) rfl ?_
          intro a8 w8 hb8 ho hn
          have o9 : a8.tmps[9]? = some _ := (ho 9 (by kernel_rfl)).trans rfl
          obtain ⟨v128, n128, hq128⟩ := hn 1 128 (by kernel_rfl) rfl
          obtain rfl := hq128.1 (by decide)
          clear ho hn
          refine ⟨wanted_of 1 128 rfl rfl n128, ?_⟩
          go_simp
        rcases i with _ | i
        · refine gr_value rfl (by decide) (.bool true) rfl ?_
          intro a8 w8 hb8 ho hn
          obtain ⟨v129, n129, hq129⟩ := hn 2 129 (by kernel_rfl) rfl
          obtain rfl := hq129.1 (by decide)
          obtain ⟨v128, n128, hq128⟩ := hn 1 128 (by kernel_rfl) rfl
          obtain rfl := hq128.1 (by decide)
          clear ho hn
          refine ⟨wanted_of 1 128 rfl rfl n128, ?_⟩
          go_simp
        rcases i with _ | i
        · refine gr_value rfl (by decide) (.bool true) rfl ?_
          intro a8 w8 hb8 ho hn
          obtain ⟨v128, n128, hq128⟩ := hn 1 128 (by kernel_rfl) rfl
          obtain rfl := hq128.1 (by decide)
          obtain ⟨v130, n130, hq130⟩ := hn 3 130 (by kernel_rfl) rfl
          obtain rfl := hq130.1 (by decide)
          clear ho hn
          refine ⟨wanted_free rfl, ?_⟩
          go_simp
        rcases i with _ | i
        · refine gr_value rfl (by decide) (.bool true) rfl ?_
          intro a8 w8 hb8 ho hn
          obtain ⟨v131, n131, hq131⟩ := hn 4 131 (by kernel_rfl) rfl
          obtain rfl := hq131.1 (by decide)
          clear ho hn
          refine ⟨wanted_free rfl, ?_⟩
          go_simp
        rcases i with _ | i
        · refine gr_value rfl (by decide) (.pointer (some ⟨gs, 2, none⟩)) rfl ?_
          intro a8 w8 hb8 ho hn
          have o16 : a8.tmps[16]? = some _ := (ho 16 (by kernel_rfl)).trans rfl
          obtain ⟨v132, n132, hq132⟩ := hn 5 132 (by kernel_rfl) rfl
          obtain rfl := hq132.1 (by decide)
          clear ho hn
          refine ⟨wanted_of 5 132 rfl rfl n132, ?_⟩
          go_simp
        rcases i with _ | i
        · refine gr_value rfl (by decide) (.slice (some adS) n rc) rfl ?_
          intro a8 w8 hb8 ho hn
          obtain ⟨v133, n133, hq133⟩ := hn 6 133 (by kernel_rfl) rfl
          obtain rfl := hq133.1 (by decide)
          obtain ⟨v132, n132, hq132⟩ := hn 5 132 (by kernel_rfl) rfl
          obtain rfl := hq132.1 (by decide)
          clear ho hn
          refine ⟨wanted_of 5 132 rfl rfl n132, ?_⟩
          obtain ⟨y0, y1, y2⟩ := HBS.out w8 hb8
          go_simp
        rcases i with _ | i
        · refine gr_value rfl (by decide) (.slice (some ad) n c) rfl ?_
          intro a8 w8 hb8 ho hn
          have o1 : a8.tmps[1]? = some _ := (ho 1 (by kernel_rfl)).trans rfl
          obtain ⟨v132, n132, hq132⟩ := hn 5 132 (by kernel_rfl) rfl
          obtain rfl := hq132.1 (by decide)
          clear ho hn
          refine ⟨wanted_of 5 132 rfl rfl n132, ?_⟩
          go_simp
        rcases i with _ | i
        · refine gr_value rfl (by decide) (.int .i64 (n : Int)) rfl ?_
          intro a8 w8 hb8 ho hn
          obtain ⟨v135, n135, hq135⟩ := hn 8 135 (by kernel_rfl) rfl
          obtain rfl := hq135.1 (by decide)
          obtain ⟨v132, n132, hq132⟩ := hn 5 132 (by kernel_rfl) rfl
          obtain rfl := hq132.1 (by decide)
          clear ho hn
          refine ⟨wanted_of 5 132 rfl rfl n132, ?_⟩
          go_simp
        rcases i with _ | i
        · refine gr_value rfl (by decide) (.int .i64 (m : Int)) rfl ?_
          intro a8 w8 hb8 ho hn
          obtain ⟨v136, n136, hq136⟩ := hn 9 136 (by kernel_rfl) rfl
          obtain rfl := hq136.1 (by decide)
          obtain ⟨v132, n132, hq132⟩ := hn 5 132 (by kernel_rfl) rfl
          obtain rfl := hq132.1 (by decide)
          clear ho hn
          refine ⟨wanted_of 5 132 rfl rfl n132, ?_⟩
          go_simp
        rcases i with _ | i
        · refine gr_value rfl (by decide) (.pointer (some (adS.add m))) rfl ?_
          intro a8 w8 hb8 ho hn
          obtain ⟨v134, n134, hq134⟩ := hn 7 134 (by kernel_rfl) rfl
          obtain rfl := hq134.1 (by decide)
          obtain ⟨v137, n137, hq137⟩ := hn 10 137 (by kernel_rfl) rfl
          obtain rfl := hq137.1 (by decide)
          obtain ⟨v132, n132, hq132⟩ := hn 5 132 (by kernel_rfl) rfl
          obtain rfl := hq132.1 (by decide)
          clear ho hn
          refine ⟨wanted_of 5 132 rfl rfl n132, ?_⟩
          go_simp
        rcases i with _ | i
        · refine gr_value rfl (by decide) (.int .i64 X) rfl ?_
          intro a8 w8 hb8 ho hn
          obtain ⟨v138, n138, hq138⟩ := hn 11 138 (by kernel_rfl) rfl
          obtain rfl := hq138.1 (by decide)
          obtain ⟨v132, n132, hq132⟩ := hn 5 132 (by kernel_rfl) rfl
          obtain rfl := hq132.1 (by decide)
          clear ho hn
          refine ⟨wanted_of 5 132 rfl rfl n132, ?_⟩
          have y3 := HCS.out w8 hb8
          go_simp
        rcases i with _ | i
        · refine gr_value rfl (by decide) (.int .i64 X) rfl ?_
          intro a8 w8 hb8 ho hn
          have o8 : a8.tmps[8]? = some _ := (ho 8 (by kernel_rfl)).trans rfl
          obtain ⟨v132, n132, hq132⟩ := hn 5 132 (by kernel_rfl) rfl
          obtain rfl := hq132.1 (by decide)
          clear ho hn
          refine ⟨wanted_of 5 132 rfl rfl n132, ?_⟩
          go_simp
        rcases i with _ | i
        · refine gr_value rfl (by decide) (.bool true) rfl ?_
          intro a8 w8 hb8 ho hn
          obtain ⟨v139, n139, hq139⟩ := hn 12 139 (by kernel_rfl) rfl
          obtain rfl := hq139.1 (by decide)
          obtain ⟨v140, n140, hq140⟩ := hn 13 140 (by kernel_rfl) rfl
          obtain rfl := hq140.1 (by decide)
          obtain ⟨v132, n132, hq132⟩ := hn 5 132 (by kernel_rfl) rfl
          obtain rfl := hq132.1 (by decide)
          clear ho hn
          refine ⟨wanted_of 5 132 rfl rfl n132, ?_⟩
          go_simp
        rcases i with _ | i
        · refine gr_value rfl (by decide) (.bool true) rfl ?_
          intro a8 w8 hb8 ho hn
          obtain ⟨v132, n132, hq132⟩ := hn 5 132 (by kernel_rfl) rfl
          obtain rfl := hq132.1 (by decide)
          obtain ⟨v141, n141, hq141⟩ := hn 14 141 (by kernel_rfl) rfl
          obtain rfl := hq141.1 (by decide)
          clear ho hn
          refine ⟨wanted_free rfl, ?_⟩
          go_simp
        rcases i with _ | i
        · refine gr_value rfl (by decide) (.bool true) rfl ?_
          intro a8 w8 hb8 ho hn
          obtain ⟨v142, n142, hq142⟩ := hn 15 142 (by kernel_rfl) rfl
          obtain rfl := hq142.1 (by decide)
          clear ho hn
          refine ⟨wanted_free rfl, ?_⟩
          go_simp
        rcases i with _ | i
        · refine gr_value rfl (by decide) (.int .i64 0) rfl ?_
          intro a8 w8 hb8 ho hn
          have o20 : a8.tmps[20]? = some _ := (ho 20 (by kernel_rfl)).trans rfl
          obtain ⟨v143, n143, hq143⟩ := hn 16 143 (by kernel_rfl) rfl
          obtain rfl := hq143.1 (by decide)
          clear ho hn
          refine ⟨wanted_of 16 143 rfl rfl n143, ?_⟩
          go_simp
        rcases i with _ | i
        · refine gr_value rfl (by decide) (.bool true) rfl ?_
          intro a8 w8 hb8 ho hn
          obtain ⟨v144, n144, hq144⟩ := hn 17 144 (by kernel_rfl) rfl
          obtain rfl := hq144.1 (by decide)
          obtain ⟨v143, n143, hq143⟩ := hn 16 143 (by kernel_rfl) rfl
          obtain rfl := hq143.1 (by decide)
          clear ho hn
          refine ⟨wanted_of 16 143 rfl rfl n143, ?_⟩
          go_simp
        rcases i with _ | i
        · refine gr_value rfl (by decide) (.bool true) rfl ?_
          intro a8 w8 hb8 ho hn
          obtain ⟨v143, n143, hq143⟩ := hn 16 143 (by kernel_rfl) rfl
          obtain rfl := hq143.1 (by decide)
          obtain ⟨v145, n145, hq145⟩ := hn 18 145 (by kernel_rfl) rfl
          obtain rfl := hq145.1 (by decide)
          clear ho hn
          refine ⟨wanted_free rfl, ?_⟩
          go_simp
        rcases i with _ | i
        · refine gr_value rfl (by decide) (.bool true) rfl ?_
          intro a8 w8 hb8 ho hn
          obtain ⟨v146, n146, hq146⟩ := hn 19 146 (by kernel_rfl) rfl
          obtain rfl := hq146.1 (by decide)
          clear ho hn
          refine ⟨wanted_free rfl, ?_⟩
          go_simp
        rcases i with _ | i
        · refine gr_value rfl (by decide) (.agg #[.int .i64 1, .slice q.A0 1 q.c0, .slice q.A1 k q.c1]) rfl ?_
          intro a8 w8 hb8 ho hn
          have o19 : a8.tmps[19]? = some _ := (ho 19 (by kernel_rfl)).trans rfl
          obtain ⟨v147, n147, hq147⟩ := hn 20 147 (by kernel_rfl) rfl
          obtain rfl := hq147.1 (by decide)
          clear ho hn
          refine ⟨wanted_of 20 147 rfl rfl n147, ?_⟩
          obtain ⟨y0, y1, y2⟩ := HBT.out w8 hb8
          go_simp
        rcases i with _ | i
        · refine gr_value rfl (by decide) (.pointer (some ⟨gs, 2, none⟩)) rfl ?_
          intro a8 w8 hb8 ho hn
          have o16 : a8.tmps[16]? = some _ := (ho 16 (by kernel_rfl)).trans rfl
          obtain ⟨v147, n147, hq147⟩ := hn 20 147 (by kernel_rfl) rfl
          obtain rfl := hq147.1 (by decide)
          clear ho hn
          refine ⟨wanted_of 20 147 rfl rfl n147, ?_⟩
          go_simp
        rcases i with _ | i
        · refine gr_value rfl (by decide) (.slice (some adS) n rc) rfl ?_
          intro a8 w8 hb8 ho hn
          obtain ⟨v149, n149, hq149⟩ := hn 22 149 (by kernel_rfl) rfl
          obtain rfl := hq149.1 (by decide)
          obtain ⟨v147, n147, hq147⟩ := hn 20 147 (by kernel_rfl) rfl
          obtain rfl := hq147.1 (by decide)
          clear ho hn
          refine ⟨wanted_of 20 147 rfl rfl n147, ?_⟩
          obtain ⟨y0, y1, y2⟩ := HBS.out w8 hb8
          go_simp
        rcases i with _ | i
        · refine gr_value rfl (by decide) (.int .i64 (k : Int)) rfl ?_
          intro a8 w8 hb8 ho hn
          have o18 : a8.tmps[18]? = some _ := (ho 18 (by kernel_rfl)).trans rfl
          obtain ⟨v147, n147, hq147⟩ := hn 20 147 (by kernel_rfl) rfl
          obtain rfl := hq147.1 (by decide)
          clear ho hn
          refine ⟨wanted_of 20 147 rfl rfl n147, ?_⟩
          go_simp
        rcases i with _ | i
        · refine gr_value rfl (by decide) (.slice (some adS) k rc) rfl ?_
          intro a8 w8 hb8 ho hn
          obtain ⟨v150, n150, hq150⟩ := hn 23 150 (by kernel_rfl) rfl
          obtain rfl := hq150.1 (by decide)
          obtain ⟨v151, n151, hq151⟩ := hn 24 151 (by kernel_rfl) rfl
          obtain rfl := hq151.1 (by decide)
          obtain ⟨v147, n147, hq147⟩ := hn 20 147 (by kernel_rfl) rfl
          obtain rfl := hq147.1 (by decide)
          clear ho hn
          refine ⟨wanted_of 20 147 rfl rfl n147, ?_⟩
          go_simp
        rcases i with _ | i
        · refine gr_call HU 27 rfl (by decide) ?_
          intro a8 w8 hb8 ho hn
          obtain ⟨v152, n152, hq152⟩ := hn 25 152 (by kernel_rfl) rfl
          obtain rfl := hq152.1 (by decide)
          obtain ⟨v147, n147, hq147⟩ := hn 20 147 (by kernel_rfl) rfl
          obtain rfl := hq147.1 (by decide)
          clear ho hn
          refine ⟨wanted_of 20 147 rfl rfl n147, ?_⟩
          refine ⟨#[.slice (some adS) k rc], (by go_simp), (HVS.out w8 hb8).mono ?_⟩
          rintro e w9 ⟨p9, rfl, e9, c9, b9⟩
          exact ⟨_, rfl, b9, p9, rfl, e9⟩
        rcases i with _ | i
        · refine gr_call HU 38 rfl (by decide) ?_
          intro a8 w8 hb8 ho hn
          obtain ⟨v148, n148, hq148⟩ := hn 21 148 (by kernel_rfl) rfl
          obtain rfl := hq148.1 (by decide)
          obtain ⟨v153, n153, hq153⟩ := hn 26 153 (by kernel_rfl) rfl
          have hv153 := hq153.2 (by decide)
          obtain ⟨v147, n147, hq147⟩ := hn 20 147 (by kernel_rfl) rfl
          obtain rfl := hq147.1 (by decide)
          clear ho hn
          refine ⟨wanted_of 20 147 rfl rfl n147, ?_⟩
          obtain ⟨p9, rfl, h9⟩ : xw (vecF TL) v153 w8 := hv153
          refine ⟨#[.agg #[.int .i64 1, .slice q.A0 1 q.c0, .slice q.A1 k q.c1], .agg (arC (vecF TL) p9)], (by go_simp), (HSM.out w8 hb8 p9 h9).mono ?_⟩
          rintro e w9 ⟨rfl, b9⟩
          exact ⟨_, rfl, b9, rfl⟩
        rcases i with _ | i
        · refine gr_value rfl (by decide) (.bool true) rfl ?_
          intro a8 w8 hb8 ho hn
          obtain ⟨v147, n147, hq147⟩ := hn 20 147 (by kernel_rfl) rfl
          obtain rfl := hq147.1 (by decide)
          obtain ⟨v154, n154, hq154⟩ := hn 27 154 (by kernel_rfl) rfl
          have hv154 := hq154.2 (by decide)
          clear ho hn
          refine ⟨wanted_free rfl, ?_⟩
          obtain rfl : v154 = .bool true := hv154
          clear hq154
          go_simp
        rcases i with _ | i
        · refine gr_value rfl (by decide) (.bool true) rfl ?_
          intro a8 w8 hb8 ho hn
          obtain ⟨v155, n155, hq155⟩ := hn 28 155 (by kernel_rfl) rfl
          obtain rfl := hq155.1 (by decide)
          clear ho hn
          refine ⟨wanted_free rfl, ?_⟩
          go_simp
        omega
      · intro dn fv w5 hb5 hR5 hall
        have h6 : fv 6 = _ := (hR5 29 6 rfl).1 (by decide)
        simp only [putAll, List.foldl_cons, List.foldl_nil, Act.put, List.setIfInBounds_toArray, List.set_cons_succ, List.set_cons_zero, h6, List.getD_cons_zero, List.getD_cons_succ]
        clear hR5 hall
        go_wp2
        go_ret
        exact ⟨rfl, HB9.out.trans (hb5.mono HB9.out.size)⟩
    · have hne1 : (SE != 0) = true := by simp [hs0]
      have hpr := HPR.out
      rcases hpr with rfl | rfl
      · go_wp2
        go_ret
        exact ⟨rfl, HB9.out⟩
      · have hne2 : (TE == 0) = false := by simp [hs0]
        have hne3 : (TE == TE) = true := by simp
        go_wp2
        go_ret
        exact ⟨rfl, HB9.out⟩
  · have hd1 : decide (1 < (n : Int)) = true := decide_eq_true (by omega)
    obtain rfl := (HST.out h1).1 hH
    have hne : (E != 0) = true := by simp [hH]
    have hee : (E != E) = false := by simp
    have HHH := Lib.hid hH
    clear hH
    have hc1 : ¬ c = 1 := by omega
    have hc2 : (1 : Int) ≤ (c : Int) := by omega
    have hc3 : 1 ≤ n := by omega
    go_upto_region 18 with (first
      | (go_at_call 30; (have l0 := B3.out; clear l0); (with_reducible refine (HR1.out h1 _ B3.out).mono ?_); rintro e w4 ⟨rfl, b4⟩; have B4 := Lib.hid (below_on B3.out b4); have y0 := HC0.out _ B4.out; have BZ := B4; clear b4)
      | (go_at_call 47; refine (HID.out _).mono ?_; rintro e _ ⟨rfl, rfl⟩; have BZ := B3)
      | (go_at_call 30; (with_reducible refine (HR.out _ B2.out).mono ?_); rintro e w3 ⟨rfl, b3⟩; have B3 := Lib.hid (below_on B2.out b3); clear b3)
      | (go_at_call 45; refine HAL.out.mono ?_; rintro e w2 ⟨rfl, b2⟩; have B2 := Lib.hid b2; clear b2))
    clear HST HR1 HTW HID HR HAL
    go_upto_region 21 with (first
      | (go_at_call 36; (have l0 := E7.out; clear l0); (with_reducible refine (HS2.out _ _ E7.out C7.out).mono ?_); rintro e w8 ⟨q, rfl, e8, c8, b8⟩; have BX8 := Lib.hid (BX7.out.up b8); have E8 := Lib.hid e8; have B8 := Lib.hid (below_on B7.out b8); clear e8 c8 b8)
      | (go_at_call 27; (have l0 := E6.out; clear l0); (with_reducible refine (HV2.out _ B6.out).mono ?_); rintro e w7 ⟨q7, rfl, e7, c7, b7⟩; have E7 := Lib.hid e7; have C7 := Lib.hid c7; have BX7 := Lib.hid (BX6.out.up b7); have B7 := Lib.hid (below_on B6.out b7); clear e7 c7 b7)
      | (go_at_call 36; (with_reducible refine (HS.out _ _ E5.out C5.out).mono ?_); rintro e w6 ⟨r, rfl, e6, c6, b6⟩; have E6 := Lib.hid e6; have BX6 : Hid (BoxF (w6.alloc (.cells #[.int .i64 SA.kind, .slice r.A0 SA.sh.length r.c0, .slice r.A1 SA.el.length r.c1] 25)) w6.heap.size SA r) := Lib.hid (BoxF.new e6 c6); have B6 : Hid (Below w.heap.size w (w6.alloc (.cells #[.int .i64 SA.kind, .slice r.A0 SA.sh.length r.c0, .slice r.A1 SA.el.length r.c1] 25))) := Lib.hid (below_on (below_on B5.out b6) (alloc_below w6 _)); clear e6 c6 b6)
      | (go_at_call 27; (with_reducible refine (HV.out _ BZ.out).mono ?_); rintro e w5 ⟨q5, rfl, e5, c5, b5⟩; have E5 := Lib.hid e5; have C5 := Lib.hid c5; have B5 := Lib.hid (below_on BZ.out b5); clear e5 c5 b5))
    obtain ⟨w9, hw9⟩ : ∃ w9, w8.alloc (.cells #[.int .i64 TA.kind, .slice q.A0 TA.sh.length q.c0, .slice q.A1 TA.el.length q.c1] 25) = w9 := ⟨_, rfl⟩
    have hal := alloc_below w8 (.cells #[.int .i64 TA.kind, .slice q.A0 TA.sh.length q.c0, .slice q.A1 TA.el.length q.c1] 25)
    have hbt := Blk.new w8 25 #[.int .i64 TA.kind, .slice q.A0 TA.sh.length q.c0, .slice q.A1 TA.el.length q.c1]
    have hbs := BX8.out.up hal
    obtain ⟨gs, hgs⟩ : ∃ gs, w6.heap.size = gs := ⟨_, rfl⟩
    obtain ⟨gt, hgt⟩ : ∃ gt, w8.heap.size = gt := ⟨_, rfl⟩
    have het := E8.out.below hal
    have HB9 := Lib.hid (below_on B8.out hal)
    rw [hw9] at hal hbt hbs het HB9
    rw [hgs] at hbs
    rw [hgt] at hbt
    rw [hw9, hgs, hgt]
    have HBS0 := Lib.hid hbs
    have HBT0 := Lib.hid hbt
    have HET0 := Lib.hid het
    clear hal hbt hbs het hw9 hgs hgt HV HV2 HS HS2
    by_cases hs0 : SE = 0
    · subst hs0
      obtain rfl := HSS.out rfl
      have hTE : TE = 0 := HPR.out.elim id id
      subst hTE
      obtain rfl := HTT.out rfl
      obtain ⟨hE0, hXX⟩ := HLA.out rfl
      obtain ⟨adS, hA1, _, hcS⟩ := Reads.int_at (l := (vecF L).el) HBS0.out.e.r1 (k := m) (by show m < L.length; have := HN.out; omega) rfl
      have hlL : (vecF L).el.length = n := HN.out.2.2.2.2
      have hlT : (vecF (L.take k)).el.length = k := by show (L.take k).length = k; rw [List.length_take]; have := HN.out; omega
      have HBS : Hid (∀ W, Below w9.heap.size w9 W → W.cell? ⟨gs, 0, none⟩ = some (.int .i64 1) ∧ W.cell? ⟨gs, 1, none⟩ = some (.slice r.A0 1 r.c0) ∧ W.cell? ⟨gs, 2, none⟩ = some (.slice (some adS) n r.c1)) := Lib.hid (fun W hb => by
        have h := (HBS0.out.up hb).cells
        rw [hA1, hlL] at h
        exact h)
      have HBT : Hid (∀ W, Below w9.heap.size w9 W → W.cell? ⟨gt, 0, none⟩ = some (.int .i64 1) ∧ W.cell? ⟨gt, 1, none⟩ = some (.slice q.A0 1 q.c0) ∧ W.cell? ⟨gt, 2, none⟩ = some (.slice q.A1 k q.c1)) := Lib.hid (fun W hb => by
        have h := HBT0.out.below hb HBT0.out.lt
        have h2 := h.cell 2
        rw [hlT] at h2
        exact ⟨h.cell 0, h.cell 1, h2⟩)
      have HCS : Hid (∀ W, Below w9.heap.size w9 W → W.cell? (adS.add m) = some (.int .i64 X)) := Lib.hid (fun W hb => by
        obtain ⟨ad', e1, _, e2⟩ := Reads.int_at (l := (vecF L).el) (HBS0.out.up hb).e.r1 (k := m) (by show m < L.length; have := HN.out; omega) rfl
        rw [hA1] at e1
        injection e1 with e1
        subst e1
        rw [e2]
        have h1 : L[m]? = some (scV f l m) := HLM.out
        obtain ⟨h2, h3⟩ := List.getElem?_eq_some_iff.1 h1
        show some (Value.int .i64 L[m]) = _
        rw [h3, hXX])
      have HVS : Hid (∀ W, Below w9.heap.size w9 W → Calls Try.prog 27 #[.slice (some adS) k r.c1] W (GiveV (vecF (L.take k)) W)) := Lib.hid (fun W hb => by
        have h := (HBS0.out.up hb).e.r1
        rw [hA1, hlL] at h
        exact vec_give (L.take k) (by rw [List.length_take]; have := HN.out; omega) (fun z hz => HLF.out z (List.mem_of_mem_take hz)) (some adS) k r.c1 W hlT (reads_pre h HN.out.1))
      have HSM : Hid (∀ W, Below w9.heap.size w9 W → ∀ p9, AEl W (vecF (L.take k)) p9 → Calls Try.prog 38 #[.agg #[.int .i64 1, .slice q.A0 1 q.c0, .slice q.A1 k q.c1], .agg (arC (vecF (L.take k)) p9)] W fun e w' => e = .returned (.bool true) ∧ Below W.heap.size W w') := Lib.hid (fun W hb p9 h9 => by
        have h := r11same_eq (vecF (L.take k)) q p9 W (HET0.out.below hb) h9
        have e : arC (vecF (L.take k)) q = #[.int .i64 1, .slice q.A0 1 q.c0, .slice q.A1 k q.c1] := by
          unfold arC
          rw [hlT]
          rfl
        rwa [e] at h)
      have hcr : k ≤ r.c1 := by have := HBS0.out.c.l1; have := HN.out; omega
      obtain ⟨rc, hrc⟩ : ∃ rc, r.c1 = rc := ⟨_, rfl⟩
      rw [hrc] at HBS HVS hcr
      obtain ⟨TL, hTL⟩ : ∃ TL, L.take k = TL := ⟨_, rfl⟩
      rw [hTL] at HVS HSM
      subst hE0
      have hmn2 : (m : Int) < (n : Int) := by have := HN.out; omega
      have hwm : IntKind.i64.wrap (m : Int) = (m : Int) := by rw [IntKind.wrap_i64]; omega
      have hkr : (k : Int) ≤ (rc : Int) := by omega
      have HU : GU (lookU [(26, xw (vecF TL)), (27, xv (.bool true))]) := lookU_stay (by
        intro x hx
        simp only [List.mem_cons, List.not_mem_nil, or_false] at hx
        rcases hx with rfl | rfl <;> first | exact xw_stk _ | exact xv_stk _)
      clear hcS hrc hTL hXX hA1 hlL hlT
      go_upto_region 23 with (fail)
      refine wp_region_done_on (GS w9) (GR [26, 27] (lookU [(26, xw (vecF TL)), (27, xv (.bool true))]) [.bool true, .bool true, .int .i64 0, .bool true, .bool true, .bool true, .pointer (some ⟨gs, 2, none⟩), .slice (some adS) n rc, .slice (some ad) n c, .int .i64 (n : Int), .int .i64 (m : Int), .pointer (some (adS.add m)), .int .i64 X, .int .i64 X, .bool true, .bool true, .bool true, .int .i64 0, .bool true, .bool true, .bool true, .agg #[.int .i64 1, .slice q.A0 1 q.c0, .slice q.A1 k q.c1], .pointer (some ⟨gs, 2, none⟩), .slice (some adS) n rc, .int .i64 (k : Int), .slice (some adS) k rc, undef, undef, .bool true, .bool true]) (by kernel_rfl) 156 rfl (by kernel_rfl) ((Below.refl _ _).drew) ?_ ?_
      · intro i hi
        have hi2 : i < 30 := hi
        clear hi
        rcases i with _ | i
        · refine gr_value rfl (by decide) (.bool true) rfl ?_
          intro a8 w8 hb8 ho hn
          have o7 : a8.tmps[7]? = some _ := (ho 7 (by kernel_rfl)).trans rfl
          clear ho hn
          refine ⟨wanted_free rfl, ?_⟩
          go_simp
        rcases i with _ | i
        · refine gr_value rfl (by decide) (.bool true) rfl ?_
          intro a8 w8 hb8 ho hn
          obtain ⟨v127, n127, hq127⟩ := hn 0 127 (by kernel_rfl) rfl
          obtain rfl := hq127.1 (by decide)
          clear ho hn
          refine ⟨wanted_free rfl, ?_⟩
          go_simp
        rcases i with _ | i
        · refine gr_value rfl (by decide) (.int .i64 0) rfl ?_
          intro a8 w8 hb8 ho hn
          have o9 : a8.tmps[9]? = some _ := (ho 9 (by kernel_rfl)).trans rfl
          obtain ⟨v128, n128, hq128⟩ := hn 1 128 (by kernel_rfl) rfl
          obtain rfl := hq128.1 (by decide)
          clear ho hn
          refine ⟨wanted_of 1 128 rfl rfl n128, ?_⟩
          go_simp
        rcases i with _ | i
        · refine gr_value rfl (by decide) (.bool true) rfl ?_
          intro a8 w8 hb8 ho hn
          obtain ⟨v129, n129, hq129⟩ := hn 2 129 (by kernel_rfl) rfl
          obtain rfl := hq129.1 (by decide)
          obtain ⟨v128, n128, hq128⟩ := hn 1 128 (by kernel_rfl) rfl
          obtain rfl := hq128.1 (by decide)
          clear ho hn
          refine ⟨wanted_of 1 128 rfl rfl n128, ?_⟩
          go_simp
        rcases i with _ | i
        · refine gr_value rfl (by decide) (.bool true) rfl ?_
          intro a8 w8 hb8 ho hn
          obtain ⟨v128, n128, hq128⟩ := hn 1 128 (by kernel_rfl) rfl
          obtain rfl := hq128.1 (by decide)
          obtain ⟨v130, n130, hq130⟩ := hn 3 130 (by kernel_rfl) rfl
          obtain rfl := hq130.1 (by decide)
          clear ho hn
          refine ⟨wanted_free rfl, ?_⟩
          go_simp
        rcases i with _ | i
        · refine gr_value rfl (by decide) (.bool true) rfl ?_
          intro a8 w8 hb8 ho hn
          obtain ⟨v131, n131, hq131⟩ := hn 4 131 (by kernel_rfl) rfl
          obtain rfl := hq131.1 (by decide)
          clear ho hn
          refine ⟨wanted_free rfl, ?_⟩
          go_simp
        rcases i with _ | i
        · refine gr_value rfl (by decide) (.pointer (some ⟨gs, 2, none⟩)) rfl ?_
          intro a8 w8 hb8 ho hn
          have o16 : a8.tmps[16]? = some _ := (ho 16 (by kernel_rfl)).trans rfl
          obtain ⟨v132, n132, hq132⟩ := hn 5 132 (by kernel_rfl) rfl
          obtain rfl := hq132.1 (by decide)
          clear ho hn
          refine ⟨wanted_of 5 132 rfl rfl n132, ?_⟩
          go_simp
        rcases i with _ | i
        · refine gr_value rfl (by decide) (.slice (some adS) n rc) rfl ?_
          intro a8 w8 hb8 ho hn
          obtain ⟨v133, n133, hq133⟩ := hn 6 133 (by kernel_rfl) rfl
          obtain rfl := hq133.1 (by decide)
          obtain ⟨v132, n132, hq132⟩ := hn 5 132 (by kernel_rfl) rfl
          obtain rfl := hq132.1 (by decide)
          clear ho hn
          refine ⟨wanted_of 5 132 rfl rfl n132, ?_⟩
          obtain ⟨y0, y1, y2⟩ := HBS.out w8 hb8
          go_simp
        rcases i with _ | i
        · refine gr_value rfl (by decide) (.slice (some ad) n c) rfl ?_
          intro a8 w8 hb8 ho hn
          have o1 : a8.tmps[1]? = some _ := (ho 1 (by kernel_rfl)).trans rfl
          obtain ⟨v132, n132, hq132⟩ := hn 5 132 (by kernel_rfl) rfl
          obtain rfl := hq132.1 (by decide)
          clear ho hn
          refine ⟨wanted_of 5 132 rfl rfl n132, ?_⟩
          go_simp
        rcases i with _ | i
        · refine gr_value rfl (by decide) (.int .i64 (n : Int)) rfl ?_
          intro a8 w8 hb8 ho hn
          obtain ⟨v135, n135, hq135⟩ := hn 8 135 (by kernel_rfl) rfl
          obtain rfl := hq135.1 (by decide)
          obtain ⟨v132, n132, hq132⟩ := hn 5 132 (by kernel_rfl) rfl
          obtain rfl := hq132.1 (by decide)
          clear ho hn
          refine ⟨wanted_of 5 132 rfl rfl n132, ?_⟩
          go_simp
        rcases i with _ | i
        · refine gr_value rfl (by decide) (.int .i64 (m : Int)) rfl ?_
          intro a8 w8 hb8 ho hn
          obtain ⟨v136, n136, hq136⟩ := hn 9 136 (by kernel_rfl) rfl
          obtain rfl := hq136.1 (by decide)
          obtain ⟨v132, n132, hq132⟩ := hn 5 132 (by kernel_rfl) rfl
          obtain rfl := hq132.1 (by decide)
          clear ho hn
          refine ⟨wanted_of 5 132 rfl rfl n132, ?_⟩
          go_simp
        rcases i with _ | i
        · refine gr_value rfl (by decide) (.pointer (some (adS.add m))) rfl ?_
          intro a8 w8 hb8 ho hn
          obtain ⟨v134, n134, hq134⟩ := hn 7 134 (by kernel_rfl) rfl
          obtain rfl := hq134.1 (by decide)
          obtain ⟨v137, n137, hq137⟩ := hn 10 137 (by kernel_rfl) rfl
          obtain rfl := hq137.1 (by decide)
          obtain ⟨v132, n132, hq132⟩ := hn 5 132 (by kernel_rfl) rfl
          obtain rfl := hq132.1 (by decide)
          clear ho hn
          refine ⟨wanted_of 5 132 rfl rfl n132, ?_⟩
          go_simp
        rcases i with _ | i
        · refine gr_value rfl (by decide) (.int .i64 X) rfl ?_
          intro a8 w8 hb8 ho hn
          obtain ⟨v138, n138, hq138⟩ := hn 11 138 (by kernel_rfl) rfl
          obtain rfl := hq138.1 (by decide)
          obtain ⟨v132, n132, hq132⟩ := hn 5 132 (by kernel_rfl) rfl
          obtain rfl := hq132.1 (by decide)
          clear ho hn
          refine ⟨wanted_of 5 132 rfl rfl n132, ?_⟩
          have y3 := HCS.out w8 hb8
          go_simp
        rcases i with _ | i
        · refine gr_value rfl (by decide) (.int .i64 X) rfl ?_
          intro a8 w8 hb8 ho hn
          have o8 : a8.tmps[8]? = some _ := (ho 8 (by kernel_rfl)).trans rfl
          obtain ⟨v132, n132, hq132⟩ := hn 5 132 (by kernel_rfl) rfl
          obtain rfl := hq132.1 (by decide)
          clear ho hn
          refine ⟨wanted_of 5 132 rfl rfl n132, ?_⟩
          go_simp
        rcases i with _ | i
        · refine gr_value rfl (by decide) (.bool true) rfl ?_
          intro a8 w8 hb8 ho hn
          obtain ⟨v139, n139, hq139⟩ := hn 12 139 (by kernel_rfl) rfl
          obtain rfl := hq139.1 (by decide)
          obtain ⟨v140, n140, hq140⟩ := hn 13 140 (by kernel_rfl) rfl
          obtain rfl := hq140.1 (by decide)
          obtain ⟨v132, n132, hq132⟩ := hn 5 132 (by kernel_rfl) rfl
          obtain rfl := hq132.1 (by decide)
          clear ho hn
          refine ⟨wanted_of 5 132 rfl rfl n132, ?_⟩
          go_simp
        rcases i with _ | i
        · refine gr_value rfl (by decide) (.bool true) rfl ?_
          intro a8 w8 hb8 ho hn
          obtain ⟨v132, n132, hq132⟩ := hn 5 132 (by kernel_rfl) rfl
          obtain rfl := hq132.1 (by decide)
          obtain ⟨v141, n141, hq141⟩ := hn 14 141 (by kernel_rfl) rfl
          obtain rfl := hq141.1 (by decide)
          clear ho hn
          refine ⟨wanted_free rfl, ?_⟩
          go_simp
        rcases i with _ | i
        · refine gr_value rfl (by decide) (.bool true) rfl ?_
          intro a8 w8 hb8 ho hn
          obtain ⟨v142, n142, hq142⟩ := hn 15 142 (by kernel_rfl) rfl
          obtain rfl := hq142.1 (by decide)
          clear ho hn
          refine ⟨wanted_free rfl, ?_⟩
          go_simp
        rcases i with _ | i
        · refine gr_value rfl (by decide) (.int .i64 0) rfl ?_
          intro a8 w8 hb8 ho hn
          have o20 : a8.tmps[20]? = some _ := (ho 20 (by kernel_rfl)).trans rfl
          obtain ⟨v143, n143, hq143⟩ := hn 16 143 (by kernel_rfl) rfl
          obtain rfl := hq143.1 (by decide)
          clear ho hn
          refine ⟨wanted_of 16 143 rfl rfl n143, ?_⟩
          go_simp
        rcases i with _ | i
        · refine gr_value rfl (by decide) (.bool true) rfl ?_
          intro a8 w8 hb8 ho hn
          obtain ⟨v144, n144, hq144⟩ := hn 17 144 (by kernel_rfl) rfl
          obtain rfl := hq144.1 (by decide)
          obtain ⟨v143, n143, hq143⟩ := hn 16 143 (by kernel_rfl) rfl
          obtain rfl := hq143.1 (by decide)
          clear ho hn
          refine ⟨wanted_of 16 143 rfl rfl n143, ?_⟩
          go_simp
        rcases i with _ | i
        · refine gr_value rfl (by decide) (.bool true) rfl ?_
          intro a8 w8 hb8 ho hn
          obtain ⟨v143, n143, hq143⟩ := hn 16 143 (by kernel_rfl) rfl
          obtain rfl := hq143.1 (by decide)
          obtain ⟨v145, n145, hq145⟩ := hn 18 145 (by kernel_rfl) rfl
          obtain rfl := hq145.1 (by decide)
          clear ho hn
          refine ⟨wanted_free rfl, ?_⟩
          go_simp
        rcases i with _ | i
        · refine gr_value rfl (by decide) (.bool true) rfl ?_
          intro a8 w8 hb8 ho hn
          obtain ⟨v146, n146, hq146⟩ := hn 19 146 (by kernel_rfl) rfl
          obtain rfl := hq146.1 (by decide)
          clear ho hn
          refine ⟨wanted_free rfl, ?_⟩
          go_simp
        rcases i with _ | i
        · refine gr_value rfl (by decide) (.agg #[.int .i64 1, .slice q.A0 1 q.c0, .slice q.A1 k q.c1]) rfl ?_
          intro a8 w8 hb8 ho hn
          have o19 : a8.tmps[19]? = some _ := (ho 19 (by kernel_rfl)).trans rfl
          obtain ⟨v147, n147, hq147⟩ := hn 20 147 (by kernel_rfl) rfl
          obtain rfl := hq147.1 (by decide)
          clear ho hn
          refine ⟨wanted_of 20 147 rfl rfl n147, ?_⟩
          obtain ⟨y0, y1, y2⟩ := HBT.out w8 hb8
          go_simp
        rcases i with _ | i
        · refine gr_value rfl (by decide) (.pointer (some ⟨gs, 2, none⟩)) rfl ?_
          intro a8 w8 hb8 ho hn
          have o16 : a8.tmps[16]? = some _ := (ho 16 (by kernel_rfl)).trans rfl
          obtain ⟨v147, n147, hq147⟩ := hn 20 147 (by kernel_rfl) rfl
          obtain rfl := hq147.1 (by decide)
          clear ho hn
          refine ⟨wanted_of 20 147 rfl rfl n147, ?_⟩
          go_simp
        rcases i with _ | i
        · refine gr_value rfl (by decide) (.slice (some adS) n rc) rfl ?_
          intro a8 w8 hb8 ho hn
          obtain ⟨v149, n149, hq149⟩ := hn 22 149 (by kernel_rfl) rfl
          obtain rfl := hq149.1 (by decide)
          obtain ⟨v147, n147, hq147⟩ := hn 20 147 (by kernel_rfl) rfl
          obtain rfl := hq147.1 (by decide)
          clear ho hn
          refine ⟨wanted_of 20 147 rfl rfl n147, ?_⟩
          obtain ⟨y0, y1, y2⟩ := HBS.out w8 hb8
          go_simp
        rcases i with _ | i
        · refine gr_value rfl (by decide) (.int .i64 (k : Int)) rfl ?_
          intro a8 w8 hb8 ho hn
          have o18 : a8.tmps[18]? = some _ := (ho 18 (by kernel_rfl)).trans rfl
          obtain ⟨v147, n147, hq147⟩ := hn 20 147 (by kernel_rfl) rfl
          obtain rfl := hq147.1 (by decide)
          clear ho hn
          refine ⟨wanted_of 20 147 rfl rfl n147, ?_⟩
          go_simp
        rcases i with _ | i
        · refine gr_value rfl (by decide) (.slice (some adS) k rc) rfl ?_
          intro a8 w8 hb8 ho hn
          obtain ⟨v150, n150, hq150⟩ := hn 23 150 (by kernel_rfl) rfl
          obtain rfl := hq150.1 (by decide)
          obtain ⟨v151, n151, hq151⟩ := hn 24 151 (by kernel_rfl) rfl
          obtain rfl := hq151.1 (by decide)
          obtain ⟨v147, n147, hq147⟩ := hn 20 147 (by kernel_rfl) rfl
          obtain rfl := hq147.1 (by decide)
          clear ho hn
          refine ⟨wanted_of 20 147 rfl rfl n147, ?_⟩
          go_simp
        rcases i with _ | i
        · refine gr_call HU 27 rfl (by decide) ?_
          intro a8 w8 hb8 ho hn
          obtain ⟨v152, n152, hq152⟩ := hn 25 152 (by kernel_rfl) rfl
          obtain rfl := hq152.1 (by decide)
          obtain ⟨v147, n147, hq147⟩ := hn 20 147 (by kernel_rfl) rfl
          obtain rfl := hq147.1 (by decide)
          clear ho hn
          refine ⟨wanted_of 20 147 rfl rfl n147, ?_⟩
          refine ⟨#[.slice (some adS) k rc], (by go_simp), (HVS.out w8 hb8).mono ?_⟩
          rintro e w9 ⟨p9, rfl, e9, c9, b9⟩
          exact ⟨_, rfl, b9, p9, rfl, e9⟩
        rcases i with _ | i
        · refine gr_call HU 38 rfl (by decide) ?_
          intro a8 w8 hb8 ho hn
          obtain ⟨v148, n148, hq148⟩ := hn 21 148 (by kernel_rfl) rfl
          obtain rfl := hq148.1 (by decide)
          obtain ⟨v153, n153, hq153⟩ := hn 26 153 (by kernel_rfl) rfl
          have hv153 := hq153.2 (by decide)
          obtain ⟨v147, n147, hq147⟩ := hn 20 147 (by kernel_rfl) rfl
          obtain rfl := hq147.1 (by decide)
          clear ho hn
          refine ⟨wanted_of 20 147 rfl rfl n147, ?_⟩
          obtain ⟨p9, rfl, h9⟩ : xw (vecF TL) v153 w8 := hv153
          refine ⟨#[.agg #[.int .i64 1, .slice q.A0 1 q.c0, .slice q.A1 k q.c1], .agg (arC (vecF TL) p9)], (by go_simp), (HSM.out w8 hb8 p9 h9).mono ?_⟩
          rintro e w9 ⟨rfl, b9⟩
          exact ⟨_, rfl, b9, rfl⟩
        rcases i with _ | i
        · refine gr_value rfl (by decide) (.bool true) rfl ?_
          intro a8 w8 hb8 ho hn
          obtain ⟨v147, n147, hq147⟩ := hn 20 147 (by kernel_rfl) rfl
          obtain rfl := hq147.1 (by decide)
          obtain ⟨v154, n154, hq154⟩ := hn 27 154 (by kernel_rfl) rfl
          have hv154 := hq154.2 (by decide)
          clear ho hn
          refine ⟨wanted_free rfl, ?_⟩
          obtain rfl : v154 = .bool true := hv154
          clear hq154
          go_simp
        rcases i with _ | i
        · refine gr_value rfl (by decide) (.bool true) rfl ?_
          intro a8 w8 hb8 ho hn
          obtain ⟨v155, n155, hq155⟩ := hn 28 155 (by kernel_rfl) rfl
          obtain rfl := hq155.1 (by decide)
          clear ho hn
          refine ⟨wanted_free rfl, ?_⟩
          go_simp
        omega
      · intro dn fv w5 hb5 hR5 hall
        have h6 : fv 6 = _ := (hR5 29 6 rfl).1 (by decide)
        simp only [putAll, List.foldl_cons, List.foldl_nil, Act.put, List.setIfInBounds_toArray, List.set_cons_succ, List.set_cons_zero, h6, List.getD_cons_zero, List.getD_cons_succ]
        clear hR5 hall
        go_wp2
        go_ret
        exact ⟨rfl, HB9.out.trans (hb5.mono HB9.out.size)⟩
    · have hne1 : (SE != 0) = true := by simp [hs0]
      have hpr := HPR.out
      rcases hpr with rfl | rfl
      · go_wp2
        go_ret
        exact ⟨rfl, HB9.out⟩
      · have hne2 : (TE == 0) = false := by simp [hs0]
        have hne3 : (TE == TE) = true := by simp
        go_wp2
        go_ret
        exact ⟨rfl, HB9.out⟩
  · have hd1 : decide (1 < (n : Int)) = true := decide_eq_true (by omega)
    obtain ⟨e1, e2⟩ := (HST.out h1).2 hH
    subst hH e1 e2
    have hxx : (X != X) = false := by simp
    have hee : (E != E) = false := by simp
    have hc1 : ¬ c = 1 := by omega
    have hc2 : (1 : Int) ≤ (c : Int) := by omega
    have hc3 : 1 ≤ n := by omega
    go_upto_region 18 with (first
      | (go_at_call 48; refine (HTW.out _).mono ?_; rintro e w5 ⟨rfl, b5⟩; have BZ := Lib.hid (below_on B4.out b5); clear b5)
      | (go_at_call 30; (have l0 := B3.out; clear l0); (with_reducible refine (HR1.out h1 _ B3.out).mono ?_); rintro e w4 ⟨rfl, b4⟩; have B4 := Lib.hid (below_on B3.out b4); have y0 := HC0.out _ B4.out; have BZ := B4; clear b4)
      | (go_at_call 47; refine (HID.out _).mono ?_; rintro e _ ⟨rfl, rfl⟩; have BZ := B3)
      | (go_at_call 30; (with_reducible refine (HR.out _ B2.out).mono ?_); rintro e w3 ⟨rfl, b3⟩; have B3 := Lib.hid (below_on B2.out b3); clear b3)
      | (go_at_call 45; refine HAL.out.mono ?_; rintro e w2 ⟨rfl, b2⟩; have B2 := Lib.hid b2; clear b2))
    clear HST HR1 HTW HID HR HAL
    go_upto_region 21 with (first
      | (go_at_call 36; (have l0 := E7.out; clear l0); (with_reducible refine (HS2.out _ _ E7.out C7.out).mono ?_); rintro e w8 ⟨q, rfl, e8, c8, b8⟩; have BX8 := Lib.hid (BX7.out.up b8); have E8 := Lib.hid e8; have B8 := Lib.hid (below_on B7.out b8); clear e8 c8 b8)
      | (go_at_call 27; (have l0 := E6.out; clear l0); (with_reducible refine (HV2.out _ B6.out).mono ?_); rintro e w7 ⟨q7, rfl, e7, c7, b7⟩; have E7 := Lib.hid e7; have C7 := Lib.hid c7; have BX7 := Lib.hid (BX6.out.up b7); have B7 := Lib.hid (below_on B6.out b7); clear e7 c7 b7)
      | (go_at_call 36; (with_reducible refine (HS.out _ _ E5.out C5.out).mono ?_); rintro e w6 ⟨r, rfl, e6, c6, b6⟩; have E6 := Lib.hid e6; have BX6 : Hid (BoxF (w6.alloc (.cells #[.int .i64 SA.kind, .slice r.A0 SA.sh.length r.c0, .slice r.A1 SA.el.length r.c1] 25)) w6.heap.size SA r) := Lib.hid (BoxF.new e6 c6); have B6 : Hid (Below w.heap.size w (w6.alloc (.cells #[.int .i64 SA.kind, .slice r.A0 SA.sh.length r.c0, .slice r.A1 SA.el.length r.c1] 25))) := Lib.hid (below_on (below_on B5.out b6) (alloc_below w6 _)); clear e6 c6 b6)
      | (go_at_call 27; (with_reducible refine (HV.out _ BZ.out).mono ?_); rintro e w5 ⟨q5, rfl, e5, c5, b5⟩; have E5 := Lib.hid e5; have C5 := Lib.hid c5; have B5 := Lib.hid (below_on BZ.out b5); clear e5 c5 b5))
    obtain ⟨w9, hw9⟩ : ∃ w9, w8.alloc (.cells #[.int .i64 TA.kind, .slice q.A0 TA.sh.length q.c0, .slice q.A1 TA.el.length q.c1] 25) = w9 := ⟨_, rfl⟩
    have hal := alloc_below w8 (.cells #[.int .i64 TA.kind, .slice q.A0 TA.sh.length q.c0, .slice q.A1 TA.el.length q.c1] 25)
    have hbt := Blk.new w8 25 #[.int .i64 TA.kind, .slice q.A0 TA.sh.length q.c0, .slice q.A1 TA.el.length q.c1]
    have hbs := BX8.out.up hal
    obtain ⟨gs, hgs⟩ : ∃ gs, w6.heap.size = gs := ⟨_, rfl⟩
    obtain ⟨gt, hgt⟩ : ∃ gt, w8.heap.size = gt := ⟨_, rfl⟩
    have het := E8.out.below hal
    have HB9 := Lib.hid (below_on B8.out hal)
    rw [hw9] at hal hbt hbs het HB9
    rw [hgs] at hbs
    rw [hgt] at hbt
    rw [hw9, hgs, hgt]
    have HBS0 := Lib.hid hbs
    have HBT0 := Lib.hid hbt
    have HET0 := Lib.hid het
    clear hal hbt hbs het hw9 hgs hgt HV HV2 HS HS2
    by_cases hs0 : SE = 0
    · subst hs0
      obtain rfl := HSS.out rfl
      have hTE : TE = 0 := HPR.out.elim id id
      subst hTE
      obtain rfl := HTT.out rfl
      obtain ⟨hE0, hXX⟩ := HLA.out rfl
      obtain ⟨adS, hA1, _, hcS⟩ := Reads.int_at (l := (vecF L).el) HBS0.out.e.r1 (k := m) (by show m < L.length; have := HN.out; omega) rfl
      have hlL : (vecF L).el.length = n := HN.out.2.2.2.2
      have hlT : (vecF (L.take k)).el.length = k := by show (L.take k).length = k; rw [List.length_take]; have := HN.out; omega
      have HBS : Hid (∀ W, Below w9.heap.size w9 W → W.cell? ⟨gs, 0, none⟩ = some (.int .i64 1) ∧ W.cell? ⟨gs, 1, none⟩ = some (.slice r.A0 1 r.c0) ∧ W.cell? ⟨gs, 2, none⟩ = some (.slice (some adS) n r.c1)) := Lib.hid (fun W hb => by
        have h := (HBS0.out.up hb).cells
        rw [hA1, hlL] at h
        exact h)
      have HBT : Hid (∀ W, Below w9.heap.size w9 W → W.cell? ⟨gt, 0, none⟩ = some (.int .i64 1) ∧ W.cell? ⟨gt, 1, none⟩ = some (.slice q.A0 1 q.c0) ∧ W.cell? ⟨gt, 2, none⟩ = some (.slice q.A1 k q.c1)) := Lib.hid (fun W hb => by
        have h := HBT0.out.below hb HBT0.out.lt
        have h2 := h.cell 2
        rw [hlT] at h2
        exact ⟨h.cell 0, h.cell 1, h2⟩)
      have HCS : Hid (∀ W, Below w9.heap.size w9 W → W.cell? (adS.add m) = some (.int .i64 X)) := Lib.hid (fun W hb => by
        obtain ⟨ad', e1, _, e2⟩ := Reads.int_at (l := (vecF L).el) (HBS0.out.up hb).e.r1 (k := m) (by show m < L.length; have := HN.out; omega) rfl
        rw [hA1] at e1
        injection e1 with e1
        subst e1
        rw [e2]
        have h1 : L[m]? = some (scV f l m) := HLM.out
        obtain ⟨h2, h3⟩ := List.getElem?_eq_some_iff.1 h1
        show some (Value.int .i64 L[m]) = _
        rw [h3, hXX])
      have HVS : Hid (∀ W, Below w9.heap.size w9 W → Calls Try.prog 27 #[.slice (some adS) k r.c1] W (GiveV (vecF (L.take k)) W)) := Lib.hid (fun W hb => by
        have h := (HBS0.out.up hb).e.r1
        rw [hA1, hlL] at h
        exact vec_give (L.take k) (by rw [List.length_take]; have := HN.out; omega) (fun z hz => HLF.out z (List.mem_of_mem_take hz)) (some adS) k r.c1 W hlT (reads_pre h HN.out.1))
      have HSM : Hid (∀ W, Below w9.heap.size w9 W → ∀ p9, AEl W (vecF (L.take k)) p9 → Calls Try.prog 38 #[.agg #[.int .i64 1, .slice q.A0 1 q.c0, .slice q.A1 k q.c1], .agg (arC (vecF (L.take k)) p9)] W fun e w' => e = .returned (.bool true) ∧ Below W.heap.size W w') := Lib.hid (fun W hb p9 h9 => by
        have h := r11same_eq (vecF (L.take k)) q p9 W (HET0.out.below hb) h9
        have e : arC (vecF (L.take k)) q = #[.int .i64 1, .slice q.A0 1 q.c0, .slice q.A1 k q.c1] := by
          unfold arC
          rw [hlT]
          rfl
        rwa [e] at h)
      have hcr : k ≤ r.c1 := by have := HBS0.out.c.l1; have := HN.out; omega
      obtain ⟨rc, hrc⟩ : ∃ rc, r.c1 = rc := ⟨_, rfl⟩
      rw [hrc] at HBS HVS hcr
      obtain ⟨TL, hTL⟩ : ∃ TL, L.take k = TL := ⟨_, rfl⟩
      rw [hTL] at HVS HSM
      subst hE0
      have hmn2 : (m : Int) < (n : Int) := by have := HN.out; omega
      have hwm : IntKind.i64.wrap (m : Int) = (m : Int) := by rw [IntKind.wrap_i64]; omega
      have hkr : (k : Int) ≤ (rc : Int) := by omega
      have HU : GU (lookU [(26, xw (vecF TL)), (27, xv (.bool true))]) := lookU_stay (by
        intro x hx
        simp only [List.mem_cons, List.not_mem_nil, or_false] at hx
        rcases hx with rfl | rfl <;> first | exact xw_stk _ | exact xv_stk _)
      clear hcS hrc hTL hXX hA1 hlL hlT
      go_upto_region 23 with (fail)
      refine wp_region_done_on (GS w9) (GR [26, 27] (lookU [(26, xw (vecF TL)), (27, xv (.bool true))]) [.bool true, .bool true, .int .i64 0, .bool true, .bool true, .bool true, .pointer (some ⟨gs, 2, none⟩), .slice (some adS) n rc, .slice (some ad) n c, .int .i64 (n : Int), .int .i64 (m : Int), .pointer (some (adS.add m)), .int .i64 X, .int .i64 X, .bool true, .bool true, .bool true, .int .i64 0, .bool true, .bool true, .bool true, .agg #[.int .i64 1, .slice q.A0 1 q.c0, .slice q.A1 k q.c1], .pointer (some ⟨gs, 2, none⟩), .slice (some adS) n rc, .int .i64 (k : Int), .slice (some adS) k rc, undef, undef, .bool true, .bool true]) (by kernel_rfl) 156 rfl (by kernel_rfl) ((Below.refl _ _).drew) ?_ ?_
      · intro i hi
        have hi2 : i < 30 := hi
        clear hi
        rcases i with _ | i
        · refine gr_value rfl (by decide) (.bool true) rfl ?_
          intro a8 w8 hb8 ho hn
          have o7 : a8.tmps[7]? = some _ := (ho 7 (by kernel_rfl)).trans rfl
          clear ho hn
          refine ⟨wanted_free rfl, ?_⟩
          go_simp
        rcases i with _ | i
        · refine gr_value rfl (by decide) (.bool true) rfl ?_
          intro a8 w8 hb8 ho hn
          obtain ⟨v127, n127, hq127⟩ := hn 0 127 (by kernel_rfl) rfl
          obtain rfl := hq127.1 (by decide)
          clear ho hn
          refine ⟨wanted_free rfl, ?_⟩
          go_simp
        rcases i with _ | i
        · refine gr_value rfl (by decide) (.int .i64 0) rfl ?_
          intro a8 w8 hb8 ho hn
          have o9 : a8.tmps[9]? = some _ := (ho 9 (by kernel_rfl)).trans rfl
          obtain ⟨v128, n128, hq128⟩ := hn 1 128 (by kernel_rfl) rfl
          obtain rfl := hq128.1 (by decide)
          clear ho hn
          refine ⟨wanted_of 1 128 rfl rfl n128, ?_⟩
          go_simp
        rcases i with _ | i
        · refine gr_value rfl (by decide) (.bool true) rfl ?_
          intro a8 w8 hb8 ho hn
          obtain ⟨v129, n129, hq129⟩ := hn 2 129 (by kernel_rfl) rfl
          obtain rfl := hq129.1 (by decide)
          obtain ⟨v128, n128, hq128⟩ := hn 1 128 (by kernel_rfl) rfl
          obtain rfl := hq128.1 (by decide)
          clear ho hn
          refine ⟨wanted_of 1 128 rfl rfl n128, ?_⟩
          go_simp
        rcases i with _ | i
        · refine gr_value rfl (by decide) (.bool true) rfl ?_
          intro a8 w8 hb8 ho hn
          obtain ⟨v128, n128, hq128⟩ := hn 1 128 (by kernel_rfl) rfl
          obtain rfl := hq128.1 (by decide)
          obtain ⟨v130, n130, hq130⟩ := hn 3 130 (by kernel_rfl) rfl
          obtain rfl := hq130.1 (by decide)
          clear ho hn
          refine ⟨wanted_free rfl, ?_⟩
          go_simp
        rcases i with _ | i
        · refine gr_value rfl (by decide) (.bool true) rfl ?_
          intro a8 w8 hb8 ho hn
          obtain ⟨v131, n131, hq131⟩ := hn 4 131 (by kernel_rfl) rfl
          obtain rfl := hq131.1 (by decide)
          clear ho hn
          refine ⟨wanted_free rfl, ?_⟩
          go_simp
        rcases i with _ | i
        · refine gr_value rfl (by decide) (.pointer (some ⟨gs, 2, none⟩)) rfl ?_
          intro a8 w8 hb8 ho hn
          have o16 : a8.tmps[16]? = some _ := (ho 16 (by kernel_rfl)).trans rfl
          obtain ⟨v132, n132, hq132⟩ := hn 5 132 (by kernel_rfl) rfl
          obtain rfl := hq132.1 (by decide)
          clear ho hn
          refine ⟨wanted_of 5 132 rfl rfl n132, ?_⟩
          go_simp
        rcases i with _ | i
        · refine gr_value rfl (by decide) (.slice (some adS) n rc) rfl ?_
          intro a8 w8 hb8 ho hn
          obtain ⟨v133, n133, hq133⟩ := hn 6 133 (by kernel_rfl) rfl
          obtain rfl := hq133.1 (by decide)
          obtain ⟨v132, n132, hq132⟩ := hn 5 132 (by kernel_rfl) rfl
          obtain rfl := hq132.1 (by decide)
          clear ho hn
          refine ⟨wanted_of 5 132 rfl rfl n132, ?_⟩
          obtain ⟨y0, y1, y2⟩ := HBS.out w8 hb8
          go_simp
        rcases i with _ | i
        · refine gr_value rfl (by decide) (.slice (some ad) n c) rfl ?_
          intro a8 w8 hb8 ho hn
          have o1 : a8.tmps[1]? = some _ := (ho 1 (by kernel_rfl)).trans rfl
          obtain ⟨v132, n132, hq132⟩ := hn 5 132 (by kernel_rfl) rfl
          obtain rfl := hq132.1 (by decide)
          clear ho hn
          refine ⟨wanted_of 5 132 rfl rfl n132, ?_⟩
          go_simp
        rcases i with _ | i
        · refine gr_value rfl (by decide) (.int .i64 (n : Int)) rfl ?_
          intro a8 w8 hb8 ho hn
          obtain ⟨v135, n135, hq135⟩ := hn 8 135 (by kernel_rfl) rfl
          obtain rfl := hq135.1 (by decide)
          obtain ⟨v132, n132, hq132⟩ := hn 5 132 (by kernel_rfl) rfl
          obtain rfl := hq132.1 (by decide)
          clear ho hn
          refine ⟨wanted_of 5 132 rfl rfl n132, ?_⟩
          go_simp
        rcases i with _ | i
        · refine gr_value rfl (by decide) (.int .i64 (m : Int)) rfl ?_
          intro a8 w8 hb8 ho hn
          obtain ⟨v136, n136, hq136⟩ := hn 9 136 (by kernel_rfl) rfl
          obtain rfl := hq136.1 (by decide)
          obtain ⟨v132, n132, hq132⟩ := hn 5 132 (by kernel_rfl) rfl
          obtain rfl := hq132.1 (by decide)
          clear ho hn
          refine ⟨wanted_of 5 132 rfl rfl n132, ?_⟩
          go_simp
        rcases i with _ | i
        · refine gr_value rfl (by decide) (.pointer (some (adS.add m))) rfl ?_
          intro a8 w8 hb8 ho hn
          obtain ⟨v134, n134, hq134⟩ := hn 7 134 (by kernel_rfl) rfl
          obtain rfl := hq134.1 (by decide)
          obtain ⟨v137, n137, hq137⟩ := hn 10 137 (by kernel_rfl) rfl
          obtain rfl := hq137.1 (by decide)
          obtain ⟨v132, n132, hq132⟩ := hn 5 132 (by kernel_rfl) rfl
          obtain rfl := hq132.1 (by decide)
          clear ho hn
          refine ⟨wanted_of 5 132 rfl rfl n132, ?_⟩
          go_simp
        rcases i with _ | i
        · refine gr_value rfl (by decide) (.int .i64 X) rfl ?_
          intro a8 w8 hb8 ho hn
          obtain ⟨v138, n138, hq138⟩ := hn 11 138 (by kernel_rfl) rfl
          obtain rfl := hq138.1 (by decide)
          obtain ⟨v132, n132, hq132⟩ := hn 5 132 (by kernel_rfl) rfl
          obtain rfl := hq132.1 (by decide)
          clear ho hn
          refine ⟨wanted_of 5 132 rfl rfl n132, ?_⟩
          have y3 := HCS.out w8 hb8
          go_simp
        rcases i with _ | i
        · refine gr_value rfl (by decide) (.int .i64 X) rfl ?_
          intro a8 w8 hb8 ho hn
          have o8 : a8.tmps[8]? = some _ := (ho 8 (by kernel_rfl)).trans rfl
          obtain ⟨v132, n132, hq132⟩ := hn 5 132 (by kernel_rfl) rfl
          obtain rfl := hq132.1 (by decide)
          clear ho hn
          refine ⟨wanted_of 5 132 rfl rfl n132, ?_⟩
          go_simp
        rcases i with _ | i
        · refine gr_value rfl (by decide) (.bool true) rfl ?_
          intro a8 w8 hb8 ho hn
          obtain ⟨v139, n139, hq139⟩ := hn 12 139 (by kernel_rfl) rfl
          obtain rfl := hq139.1 (by decide)
          obtain ⟨v140, n140, hq140⟩ := hn 13 140 (by kernel_rfl) rfl
          obtain rfl := hq140.1 (by decide)
          obtain ⟨v132, n132, hq132⟩ := hn 5 132 (by kernel_rfl) rfl
          obtain rfl := hq132.1 (by decide)
          clear ho hn
          refine ⟨wanted_of 5 132 rfl rfl n132, ?_⟩
          go_simp
        rcases i with _ | i
        · refine gr_value rfl (by decide) (.bool true) rfl ?_
          intro a8 w8 hb8 ho hn
          obtain ⟨v132, n132, hq132⟩ := hn 5 132 (by kernel_rfl) rfl
          obtain rfl := hq132.1 (by decide)
          obtain ⟨v141, n141, hq141⟩ := hn 14 141 (by kernel_rfl) rfl
          obtain rfl := hq141.1 (by decide)
          clear ho hn
          refine ⟨wanted_free rfl, ?_⟩
          go_simp
        rcases i with _ | i
        · refine gr_value rfl (by decide) (.bool true) rfl ?_
          intro a8 w8 hb8 ho hn
          obtain ⟨v142, n142, hq142⟩ := hn 15 142 (by kernel_rfl) rfl
          obtain rfl := hq142.1 (by decide)
          clear ho hn
          refine ⟨wanted_free rfl, ?_⟩
          go_simp
        rcases i with _ | i
        · refine gr_value rfl (by decide) (.int .i64 0) rfl ?_
          intro a8 w8 hb8 ho hn
          have o20 : a8.tmps[20]? = some _ := (ho 20 (by kernel_rfl)).trans rfl
          obtain ⟨v143, n143, hq143⟩ := hn 16 143 (by kernel_rfl) rfl
          obtain rfl := hq143.1 (by decide)
          clear ho hn
          refine ⟨wanted_of 16 143 rfl rfl n143, ?_⟩
          go_simp
        rcases i with _ | i
        · refine gr_value rfl (by decide) (.bool true) rfl ?_
          intro a8 w8 hb8 ho hn
          obtain ⟨v144, n144, hq144⟩ := hn 17 144 (by kernel_rfl) rfl
          obtain rfl := hq144.1 (by decide)
          obtain ⟨v143, n143, hq143⟩ := hn 16 143 (by kernel_rfl) rfl
          obtain rfl := hq143.1 (by decide)
          clear ho hn
          refine ⟨wanted_of 16 143 rfl rfl n143, ?_⟩
          go_simp
        rcases i with _ | i
        · refine gr_value rfl (by decide) (.bool true) rfl ?_
          intro a8 w8 hb8 ho hn
          obtain ⟨v143, n143, hq143⟩ := hn 16 143 (by kernel_rfl) rfl
          obtain rfl := hq143.1 (by decide)
          obtain ⟨v145, n145, hq145⟩ := hn 18 145 (by kernel_rfl) rfl
          obtain rfl := hq145.1 (by decide)
          clear ho hn
          refine ⟨wanted_free rfl, ?_⟩
          go_simp
        rcases i with _ | i
        · refine gr_value rfl (by decide) (.bool true) rfl ?_
          intro a8 w8 hb8 ho hn
          obtain ⟨v146, n146, hq146⟩ := hn 19 146 (by kernel_rfl) rfl
          obtain rfl := hq146.1 (by decide)
          clear ho hn
          refine ⟨wanted_free rfl, ?_⟩
          go_simp
        rcases i with _ | i
        · refine gr_value rfl (by decide) (.agg #[.int .i64 1, .slice q.A0 1 q.c0, .slice q.A1 k q.c1]) rfl ?_
          intro a8 w8 hb8 ho hn
          have o19 : a8.tmps[19]? = some _ := (ho 19 (by kernel_rfl)).trans rfl
          obtain ⟨v147, n147, hq147⟩ := hn 20 147 (by kernel_rfl) rfl
          obtain rfl := hq147.1 (by decide)
          clear ho hn
          refine ⟨wanted_of 20 147 rfl rfl n147, ?_⟩
          obtain ⟨y0, y1, y2⟩ := HBT.out w8 hb8
          go_simp
        rcases i with _ | i
        · refine gr_value rfl (by decide) (.pointer (some ⟨gs, 2, none⟩)) rfl ?_
          intro a8 w8 hb8 ho hn
          have o16 : a8.tmps[16]? = some _ := (ho 16 (by kernel_rfl)).trans rfl
          obtain ⟨v147, n147, hq147⟩ := hn 20 147 (by kernel_rfl) rfl
          obtain rfl := hq147.1 (by decide)
          clear ho hn
          refine ⟨wanted_of 20 147 rfl rfl n147, ?_⟩
          go_simp
        rcases i with _ | i
        · refine gr_value rfl (by decide) (.slice (some adS) n rc) rfl ?_
          intro a8 w8 hb8 ho hn
          obtain ⟨v149, n149, hq149⟩ := hn 22 149 (by kernel_rfl) rfl
          obtain rfl := hq149.1 (by decide)
          obtain ⟨v147, n147, hq147⟩ := hn 20 147 (by kernel_rfl) rfl
          obtain rfl := hq147.1 (by decide)
          clear ho hn
          refine ⟨wanted_of 20 147 rfl rfl n147, ?_⟩
          obtain ⟨y0, y1, y2⟩ := HBS.out w8 hb8
          go_simp
        rcases i with _ | i
        · refine gr_value rfl (by decide) (.int .i64 (k : Int)) rfl ?_
          intro a8 w8 hb8 ho hn
          have o18 : a8.tmps[18]? = some _ := (ho 18 (by kernel_rfl)).trans rfl
          obtain ⟨v147, n147, hq147⟩ := hn 20 147 (by kernel_rfl) rfl
          obtain rfl := hq147.1 (by decide)
          clear ho hn
          refine ⟨wanted_of 20 147 rfl rfl n147, ?_⟩
          go_simp
        rcases i with _ | i
        · refine gr_value rfl (by decide) (.slice (some adS) k rc) rfl ?_
          intro a8 w8 hb8 ho hn
          obtain ⟨v150, n150, hq150⟩ := hn 23 150 (by kernel_rfl) rfl
          obtain rfl := hq150.1 (by decide)
          obtain ⟨v151, n151, hq151⟩ := hn 24 151 (by kernel_rfl) rfl
          obtain rfl := hq151.1 (by decide)
          obtain ⟨v147, n147, hq147⟩ := hn 20 147 (by kernel_rfl) rfl
          obtain rfl := hq147.1 (by decide)
          clear ho hn
          refine ⟨wanted_of 20 147 rfl rfl n147, ?_⟩
          go_simp
        rcases i with _ | i
        · refine gr_call HU 27 rfl (by decide) ?_
          intro a8 w8 hb8 ho hn
          obtain ⟨v152, n152, hq152⟩ := hn 25 152 (by kernel_rfl) rfl
          obtain rfl := hq152.1 (by decide)
          obtain ⟨v147, n147, hq147⟩ := hn 20 147 (by kernel_rfl) rfl
          obtain rfl := hq147.1 (by decide)
          clear ho hn
          refine ⟨wanted_of 20 147 rfl rfl n147, ?_⟩
          refine ⟨#[.slice (some adS) k rc], (by go_simp), (HVS.out w8 hb8).mono ?_⟩
          rintro e w9 ⟨p9, rfl, e9, c9, b9⟩
          exact ⟨_, rfl, b9, p9, rfl, e9⟩
        rcases i with _ | i
        · refine gr_call HU 38 rfl (by decide) ?_
          intro a8 w8 hb8 ho hn
          obtain ⟨v148, n148, hq148⟩ := hn 21 148 (by kernel_rfl) rfl
          obtain rfl := hq148.1 (by decide)
          obtain ⟨v153, n153, hq153⟩ := hn 26 153 (by kernel_rfl) rfl
          have hv153 := hq153.2 (by decide)
          obtain ⟨v147, n147, hq147⟩ := hn 20 147 (by kernel_rfl) rfl
          obtain rfl := hq147.1 (by decide)
          clear ho hn
          refine ⟨wanted_of 20 147 rfl rfl n147, ?_⟩
          obtain ⟨p9, rfl, h9⟩ : xw (vecF TL) v153 w8 := hv153
          refine ⟨#[.agg #[.int .i64 1, .slice q.A0 1 q.c0, .slice q.A1 k q.c1], .agg (arC (vecF TL) p9)], (by go_simp), (HSM.out w8 hb8 p9 h9).mono ?_⟩
          rintro e w9 ⟨rfl, b9⟩
          exact ⟨_, rfl, b9, rfl⟩
        rcases i with _ | i
        · refine gr_value rfl (by decide) (.bool true) rfl ?_
          intro a8 w8 hb8 ho hn
          obtain ⟨v147, n147, hq147⟩ := hn 20 147 (by kernel_rfl) rfl
          obtain rfl := hq147.1 (by decide)
          obtain ⟨v154, n154, hq154⟩ := hn 27 154 (by kernel_rfl) rfl
          have hv154 := hq154.2 (by decide)
          clear ho hn
          refine ⟨wanted_free rfl, ?_⟩
          obtain rfl : v154 = .bool true := hv154
          clear hq154
          go_simp
        rcases i with _ | i
        · refine gr_value rfl (by decide) (.bool true) rfl ?_
          intro a8 w8 hb8 ho hn
          obtain ⟨v155, n155, hq155⟩ := hn 28 155 (by kernel_rfl) rfl
          obtain rfl := hq155.1 (by decide)
          clear ho hn
          refine ⟨wanted_free rfl, ?_⟩
          go_simp
        omega
      · intro dn fv w5 hb5 hR5 hall
        have h6 : fv 6 = _ := (hR5 29 6 rfl).1 (by decide)
        simp only [putAll, List.foldl_cons, List.foldl_nil, Act.put, List.setIfInBounds_toArray, List.set_cons_succ, List.set_cons_zero, h6, List.getD_cons_zero, List.getD_cons_succ]
        clear hR5 hall
        go_wp2
        go_ret
        exact ⟨rfl, HB9.out.trans (hb5.mono HB9.out.size)⟩
    · have hne1 : (SE != 0) = true := by simp [hs0]
      have hpr := HPR.out
      rcases hpr with rfl | rfl
      · go_wp2
        go_ret
        exact ⟨rfl, HB9.out⟩
      · have hne2 : (TE == 0) = false := by simp [hs0]
        have hne3 : (TE == TE) = true := by simp
        go_wp2
        go_ret
        exact ⟨rfl, HB9.out⟩
end Go.Proofs.Ytkabdkblcgklmaa.foldParts

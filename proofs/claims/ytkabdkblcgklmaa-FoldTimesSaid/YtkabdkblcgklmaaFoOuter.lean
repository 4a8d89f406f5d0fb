/-
  Layer 16 (fold): lists of axes put together: Grow, Concat, limited.
  Layer 16 (fold): the shape of an outer product.
  Layer 16 (fold): Outer.
-/
import Derived.Test.YtkabdkblcgklmaaFoScan
import Derived.Lib.AppendZeros
namespace Go.Proofs.Ytkabdkblcgklmaa.fo
open Go.RowKit Go.Proofs.Ytkabdkblcgklmaa.arr Go.Proofs.Ytkabdkblcgklmaa.sc

set_option maxHeartbeats 1000000 in
theorem sgrow_any (n : Nat) (hn : n ≤ 100000) (w : World) : Calls Try.prog 192 #[.slice none 0 0, .int .i64 (n : Int)] w fun e w' => ∃ A c, e = .returned (.slice A 0 c) ∧ w'.ownsRow w.heap.size 3 1 (.slice A 0 c) 0 [] ∧ Below w.heap.size w w' := by
  obtain ⟨i0, hi, hz0, hz1, hz2⟩ := info_parts arInfoInt
  by_cases h0 : n = 0
  · subst h0
    go_enter Try.func192, Try.ntmps192
    go_wp2
    go_ret
    exact ⟨none, 0, rfl, World.ownsRow_nil _ _ _ _, Below.refl _ _⟩
  · have hd : decide ((n : Int) < 0) = false := decide_eq_false (by omega)
    have hd2 : decide (0 < (n : Int)) = true := decide_eq_true (by omega)
    have hd3 : decide (0 < n) = true := decide_eq_true (by omega)
    have hp : 0 < n := by omega
    have hr := Lib.run_append_nil_zeros (P := Try.prog) w 22 3 22 3 i0 (.int .i64 0) .i64 .i64 Try.underlying22 Try.underlying3 hi hz0 n (by omega) (by rw [hz1]; decide) (by omega) (by rw [hz2]; omega)
    have hcap := grownCap_ge w n 0 3
    have hcap2 := grownCap_le_maxLen w n 0 3 (by unfold maxLen; omega)
    obtain ⟨cp, hcp⟩ : ∃ cp, grownCap w n 0 3 = cp := ⟨_, rfl⟩
    rw [hcp] at hr hcap hcap2
    obtain ⟨cs, hcs⟩ : ∃ cs, Builtin.zeroCells (Value.int .i64 0).cells n ++ Builtin.zeroCells (Value.int .i64 0).cells (cp - n) = cs := ⟨_, rfl⟩
    rw [hcs] at hr
    have hsz : cs.size = cp := by
      rw [← hcs, Array.size_append, size_zeroCells, size_zeroCells]
      show n * 1 + (cp - n) * 1 = cp
      omega
    have HR := Lib.hid hr
    have HO : Hid ((w.drew.alloc (.cells cs 3)).ownsRow w.heap.size 3 1 (.slice (some ⟨w.heap.size, 0, none⟩) 0 cp) 0 []) := Lib.hid ⟨rfl, .inr ⟨w.heap.size, cp, cs, rfl, Nat.le_refl _, World.alloc_heap_new w.drew _, by omega, hcap2, by rw [hsz, Nat.mul_one], by simp⟩⟩
    have HB : Hid (Below w.heap.size w (w.drew.alloc (.cells cs 3))) := Lib.hid ((Below.refl _ w).drew.alloc (Nat.le_refl _) _)
    clear hr hcp hcs hsz hi hz0 hz1 hz2
    go_enter Try.func192, Try.ntmps192
    go_wp2_with (at_builtin; refine Lib.wpList_append_run _ rfl (.tmp 20) (.tmp 21) 22 3 rfl (.slice none 0 0) (.int .i64 (n : Int)) rfl rfl (.slice (some ⟨w.heap.size, 0, none⟩) n cp) (w.drew.alloc (.cells cs 3)) HR.out ?_; obtain ⟨w4, hw4⟩ : ∃ w4, w.drew.alloc (.cells cs 3) = w4 := ⟨_, rfl⟩; rw [hw4] at HO HB ⊢; clear hw4 HR)
    go_ret
    exact ⟨_, _, rfl, HO.out, HB.out⟩
theorem own_form {W : World} {B n : Nat} {t : TypeId} {v : Value} {xs : List Value} (h : W.ownsRow B t 1 v n xs) : ∃ A c, v = .slice A n c := by
  rcases h.2 with ⟨rfl, h0⟩ | ⟨g, cap, cur, e, _⟩
  · exact ⟨none, 0, by rw [h0]⟩
  · exact ⟨_, cap, e⟩
set_option maxRecDepth 100000 in
set_option maxHeartbeats 4000000 in
theorem foconc_gen (g n c N : Nat) (F : Nat → List Int) (L : Nat → List Int) (w : World) (hg : g < w.heap.size) (h : ∀ j, j < n → ∃ A c, w.cell? ⟨g, j, none⟩ = some (.slice A (L j).length c) ∧ Reads w w.heap.size 1 A (L j).length ((L j).map iv))
    (hn : n ≤ 10) (h0 : F 0 = []) (hF : ∀ j, j < n → F (j + 1) = F j ++ L j) (hb : ∀ j, j ≤ n → (F j).length ≤ 10000) (hs : ∀ j, j < n → (L j).length ≤ 1000) (hN : (F n).length = N) :
    Calls Try.prog 134 #[.slice (some ⟨g, 0, none⟩) n c] w fun e w' => ∃ A c', e = .returned (.slice A N c') ∧ w'.ownsRow w.heap.size 3 1 (.slice A N c') N ((F n).map iv) ∧ Below w.heap.size w w' := by
  obtain ⟨i0, hi, hz0, hz1, hz2⟩ := info_parts arInfoInt
  have hgr : ∀ N : Nat, N ≤ 10000 → ∀ W, Calls Try.prog 192 #[.slice none 0 0, .int .i64 (N : Int)] W fun e w' => ∃ A c, e = .returned (.slice A 0 c) ∧ w'.ownsRow W.heap.size 3 1 (.slice A 0 c) 0 [] ∧ Below W.heap.size W w' := fun M hM W => sgrow_any M (show M ≤ 100000 by omega) W
  have HG : Hid (∀ N : Nat, N ≤ 10000 → ∀ W, Calls Try.prog 192 #[.slice none 0 0, .int .i64 (N : Int)] W fun e w' => ∃ A c, e = .returned (.slice A 0 c) ∧ w'.ownsRow W.heap.size 3 1 (.slice A 0 c) 0 [] ∧ Below W.heap.size W w') := Lib.hid hgr
  have H : Hid (∀ W, Below w.heap.size w W → ∀ j, j < n → ∃ A c, W.cell? ⟨g, j, none⟩ = some (.slice A (L j).length c) ∧ Reads W W.heap.size 1 A (L j).length ((L j).map iv)) := Lib.hid (fun W hbw j hj => by
    obtain ⟨A, c, h1, h2⟩ := h j hj
    exact ⟨A, c, (hbw.cell hg).trans h1, (h2.below hbw).more hbw.size⟩)
  obtain ⟨S, hS⟩ : ∃ S : Nat → Nat, ∀ j, (F j).length = S j := ⟨fun j => (F j).length, fun _ => rfl⟩
  have HS := Lib.hid hS
  have HF := Lib.hid hF
  have HB : Hid (∀ j, j ≤ n → S j ≤ 10000) := Lib.hid (fun j hj => by rw [← hS j]; exact hb j hj)
  have HSS : Hid (∀ j, j < n → S (j + 1) = S j + (L j).length) := Lib.hid (fun j hj => by rw [← hS (j + 1), hF j hj, List.length_append, hS])
  have HL := Lib.hid hs
  have S0 : S 0 = 0 := by rw [← hS 0, h0]; rfl
  have HN : Hid (S n = N) := Lib.hid ((hS n).symm.trans hN)
  have H0 := Lib.hid h0
  clear h h0 hF hb hs hN hS hg
  go_enter Try.func134, Try.ntmps134
  go_wp2
  go_loopw [11, 3] (fun i s wr => ∃ j : Nat, j ≤ n ∧ i = .int .i64 (j : Int) ∧ s = .int .i64 (S j : Int) ∧ wr = w) (fun i _ _ => n - (intOf i).toNat)
  case atStart => exact ⟨0, Nat.zero_le _, rfl, by rw [S0]; rfl, rfl⟩
  case round =>
    obtain ⟨j, hj, rfl, rfl, rfl⟩ := hrel
    by_cases hlt : j < n
    · obtain ⟨A, d, hc, _⟩ := H.out wr (Below.refl _ _) j hlt
      have hst := HSS.out j hlt
      have hb1 := HB.out j hj
      have hb3 := HL.out j hlt
      obtain ⟨s1, hs1⟩ : ∃ s1, (L j).length = s1 := ⟨_, rfl⟩
      rw [hs1] at hst hc hb3
      obtain ⟨s0, hs0⟩ : ∃ s0, S j = s0 := ⟨_, rfl⟩
      rw [hs0] at hst hb1
      rw [hs0]
      have HST := Lib.hid hst
      have hd : (j : Int) < (n : Int) := by omega
      have hd2 : decide ((s0 : Int) + (s1 : Int) < 0) = false := decide_eq_false (by omega)
      have hw : ((s0 + s1 : Nat) : Int) = (s0 : Int) + (s1 : Int) := by omega
      have HW := Lib.hid hw
      clear hst hs0 hs1 hw S0
      go_wp2
      exact ⟨⟨j + 1, by omega, by go_num, by rw [HST.out, HW.out], trivial⟩, by simp [intOf]; omega⟩
    · obtain rfl : j = n := by omega
      have hN4 := HB.out j (Nat.le_refl _)
      rw [HN.out] at hN4 ⊢
      clear S0
      go_wp2_with (go_at_call 192; refine (HG.out N (by omega) _).mono ?_; rintro e w2 ⟨A2, c2, rfl, o2, b2⟩; have O2 := Lib.hid o2; have B2 := Lib.hid b2; clear o2 b2)
      go_loopw [27, 6] (fun i v wr' => ∃ (k q : Nat) (A : Option Addr) (c' : Nat), k ≤ j ∧ i = .int .i64 (k : Int) ∧ q = S k ∧ v = .slice A q c' ∧ wr'.ownsRow wr.heap.size 3 1 (.slice A q c') q ((F k).map iv) ∧ Below wr.heap.size wr wr') (fun i _ _ => j - (intOf i).toNat)
      case atStart => exact ⟨0, 0, A2, c2, Nat.zero_le _, rfl, by rw [← HS.out 0, H0.out]; rfl, rfl, by rw [H0.out]; exact O2.out, B2.out⟩
      case round =>
        obtain ⟨k, q, A3, c3, hk, rfl, hq, rfl, ho, hbw⟩ := hrel
        by_cases hlt2 : k < j
        · obtain ⟨A, d, hc, hrd⟩ := H.out _ hbw k hlt2
          have hst := HSS.out k hlt2
          have hb1 := HB.out k hk
          have hb2 := HL.out k hlt2
          have hff := HF.out k hlt2
          obtain ⟨m, hm⟩ : ∃ m, (L k).length = m := ⟨_, rfl⟩
          rw [hm] at hc hrd hst hb2
          rw [← hq] at hst hb1
          have HST := Lib.hid hst
          have HFF := Lib.hid hff
          have HO := Lib.hid ho
          have HRD := Lib.hid hrd
          have HBW := Lib.hid hbw
          have hd : (k : Int) < (j : Int) := by omega
          clear ho hrd hbw hst hff hm hq
          go_wp2_with (at_builtin; refine wpList_append_any _ rfl _ _ 22 rfl _ 3 i0 (.int .i64 0) 1 8 Try.underlying22 hi hz0 hz1 hz2 rfl (by decide) _ q ((F k).map iv) rfl HO.out _ A m d ((L k).map iv) rfl HRD.out (iv_one (L k)) (by unfold maxLen; omega) (by omega) HBW.out.size ?_; intro v' w4 hown hgrow _; obtain ⟨A4, c4, rfl⟩ := own_form hown; have HB4 := Lib.hid (HBW.out.grown hgrow HBW.out.size (fun g e => (arown_lt HO.out g e).1)); have HO4 := Lib.hid hown; clear hown hgrow)
          refine ⟨⟨k + 1, q + m, A4, c4, by omega, by go_num, HST.out.symm, rfl, ?_, HB4.out⟩, by simp [intOf]; omega⟩
          rw [HFF.out, List.map_append]
          exact HO4.out
        · obtain rfl : k = j := by omega
          rw [HN.out] at hq
          subst hq
          have HO := Lib.hid ho
          have HBW := Lib.hid hbw
          clear ho hbw
          go_wp2
          go_ret
          exact ⟨A3, c3, rfl, HO.out, HBW.out⟩
/-- Two lists, and one. -/
theorem foconc2_any (g c : Nat) (l m : List Int) (A B : Option Addr) (ca cb : Nat) (w : World) (hl : l.length ≤ 1000) (hm : m.length ≤ 1000) (hb : Blk w g 22 #[.slice A l.length ca, .slice B m.length cb]) (ha : Reads w w.heap.size 1 A l.length (l.map iv)) (hbb : Reads w w.heap.size 1 B m.length (m.map iv)) :
    Calls Try.prog 134 #[.slice (some ⟨g, 0, none⟩) 2 c] w fun e w' => ∃ A c', e = .returned (.slice A (l ++ m).length c') ∧ w'.ownsRow w.heap.size 3 1 (.slice A (l ++ m).length c') (l ++ m).length ((l ++ m).map iv) ∧ Below w.heap.size w w' := by
  refine foconc_gen g 2 c (l ++ m).length (fun j => if j = 0 then [] else if j = 1 then l else l ++ m) (fun j => if j = 0 then l else m) w hb.lt ?_ (by omega) rfl ?_ ?_ ?_ rfl
  · intro j hj
    rcases j with _ | _ | j
    · exact ⟨A, ca, hb.cell 0, ha⟩
    · exact ⟨B, cb, hb.cell 1, hbb⟩
    · omega
  · intro j hj
    rcases j with _ | _ | j
    · simp
    · simp
    · omega
  · intro j hj
    rcases j with _ | _ | j
    · simp
    · simp; omega
    · simp; omega
  · intro j hj
    rcases j with _ | _ | j
    · exact hl
    · exact hm
    · omega
theorem foconc1_any (g c : Nat) (l : List Int) (A : Option Addr) (ca : Nat) (w : World) (hl : l.length ≤ 1000) (hb : Blk w g 22 #[.slice A l.length ca]) (ha : Reads w w.heap.size 1 A l.length (l.map iv)) :
    Calls Try.prog 134 #[.slice (some ⟨g, 0, none⟩) 1 c] w fun e w' => ∃ A c', e = .returned (.slice A l.length c') ∧ w'.ownsRow w.heap.size 3 1 (.slice A l.length c') l.length (l.map iv) ∧ Below w.heap.size w w' := by
  refine foconc_gen g 1 c l.length (fun j => if j = 0 then [] else l) (fun _ => l) w hb.lt ?_ (by omega) rfl ?_ ?_ ?_ rfl
  · intro j hj
    rcases j with _ | j
    · exact ⟨A, ca, hb.cell 0, ha⟩
    · omega
  · intro j hj
    rcases j with _ | j
    · simp
    · omega
  · intro j hj
    rcases j with _ | j
    · simp
    · simp; omega
  · intro j hj
    exact hl
/-- A shape of the call's own, unless no array may have it. -/
def LimA (sh : List Int) (w : World) (e : Ending) (w' : World) : Prop := ∃ A c, e = .returned (.tuple #[.slice A (if okShape sh = true then sh.length else 0) c, .int .i64 (if okShape sh = true then 0 else 9)]) ∧ (okShape sh = true → w'.ownsRow w.heap.size 3 1 (.slice A sh.length c) sh.length (sh.map iv)) ∧ (okShape sh = false → A = none ∧ c = 0) ∧ Below w.heap.size w w'
set_option maxRecDepth 100000 in
theorem folim_any (g n c : Nat) (sh : List Int) (w : World) (hs : sh.length ≤ 10000) (h : Calls Try.prog 134 #[.slice (some ⟨g, 0, none⟩) n c] w fun e w' => ∃ A c', e = .returned (.slice A sh.length c') ∧ w'.ownsRow w.heap.size 3 1 (.slice A sh.length c') sh.length (sh.map iv) ∧ Below w.heap.size w w') :
    Calls Try.prog 78 #[.slice (some ⟨g, 0, none⟩) n c] w (LimA sh w) := by
  have HC := Lib.hid h
  have HN : Hid (∀ (W : World) (A : Option Addr) (d B : Nat), W.ownsRow B 3 1 (.slice A sh.length d) sh.length (sh.map iv) → Calls Try.prog 63 #[.slice A sh.length d] W fun e w' => e = .returned (.tuple #[.int .i64 (cntV sh), .int .i64 (cntE sh)]) ∧ W = w') := Lib.hid (fun W A d B o => arcount_any A d sh.length sh W rfl (Reads.of_own o) (by omega))
  have HNO : Hid (okShape sh = false → ∀ w', Below w.heap.size w w' → LimA sh w (.returned (.tuple #[.slice none 0 0, .int .i64 9])) w') := Lib.hid (fun h w' b => by
    refine ⟨none, 0, by rw [h]; rfl, fun h2 => ?_, fun _ => ⟨rfl, rfl⟩, b⟩
    rw [h] at h2
    cases h2)
  have HYE : Hid (okShape sh = true → ∀ A c w', w'.ownsRow w.heap.size 3 1 (.slice A sh.length c) sh.length (sh.map iv) → Below w.heap.size w w' → LimA sh w (.returned (.tuple #[.slice A sh.length c, .int .i64 0])) w') := Lib.hid (fun h A c w' o b => by
    refine ⟨A, c, by rw [h]; rfl, fun _ => o, fun h2 => ?_, b⟩
    rw [h] at h2
    cases h2)
  obtain ⟨q, hq⟩ : ∃ q, sh.length = q := ⟨_, rfl⟩
  rw [hq] at HC HN HYE
  clear h hq hs
  cases hok : okShape sh
  · rw [(cnt_no hok).1, (cnt_no hok).2] at HN
    have HE := Lib.hid (HNO.out hok)
    clear hok
    go_enter Try.func78, Try.ntmps78
    go_wp2_with (first
      | (go_at_call 63; refine (HN.out _ A2 c2 _ O2.out).mono ?_; rintro e _ ⟨rfl, rfl⟩)
      | (go_at_call 134; refine HC.out.mono ?_; rintro e w2 ⟨A2, c2, rfl, o2, b2⟩; have O2 := Lib.hid o2; have B2 := Lib.hid b2; clear o2 b2))
    go_ret2
    exact HE.out _ B2.out
  · rw [(cnt_ok hok).1, (cnt_ok hok).2] at HN
    have HE := Lib.hid (HYE.out hok)
    clear hok HNO HYE
    generalize prodI sh = P at *
    go_enter Try.func78, Try.ntmps78
    go_wp2_with (first
      | (go_at_call 63; refine (HN.out _ A2 c2 _ O2.out).mono ?_; rintro e _ ⟨rfl, rfl⟩)
      | (go_at_call 134; refine HC.out.mono ?_; rintro e w2 ⟨A2, c2, rfl, o2, b2⟩; have O2 := Lib.hid o2; have B2 := Lib.hid b2; clear o2 b2))
    go_ret2
    exact HE.out _ _ _ O2.out B2.out
end Go.Proofs.Ytkabdkblcgklmaa.fo

namespace Go.Proofs.Ytkabdkblcgklmaa.fo
open Go.RowKit Go.Proofs.Ytkabdkblcgklmaa.arr Go.Proofs.Ytkabdkblcgklmaa.sc

/-- The boxes of two arrays. -/
structure TwF (w : World) (a b : AV) (p q : AP) (W : World) : Prop where
  x : Blk W w.heap.size 25 (arC a p)
  y : Blk W (w.heap.size + 1) 25 (arC b q)
  fb : Below w.heap.size w W
  ea : AEl W a p
  eb : AEl W b q
theorem TwF.below {w W W' : World} {a b : AV} {p q : AP} (h : TwF w a b p q W) (hb : Below W.heap.size W W') : TwF w a b p q W' :=
  ⟨h.x.below hb h.x.lt, h.y.below hb h.y.lt, below_on h.fb hb, h.ea.below hb, h.eb.below hb⟩
theorem TwF.start {w : World} {a b : AV} {p q : AP} (ea : AEl w a p) (eb : AEl w b q) : TwF w a b p q ((w.alloc (.cells (arC a p) 25)).alloc (.cells (arC b q) 25)) :=
  ⟨(Blk.new w _ _).alloc _, blk_n2 w _ _ _, below_n2 _ _ _, ea.below (below_n2 _ _ _), eb.below (below_n2 _ _ _)⟩
theorem TwF.cells {w W : World} {a b : AV} {p q : AP} (h : TwF w a b p q W) : (W.cell? ⟨w.heap.size, 0, none⟩ = some (.int .i64 a.kind) ∧ W.cell? ⟨w.heap.size, 1, none⟩ = some (.slice p.A0 a.sh.length p.c0) ∧ W.cell? ⟨w.heap.size, 2, none⟩ = some (.slice p.A1 a.el.length p.c1)) ∧
    (W.cell? ⟨w.heap.size + 1, 0, none⟩ = some (.int .i64 b.kind) ∧ W.cell? ⟨w.heap.size + 1, 1, none⟩ = some (.slice q.A0 b.sh.length q.c0) ∧ W.cell? ⟨w.heap.size + 1, 2, none⟩ = some (.slice q.A1 b.el.length q.c1)) :=
  ⟨⟨h.x.cell 0, h.x.cell 1, h.x.cell 2⟩, h.y.cell 0, h.y.cell 1, h.y.cell 2⟩
theorem chk_two (fs : List Int) (a b : AV) (W : World) (p q : AP) (ha : AEl W a p) (hb : AEl W b q) (n : Nat) (hn : fs.length = n) (hn1 : n ≤ 100) :
    Calls Try.prog 90 #[.slice (some ⟨W.heap.size, 0, none⟩) n n, .slice (some ⟨W.heap.size + 1, 0, none⟩) 2 2] ((W.alloc (.cells (fs.map iv).toArray 3)).alloc (.cells #[.int .i64 a.kind, .slice p.A0 a.sh.length p.c0, .slice p.A1 a.el.length p.c1, .int .i64 b.kind, .slice q.A0 b.sh.length q.c0, .slice q.A1 b.el.length q.c1] 25)) fun e w' => e = .returned (.int .i64 (chkE fs [a, b])) ∧ Below W.heap.size W w' := by
  have h2 := Ars.two (ha.below (alloc_below W (.cells (fs.map iv).toArray 3))) (hb.below (alloc_below W (.cells (fs.map iv).toArray 3)))
  rw [World.size_alloc] at h2
  have hal := below_n2 W (.cells (fs.map iv).toArray 3) (.cells #[.int .i64 a.kind, .slice p.A0 a.sh.length p.c0, .slice p.A1 a.el.length p.c1, .int .i64 b.kind, .slice q.A0 b.sh.length q.c0, .slice q.A1 b.el.length q.c1] 25)
  refine (fochk_any (some ⟨W.heap.size, 0, none⟩) n n fs (W.heap.size + 1) 2 2 [a, b] _ hn ?_ hn1 rfl h2 (by omega)).mono ?_
  · refine ⟨by rw [List.length_map, Nat.mul_one, hn], fun _ => ⟨_, rfl, by simp; omega, fun j u hu => ?_⟩⟩
    rw [Addr.add_mid, Nat.zero_add, ((Blk.new W 3 (fs.map iv).toArray).alloc _).cell j, List.getElem?_toArray]
    exact hu
  · rintro e w' ⟨rfl, b⟩
    exact ⟨rfl, hal.trans (b.mono hal.size)⟩
/-- What OuterShape answers. -/
def ShA (E : Int) (sh : List Int) (w : World) (e : Ending) (w' : World) : Prop := ∃ A c, e = .returned (.tuple #[.slice A (if E = 0 then sh.length else 0) c, .int .i64 E]) ∧ (E = 0 → w'.ownsRow w.heap.size 3 1 (.slice A sh.length c) sh.length (sh.map iv)) ∧ (E ≠ 0 → A = none ∧ c = 0) ∧ Below w.heap.size w w'
theorem ShA.no {E : Int} {sh : List Int} {w w' : World} (h : E ≠ 0) (b : Below w.heap.size w w') : ShA E sh w (.returned (.tuple #[.slice none 0 0, .int .i64 E])) w' :=
  ⟨none, 0, by rw [if_neg h], fun h2 => absurd h2 h, fun _ => ⟨rfl, rfl⟩, b⟩
theorem ShA.of_lim {E : Int} {sh : List Int} {w W w' : World} {e : Ending} (h : LimA sh W e w') (hE : E = if okShape sh = true then 0 else 9) (hb : Below w.heap.size w W) : ShA E sh w e w' := by
  obtain ⟨A, c, rfl, o, z, b⟩ := h
  cases hok : okShape sh
  · rw [hok] at hE
    have hE9 : E = 9 := hE
    subst hE9
    obtain ⟨rfl, rfl⟩ := z hok
    exact ⟨none, 0, rfl, fun h => absurd h (by decide), fun _ => ⟨rfl, rfl⟩, hb.trans (b.mono hb.size)⟩
  · rw [hok] at hE
    have hE9 : E = 0 := hE
    subst hE9
    exact ⟨A, c, rfl, fun _ => arown_mono (o hok) hb.size, fun h => absurd rfl h, hb.trans (b.mono hb.size)⟩
theorem out_parts (f : Int) (a b : AV) : (chkE [f] [a, b] ≠ 0 → outE0 f a b = chkE [f] [a, b]) ∧ (chkE [f] [a, b] = 0 → okA a = true ∧ okA b = true ∧ (kindsE f a.kind b.kind ≠ 0 → outE0 f a b = kindsE f a.kind b.kind) ∧ (kindsE f a.kind b.kind = 0 → outE0 f a b = if okShape (a.sh ++ b.sh) = true then 0 else 9)) := by
  unfold chkE outE0
  rw [List.all_cons, List.all_cons, List.all_cons, List.all_nil, List.all_nil, Bool.and_true, Bool.and_true]
  cases binB f
  · exact ⟨fun _ => rfl, fun h => by cases h⟩
  · cases okA a <;> cases okA b
    · exact ⟨fun _ => rfl, fun h => by cases h⟩
    · exact ⟨fun _ => rfl, fun h => by cases h⟩
    · exact ⟨fun _ => rfl, fun h => by cases h⟩
    · refine ⟨fun h => absurd rfl h, fun _ => ⟨rfl, rfl, fun h => by rw [if_neg (by decide), if_neg (by decide), if_pos h], fun h => ?_⟩⟩
      rw [if_neg (by decide), if_neg (by decide), if_neg (by rw [h]; decide)]
      cases okShape (a.sh ++ b.sh) <;> rfl
set_option maxRecDepth 100000 in
set_option maxHeartbeats 4000000 in
theorem fooutsh_any (f : Int) (a b : AV) (p q : AP) (w : World) (ea : AEl w a p) (eb : AEl w b q) :
    Calls Try.prog 49 #[.int .i64 f, .agg (arC a p), .agg (arC b q)] w (ShA (outE0 f a b) (a.sh ++ b.sh) w) := by
  have hI := TwF.start ea eb
  obtain ⟨w1, hw1⟩ : ∃ w1, (w.alloc (.cells (arC a p) 25)).alloc (.cells (arC b q) 25) = w1 := ⟨_, rfl⟩
  rw [hw1] at hI
  have hs1 : w1.heap.size = w.heap.size + 1 + 1 := by rw [← hw1]; simp
  have HCK : Hid (Calls Try.prog 90 #[.slice (some ⟨w1.heap.size, 0, none⟩) 1 1, .slice (some ⟨w1.heap.size + 1, 0, none⟩) 2 2] ((w1.alloc (.cells #[.int .i64 f] 3)).alloc (.cells #[.int .i64 a.kind, .slice p.A0 a.sh.length p.c0, .slice p.A1 a.el.length p.c1, .int .i64 b.kind, .slice q.A0 b.sh.length q.c0, .slice q.A1 b.el.length q.c1] 25)) fun e w' => e = .returned (.int .i64 (chkE [f] [a, b])) ∧ Below w1.heap.size w1 w') := Lib.hid (chk_two [f] a b w1 p q hI.ea hI.eb 1 rfl (by omega))
  have HK := Lib.hid (fun W => sckinds_any f a.kind b.kind W)
  have HC := Lib.hid (fun W (h : TwF w a b p q W) => h.cells)
  obtain ⟨o1, o2⟩ := out_parts f a b
  obtain ⟨⟨x0, x1, x2⟩, y0, y1, y2⟩ := HC.out w1 hI
  have HI := Lib.hid hI
  have HS := Lib.hid hs1
  have hLC : arC a p = #[.int .i64 a.kind, .slice p.A0 a.sh.length p.c0, .slice p.A1 a.el.length p.c1] := rfl
  have hAC : arC b q = #[.int .i64 b.kind, .slice q.A0 b.sh.length q.c0, .slice q.A1 b.el.length q.c1] := rfl
  rw [hLC, hAC] at hw1
  rw [hLC, hAC]
  obtain ⟨E, hE⟩ : ∃ E, chkE [f] [a, b] = E := ⟨_, rfl⟩
  rw [hE] at o1 o2 HCK
  by_cases h0 : E = 0
  case neg =>
    have HN := Lib.hid (fun w' bb => ShA.no (E := E) (sh := a.sh ++ b.sh) (w := w) (w' := w') h0 bb)
    rw [o1 h0]
    have hne : (E != 0) = true := by simp [h0]
    obtain ⟨R, hR⟩ : ∃ R, ShA E (a.sh ++ b.sh) w = R := ⟨_, rfl⟩
    rw [hR]
    clear ea eb hI o1 o2 hE hLC hAC h0
    go_enter Try.func49, Try.ntmps49
    go_wp2_with (go_at_call 90; (try simp only [HS.out.symm]); refine HCK.out.mono ?_; rintro e w2 ⟨rfl, b2⟩)
    rw [← hR]
    exact HN.out _ (below_on HI.out.fb b2)
  subst h0
  obtain ⟨ha, hb, k1, k2⟩ := o2 rfl
  obtain ⟨K, hK⟩ : ∃ K, kindsE f a.kind b.kind = K := ⟨_, rfl⟩
  rw [hK] at k1 k2 HK
  by_cases h1 : K = 0
  case neg =>
    have HN := Lib.hid (fun w' bb => ShA.no (E := K) (sh := a.sh ++ b.sh) (w := w) (w' := w') h1 bb)
    rw [k1 h1]
    have hne : (K != 0) = true := by simp [h1]
    obtain ⟨R, hR⟩ : ∃ R, ShA K (a.sh ++ b.sh) w = R := ⟨_, rfl⟩
    rw [hR]
    clear ea eb hI o1 o2 hE hLC hAC h1 k1 k2 hK ha hb
    go_enter Try.func49, Try.ntmps49
    go_wp2_with (first
      | (go_at_call 91; refine (HK.out _).mono ?_; rintro e w3 ⟨rfl, b3⟩)
      | (go_at_call 90; (try simp only [HS.out.symm]); refine HCK.out.mono ?_; rintro e w2 ⟨rfl, b2⟩; have I2 := Lib.hid (HI.out.below b2); clear b2 x0 x1 x2 y0 y1 y2; obtain ⟨⟨x0, x1, x2⟩, y0, y1, y2⟩ := HC.out _ I2.out))
    rw [← hR]
    exact HN.out _ (below_on I2.out.fb b3)
  subst h1
  have hEE := k2 rfl
  have l1 := (okA_len ha).2
  have l2 := (okA_len hb).2
  have HLM : Hid (∀ W, TwF w a b p q W → Calls Try.prog 78 #[.slice (some ⟨W.heap.size, 0, none⟩) 2 2] (W.alloc (.cells #[.slice p.A0 a.sh.length p.c0, .slice q.A0 b.sh.length q.c0] 22)) (ShA (outE0 f a b) (a.sh ++ b.sh) w)) := Lib.hid (fun W h => by
    have hal := alloc_below W (.cells #[.slice p.A0 a.sh.length p.c0, .slice q.A0 b.sh.length q.c0] 22)
    have h1 := h.below hal
    have hc := foconc2_any W.heap.size 2 a.sh b.sh p.A0 q.A0 p.c0 q.c0 _ (by omega) (by omega) (Blk.new W 22 _) h1.ea.r0 h1.eb.r0
    exact (folim_any W.heap.size 2 2 (a.sh ++ b.sh) _ (by rw [List.length_append]; omega) hc).mono (fun e w' g => ShA.of_lim g hEE h1.fb))
  obtain ⟨R, hR⟩ : ∃ R, ShA (outE0 f a b) (a.sh ++ b.sh) w = R := ⟨_, rfl⟩
  rw [hR] at HLM
  rw [hR]
  have HT : Hid (∀ e w', R e w' → ∃ A n c E, e = .returned (.tuple #[.slice A n c, .int .i64 E])) := Lib.hid (fun e w' h => by
    rw [← hR] at h
    obtain ⟨A, c, rfl, _⟩ := h
    exact ⟨_, _, _, _, rfl⟩)
  clear ea eb hI o1 o2 hE hLC hAC k1 k2 hK ha hb hEE l1 l2 hR
  go_enter Try.func49, Try.ntmps49
  go_wp2_with (first
    | (go_at_call 78; refine (HLM.out _ I3.out).mono ?_; intro e w4 h4; obtain ⟨A4, n4, c4, E4, rfl⟩ := HT.out _ _ h4; have H4 := Lib.hid h4; clear h4)
    | (go_at_call 91; refine (HK.out _).mono ?_; rintro e w3 ⟨rfl, b3⟩; have I3 := Lib.hid (I2.out.below b3); clear b3 x0 x1 x2 y0 y1 y2; obtain ⟨⟨x0, x1, x2⟩, y0, y1, y2⟩ := HC.out _ I3.out)
    | (go_at_call 90; (try simp only [HS.out.symm]); refine HCK.out.mono ?_; rintro e w2 ⟨rfl, b2⟩; have I2 := Lib.hid (HI.out.below b2); clear b2 x0 x1 x2 y0 y1 y2; obtain ⟨⟨x0, x1, x2⟩, y0, y1, y2⟩ := HC.out _ I2.out))
  exact H4.out
end Go.Proofs.Ytkabdkblcgklmaa.fo

namespace Go.Proofs.Ytkabdkblcgklmaa.fo
open Go.RowKit Go.Proofs.Ytkabdkblcgklmaa.arr Go.Proofs.Ytkabdkblcgklmaa.sc

abbrev mixF (a b : Int) : Nat := if a = b then 94 else 92
theorem mixF_enters (a b : Int) : ∀ args w, (callFunc (mixF a b) args).run Try.prog w = .ok (.enter (mixF a b) args) w := by
  unfold mixF
  split
  · exact enters_of Try.func94 (by kernel_rfl) rfl
  · exact enters_of Try.func92 (by kernel_rfl) rfl
/-- What a closure over two arrays and a function of elements reads. -/
structure OuE (f : Int) (a b : AV) (p q : AP) (ga gb g g2 : Nat) (W : World) : Prop where
  ba : Blk W ga 25 (arC a p)
  bb : Blk W gb 25 (arC b q)
  bf : Blk W g 72 #[.func (.func (mixF a.kind b.kind)) #[] #[.pointer (some ⟨g2, 0, none⟩)]]
  b2 : Blk W g2 3 #[.int .i64 f]
  ea : AEl W a p
  eb : AEl W b q
theorem OuE.below {f : Int} {a b : AV} {p q : AP} {ga gb g g2 : Nat} {W W' : World} (h : OuE f a b p q ga gb g g2 W) (hb : Below W.heap.size W W') : OuE f a b p q ga gb g g2 W' :=
  ⟨blk_up h.ba hb, blk_up h.bb hb, blk_up h.bf hb, blk_up h.b2 hb, h.ea.below hb, h.eb.below hb⟩
theorem el_at {W : World} {a : AV} {p : AP} (h : AEl W a p) {i : Nat} (hi : i < a.el.length) : ∃ ad, p.A1 = some ad ∧ W.cell? (ad.add i) = some (.int .i64 (a.el.getD i 0)) ∧ InR (a.el.getD i 0) := by
  obtain ⟨ad, e, _, hc⟩ := Reads.int_at (l := a.el) h.r1 hi rfl
  have e2 : a.el.getD i 0 = a.el[i] := by rw [List.getD_eq_getElem?_getD, List.getElem?_eq_getElem hi]; rfl
  rw [e2]
  exact ⟨ad, e, hc, h.f1 _ (List.getElem_mem hi)⟩
set_option maxRecDepth 100000 in
set_option maxHeartbeats 4000000 in
theorem foout1_any (f : Int) (a b : AV) (p q : AP) (ga gb g g2 n : Nat) (w : World) (h : OuE f a b p q ga gb g g2 w) (hn : n < a.el.length * b.el.length) (ha : a.el.length ≤ 4096) (hb : b.el.length ≤ 4096) :
    Calls Try.prog 84 #[.int .i64 (n : Int), .pointer (some ⟨g, 0, none⟩), .pointer (some ⟨ga, 0, none⟩), .pointer (some ⟨gb, 0, none⟩)] w fun e w' => e = .returned (.tuple #[.int .i64 (outGV f a b n), .int .i64 (outGE f a b n)]) ∧ Below w.heap.size w w' := by
  have hgm := mixF_enters a.kind b.kind
  have hnb : 0 < b.el.length := by
    rcases Nat.eq_zero_or_pos b.el.length with e | e
    · rw [e] at hn
      omega
    · exact e
  have hi : n / b.el.length < a.el.length := Nat.div_lt_of_lt_mul (by rw [Nat.mul_comm]; exact hn)
  have hj : n % b.el.length < b.el.length := Nat.mod_lt _ hnb
  have hn4 : n ≤ 16777216 := by
    have := Nat.mul_le_mul ha hb
    omega
  obtain ⟨adA, hA, _, hx⟩ := el_at h.ea hi
  obtain ⟨adB, hB, _, hy⟩ := el_at h.eb hj
  have HCX : Hid (∀ W, Below w.heap.size w W → W.cell? (adA.add (n / b.el.length)) = some (.int .i64 (a.el.getD (n / b.el.length) 0))) := Lib.hid (fun W hb => by
    obtain ⟨ad', e, hc, _⟩ := el_at (h.ea.below hb) hi
    rw [hA] at e
    injection e with e
    subst e
    exact hc)
  have HCY : Hid (∀ W, Below w.heap.size w W → W.cell? (adB.add (n % b.el.length)) = some (.int .i64 (b.el.getD (n % b.el.length) 0))) := Lib.hid (fun W hb => by
    obtain ⟨ad', e, hc, _⟩ := el_at (h.eb.below hb) hj
    rw [hB] at e
    injection e with e
    subst e
    exact hc)
  have HMX : Hid (∀ W, Below w.heap.size w W → Calls Try.prog (mixF a.kind b.kind) #[.int .i64 (a.el.getD (n / b.el.length) 0), .int .i64 (b.el.getD (n % b.el.length) 0), .pointer (some ⟨g2, 0, none⟩)] W fun e w' => e = .returned (.tuple #[.int .i64 (outGV f a b n), .int .i64 (outGE f a b n)]) ∧ Below W.heap.size W w') := Lib.hid (fun W hb => mix_any f a.kind b.kind _ _ hx hy g2 W (h.below hb).b2)
  have HBA : Hid (∀ W, Below w.heap.size w W → W.cell? ⟨ga, 0, none⟩ = some (.int .i64 a.kind) ∧ W.cell? ⟨ga, 1, none⟩ = some (.slice p.A0 a.sh.length p.c0) ∧ W.cell? ⟨ga, 2, none⟩ = some (.slice p.A1 a.el.length p.c1)) := Lib.hid (fun W hb => ⟨(h.below hb).ba.cell 0, (h.below hb).ba.cell 1, (h.below hb).ba.cell 2⟩)
  have HBB : Hid (∀ W, Below w.heap.size w W → W.cell? ⟨gb, 0, none⟩ = some (.int .i64 b.kind) ∧ W.cell? ⟨gb, 1, none⟩ = some (.slice q.A0 b.sh.length q.c0) ∧ W.cell? ⟨gb, 2, none⟩ = some (.slice q.A1 b.el.length q.c1)) := Lib.hid (fun W hb => ⟨(h.below hb).bb.cell 0, (h.below hb).bb.cell 1, (h.below hb).bb.cell 2⟩)
  have HBF : Hid (∀ W, Below w.heap.size w W → W.cell? ⟨g, 0, none⟩ = some (.func (.func (mixF a.kind b.kind)) #[] #[.pointer (some ⟨g2, 0, none⟩)])) := Lib.hid (fun W hb => (h.below hb).bf.cell 0)
  rw [hA] at HBA
  rw [hB] at HBB
  generalize outGV f a b n = V at *
  generalize outGE f a b n = E at *
  generalize mixF a.kind b.kind = gm at *
  generalize p.c1 = ca at *
  generalize q.c1 = cb at *
  obtain ⟨i, hii⟩ : ∃ i, n / b.el.length = i := ⟨_, rfl⟩
  obtain ⟨j, hjj⟩ : ∃ j, n % b.el.length = j := ⟨_, rfl⟩
  have e1 : (n : Int).tdiv (b.el.length : Int) = (i : Int) := by rw [← hii]; exact (Int.ofNat_tdiv n _).symm
  have e2 : (n : Int).tmod (b.el.length : Int) = (j : Int) := by rw [← hjj]; exact (Int.ofNat_tmod n _).symm
  rw [hii] at HCX HMX hi
  rw [hjj] at HCY HMX hj
  have hin : i ≤ n := by rw [← hii]; exact Nat.div_le_self _ _
  generalize a.el.getD i 0 = x at *
  generalize b.el.getD j 0 = y at *
  generalize a.el.length = na at *
  generalize b.el.length = nb at *
  have w1 : IntKind.i64.wrap (i : Int) = (i : Int) := by rw [IntKind.wrap_i64]; omega
  have w2 : IntKind.i64.wrap (j : Int) = (j : Int) := by rw [IntKind.wrap_i64]; omega
  have d1 : (i : Int) < (na : Int) := by omega
  have d2 : (j : Int) < (nb : Int) := by omega
  have d3 : ¬ (nb : Int) = 0 := by omega
  have d4 : ¬ nb = 0 := by omega
  clear h hn hA hB hx hy hii hjj
  go_enter Try.func84, Try.ntmps84
  go_wp2
  refine wp_region_done_on (GS w) (GR [19] (fun (_ : Nat) (v : Value) (_ : World) => v = .tuple #[.int .i64 V, .int .i64 E]) [.func (.func gm) #[] #[.pointer (some ⟨g2, 0, none⟩)], .pointer (some ⟨ga, 2, none⟩), .slice (some adA) na ca, .int .i64 (n : Int), .pointer (some ⟨gb, 2, none⟩), .slice (some adB) nb cb, .int .i64 (nb : Int), .int .i64 (i : Int), .pointer (some (adA.add i)), .int .i64 x, .pointer (some ⟨gb, 2, none⟩), .slice (some adB) nb cb, .int .i64 (n : Int), .pointer (some ⟨gb, 2, none⟩), .slice (some adB) nb cb, .int .i64 (nb : Int), .int .i64 (j : Int), .pointer (some (adB.add j)), .int .i64 y, undef, .int .i64 V, .int .i64 E, .int .i64 V, .int .i64 E]) (by kernel_rfl) 29 rfl (by kernel_rfl) ((Below.refl _ _).drew) ?_ ?_
  · intro i hi
    have hi2 : i < 24 := hi
    clear hi
    rcases i with _ | i
    · refine gr_value rfl (by decide) (.func (.func gm) #[] #[.pointer (some ⟨g2, 0, none⟩)]) rfl ?_
      intro a8 w8 hb8 ho hn
      have o1 : a8.tmps[1]? = some _ := (ho 1 (by kernel_rfl)).trans rfl
      clear ho hn
      refine ⟨wanted_free rfl, ?_⟩
      have y0 := HBF.out w8 hb8
      go_simp
    rcases i with _ | i
    · refine gr_value rfl (by decide) (.pointer (some ⟨ga, 2, none⟩)) rfl ?_
      intro a8 w8 hb8 ho hn
      have o2 : a8.tmps[2]? = some _ := (ho 2 (by kernel_rfl)).trans rfl
      clear ho hn
      refine ⟨wanted_free rfl, ?_⟩
      go_simp
    rcases i with _ | i
    · refine gr_value rfl (by decide) (.slice (some adA) na ca) rfl ?_
      intro a8 w8 hb8 ho hn
      obtain ⟨v8, n8, hq8⟩ := hn 1 8 (by kernel_rfl) rfl
      obtain rfl := hq8.1 (by decide)
      clear ho hn
      refine ⟨wanted_free rfl, ?_⟩
      obtain ⟨y0, y1, y2⟩ := HBA.out w8 hb8
      go_simp
    rcases i with _ | i
    · refine gr_value rfl (by decide) (.int .i64 (n : Int)) rfl ?_
      intro a8 w8 hb8 ho hn
      have o0 : a8.tmps[0]? = some _ := (ho 0 (by kernel_rfl)).trans rfl
      clear ho hn
      refine ⟨wanted_free rfl, ?_⟩
      go_simp
    rcases i with _ | i
    · refine gr_value rfl (by decide) (.pointer (some ⟨gb, 2, none⟩)) rfl ?_
      intro a8 w8 hb8 ho hn
      have o3 : a8.tmps[3]? = some _ := (ho 3 (by kernel_rfl)).trans rfl
      clear ho hn
      refine ⟨wanted_free rfl, ?_⟩
      go_simp
    rcases i with _ | i
    · refine gr_value rfl (by decide) (.slice (some adB) nb cb) rfl ?_
      intro a8 w8 hb8 ho hn
      obtain ⟨v11, n11, hq11⟩ := hn 4 11 (by kernel_rfl) rfl
      obtain rfl := hq11.1 (by decide)
      clear ho hn
      refine ⟨wanted_free rfl, ?_⟩
      obtain ⟨y0, y1, y2⟩ := HBB.out w8 hb8
      go_simp
    rcases i with _ | i
    · refine gr_value rfl (by decide) (.int .i64 (nb : Int)) rfl ?_
      intro a8 w8 hb8 ho hn
      obtain ⟨v12, n12, hq12⟩ := hn 5 12 (by kernel_rfl) rfl
      obtain rfl := hq12.1 (by decide)
      clear ho hn
      refine ⟨wanted_free rfl, ?_⟩
      go_simp
    rcases i with _ | i
    · refine gr_value rfl (by decide) (.int .i64 (i : Int)) rfl ?_
      intro a8 w8 hb8 ho hn
      obtain ⟨v10, n10, hq10⟩ := hn 3 10 (by kernel_rfl) rfl
      obtain rfl := hq10.1 (by decide)
      obtain ⟨v13, n13, hq13⟩ := hn 6 13 (by kernel_rfl) rfl
      obtain rfl := hq13.1 (by decide)
      clear ho hn
      refine ⟨wanted_free rfl, ?_⟩
      go_simp
    rcases i with _ | i
    · refine gr_value rfl (by decide) (.pointer (some (adA.add i))) rfl ?_
      intro a8 w8 hb8 ho hn
      obtain ⟨v9, n9, hq9⟩ := hn 2 9 (by kernel_rfl) rfl
      obtain rfl := hq9.1 (by decide)
      obtain ⟨v14, n14, hq14⟩ := hn 7 14 (by kernel_rfl) rfl
      obtain rfl := hq14.1 (by decide)
      clear ho hn
      refine ⟨wanted_free rfl, ?_⟩
      go_simp
    rcases i with _ | i
    · refine gr_value rfl (by decide) (.int .i64 x) rfl ?_
      intro a8 w8 hb8 ho hn
      obtain ⟨v15, n15, hq15⟩ := hn 8 15 (by kernel_rfl) rfl
      obtain rfl := hq15.1 (by decide)
      clear ho hn
      refine ⟨wanted_free rfl, ?_⟩
      have y3 := HCX.out w8 hb8
      go_simp
    rcases i with _ | i
    · refine gr_value rfl (by decide) (.pointer (some ⟨gb, 2, none⟩)) rfl ?_
      intro a8 w8 hb8 ho hn
      have o3 : a8.tmps[3]? = some _ := (ho 3 (by kernel_rfl)).trans rfl
      clear ho hn
      refine ⟨wanted_free rfl, ?_⟩
      go_simp
    rcases i with _ | i
    · refine gr_value rfl (by decide) (.slice (some adB) nb cb) rfl ?_
      intro a8 w8 hb8 ho hn
      obtain ⟨v17, n17, hq17⟩ := hn 10 17 (by kernel_rfl) rfl
      obtain rfl := hq17.1 (by decide)
      clear ho hn
      refine ⟨wanted_free rfl, ?_⟩
      obtain ⟨y0, y1, y2⟩ := HBB.out w8 hb8
      go_simp
    rcases i with _ | i
    · refine gr_value rfl (by decide) (.int .i64 (n : Int)) rfl ?_
      intro a8 w8 hb8 ho hn
      have o0 : a8.tmps[0]? = some _ := (ho 0 (by kernel_rfl)).trans rfl
      clear ho hn
      refine ⟨wanted_free rfl, ?_⟩
      go_simp
    rcases i with _ | i
    · refine gr_value rfl (by decide) (.pointer (some ⟨gb, 2, none⟩)) rfl ?_
      intro a8 w8 hb8 ho hn
      have o3 : a8.tmps[3]? = some _ := (ho 3 (by kernel_rfl)).trans rfl
      clear ho hn
      refine ⟨wanted_free rfl, ?_⟩
      go_simp
    rcases i with _ | i
    · refine gr_value rfl (by decide) (.slice (some adB) nb cb) rfl ?_
      intro a8 w8 hb8 ho hn
      obtain ⟨v20, n20, hq20⟩ := hn 13 20 (by kernel_rfl) rfl
      obtain rfl := hq20.1 (by decide)
      clear ho hn
      refine ⟨wanted_free rfl, ?_⟩
      obtain ⟨y0, y1, y2⟩ := HBB.out w8 hb8
      go_simp
    rcases i with _ | i
    · refine gr_value rfl (by decide) (.int .i64 (nb : Int)) rfl ?_
      intro a8 w8 hb8 ho hn
      obtain ⟨v21, n21, hq21⟩ := hn 14 21 (by kernel_rfl) rfl
      obtain rfl := hq21.1 (by decide)
      clear ho hn
      refine ⟨wanted_free rfl, ?_⟩
      go_simp
    rcases i with _ | i
    · refine gr_value rfl (by decide) (.int .i64 (j : Int)) rfl ?_
      intro a8 w8 hb8 ho hn
      obtain ⟨v19, n19, hq19⟩ := hn 12 19 (by kernel_rfl) rfl
      obtain rfl := hq19.1 (by decide)
      obtain ⟨v22, n22, hq22⟩ := hn 15 22 (by kernel_rfl) rfl
      obtain rfl := hq22.1 (by decide)
      clear ho hn
      refine ⟨wanted_free rfl, ?_⟩
      go_simp
    rcases i with _ | i
    · refine gr_value rfl (by decide) (.pointer (some (adB.add j))) rfl ?_
      intro a8 w8 hb8 ho hn
      obtain ⟨v18, n18, hq18⟩ := hn 11 18 (by kernel_rfl) rfl
      obtain rfl := hq18.1 (by decide)
      obtain ⟨v23, n23, hq23⟩ := hn 16 23 (by kernel_rfl) rfl
      obtain rfl := hq23.1 (by decide)
      clear ho hn
      refine ⟨wanted_free rfl, ?_⟩
      go_simp
    rcases i with _ | i
    · refine gr_value rfl (by decide) (.int .i64 y) rfl ?_
      intro a8 w8 hb8 ho hn
      obtain ⟨v24, n24, hq24⟩ := hn 17 24 (by kernel_rfl) rfl
      obtain rfl := hq24.1 (by decide)
      clear ho hn
      refine ⟨wanted_free rfl, ?_⟩
      have y3 := HCY.out w8 hb8
      go_simp
    rcases i with _ | i
    · refine gr_call (fun _ _ _ _ _ h => h) gm rfl (by decide) ?_
      intro a8 w8 hb8 ho hn
      obtain ⟨v7, n7, hq7⟩ := hn 0 7 (by kernel_rfl) rfl
      obtain rfl := hq7.1 (by decide)
      obtain ⟨v16, n16, hq16⟩ := hn 9 16 (by kernel_rfl) rfl
      obtain rfl := hq16.1 (by decide)
      obtain ⟨v25, n25, hq25⟩ := hn 18 25 (by kernel_rfl) rfl
      obtain rfl := hq25.1 (by decide)
      clear ho hn
      refine ⟨wanted_free rfl, ?_⟩
      refine ⟨#[.int .i64 x, .int .i64 y, .pointer (some ⟨g2, 0, none⟩)], (by go_simp), (HMX.out w8 hb8).mono ?_⟩
      rintro e w9 ⟨rfl, b9⟩
      exact ⟨_, rfl, b9, rfl⟩
    rcases i with _ | i
    · refine gr_value rfl (by decide) (.int .i64 V) rfl ?_
      intro a8 w8 hb8 ho hn
      obtain ⟨v26, n26, hq26⟩ := hn 19 26 (by kernel_rfl) rfl
      have hv26 := hq26.2 (by decide)
      clear ho hn
      refine ⟨wanted_free rfl, ?_⟩
      obtain rfl : v26 = .tuple #[.int .i64 V, .int .i64 E] := hv26
      clear hq26
      go_simp
    rcases i with _ | i
    · refine gr_value rfl (by decide) (.int .i64 E) rfl ?_
      intro a8 w8 hb8 ho hn
      obtain ⟨v26, n26, hq26⟩ := hn 19 26 (by kernel_rfl) rfl
      have hv26 := hq26.2 (by decide)
      clear ho hn
      refine ⟨wanted_free rfl, ?_⟩
      obtain rfl : v26 = .tuple #[.int .i64 V, .int .i64 E] := hv26
      clear hq26
      go_simp
    rcases i with _ | i
    · refine gr_value rfl (by decide) (.int .i64 V) rfl ?_
      intro a8 w8 hb8 ho hn
      obtain ⟨v27, n27, hq27⟩ := hn 20 27 (by kernel_rfl) rfl
      obtain rfl := hq27.1 (by decide)
      clear ho hn
      refine ⟨wanted_free rfl, ?_⟩
      go_simp
    rcases i with _ | i
    · refine gr_value rfl (by decide) (.int .i64 E) rfl ?_
      intro a8 w8 hb8 ho hn
      obtain ⟨v28, n28, hq28⟩ := hn 21 28 (by kernel_rfl) rfl
      obtain rfl := hq28.1 (by decide)
      clear ho hn
      refine ⟨wanted_free rfl, ?_⟩
      go_simp
    omega
  · intro dn fv w5 hb5 hR5 hall
    have h5 : fv 5 = _ := (hR5 22 5 rfl).1 (by decide)
    have h6 : fv 6 = _ := (hR5 23 6 rfl).1 (by decide)
    simp only [putAll, List.foldl_cons, List.foldl_nil, Act.put, List.setIfInBounds_toArray, List.set_cons_succ, List.set_cons_zero, h5, h6, List.getD_cons_zero, List.getD_cons_succ]
    clear hR5 hall
    go_wp2
    go_ret2
    exact ⟨rfl, hb5⟩

theorem out_ok {f : Int} {a b : AV} (h : outE0 f a b = 0) : okA a = true ∧ okA b = true ∧ kindsE f a.kind b.kind = 0 ∧ okShape (a.sh ++ b.sh) = true := by
  obtain ⟨h1, h2⟩ := out_parts f a b
  by_cases hc : chkE [f] [a, b] = 0
  · obtain ⟨ha, hb, k1, k2⟩ := h2 hc
    by_cases hk : kindsE f a.kind b.kind = 0
    · refine ⟨ha, hb, hk, ?_⟩
      have := k2 hk
      rw [h] at this
      cases hs : okShape (a.sh ++ b.sh)
      · rw [hs] at this
        cases this
      · rfl
    · exact absurd ((k1 hk).symm.trans h) hk
  · exact absurd ((h1 hc).symm.trans h) hc
theorem out_N {a b : AV} (ha : okA a = true) (hb : okA b = true) : mdN (a.sh ++ b.sh) = a.el.length * b.el.length := by
  have h1 := (okA_iff.1 ha).2.1
  have h2 := (okA_iff.1 hb).2.1
  unfold mdN
  rw [prodI_append, ← h1, ← h2, ← Int.natCast_mul, Int.toNat_natCast]
theorem apA_give {gv ge : Nat → Int} {S : Option Addr} {c n B : Nat} {sh : List Int} {W w' : World} {e : Ending} (h : ApA gv ge S sh.length c n W e w') (o : W.ownsRow B 3 1 (.slice S sh.length c) sh.length (sh.map iv)) (hB : B ≤ W.heap.size) :
    ∃ q, e = .returned (.tuple #[.agg (arC (if apE ge n = 0 then ⟨1, sh, apL gv n⟩ else ⟨0, [], []⟩) q), .int .i64 (apE ge n)]) ∧ AOwn B w' (if apE ge n = 0 then ⟨1, sh, apL gv n⟩ else ⟨0, [], []⟩) q ∧ Below W.heap.size W w' := by
  obtain ⟨v, rfl, b, q, rfl, ow⟩ := apA_scU h o hB
  exact ⟨q, rfl, ow, b⟩
set_option maxRecDepth 100000 in
set_option maxHeartbeats 4000000 in
theorem foouter_any (f : Int) (a b : AV) (p q : AP) (w : World) (ea : AEl w a p) (eb : AEl w b q) :
    Calls Try.prog 41 #[.int .i64 f, .agg (arC a p), .agg (arC b q)] w (GiveE (outA f a b) (outE f a b) w) := by
  have hI := MtI.start ea eb
  obtain ⟨w1, hw1⟩ : ∃ w1, ((w.alloc (.cells (arC a p) 25)).alloc (.cells (arC b q) 25)).alloc (.cells #[.int .i64 0, .slice none 0 0, .slice none 0 0] 25) = w1 := ⟨_, rfl⟩
  rw [hw1] at hI
  have HSH := Lib.hid (fun W (h : MtI w a b p q W) => fooutsh_any f a b p q W h.ea h.eb)
  have hC0 : ∀ W, MtI w a b p q W → ((W.cell? ⟨w.heap.size, 0, none⟩ = some (.int .i64 a.kind) ∧ W.cell? ⟨w.heap.size, 1, none⟩ = some (.slice p.A0 a.sh.length p.c0) ∧ W.cell? ⟨w.heap.size, 2, none⟩ = some (.slice p.A1 a.el.length p.c1)) ∧
    (W.cell? ⟨w.heap.size + 1, 0, none⟩ = some (.int .i64 b.kind) ∧ W.cell? ⟨w.heap.size + 1, 1, none⟩ = some (.slice q.A0 b.sh.length q.c0) ∧ W.cell? ⟨w.heap.size + 1, 2, none⟩ = some (.slice q.A1 b.el.length q.c1))) ∧
    ((W.cell? ⟨w.heap.size + 1 + 1, 0, none⟩ = some (.int .i64 0) ∧ W.cell? ⟨w.heap.size + 1 + 1, 1, none⟩ = some (.slice none 0 0) ∧ W.cell? ⟨w.heap.size + 1 + 1, 2, none⟩ = some (.slice none 0 0)) ∧
    W.frozen? ⟨w.heap.size + 1 + 1, 0, none⟩ = false ∧ W.frozen? ⟨w.heap.size + 1 + 1, 1, none⟩ = false ∧ W.frozen? ⟨w.heap.size + 1 + 1, 2, none⟩ = false) := fun W h =>
      ⟨⟨⟨h.x.cell 0, h.x.cell 1, h.x.cell 2⟩, h.y.cell 0, h.y.cell 1, h.y.cell 2⟩, ⟨h.r.cell 0, h.r.cell 1, h.r.cell 2⟩, h.r.frozen 0, h.r.frozen 1, h.r.frozen 2⟩
  have HC := Lib.hid hC0
  obtain ⟨⟨⟨x0, x1, x2⟩, y0, y1, y2⟩, ⟨r0, r1, r2⟩, f0, f1, f2⟩ := hC0 w1 hI
  have HI := Lib.hid hI
  have hLC : arC a p = #[.int .i64 a.kind, .slice p.A0 a.sh.length p.c0, .slice p.A1 a.el.length p.c1] := rfl
  have hAC : arC b q = #[.int .i64 b.kind, .slice q.A0 b.sh.length q.c0, .slice q.A1 b.el.length q.c1] := rfl
  have hoE : outE f a b = if outE0 f a b ≠ 0 then outE0 f a b else apE (outGE f a b) (mdN (a.sh ++ b.sh)) := rfl
  by_cases h0 : outE0 f a b = 0
  case neg =>
    rw [if_pos h0] at hoE
    have hoA : outA f a b = ⟨0, [], []⟩ := by
      unfold outA
      rw [hoE, if_neg h0]
    rw [hoE, hoA]
    obtain ⟨E, hE⟩ : ∃ E, outE0 f a b = E := ⟨_, rfl⟩
    rw [hE] at h0 HSH
    rw [hE]
    have HSN : Hid (∀ W, MtI w a b p q W → Calls Try.prog 49 #[.int .i64 f, .agg #[.int .i64 a.kind, .slice p.A0 a.sh.length p.c0, .slice p.A1 a.el.length p.c1], .agg #[.int .i64 b.kind, .slice q.A0 b.sh.length q.c0, .slice q.A1 b.el.length q.c1]] W fun e w' => e = .returned (.tuple #[.slice none 0 0, .int .i64 E]) ∧ Below W.heap.size W w') := Lib.hid (fun W h => by
      refine (HSH.out W h).mono ?_
      rintro e w' ⟨A, c, rfl, _, hz, bb⟩
      obtain ⟨rfl, rfl⟩ := hz h0
      rw [if_neg h0]
      exact ⟨rfl, bb⟩)
    have hne : (E != 0) = true := by simp [h0]
    rw [hLC, hAC] at hw1
    rw [hLC, hAC]
    clear ea eb hI hLC hAC hoE hoA hE h0 HSH hC0
    go_enter Try.func41, Try.ntmps41
    go_wp2_with (go_at_call 49; (try rw [hw1]); refine (HSN.out _ HI.out).mono ?_; rintro e w2 ⟨rfl, b2⟩; have I2 := Lib.hid (HI.out.below b2); clear b2 x0 x1 x2 y0 y1 y2 r0 r1 r2 f0 f1 f2; obtain ⟨⟨⟨x0, x1, x2⟩, y0, y1, y2⟩, ⟨r0, r1, r2⟩, f0, f1, f2⟩ := HC.out _ I2.out)
    refine bodyPost_ret (results_arr2 rfl rfl rfl (arblk_three _ _ _ I2.out.r)) rfl ?_
    exact GiveE.no rfl (I2.out.fin _ _ _)
  obtain ⟨ha, hb, hk, hs⟩ := out_ok h0
  rw [if_neg (by rw [h0]; decide)] at hoE
  have hoA : outA f a b = if apE (outGE f a b) (mdN (a.sh ++ b.sh)) = 0 then ⟨1, a.sh ++ b.sh, apL (outGV f a b) (mdN (a.sh ++ b.sh))⟩ else ⟨0, [], []⟩ := by
    unfold outA
    rw [hoE]
  obtain ⟨X, hX⟩ : ∃ X, outA f a b = X := ⟨_, rfl⟩
  obtain ⟨E, hE⟩ : ∃ E, outE f a b = E := ⟨_, rfl⟩
  rw [hX] at hoA
  rw [hE] at hoE
  rw [hX, hE]
  have la := okA_len ha
  have lb := okA_len hb
  obtain ⟨n, hn⟩ : ∃ n, (a.sh ++ b.sh).length = n := ⟨_, rfl⟩
  have HSN : Hid (∀ W, MtI w a b p q W → Calls Try.prog 49 #[.int .i64 f, .agg #[.int .i64 a.kind, .slice p.A0 a.sh.length p.c0, .slice p.A1 a.el.length p.c1], .agg #[.int .i64 b.kind, .slice q.A0 b.sh.length q.c0, .slice q.A1 b.el.length q.c1]] W fun e w' => ∃ A c, e = .returned (.tuple #[.slice A n c, .int .i64 0]) ∧ w'.ownsRow W.heap.size 3 1 (.slice A n c) n ((a.sh ++ b.sh).map iv) ∧ Below W.heap.size W w') := Lib.hid (fun W h => by
    have h1 := HSH.out W h
    rw [h0] at h1
    refine h1.mono ?_
    rintro e w' ⟨A, c, rfl, ho, _, bb⟩
    have ho2 := ho rfl
    rw [hn] at ho2
    rw [if_pos rfl, hn]
    exact ⟨A, c, rfl, ho2, bb⟩)
  have HMX : Hid (∀ W, Calls Try.prog 50 #[.int .i64 f, .int .i64 a.kind, .int .i64 b.kind] W fun e w' => e = .returned (.tuple #[.func (.func (mixF a.kind b.kind)) #[] #[.pointer (some ⟨W.heap.size, 0, none⟩)], .int .i64 0]) ∧ Blk w' W.heap.size 3 #[.int .i64 f] ∧ Below W.heap.size W w') := Lib.hid (fun W => by
    refine (scmixed_any f a.kind b.kind W).mono ?_
    rintro e w' ⟨v, rfl, _, h2, bb⟩
    obtain ⟨rfl, h3⟩ := h2 hk
    rw [hk]
    exact ⟨rfl, h3, bb⟩)
  have HMD : Hid (∀ (W : World) (A : Option Addr) (c g g2 B : Nat), MtI w a b p q W → W.ownsRow B 3 1 (.slice A n c) n ((a.sh ++ b.sh).map iv) → B ≤ W.heap.size → Blk W g 72 #[.func (.func (mixF a.kind b.kind)) #[] #[.pointer (some ⟨g2, 0, none⟩)]] → Blk W g2 3 #[.int .i64 f] →
      Calls Try.prog 79 #[.slice A n c, .func (.func 84) #[] #[.pointer (some ⟨g, 0, none⟩), .pointer (some ⟨w.heap.size, 0, none⟩), .pointer (some ⟨w.heap.size + 1, 0, none⟩)]] W fun e w' => ∃ r : AP, e = .returned (.tuple #[.agg #[.int .i64 X.kind, .slice r.A0 X.sh.length r.c0, .slice r.A1 X.el.length r.c1], .int .i64 E]) ∧ AOwn B w' X r ∧ Below W.heap.size W w') := Lib.hid (fun W A c g g2 B hT o hB hg hg2 => by
    rw [← hn] at o ⊢
    have h := fomade_any A (a.sh ++ b.sh).length c (a.sh ++ b.sh) 84 #[] #[.pointer (some ⟨g, 0, none⟩), .pointer (some ⟨w.heap.size, 0, none⟩), .pointer (some ⟨w.heap.size + 1, 0, none⟩)] (enters_of Try.func84 (by kernel_rfl) rfl) (outGV f a b) (outGE f a b) W hs rfl (Reads.of_own o) (fun i W2 hi hbw => by
      rw [out_N ha hb] at hi
      have hO : OuE f a b p q w.heap.size (w.heap.size + 1) g g2 W2 := OuE.below ⟨hT.x, hT.y, hg, hg2, hT.ea, hT.eb⟩ hbw
      have e : ((#[] : Array Value).push (.int .i64 (i : Int)) ++ #[.pointer (some ⟨g, 0, none⟩), .pointer (some ⟨w.heap.size, 0, none⟩), .pointer (some ⟨w.heap.size + 1, 0, none⟩)]) = #[.int .i64 (i : Int), .pointer (some ⟨g, 0, none⟩), .pointer (some ⟨w.heap.size, 0, none⟩), .pointer (some ⟨w.heap.size + 1, 0, none⟩)] := by simp
      rw [e]
      exact foout1_any f a b p q w.heap.size (w.heap.size + 1) g g2 i W2 hO hi la.1 lb.1)
    refine h.mono ?_
    intro e w' hA
    obtain ⟨r, rfl, ow, bb⟩ := apA_give hA o hB
    rw [← hoA, ← hoE] at *
    exact ⟨r, rfl, ow, bb⟩)
  have hmf : ∀ (P : Nat), mixF a.kind b.kind = P → True := fun _ _ => trivial
  rw [hLC, hAC] at hw1
  rw [hLC, hAC]
  generalize mixF a.kind b.kind = gm at *
  clear ea eb hI hLC hAC hoE hoA hE hX h0 HSH hC0 ha hb hk hs la lb hn hmf
  go_enter Try.func41, Try.ntmps41
  go_wp2_with (first
    | (go_at_call 79; refine (HMD.out _ A2 c2 _ _ w1.heap.size I4.out O4.out S4.out X4.out Y4.out).mono ?_; rintro e w5 ⟨r, rfl, ow5, b5⟩; have I5 := Lib.hid (I4.out.below b5); have OW5 := Lib.hid ow5; clear b5 ow5 x0 x1 x2 y0 y1 y2 r0 r1 r2 f0 f1 f2; obtain ⟨⟨⟨x0, x1, x2⟩, y0, y1, y2⟩, ⟨r0, r1, r2⟩, f0, f1, f2⟩ := HC.out _ I5.out)
    | (go_at_call 50; refine (HMX.out _).mono ?_; rintro e w3 ⟨rfl, h3, b3⟩; have al3 := alloc_below w3 (.cells #[.func (.func gm) #[] #[.pointer (some ⟨w2.heap.size, 0, none⟩)]] 72); have X4 := Lib.hid (Blk.new w3 72 #[.func (.func gm) #[] #[.pointer (some ⟨w2.heap.size, 0, none⟩)]]); have Y4 := Lib.hid (h3.below al3 h3.lt); have b34 := below_on b3 al3; have I4 := Lib.hid (I2.out.below b34); have O4 := Lib.hid (arown_stay O2.out b34 (fun g hg => (arown_lt O2.out g hg).2)); have S4 := Lib.hid (Nat.le_trans S2.out b34.size); clear h3 b3 al3 b34 x0 x1 x2 y0 y1 y2 r0 r1 r2 f0 f1 f2; obtain ⟨⟨⟨x0, x1, x2⟩, y0, y1, y2⟩, ⟨r0, r1, r2⟩, f0, f1, f2⟩ := HC.out _ I4.out)
    | (go_at_call 49; (try rw [hw1]); refine (HSN.out _ HI.out).mono ?_; rintro e w2 ⟨A2, c2, rfl, o2, b2⟩; have I2 := Lib.hid (HI.out.below b2); have O2 := Lib.hid o2; have S2 := Lib.hid b2.size; clear b2 o2 x0 x1 x2 y0 y1 y2 r0 r1 r2 f0 f1 f2; obtain ⟨⟨⟨x0, x1, x2⟩, y0, y1, y2⟩, ⟨r0, r1, r2⟩, f0, f1, f2⟩ := HC.out _ I2.out))
  refine bodyPost_ret (results_arr2 rfl rfl rfl (arblk_three _ _ _ I5.out.r)) rfl ?_
  have hk := arkeep_three w5 (w.heap.size + 1 + 1) (.int .i64 X.kind) (.slice r.A0 X.sh.length r.c0) (.slice r.A1 X.el.length r.c1)
  have hlt := HI.out.r.lt
  have hsz := HI.out.fb.size
  refine ⟨r, rfl, ⟨?_, ?_⟩, I5.out.fin _ _ _⟩
  · exact arown_mono (hk.own OW5.out.o0 (fun g hg e => by have := (arown_lt OW5.out.o0 g hg).1; omega)) hsz
  · exact arown_mono (hk.own OW5.out.o1 (fun g hg e => by have := (arown_lt OW5.out.o1 g hg).1; omega)) hsz
end Go.Proofs.Ytkabdkblcgklmaa.fo

/-
  The walk of the statement NoteLast: the last note of a place is the one that tells its file.
-/
import Derived.Test.YtdjneiboeehclaaNtMore
import Derived.BigQuiet
import Derived.Deep.CutBlock
import Derived.Deep.DeepCutAuto
namespace Go.Proofs.Ytdjneiboeehclaa.noteLast
open Go.RowKit Go.Proofs.Ytdjneiboeehclaa.crc Go.Proofs.Ytdjneiboeehclaa.root Go.Proofs.Ytdjneiboeehclaa.note

section
variable {w : World} {A : Option Addr} {n c : Nat} {ls : List (List UInt8)} {us : List Value}

theorem run3 (ns : List NV) (x y : NV) (hx : x.k = 3) (hy : y.k = 3) : fileN (ns ++ [x, y]) 3 x.a x.b = (if x.a = y.a ∧ x.b = y.b then some y.n else some x.n) ∧ fileN (ns ++ [x, y]) 3 y.a y.b = some y.n ∧ ∀ s, doneN (ns ++ [x, y]) s = doneN ns s := by
  have e : ns ++ [x, y] = (ns ++ [x]) ++ [y] := by simp
  rw [e]
  refine ⟨?_, ?_, fun s => ?_⟩
  · rw [fileN_snoc, fileN_snoc]
    by_cases h : x.a = y.a ∧ x.b = y.b
    · rw [if_pos h, if_pos ⟨hy, h.1.symm, h.2.symm⟩]
    · rw [if_neg h, if_neg (fun e => h ⟨e.2.1.symm, e.2.2.symm⟩), if_pos ⟨hx, rfl, rfl⟩]
  · rw [fileN_snoc, if_pos ⟨hy, rfl, rfl⟩]
  · rw [doneN_snoc, doneN_snoc, if_neg (by omega), if_neg (by omega)]
    rfl

set_option maxRecDepth 100000 in
set_option maxHeartbeats 2000000 in
theorem walk_big (st : Int) (x y : NV) (ha : RArgs w A n c ls us) (h : bigL ls = true ∨ 100 < n) :
    Calls Try.prog 8 #[.int .i64 st, .slice A n c, nv x, nv y] w fun e w' => e = .returned (.bool true) ∧ Below w.heap.size w w' := by
  obtain ⟨w0, hw0⟩ : ∃ w0, (w.alloc (.cells #[.int .i64 x.k, .int .i64 x.a, .int .i64 x.b, .int .i64 x.n] 23)).alloc (.cells #[.int .i64 y.k, .int .i64 y.a, .int .i64 y.b, .int .i64 y.n] 23) = w0 := ⟨_, rfl⟩
  have hb0 : Below w.heap.size w w0 := by rw [← hw0]; exact ((Below.refl _ w).alloc (Nat.le_refl _) _).alloc (by simp) _
  have hx0 : Blk w0 w.heap.size 23 #[.int .i64 x.k, .int .i64 x.a, .int .i64 x.b, .int .i64 x.n] := by rw [← hw0]; exact (Blk.new w _ _).alloc _
  have hy0 : Blk w0 (w.heap.size + 1) 23 #[.int .i64 y.k, .int .i64 y.a, .int .i64 y.b, .int .i64 y.n] := by
    have h := Blk.new (w.alloc (.cells #[.int .i64 x.k, .int .i64 x.a, .int .i64 x.b, .int .i64 x.n] 23)) 23 #[.int .i64 y.k, .int .i64 y.a, .int .i64 y.b, .int .i64 y.n]
    rw [World.size_alloc, hw0] at h
    exact h
  have HAL := Lib.hid (nalive_any w0)
  have HB0 := Lib.hid hb0
  have HARG := Lib.hid (fun W (h : Below w0.heap.size w0 W) => ha.below (hb0.trans (h.mono hb0.size)))
  have HG := Lib.hid (fun W (h : Below w0.heap.size w0 W) => great_any (c := c) (HARG.out W h).rws (by have := ha.cap; omega))
  unfold nv
  clear hx0 hy0 hb0 ha
  cases hg : bigL ls
  · rw [hg] at HG h
    have hd : (100 : Int) < (n : Int) := by rcases h with h | h; cases h; omega
    clear h hg
    go_enter Try.func8, Try.ntmps8
    go_wp2_with (first
      | (go_at_call 27; refine HAL.out.mono ?_; rintro e w1 ⟨rfl, b1⟩; have K1 := Lib.hid b1; clear b1 hw0)
      | (go_at_call 13; refine (HG.out w1 K1.out).mono ?_; rintro e _ ⟨rfl, rfl⟩))
    go_ret
    exact ⟨rfl, HB0.out.trans (K1.out.mono HB0.out.size)⟩
  · rw [hg] at HG
    clear h hg
    go_enter Try.func8, Try.ntmps8
    go_wp2_with (first
      | (go_at_call 27; refine HAL.out.mono ?_; rintro e w1 ⟨rfl, b1⟩; have K1 := Lib.hid b1; clear b1 hw0)
      | (go_at_call 13; refine (HG.out w1 K1.out).mono ?_; rintro e _ ⟨rfl, rfl⟩))
    go_ret
    exact ⟨rfl, HB0.out.trans (K1.out.mono HB0.out.size)⟩

theorem good_of_bad {p : Prop} (h : false = true ↔ ¬ p) : p := Classical.byContradiction fun hn => by cases h.2 hn

/-- Both notes and their eight cells. -/
theorem two_reads (x y : NV) (W : World) : Reads (W.alloc (.cells #[.int .i64 x.k, .int .i64 x.a, .int .i64 x.b, .int .i64 x.n, .int .i64 y.k, .int .i64 y.a, .int .i64 y.b, .int .i64 y.n] 23)) (W.alloc (.cells #[.int .i64 x.k, .int .i64 x.a, .int .i64 x.b, .int .i64 x.n, .int .i64 y.k, .int .i64 y.a, .int .i64 y.b, .int .i64 y.n] 23)).heap.size 4 (some ⟨W.heap.size, 0, none⟩) 2 ([x, y].flatMap nc) := by
  refine ⟨rfl, fun _ => ⟨_, rfl, by simp, fun j u hu => ?_⟩⟩
  have e : (⟨W.heap.size, 0, none⟩ : Addr).add j = ⟨W.heap.size, j, none⟩ := by unfold Addr.add; split <;> simp_all
  rw [e, (Blk.new W _ _).cell j]
  simp [nc] at hu ⊢
  exact hu

set_option maxRecDepth 100000 in
set_option maxHeartbeats 8000000 in
theorem walk_small (st : Int) (x y : NV) (hfx : x.Fine) (hfy : y.Fine) (ha : RArgs w A n c ls us) (h1 : bigL ls = false) (h2 : n ≤ 100) :
    Calls Try.prog 8 #[.int .i64 st, .slice A n c, nv x, nv y] w fun e w' => e = .returned (.bool true) ∧ Below w.heap.size w w' := by
  obtain ⟨i0, hi, hz0, hz1, hz2⟩ := info_parts info_rows9
  obtain ⟨w0, hw0⟩ : ∃ w0, (w.alloc (.cells #[.int .i64 x.k, .int .i64 x.a, .int .i64 x.b, .int .i64 x.n] 23)).alloc (.cells #[.int .i64 y.k, .int .i64 y.a, .int .i64 y.b, .int .i64 y.n] 23) = w0 := ⟨_, rfl⟩
  have hb0 : Below w.heap.size w w0 := by rw [← hw0]; exact ((Below.refl _ w).alloc (Nat.le_refl _) _).alloc (by simp) _
  have hx0 : Blk w0 w.heap.size 23 #[.int .i64 x.k, .int .i64 x.a, .int .i64 x.b, .int .i64 x.n] := by rw [← hw0]; exact (Blk.new w _ _).alloc _
  have hy0 : Blk w0 (w.heap.size + 1) 23 #[.int .i64 y.k, .int .i64 y.a, .int .i64 y.b, .int .i64 y.n] := by
    have h := Blk.new (w.alloc (.cells #[.int .i64 x.k, .int .i64 x.a, .int .i64 x.b, .int .i64 x.n] 23)) 23 #[.int .i64 y.k, .int .i64 y.a, .int .i64 y.b, .int .i64 y.n]
    rw [World.size_alloc, hw0] at h
    exact h
  have HAL := Lib.hid (nalive_any w0)
  have HB0 := Lib.hid hb0
  have HARG := Lib.hid (fun W (h : Below w0.heap.size w0 W) => ha.below (hb0.trans (h.mono hb0.size)))
  have HG := Lib.hid (fun W (h : Below w0.heap.size w0 W) => great_any (c := c) (HARG.out W h).rws (by have := ha.cap; omega))
  rw [h1] at HG
  have HNW := Lib.hid (fun W (h : Below w0.heap.size w0 W) => nnew_any st (c := c) (HARG.out W h).rws (by omega) ha.cap)
  have HLEN := Lib.hid ha.len
  obtain ⟨ns, hns⟩ : ∃ ns, notesN st ls = ns := ⟨_, rfl⟩
  obtain ⟨bg, hbg⟩ : ∃ bg, begunN st ls = bg := ⟨_, rfl⟩
  rw [hns, hbg] at HNW
  have hnle : ns.length ≤ n := by rw [← hns, ← ha.len]; exact notesN_le st ls
  obtain ⟨g, hg⟩ : ∃ g, ns.length = g := ⟨_, rfl⟩
  rw [hg] at hnle
  have HNS := Lib.hid hns
  have HBG := Lib.hid hbg
  have HGL := Lib.hid hg
  have HX0 := Lib.hid hx0
  have HY0 := Lib.hid hy0
  have XC : Hid (∀ W, Below w0.heap.size w0 W → W.cell? ⟨w.heap.size, 0, none⟩ = some (.int .i64 x.k) ∧ W.cell? ⟨w.heap.size, 1, none⟩ = some (.int .i64 x.a) ∧ W.cell? ⟨w.heap.size, 2, none⟩ = some (.int .i64 x.b) ∧ W.cell? ⟨w.heap.size, 3, none⟩ = some (.int .i64 x.n) ∧
      W.cell? ⟨w.heap.size + 1, 0, none⟩ = some (.int .i64 y.k) ∧ W.cell? ⟨w.heap.size + 1, 1, none⟩ = some (.int .i64 y.a) ∧ W.cell? ⟨w.heap.size + 1, 2, none⟩ = some (.int .i64 y.b) ∧ W.cell? ⟨w.heap.size + 1, 3, none⟩ = some (.int .i64 y.n)) := Lib.hid (fun W h => by
    have hb := hx0.below h hx0.lt
    have hc := hy0.below h hy0.lt
    exact ⟨hb.cell 0, hb.cell 1, hb.cell 2, hb.cell 3, hc.cell 0, hc.cell 1, hc.cell 2, hc.cell 3⟩)
  have HBY := Lib.hid (fun W => nbytes_any (n := 2) (c := 2) (l := [x, y]) rfl (fun z hz => by rcases List.mem_cons.1 hz with rfl | hz; exact hfx; rw [List.mem_singleton.1 hz]; exact hfy) (by decide) (two_reads x y W))
  have HEX := Lib.hid (fun W => nencode_any x W hfx)
  have HEY := Lib.hid (fun W => nencode_any y W hfy)
  obtain ⟨ex, hex⟩ : ∃ e, errN x = e := ⟨_, rfl⟩
  obtain ⟨ey, hey⟩ : ∃ e, errN y = e := ⟨_, rfl⟩
  rw [hex] at HEX
  rw [hey] at HEY
  have hxo : (ex = 0 ∧ okN x = true) ∨ ex = 90 := by
    rw [← hex]
    unfold errN
    cases okN x
    · exact .inr rfl
    · exact .inl ⟨rfl, rfl⟩
  have hyo : (ey = 0 ∧ okN y = true) ∨ ey = 90 := by
    rw [← hey]
    unfold errN
    cases okN y
    · exact .inr rfl
    · exact .inl ⟨rfl, rfl⟩
  have HFX := Lib.hid hfx
  have HFY := Lib.hid hfy
  have HXO := Lib.hid hxo
  have HYO := Lib.hid hyo
  have hd : ¬ (100 : Int) < (n : Int) := by omega
  obtain ⟨xk, xa, xb, xn⟩ := x
  obtain ⟨yk, ya, yb, yn⟩ := y
  unfold nv at HEX HEY ⊢
  simp only at HEX HEY XC HBY ⊢
  clear hx0 hy0 hb0 hns hbg hg hex hey hxo hyo hfx hfy h1
  have HA := Lib.hid ha
  clear ha
  go_enter Try.func8, Try.ntmps8
  go_upto_region 9 with (first
    | (go_at_call 27; refine HAL.out.mono ?_; rintro e w1 ⟨rfl, b1⟩; have K1 := Lib.hid b1; clear b1 hw0)
    | (go_at_call 13; refine (HG.out w1 K1.out).mono ?_; rintro e _ ⟨rfl, rfl⟩)
    | (go_at_call 14; refine (HNW.out w1 K1.out).mono ?_; rintro e w2 ⟨b, mf, md, v, rfl, hl, b2⟩
       have K2 := Lib.hid (K1.out.trans (b2.mono K1.out.size))
       have L2 := Lib.hid hl
       have HNT := lnotes_any hl
       rw [HGL.out] at HNT
       have HNT := Lib.hid HNT
       clear hl b2)
    | (go_at_call 16; refine HNT.out.mono ?_; rintro e w3 ⟨A3, c3, rfl, o3, b3⟩
       have K3 := Lib.hid (K2.out.trans (b3.mono K2.out.size))
       have L3 := Lib.hid (L2.out.below b3)
       have O3 := Lib.hid o3
       obtain ⟨x0, x1, x2, x3, y0, y1, y2, y3⟩ := XC.out w3 K3.out
       clear o3 b3)
    | (go_at_call 26; refine (HBY.out w3).mono ?_; rintro e w4 ⟨B4, d4, us4, rfl, g4⟩
       have b34 : Below w3.heap.size w3 w4 := ((Below.refl _ w3).alloc (Nat.le_refl _) _).trans (g4.below.mono (by simp))
       have K4 := Lib.hid (K3.out.trans (b34.mono K3.out.size))
       have L4 := Lib.hid (L3.out.below b34)
       have O4 := Lib.hid (own_stay O3.out b34)
       have G4 := Lib.hid g4
       clear x0 x1 x2 x3 y0 y1 y2 y3
       obtain ⟨x0, x1, x2, x3, y0, y1, y2, y3⟩ := XC.out w4 K4.out
       clear g4 b34)
    | (go_at_call 9; (have l0 := K5.out; clear l0); refine (HEY.out w5).mono ?_; rintro e w6 ⟨v6, rfl, g6⟩
       have b6 : Below w5.heap.size w5 w6 := by obtain ⟨_, _, _, _, h⟩ := g6; exact h
       have K6 := Lib.hid (K5.out.trans (b6.mono K5.out.size))
       have L6 := Lib.hid (L5.out.below b6)
       have O6 := Lib.hid (own_stay O5.out b6)
       have G6 := Lib.hid (G5.out.next b6)
       clear x0 x1 x2 x3 y0 y1 y2 y3
       obtain ⟨x0, x1, x2, x3, y0, y1, y2, y3⟩ := XC.out w6 K6.out
       clear g6 b6)
    | (go_at_call 9; refine (HEX.out w4).mono ?_; rintro e w5 ⟨v5, rfl, g5⟩
       have b5 : Below w4.heap.size w4 w5 := by obtain ⟨_, _, _, _, h⟩ := g5; exact h
       have K5 := Lib.hid (K4.out.trans (b5.mono K4.out.size))
       have L5 := Lib.hid (L4.out.below b5)
       have O5 := Lib.hid (own_stay O4.out b5)
       have G5 := Lib.hid (G4.out.next b5)
       clear x0 x1 x2 x3 y0 y1 y2 y3
       obtain ⟨x0, x1, x2, x3, y0, y1, y2, y3⟩ := XC.out w5 K5.out
       clear g5 b5))
  obtain ⟨bad, hbad⟩ : ∃ b : Bool, b = true ↔ ¬ (ex = 0 ∧ ey = 0 ∧ xk = 3 ∧ yk = 3 ∧ bg = true ∧ (g : Int) = (n : Int) - 1 ∧ lastB ns = true) := by
    by_cases h : (ex = 0 ∧ ey = 0 ∧ xk = 3 ∧ yk = 3 ∧ bg = true ∧ (g : Int) = (n : Int) - 1 ∧ lastB ns = true)
    · exact ⟨false, by simp [h]⟩
    · exact ⟨true, by simp [h]⟩
  have HBAD := Lib.hid hbad
  have HBT := Lib.hid (fun h => congrArg Value.bool (hbad.2 h).symm)
  have HBFALSE : Hid ((ex = 0 ∧ ey = 0 ∧ xk = 3 ∧ yk = 3 ∧ bg = true ∧ (g : Int) = (n : Int) - 1 ∧ lastB ns = true) → Value.bool false = Value.bool bad) := Lib.hid (fun h => by
    cases bad
    · rfl
    · exact absurd h (hbad.1 rfl))
  have HBEG := Lib.hid (lbegun_any L6.out)
  clear hbad
  go_cut [98] from 55 to 98 (fun q wx => q = .bool bad ∧ wx = w6)
  case first =>
    by_cases he : ex = 0
    · subst he
      by_cases hf : ey = 0
      · subst hf
        by_cases hk : xk = 3
        · subst hk
          by_cases hj : yk = 3
          · subst hj
            cases bg
            · go_wp2_with (go_at_call 21; refine HBEG.out.mono ?_; rintro e _ ⟨rfl, rfl⟩)
              go_meet
              case rel => exact ⟨HBT.out (fun h => by simp at h), rfl⟩
            · by_cases hg : (g : Int) = (n : Int) - 1
              · have q1 : ((g : Int) != (n : Int) - 1) = false := by rw [bne_eq_false_iff_eq]; exact hg
                have HG1 := Lib.hid hg
                clear hg
                rcases Nat.eq_zero_or_pos g with h0 | h0
                · have q2 : ¬ (0 : Int) < (g : Int) := by omega
                  have HL : Hid (lastB ns = true) := Lib.hid (lastB_iff.2 (fun z hz => by
                    have := HGL.out
                    have hn : ns = [] := List.eq_nil_of_length_eq_zero (by omega)
                    rw [hn] at hz
                    cases hz))
                  clear h0
                  go_wp2_with (go_at_call 21; refine HBEG.out.mono ?_; rintro e _ ⟨rfl, rfl⟩)
                  go_meet
                  case rel => exact ⟨HBFALSE.out ⟨by trivial, by trivial, by trivial, by trivial, by trivial, HG1.out, HL.out⟩, rfl⟩
                · obtain ⟨m, hm⟩ : ∃ m, g = m + 1 := ⟨g - 1, by omega⟩
                  obtain ⟨z, hz1, hz2⟩ := last_at (HGL.out.trans hm)
                  have q2 : (0 : Int) < (g : Int) := by omega
                  have q3 : (g : Int) - 1 = (m : Int) := by omega
                  have q4 : (m : Int) < (g : Int) := by omega
                  obtain ⟨ad, rfl, _, z0, _, _, _⟩ := note_at (Reads.of_own O6.out) hz1 HGL.out
                  have HZ : Hid (lastB ns = true ↔ z.k ≤ 3) := Lib.hid (by unfold lastB; rw [hz2]; simp)
                  obtain ⟨zk, za, zb, zn⟩ := z
                  simp only at z0 HZ
                  clear h0 hm hz1 hz2
                  by_cases hz3 : (3 : Int) < zk
                  · have HN : Hid (¬ lastB ns = true) := Lib.hid (fun h => by have := HZ.out.1 h; omega)
                    go_wp2_with (go_at_call 21; refine HBEG.out.mono ?_; rintro e _ ⟨rfl, rfl⟩)
                    go_meet
                    case rel => exact ⟨HBT.out (fun h => HN.out h.2.2.2.2.2.2), rfl⟩
                  · have HN : Hid (lastB ns = true) := Lib.hid (HZ.out.2 (by omega))
                    go_wp2_with (go_at_call 21; refine HBEG.out.mono ?_; rintro e _ ⟨rfl, rfl⟩)
                    go_meet
                    case rel => exact ⟨by rw [decide_eq_false (show ¬ (3 : Int) < zk by omega)]; exact HBFALSE.out ⟨by trivial, by trivial, by trivial, by trivial, by trivial, HG1.out, HN.out⟩, rfl⟩
              · have q1 : ((g : Int) != (n : Int) - 1) = true := by rw [bne_iff_ne]; exact hg
                have HG1 := Lib.hid hg
                clear hg
                go_wp2_with (go_at_call 21; refine HBEG.out.mono ?_; rintro e _ ⟨rfl, rfl⟩)
                go_meet
                case rel => exact ⟨HBT.out (fun h => HG1.out h.2.2.2.2.2.1), rfl⟩
          · have q1 : (yk != 3) = true := by rw [bne_iff_ne]; exact hj
            have HJ := Lib.hid hj
            clear hj
            go_wp2
            go_meet
            case rel => exact ⟨HBT.out (fun h => HJ.out h.2.2.2.1), rfl⟩
        · have q1 : (xk != 3) = true := by rw [bne_iff_ne]; exact hk
          have HJ := Lib.hid hk
          clear hk
          go_wp2
          go_meet
          case rel => exact ⟨HBT.out (fun h => HJ.out h.2.2.1), rfl⟩
      · have q1 : (ey != 0) = true := by rw [bne_iff_ne]; exact hf
        have HJ := Lib.hid hf
        clear hf
        go_wp2
        go_meet
        case rel => exact ⟨HBT.out (fun h => HJ.out h.2.1), rfl⟩
    · have q1 : (ex != 0) = true := by rw [bne_iff_ne]; exact he
      have HJ := Lib.hid he
      clear he
      go_wp2
      go_meet
      case rel => exact ⟨HBT.out (fun h => HJ.out h.1), rfl⟩
  case rest =>
    obtain ⟨rfl, rfl⟩ := hcut
    cases bad
    case true =>
      go_wp2
      go_ret
      exact ⟨rfl, HB0.out.trans (K6.out.mono HB0.out.size)⟩
    case false =>
      obtain ⟨rfl, rfl, rfl, rfl, rfl, hgn, hlast⟩ := good_of_bad HBAD.out
      have hox : okN ⟨3, xa, xb, xn⟩ = true := by
        rcases HXO.out with h | h
        · exact h.2
        · cases h
      have hoy : okN ⟨3, ya, yb, yn⟩ = true := by
        rcases HYO.out with h | h
        · exact h.2
        · cases h
      have hC : ([⟨3, xa, xb, xn⟩, ⟨3, ya, yb, yn⟩] : List NV).map outN = [encN ⟨3, xa, xb, xn⟩, encN ⟨3, ya, yb, yn⟩] := by
        show [outN ⟨3, xa, xb, xn⟩, outN ⟨3, ya, yb, yn⟩] = _
        unfold outN
        rw [if_pos hox, if_pos hoy]
      have hnm : notesN st (ls ++ [encN ⟨3, xa, xb, xn⟩, encN ⟨3, ya, yb, yn⟩]) = ns ++ [⟨3, xa, xb, xn⟩, ⟨3, ya, yb, yn⟩] := by
        have h := notes_more (st := st) (l := ls) HBG.out (by rw [HNS.out, HGL.out, HLEN.out]; omega) (by rw [HNS.out]; exact lastB_iff.1 hlast) [encN ⟨3, xa, xb, xn⟩, encN ⟨3, ya, yb, yn⟩]
        rw [h, HNS.out, takeN_enc hox HFX.out (.inr rfl), takeN_enc hoy HFY.out (.inr rfl)]
        rfl
      have hbm : begunN st (ls ++ [encN ⟨3, xa, xb, xn⟩, encN ⟨3, ya, yb, yn⟩]) = true := begun_append HBG.out
      have HNM := Lib.hid hnm
      have HBM := Lib.hid hbm
      obtain ⟨f1, f2, f3⟩ := run3 ns ⟨3, xa, xb, xn⟩ ⟨3, ya, yb, yn⟩ rfl rfl
      simp only at f1 f2 f3
      have F2 : Hid (fileN (ns ++ [⟨3, xa, xb, xn⟩, ⟨3, ya, yb, yn⟩]) 3 ya yb = some yn) := Lib.hid f2
      have F3 := Lib.hid (f3 xa)
      obtain ⟨D, hD⟩ : ∃ D : Int, (doneN ns xa : Int) = D := ⟨_, rfl⟩
      have HDD := Lib.hid hD
      have RA := Lib.hid (HARG.out wc K6.out)
      have r2 := G6.out.rws
      rw [hC] at r2
      have R2 := Lib.hid r2
      have KE : Hid (Below wc.heap.size wc (wc.alloc (.cells #[] 24))) := Lib.hid ((Below.refl _ _).alloc (Nat.le_refl _) _)
      have RS1 : Hid (Reads (wc.alloc (.cells #[] 24)) wc.heap.size 1 A n us) := Lib.hid (RA.out.reads.alloc (Nat.le_refl _) _)
      have ON1 := Lib.hid RA.out.rws.one_val
      have ON2 := Lib.hid r2.one_val
      have IXA : Hid (i64ok xa) := Lib.hid HFX.out.a
      have IXB : Hid (i64ok xb) := Lib.hid HFX.out.b
      have IYA : Hid (i64ok ya) := Lib.hid HFY.out.a
      have IYB : Hid (i64ok yb) := Lib.hid HFY.out.b
      clear hox hoy hC hnm hbm f2 f3 hD r2 hgn hlast
      by_cases h1 : xa = ya
      · have q1 : (xa == ya) = true := by rw [beq_iff_eq]; exact h1
        by_cases h2 : xb = yb
        · have q2 : (xb == yb) = true := by rw [beq_iff_eq]; exact h2
          rw [if_pos ⟨h1, h2⟩] at f1
          have F1 : Hid (fileN (ns ++ [⟨3, xa, xb, xn⟩, ⟨3, ya, yb, yn⟩]) 3 xa xb = some yn) := Lib.hid f1
          clear f1 h1 h2
          go_upto_region 15 with (first
            | (at_builtin; (have l0 := P7.out; clear l0); refine wpList_append_any _ rfl _ _ 35 rfl wc.heap.size 24 i0 (.slice none 0 0) 1 24 Try.underlying35 hi hz0 hz1 hz2 rfl (by decide) (.slice A7 n c7) n us rfl P7.out wc.heap.size B4 2 d4 us4 rfl RS2.out ON2.out (by unfold maxLen; omega) (by omega) K7.out.size ?_
               intro v8 w8 o8 g8 _; obtain ⟨A8, c8, rfl, p8, k8⟩ := app_rows (p := n + 2) K7.out P7.out o8 g8 rfl rfl; have hnm := new_more st RA.out R2.out k8 p8 (by omega); rw [HBM.out, HNM.out] at hnm; have HN8 := Lib.hid hnm; have K8 := Lib.hid k8; clear o8 g8 p8 k8 hnm)
            | (at_builtin; refine wpList_append_any _ rfl _ _ 35 rfl wc.heap.size 24 i0 (.slice none 0 0) 1 24 Try.underlying35 hi hz0 hz1 hz2 rfl (by decide) (.slice (some ⟨wc.heap.size, 0, none⟩) 0 0) 0 [] rfl (rows_empty wc _ (Nat.le_refl _)) wc.heap.size A n c us rfl RS1.out ON1.out (by unfold maxLen; omega) (by omega) (by simp) ?_
               intro v7 w7 o7 g7 _; obtain ⟨A7, c7, rfl, p7, k7⟩ := app_rows (p := n) KE.out (rows_empty wc _ (Nat.le_refl _)) o7 g7 (by omega) (List.nil_append _); have K7 := Lib.hid k7; have P7 := Lib.hid p7; have RS2 := Lib.hid (R2.out.reads.below k7); clear o7 g7 p7 k7)
            | (go_at_call 14; refine HN8.out.mono ?_; rintro e w9 ⟨b9, mf9, md9, v9, rfl, l9, b89⟩
               have k69 : Below wc.heap.size wc w9 := K8.out.trans (b89.mono K8.out.size)
               have K9 := Lib.hid (K6.out.trans (k69.mono K6.out.size))
               have L9 := Lib.hid l9
               have LA9 := Lib.hid (L6.out.below k69)
               have hr := lrun_any l9 xa xb IXA.out IXB.out
               rw [F1.out] at hr
               have HR1 := Lib.hid hr
               obtain ⟨x0, x1, x2, x3, y0, y1, y2, y3⟩ := XC.out w9 K9.out
               clear l9 b89 k69 hr)
            | (go_at_call 20; (have l0 := L10.out; clear l0); refine HR2.out.mono ?_; rintro e w11 ⟨rfl, b11⟩
               have K11 := Lib.hid (K10.out.trans (b11.mono K10.out.size))
               have L11 := Lib.hid (L10.out.below b11)
               have LA11 := Lib.hid (LA10.out.below b11)
               clear x0 x1 x2 x3 y0 y1 y2 y3
               obtain ⟨x0, x1, x2, x3, y0, y1, y2, y3⟩ := XC.out w11 K11.out
               clear b11)
            | (go_at_call 20; refine HR1.out.mono ?_; rintro e w10 ⟨rfl, b10⟩
               have K10 := Lib.hid (K9.out.trans (b10.mono K9.out.size))
               have L10 := Lib.hid (L9.out.below b10)
               have LA10 := Lib.hid (LA9.out.below b10)
               have hr := lrun_any L10.out ya yb IYA.out IYB.out
               rw [F2.out] at hr
               have HR2 := Lib.hid hr
               clear x0 x1 x2 x3 y0 y1 y2 y3
               obtain ⟨x0, x1, x2, x3, y0, y1, y2, y3⟩ := XC.out w10 K10.out
               clear b10 hr))
          have HD1 : Hid (∀ z, Calls Try.prog 22 #[.pointer (some ⟨b9, 0, none⟩), .int .i64 xa] (w11.drewN z) fun e w' => e = .returned (.int .i64 D) ∧ w11.drewN z = w') := Lib.hid (fun z => by
            have h := ldone_any (L11.out.below (below_drewN (Below.refl _ w11) z)) xa IXA.out
            rw [F3.out, HDD.out] at h
            exact h)
          have HD2 : Hid (∀ z, Calls Try.prog 22 #[.pointer (some ⟨b, 0, none⟩), .int .i64 xa] (w11.drewN z) fun e w' => e = .returned (.int .i64 D) ∧ w11.drewN z = w') := Lib.hid (fun z => by
            have h := ldone_any (LA11.out.below (below_drewN (Below.refl _ w11) z)) xa IXA.out
            rw [HDD.out] at h
            exact h)
          go_wp2
          go_quiet (first | ((go_at_call 22; with_reducible exact quiet_left9 (HD1.out _))) | ((go_at_call 22; with_reducible exact quiet_left9 (HD2.out _))))
          go_wp2
          go_ret
          exact ⟨rfl, HB0.out.trans ((below_drewN K11.out _).mono HB0.out.size)⟩
        · have q2 : (xb == yb) = false := by rw [beq_eq_false_iff_ne]; exact h2
          rw [if_neg (fun e => h2 e.2)] at f1
          have F1 : Hid (fileN (ns ++ [⟨3, xa, xb, xn⟩, ⟨3, ya, yb, yn⟩]) 3 xa xb = some xn) := Lib.hid f1
          clear f1 h1 h2
          go_upto_region 15 with (first
            | (at_builtin; (have l0 := P7.out; clear l0); refine wpList_append_any _ rfl _ _ 35 rfl wc.heap.size 24 i0 (.slice none 0 0) 1 24 Try.underlying35 hi hz0 hz1 hz2 rfl (by decide) (.slice A7 n c7) n us rfl P7.out wc.heap.size B4 2 d4 us4 rfl RS2.out ON2.out (by unfold maxLen; omega) (by omega) K7.out.size ?_
               intro v8 w8 o8 g8 _; obtain ⟨A8, c8, rfl, p8, k8⟩ := app_rows (p := n + 2) K7.out P7.out o8 g8 rfl rfl; have hnm := new_more st RA.out R2.out k8 p8 (by omega); rw [HBM.out, HNM.out] at hnm; have HN8 := Lib.hid hnm; have K8 := Lib.hid k8; clear o8 g8 p8 k8 hnm)
            | (at_builtin; refine wpList_append_any _ rfl _ _ 35 rfl wc.heap.size 24 i0 (.slice none 0 0) 1 24 Try.underlying35 hi hz0 hz1 hz2 rfl (by decide) (.slice (some ⟨wc.heap.size, 0, none⟩) 0 0) 0 [] rfl (rows_empty wc _ (Nat.le_refl _)) wc.heap.size A n c us rfl RS1.out ON1.out (by unfold maxLen; omega) (by omega) (by simp) ?_
               intro v7 w7 o7 g7 _; obtain ⟨A7, c7, rfl, p7, k7⟩ := app_rows (p := n) KE.out (rows_empty wc _ (Nat.le_refl _)) o7 g7 (by omega) (List.nil_append _); have K7 := Lib.hid k7; have P7 := Lib.hid p7; have RS2 := Lib.hid (R2.out.reads.below k7); clear o7 g7 p7 k7)
            | (go_at_call 14; refine HN8.out.mono ?_; rintro e w9 ⟨b9, mf9, md9, v9, rfl, l9, b89⟩
               have k69 : Below wc.heap.size wc w9 := K8.out.trans (b89.mono K8.out.size)
               have K9 := Lib.hid (K6.out.trans (k69.mono K6.out.size))
               have L9 := Lib.hid l9
               have LA9 := Lib.hid (L6.out.below k69)
               have hr := lrun_any l9 xa xb IXA.out IXB.out
               rw [F1.out] at hr
               have HR1 := Lib.hid hr
               obtain ⟨x0, x1, x2, x3, y0, y1, y2, y3⟩ := XC.out w9 K9.out
               clear l9 b89 k69 hr)
            | (go_at_call 20; (have l0 := L10.out; clear l0); refine HR2.out.mono ?_; rintro e w11 ⟨rfl, b11⟩
               have K11 := Lib.hid (K10.out.trans (b11.mono K10.out.size))
               have L11 := Lib.hid (L10.out.below b11)
               have LA11 := Lib.hid (LA10.out.below b11)
               clear x0 x1 x2 x3 y0 y1 y2 y3
               obtain ⟨x0, x1, x2, x3, y0, y1, y2, y3⟩ := XC.out w11 K11.out
               clear b11)
            | (go_at_call 20; refine HR1.out.mono ?_; rintro e w10 ⟨rfl, b10⟩
               have K10 := Lib.hid (K9.out.trans (b10.mono K9.out.size))
               have L10 := Lib.hid (L9.out.below b10)
               have LA10 := Lib.hid (LA9.out.below b10)
               have hr := lrun_any L10.out ya yb IYA.out IYB.out
               rw [F2.out] at hr
               have HR2 := Lib.hid hr
               clear x0 x1 x2 x3 y0 y1 y2 y3
               obtain ⟨x0, x1, x2, x3, y0, y1, y2, y3⟩ := XC.out w10 K10.out
               clear b10 hr))
          have HD1 : Hid (∀ z, Calls Try.prog 22 #[.pointer (some ⟨b9, 0, none⟩), .int .i64 xa] (w11.drewN z) fun e w' => e = .returned (.int .i64 D) ∧ w11.drewN z = w') := Lib.hid (fun z => by
            have h := ldone_any (L11.out.below (below_drewN (Below.refl _ w11) z)) xa IXA.out
            rw [F3.out, HDD.out] at h
            exact h)
          have HD2 : Hid (∀ z, Calls Try.prog 22 #[.pointer (some ⟨b, 0, none⟩), .int .i64 xa] (w11.drewN z) fun e w' => e = .returned (.int .i64 D) ∧ w11.drewN z = w') := Lib.hid (fun z => by
            have h := ldone_any (LA11.out.below (below_drewN (Below.refl _ w11) z)) xa IXA.out
            rw [HDD.out] at h
            exact h)
          go_wp2
          go_quiet (first | ((go_at_call 22; with_reducible exact quiet_left9 (HD1.out _))) | ((go_at_call 22; with_reducible exact quiet_left9 (HD2.out _))))
          go_wp2
          go_ret
          exact ⟨rfl, HB0.out.trans ((below_drewN K11.out _).mono HB0.out.size)⟩
      · have q1 : (xa == ya) = false := by rw [beq_eq_false_iff_ne]; exact h1
        rw [if_neg (fun e => h1 e.1)] at f1
        have F1 : Hid (fileN (ns ++ [⟨3, xa, xb, xn⟩, ⟨3, ya, yb, yn⟩]) 3 xa xb = some xn) := Lib.hid f1
        clear f1 h1
        go_upto_region 15 with (first
          | (at_builtin; (have l0 := P7.out; clear l0); refine wpList_append_any _ rfl _ _ 35 rfl wc.heap.size 24 i0 (.slice none 0 0) 1 24 Try.underlying35 hi hz0 hz1 hz2 rfl (by decide) (.slice A7 n c7) n us rfl P7.out wc.heap.size B4 2 d4 us4 rfl RS2.out ON2.out (by unfold maxLen; omega) (by omega) K7.out.size ?_
             intro v8 w8 o8 g8 _; obtain ⟨A8, c8, rfl, p8, k8⟩ := app_rows (p := n + 2) K7.out P7.out o8 g8 rfl rfl; have hnm := new_more st RA.out R2.out k8 p8 (by omega); rw [HBM.out, HNM.out] at hnm; have HN8 := Lib.hid hnm; have K8 := Lib.hid k8; clear o8 g8 p8 k8 hnm)
          | (at_builtin; refine wpList_append_any _ rfl _ _ 35 rfl wc.heap.size 24 i0 (.slice none 0 0) 1 24 Try.underlying35 hi hz0 hz1 hz2 rfl (by decide) (.slice (some ⟨wc.heap.size, 0, none⟩) 0 0) 0 [] rfl (rows_empty wc _ (Nat.le_refl _)) wc.heap.size A n c us rfl RS1.out ON1.out (by unfold maxLen; omega) (by omega) (by simp) ?_
             intro v7 w7 o7 g7 _; obtain ⟨A7, c7, rfl, p7, k7⟩ := app_rows (p := n) KE.out (rows_empty wc _ (Nat.le_refl _)) o7 g7 (by omega) (List.nil_append _); have K7 := Lib.hid k7; have P7 := Lib.hid p7; have RS2 := Lib.hid (R2.out.reads.below k7); clear o7 g7 p7 k7)
          | (go_at_call 14; refine HN8.out.mono ?_; rintro e w9 ⟨b9, mf9, md9, v9, rfl, l9, b89⟩
             have k69 : Below wc.heap.size wc w9 := K8.out.trans (b89.mono K8.out.size)
             have K9 := Lib.hid (K6.out.trans (k69.mono K6.out.size))
             have L9 := Lib.hid l9
             have LA9 := Lib.hid (L6.out.below k69)
             have hr := lrun_any l9 xa xb IXA.out IXB.out
             rw [F1.out] at hr
             have HR1 := Lib.hid hr
             obtain ⟨x0, x1, x2, x3, y0, y1, y2, y3⟩ := XC.out w9 K9.out
             clear l9 b89 k69 hr)
          | (go_at_call 20; (have l0 := L10.out; clear l0); refine HR2.out.mono ?_; rintro e w11 ⟨rfl, b11⟩
             have K11 := Lib.hid (K10.out.trans (b11.mono K10.out.size))
             have L11 := Lib.hid (L10.out.below b11)
             have LA11 := Lib.hid (LA10.out.below b11)
             clear x0 x1 x2 x3 y0 y1 y2 y3
             obtain ⟨x0, x1, x2, x3, y0, y1, y2, y3⟩ := XC.out w11 K11.out
             clear b11)
          | (go_at_call 20; refine HR1.out.mono ?_; rintro e w10 ⟨rfl, b10⟩
             have K10 := Lib.hid (K9.out.trans (b10.mono K9.out.size))
             have L10 := Lib.hid (L9.out.below b10)
             have LA10 := Lib.hid (LA9.out.below b10)
             have hr := lrun_any L10.out ya yb IYA.out IYB.out
             rw [F2.out] at hr
             have HR2 := Lib.hid hr
             clear x0 x1 x2 x3 y0 y1 y2 y3
             obtain ⟨x0, x1, x2, x3, y0, y1, y2, y3⟩ := XC.out w10 K10.out
             clear b10 hr))
        have HD1 : Hid (∀ z, Calls Try.prog 22 #[.pointer (some ⟨b9, 0, none⟩), .int .i64 xa] (w11.drewN z) fun e w' => e = .returned (.int .i64 D) ∧ w11.drewN z = w') := Lib.hid (fun z => by
          have h := ldone_any (L11.out.below (below_drewN (Below.refl _ w11) z)) xa IXA.out
          rw [F3.out, HDD.out] at h
          exact h)
        have HD2 : Hid (∀ z, Calls Try.prog 22 #[.pointer (some ⟨b, 0, none⟩), .int .i64 xa] (w11.drewN z) fun e w' => e = .returned (.int .i64 D) ∧ w11.drewN z = w') := Lib.hid (fun z => by
          have h := ldone_any (LA11.out.below (below_drewN (Below.refl _ w11) z)) xa IXA.out
          rw [HDD.out] at h
          exact h)
        go_wp2
        go_quiet (first | ((go_at_call 22; with_reducible exact quiet_left9 (HD1.out _))) | ((go_at_call 22; with_reducible exact quiet_left9 (HD2.out _))))
        go_wp2
        go_ret
        exact ⟨rfl, HB0.out.trans ((below_drewN K11.out _).mono HB0.out.size)⟩

/-- As the end calls it. -/
theorem call (st : Int) (_ : -9223372036854775808 ≤ st) (_ : st ≤ 9223372036854775807) (A : Option Addr) (n c : Nat) (ls : List (List UInt8)) (us : List Value) {W : World} (ha : RArgs W A n c ls us) (x : NV) (hx : x.Fine) (y : NV) (hy : y.Fine) :
    Calls Try.prog 8 #[.int .i64 st, .slice A n c, nv x, nv y] W fun e w' => e = .returned (.bool true) ∧ Below W.heap.size W w' := by
  by_cases h : bigL ls = true ∨ 100 < n
  · exact walk_big st x y ha h
  · exact walk_small st x y hx hy ha (by cases hb : bigL ls; rfl; exact absurd (.inl hb) h) (by omega)
end
end Go.Proofs.Ytdjneiboeehclaa.noteLast

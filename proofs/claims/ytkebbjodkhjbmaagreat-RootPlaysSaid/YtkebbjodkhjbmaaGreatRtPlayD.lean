/-
  The statement RootPlays: both disks, apart from one another, and the operation's box; Save over the given disk; bytes made a sector; two lists of roots.
  The statement RootPlays: both disks beside an operation's box; what each call leaves.
-/
import Derived.Test.YtkebbjodkhjbmaaGreatRtR6
import Derived.Test.YtkebbjodkhjbmaaGreatROps
import Derived.Test.YtkebbjodkhjbmaaGreatKArm
namespace Go.Proofs.YtkebbjodkhjbmaaGreat.root
open Go.RowKit Go.Proofs.YtkebbjodkhjbmaaGreat.crc

/-- No block is left aside. -/
abbrev Z0 : Aside := ⟨fun _ => False⟩
theorem far0 (v : Value) : @Far Z0 v := fun _ _ _ _ h => h

section
variable {N : Nat} {w0 w w' : World} {d : DAt} {r : RAt} {s t s' t' : RSt} {er : Int}
theorem wb_lives {Z : Aside} (h : WB N w0 w d r s t Z) : Lives N w0 w d s := by
  obtain ⟨kv, hd, _⟩ := h.pl
  exact ⟨h.below, h.df, kv, hd⟩
theorem wb_of (h : WB N w0 w d r s t Z0) (L : Lives N w0 w' d s') (hk : Keep d.foot w w') : WB N w0 w' d r s' t Z0 := by
  obtain ⟨kv, hd, hf⟩ := h.pl
  obtain ⟨kv', hd'⟩ := L.dk
  have hft := h.pl.foot
  exact ⟨h.below.trans (hk.below h.le (fun i hi e => by have := h.df i e; omega)), Nat.le_trans h.le hk.size, h.df, h.rf, h.ap, ⟨kv', hd', far0 _⟩, h.rl.keep hk (fun k h1 h2 => h.ap k h2 h1) (fun k e => (hft k e).2.2) (fun k e => (hft k e).2.1), fun _ h => h.elim⟩

theorem wb_save (h : WB N w0 w d r s t Z0) (rv : RV) (hf : rv.Fine) (hm : s.many < 9223372036854775807) (he : saveE s rv = er) (hs : saveS s rv = s') :
    Calls Tryz.prog 72 #[.pointer (some ⟨d.b, 0, none⟩), rtv rv] w fun e w' => e = .returned (.int .i64 er) ∧ WB N w0 w' d r s' t Z0 ∧ Keep d.foot w w' := by
  refine (lsave rv hf (wb_lives h) ⟨hm⟩ he hs).mono ?_
  rintro e w' ⟨rfl, L, hk⟩
  exact ⟨rfl, wb_of h L hk, hk⟩

set_option maxRecDepth 100000 in
set_option maxHeartbeats 4000000 in
theorem wb_rsave (h : WB N w0 w d r s t Z0) (rv : RV) (hf : rv.Fine) (hm : t.many < 9223372036854775807) (hmo : t.More) (he : saveE t rv = er) (hs : saveS t rv = t') :
    Calls Tryz.prog 73 #[.pointer (some ⟨r.b, 0, none⟩), rtv rv] w fun e w' => e = .returned (.int .i64 er) ∧ WB N w0 w' d r s t' Z0 ∧ Keep r.foot w w' := by
  obtain ⟨wa, hwa⟩ : ∃ wa, w.alloc (.cells #[.int .u64 rv.n, .int .i64 rv.len, .int .u32 rv.sm] 35) = wa := ⟨_, rfl⟩
  have hx : Blk wa w.heap.size 35 #[.int .u64 rv.n, .int .i64 rv.len, .int .u32 rv.sm] := by rw [← hwa]; exact Blk.new w _ _
  have hba : Below w.heap.size w wa := by rw [← hwa]; exact (Below.refl _ _).alloc (Nat.le_refl _) _
  have x0 := hx.cell 0
  have x1 := hx.cell 1
  have x2 := hx.cell 2
  have EN := Lib.hid (r6encode_any rv wa hf)
  unfold errR outR at EN
  have HX := Lib.hid hx
  have HBA := Lib.hid hba
  have HL := Lib.hid h
  clear hx hba h
  unfold saveE at he
  unfold saveS at hs
  cases hok : okR rv
  · rw [hok] at EN he hs
    simp only [Bool.false_eq_true, if_false] at EN he hs
    subst he hs
    clear hok hf hm hmo
    unfold rtv
    go_enter Tryz.func73, Tryz.ntmps73
    go_wp2_with (go_at_call 129; refine EN.out.mono ?_; rintro e w1 ⟨v, rfl, g⟩; obtain ⟨A1, c1, rfl, o1, b1⟩ := gives_len g rfl; clear hwa; have B1 := Lib.hid (HBA.out.trans (b1.mono HBA.out.size)); clear g o1 b1)
    go_ret
    exact ⟨rfl, HL.out.next B1.out, Keep.of_below B1.out⟩
  · rw [hok] at EN he hs
    simp only [if_true] at EN he hs
    have hsl := sectR_length rv
    obtain ⟨T, hT⟩ : ∃ T, sectR rv = T := ⟨_, rfl⟩
    rw [hT] at EN he hs hsl
    obtain ⟨a, ha⟩ : ∃ a, rv.n % 2 = a := ⟨_, rfl⟩
    have ha2 : a < 2 := by omega
    have hrem : (rv.n : Int) % 2 = (a : Int) := by omega
    have hwr : IntKind.i64.wrap (a : Int) = (a : Int) := IntWalk.i64_in _ (by omega)
    rw [ha] at he hs
    have HTL := Lib.hid hsl
    have HWR : Hid (∀ (A : Option Addr) (c : Nat) (W : World), Below w.heap.size w W → Reads W W.heap.size 1 A 128 (T.map bv) → Calls Tryz.prog 81 #[.pointer (some ⟨r.b, 0, none⟩), .int .i64 (a : Int), .slice A 128 c] W fun e w' => e = .returned (.int .i64 (writeErr t (a : Int) T)) ∧ WB N w0 w' d r s (writeK t (a : Int) T) Z0 ∧ Keep r.foot W w') := Lib.hid (fun A c W hb hr => (HL.out.next hb).rwrite (a : Int) ⟨by omega, by omega⟩ A 128 c T HTL.out hr (by omega) hm hmo rfl rfl)
    clear hok hf hT ha hsl hm hmo ha2
    by_cases hw : writeErr t (a : Int) T = 0
    · rw [if_pos hw] at he hs
      rw [hw] at HWR
      obtain ⟨s1, hs1⟩ : ∃ s1, writeK t (a : Int) T = s1 := ⟨_, rfl⟩
      rw [hs1] at HWR he hs
      have HSE := Lib.hid he
      have HSS := Lib.hid hs
      clear hw hs1 he hs
      unfold rtv
      go_enter Tryz.func73, Tryz.ntmps73
      go_wp2_with (first
        | (go_at_call 129; refine EN.out.mono ?_; rintro e w1 ⟨v, rfl, g⟩; obtain ⟨A1, c1, rfl, o1, b1⟩ := gives_len g HTL.out; clear hwa; have B1 := Lib.hid (HBA.out.trans (b1.mono HBA.out.size)); have O1 := Lib.hid o1; have hx1 := HX.out.below b1 HX.out.lt; have y0 := hx1.cell 0; clear g o1 b1 hx1)
        | (go_at_call 81; refine (HWR.out A1 c1 _ B1.out (Reads.of_own O1.out)).mono ?_; rintro e w2 ⟨rfl, l2, k2⟩; have L2 := Lib.hid l2; have K2 := Lib.hid k2; clear l2 k2)
        | (go_at_call 83; refine (L2.out.rflush HSE.out HSS.out).mono ?_; rintro e w3 ⟨rfl, l3, k3⟩; have L3 := Lib.hid l3; have K3 := Lib.hid k3; clear l3 k3))
      go_ret
      exact ⟨rfl, L3.out, ((Keep.of_below B1.out).trans K2.out (fun _ _ h => h)).trans K3.out (fun _ _ h => h)⟩
    · rw [if_neg hw] at he hs
      rw [he, hs] at HWR
      rw [he] at hw
      have hn0 : (er != 0) = true := by rw [bne_iff_ne]; exact hw
      clear hw he hs
      unfold rtv
      go_enter Tryz.func73, Tryz.ntmps73
      go_wp2_with (first
        | (go_at_call 129; refine EN.out.mono ?_; rintro e w1 ⟨v, rfl, g⟩; obtain ⟨A1, c1, rfl, o1, b1⟩ := gives_len g HTL.out; clear hwa; have B1 := Lib.hid (HBA.out.trans (b1.mono HBA.out.size)); have O1 := Lib.hid o1; have hx1 := HX.out.below b1 HX.out.lt; have y0 := hx1.cell 0; clear g o1 b1 hx1)
        | (go_at_call 81; refine (HWR.out A1 c1 _ B1.out (Reads.of_own O1.out)).mono ?_; rintro e w2 ⟨rfl, l2, k2⟩; have L2 := Lib.hid l2; have K2 := Lib.hid k2; clear l2 k2))
      go_ret
      exact ⟨rfl, L2.out, (Keep.of_below B1.out).trans K2.out (fun _ _ h => h)⟩
end

theorem rowsR_at : ∀ (l : List RV) (j : Nat) (x : RV), l[j]? = some x → (rowsR l)[j * 3]? = some (.int .u64 (x.n : Int)) ∧ (rowsR l)[j * 3 + 1]? = some (.int .i64 x.len) ∧ (rowsR l)[j * 3 + 2]? = some (.int .u32 (x.sm : Int))
  | [], _, _, h => by cases h
  | y :: l, 0, x, h => by
    injection h with h
    subst h
    exact ⟨rfl, rfl, rfl⟩
  | y :: l, j + 1, x, h => by
    obtain ⟨h1, h2, h3⟩ := rowsR_at l j x (by simpa using h)
    have e : ∀ k, (rowsR (y :: l))[(j + 1) * 3 + k]? = (rowsR l)[j * 3 + k]? := fun k => by
      show (encR y ++ rowsR l)[(j + 1) * 3 + k]? = _
      rw [List.getElem?_append_right (by show 3 ≤ _; omega)]
      congr 1
      show (j + 1) * 3 + k - 3 = _
      omega
    exact ⟨(e 0).trans h1, (e 1).trans h2, (e 2).trans h3⟩
theorem reads_roots {w : World} {B n j : Nat} {A : Option Addr} {l : List RV} (h : Reads w B 3 A n (rowsR l)) (hl : l.length = n) (hj : j < n) : ∃ ad, A = some ad ∧ ad.block < B ∧ w.cell? (ad.add (j * 3)) = some (.int .u64 ((l[j]'(by omega)).n : Int)) ∧
    w.cell? ⟨(ad.add (j * 3)).block, (ad.add (j * 3)).off + 1, none⟩ = some (.int .i64 (l[j]'(by omega)).len) ∧ w.cell? ⟨(ad.add (j * 3)).block, (ad.add (j * 3)).off + 2, none⟩ = some (.int .u32 ((l[j]'(by omega)).sm : Int)) := by
  obtain ⟨ad, e, hb, hc⟩ := h.2 (by omega)
  obtain ⟨h1, h2, h3⟩ := rowsR_at l j _ (List.getElem?_eq_getElem (by omega))
  have hp : ∀ k, ad.add (j * 3 + (k + 1)) = ⟨(ad.add (j * 3)).block, (ad.add (j * 3)).off + (k + 1), none⟩ := fun k => by
    unfold Addr.add
    by_cases h0 : j * 3 = 0
    · simp [h0]
    · simp [h0]
      omega
  refine ⟨ad, e, hb, hc _ _ h1, ?_, ?_⟩
  · have := hc _ _ h2
    rwa [hp 0] at this
  · have := hc _ _ h3
    rwa [hp 1] at this
theorem neq_root (a : Nat) (b : Int) (c : Nat) (W : World) : (binOp .neq 35 (.agg #[.int .u64 (a : Int), .int .i64 b, .int .u32 (c : Int)]) (.agg #[.int .u64 (a : Int), .int .i64 b, .int .u32 (c : Int)])).run Tryz.prog W = .ok (.bool false) W := by
  go_simp
theorem eql_root (a : Nat) (b : Int) (c : Nat) (W : World) : (binOp .eql 35 (.agg #[.int .u64 (a : Int), .int .i64 b, .int .u32 (c : Int)]) (.agg #[.int .u64 (a : Int), .int .i64 b, .int .u32 (c : Int)])).run Tryz.prog W = .ok (.bool true) W := by
  go_simp

set_option maxHeartbeats 1000000 in
theorem r6same_any (A B : Option Addr) (c d n : Nat) (l : List RV) (w : World) (hl : l.length = n) (ha : Reads w w.heap.size 3 A n (rowsR l)) (hb : Reads w w.heap.size 3 B n (rowsR l)) (hn : n ≤ 9223372036854775807) :
    Calls Tryz.prog 89 #[.slice A n c, .slice B n d] w fun e w' => e = .returned (.bool true) ∧ Below w.heap.size w w' := by
  have HA := Lib.hid ha
  have HB := Lib.hid hb
  have HL := Lib.hid hl
  clear ha hb hl
  go_enter Tryz.func89, Tryz.ntmps89
  go_wp2
  go_loopw [5] (fun i wr => ∃ j : Nat, j ≤ n ∧ i = .int .i64 ((j : Nat) : Int) ∧ Below w.heap.size w wr) (fun i _ => n - (intOf i).toNat)
  case atStart => exact ⟨0, Nat.zero_le _, rfl, Below.refl _ _⟩
  case round =>
    obtain ⟨j, hj, rfl, hbw⟩ := hrel
    by_cases hlt : j < n
    · obtain ⟨adA, rfl, _, cA, cA1, cA2⟩ := reads_roots (HA.out.below hbw) HL.out hlt
      obtain ⟨adB, rfl, _, cB, cB1, cB2⟩ := reads_roots (HB.out.below hbw) HL.out hlt
      have hjl : j < l.length := by have := HL.out; omega
      generalize l[j] = x at *
      obtain ⟨xn, xl, xs⟩ := x
      simp only at cA cA1 cA2 cB cB1 cB2
      have q := neq_root xn xl xs
      have HBW := Lib.hid hbw
      clear hbw hjl
      go_wp2
      go_quiet (fail)
      go_wp2
      exact ⟨⟨j + 1, by omega, by go_num, below_drewN HBW.out _⟩, by simp [intOf]; omega⟩
    · obtain rfl : j = n := by omega
      have HBW := Lib.hid hbw
      clear hbw
      go_wp2
      go_ret
      exact ⟨rfl, HBW.out⟩

/-- Bytes made a sector. -/
def secB (l : List UInt8) : List UInt8 := l.take 128 ++ List.replicate (128 - l.length) 0
theorem secB_length (l : List UInt8) : (secB l).length = 128 := by
  unfold secB
  rw [List.length_append, List.length_take, List.length_replicate]
  omega
theorem sizeU8b : (Tryz.prog.info? 5).map (·.size) = some 1 := by kernel_rfl

set_option maxRecDepth 100000 in
set_option maxHeartbeats 1000000 in
theorem rsector_any (A : Option Addr) (c n : Nat) (l : List UInt8) (w : World) (hl : l.length = n) (hr : Reads w w.heap.size 1 A n (l.map bv)) :
    Calls Tryz.prog 78 #[.slice A n c] w fun e w' => ∃ g, e = .returned (.slice (some ⟨g, 0, none⟩) 128 128) ∧ w.heap.size ≤ g ∧ Reads w' w'.heap.size 1 (some ⟨g, 0, none⟩) 128 ((secB l).map bv) ∧ Below w.heap.size w w' := by
  obtain ⟨Z, hZ⟩ : ∃ Z : List Value, List.replicate 128 (Value.int .u8 0) = Z := ⟨_, rfl⟩
  have hC : ∃ C : Array Value, C = Z.toArray ∧ ∀ w : World, (Instr.makeSlice 36 (.int .i64 128) (.int .i64 128)).run Tryz.prog w = .ok (.slice (some ⟨w.heap.size, 0, none⟩) 128 128) (w.alloc (.cells C 5)) := by
    refine ⟨_, ?_, fun w => make_zeros (m := 128) (by omega) 128 rfl w⟩
    have hl : (madeCells (Value.int .u8 0).cells (128 * 1)).toList = List.replicate (128 * 1) (.int .u8 0) := toList_madeCells_one _ _
    rw [← hZ]
    apply Array.toList_inj.1
    rw [hl]
  obtain ⟨C, hCZ, hmk⟩ := hC
  obtain ⟨w1, hw1⟩ : ∃ w1, w.alloc (.cells C 5) = w1 := ⟨_, rfl⟩
  have hb1 : Blk w1 w.heap.size 5 C := by rw [← hw1]; exact Blk.new _ _ _
  have hB1 : Below w.heap.size w w1 := by rw [← hw1]; exact (Below.refl _ _).alloc (Nat.le_refl _) _
  obtain ⟨Y, hY⟩ : ∃ Y, (l.take 128).map bv = Y := ⟨_, rfl⟩
  have hYL : Y.length = Nat.min n 128 := by rw [← hY, List.length_map, List.length_take, hl]; exact Nat.min_comm _ _
  have hsrc : 0 < Y.length → (some (⟨w.heap.size, 0, none⟩ : Addr)) = some ⟨w.heap.size, 0, none⟩ ∧ ∃ ad, A = some ad ∧ ∀ j v, Y[j]? = some v → w1.cell? (ad.add j) = some v := fun h0 => by
    obtain ⟨ad, e, _, hc⟩ := ((hr.below hB1).more hB1.size).2 (by rw [hYL] at h0; have : Nat.min n 128 ≤ n := Nat.min_le_left _ _; omega)
    refine ⟨rfl, ad, e, fun j v hv => hc j v ?_⟩
    rw [← hY, List.map_take, List.getElem?_take] at hv
    split at hv
    · exact hv
    · cases hv
  have HZL : Hid (Z.length = 128) := Lib.hid (by rw [← hZ, List.length_replicate])
  have HB1 : Hid (w1.heap[w.heap.size]? = some (.cells Z.toArray 5 (0, 0))) := Lib.hid (by rw [← hCZ]; exact hb1)
  have HBB := Lib.hid hB1
  have HYL := Lib.hid hYL
  have HSRC := Lib.hid hsrc
  have HY1 : Hid (∀ v ∈ Y, v.oneCell' = true) := Lib.hid (by rw [← hY]; exact bv_one _)
  have HFIT : Hid (0 + Y.length ≤ Z.length) := Lib.hid (by rw [HZL.out, hYL]; have : Nat.min n 128 ≤ 128 := Nat.min_le_right _ _; omega)
  have HYN : Hid (splice Z 0 Y = (secB l).map bv) := Lib.hid (by
    unfold splice secB
    rw [List.take_zero, List.nil_append, Nat.zero_add, hYL, List.map_append, hY, ← hZ, List.drop_replicate, List.map_replicate]
    have : Nat.min n 128 = min n 128 := rfl
    rw [this, hl]
    have e : 128 - min n 128 = 128 - n := by omega
    rw [e]
    rfl)
  have HCZ := Lib.hid hCZ
  have HW1 := Lib.hid hw1
  have hs8 := sizeU8b
  clear hr hb1 hB1 hYL hsrc hY hZ hCZ hw1
  go_enter Tryz.func78, Tryz.ntmps78
  go_upto_region 2 with (fail)
  rw [HW1.out]
  go_wp2_with (with_reducible refine wpList_copy_splice rfl (.tmp 5) (.tmp 6) 36 36 rfl 5 Tryz.underlying36 sizeU8b (some ⟨w.heap.size, 0, none⟩) A 128 128 n c rfl rfl w.heap.size 0 Z 5 HB1.out Y HYL.out HSRC.out HFIT.out HY1.out w.heap.size w HBB.out (Nat.le_refl _) ?_)
  intro w2 h2 hb2
  have H2 := Lib.hid hb2
  have HG := Lib.hid h2.out
  clear hb2 h2
  go_wp2_with (fail)
  go_ret
  have hbk := HG.out
  rw [HYN.out] at hbk
  have hrd := reads_blkN (size := 1) (n := 128) (show Blk w2 w.heap.size 5 ((secB l).map bv).toArray from hbk) (by simp [secB_length])
  exact ⟨w.heap.size, rfl, Nat.le_refl _, hrd, H2.out⟩

/-! ### loads -/
set_option maxRecDepth 100000 in
set_option maxHeartbeats 4000000 in
theorem loads_any {N : Nat} {w0 w : World} {d : DAt} {r : RAt} {s : RSt} (h : WB N w0 w d r s s Z0) :
    Calls Tryz.prog 15 #[.pointer (some ⟨d.b, 0, none⟩), .pointer (some ⟨r.b, 0, none⟩)] w fun e w' => e = .returned (.bool true) ∧ WB N w0 w' d r s s Z0 ∧ Below w.heap.size w w' := by
  obtain ⟨er, her⟩ : ∃ er : Nat → Int, (fun k : Nat => readErr3 s (k : Int)) = er := ⟨_, rfl⟩
  obtain ⟨L, hL⟩ : ∃ L : Nat → List UInt8, (fun k : Nat => readOut3 s (k : Int)) = L := ⟨_, rfl⟩
  obtain ⟨E, hE⟩ : ∃ E, bothE er = E := ⟨_, rfl⟩
  obtain ⟨R, hR⟩ : ∃ R, bothL er L = R := ⟨_, rfl⟩
  obtain ⟨rv, hrv⟩ : ∃ rv, R.headD noR = rv := ⟨_, rfl⟩
  obtain ⟨kv, hd, _⟩ := h.pl
  have hS : SlotsAt w (some ⟨d.b, 0, none⟩) er L := by rw [← her, ← hL]; exact slots_dk hd
  have hG : GAt w r.b er L := by rw [← her, ← hL]; exact gat_rl h.rl
  have hn : R.length ≤ 9223372036854775807 := by
    rw [← hR]
    unfold bothL
    split
    · rw [sortR_length]; have := cntL_le L 2; omega
    · exact Nat.zero_le _
  obtain ⟨n, hRn⟩ : ∃ n, R.length = n := ⟨_, rfl⟩
  rw [hRn] at hn
  have H := Lib.hid h
  have C1 := Lib.hid (fun W (hb : Below w.heap.size w W) => rload_any (r := rv) (hS.next hb) hE (by rw [hR]; exact hrv))
  have C2 := Lib.hid (fun W (hb : Below w.heap.size w W) => r6load_any (r := rv) (hG.next hb) hE (by rw [hR]; exact hrv))
  have C3 : Hid (∀ W, Below w.heap.size w W → Calls Tryz.prog 87 #[.pointer (some ⟨d.b, 0, none⟩)] W fun e w' => ∃ A c, e = .returned (.tuple #[.slice A n c, .int .i64 E]) ∧ Reads w' w'.heap.size 3 A n (rowsR R) ∧ Below W.heap.size W w') := Lib.hid (fun W hb => by
    refine (rboth_any _ er L W (hS W hb)).mono ?_
    rintro e w' ⟨A, c, rfl, ho, hb'⟩
    rw [hR, hRn] at ho
    exact ⟨A, c, by rw [hR, hRn, hE], Reads.of_own ho, hb'⟩)
  have C4 : Hid (∀ W, Below w.heap.size w W → Calls Tryz.prog 88 #[.pointer (some ⟨r.b, 0, none⟩)] W fun e w' => ∃ A c, e = .returned (.tuple #[.slice A n c, .int .i64 E]) ∧ Reads w' w'.heap.size 3 A n (rowsR R) ∧ Below W.heap.size W w') := Lib.hid (fun W hb => by
    refine (r6both_any (hG.next hb) hE hR).mono ?_
    rintro e w' ⟨A, c, rfl, hr, _, hb'⟩
    rw [hRn] at hr
    exact ⟨A, c, by rw [hRn], hr, hb'⟩)
  have HRN := Lib.hid hRn
  clear h hd hS hG her hL hE hR hrv hRn
  unfold rtv at C1 C2
  obtain ⟨rn, rl, rs⟩ := rv
  simp only at C1 C2
  have q := eql_root rn rl rs
  go_enter Tryz.func15, Tryz.ntmps15
  go_upto_region 2 with (go_at_call 85; (with_reducible refine (C1.out w (Below.refl _ _)).mono ?_); rintro e w1 ⟨rfl, b1⟩; have B1 := Lib.hid b1; clear b1)
  obtain ⟨w2, hw2⟩ : ∃ w2, w1.alloc (.cells #[.int .u64 (rn : Int), .int .i64 rl, .int .u32 (rs : Int)] 35) = w2 := ⟨_, rfl⟩
  have hx2 : Blk w2 w1.heap.size 35 #[.int .u64 (rn : Int), .int .i64 rl, .int .u32 (rs : Int)] := by rw [← hw2]; exact Blk.new _ _ _
  have hb2 : Below w1.heap.size w1 w2 := by rw [← hw2]; exact (Below.refl _ _).alloc (Nat.le_refl _) _
  have B2 := Lib.hid (B1.out.trans (hb2.mono B1.out.size))
  have X2 := Lib.hid hx2
  rw [hw2]
  clear hw2 hx2 hb2
  go_upto_region 3 with (go_at_call 86; (with_reducible refine (C2.out w2 B2.out).mono ?_); rintro e w3 ⟨rfl, b3⟩; have B3 := Lib.hid (B2.out.trans (b3.mono B2.out.size)); have X3 := Lib.hid (X2.out.below b3 X2.out.lt); clear b3)
  obtain ⟨w4, hw4⟩ : ∃ w4, w3.alloc (.cells #[.int .u64 (rn : Int), .int .i64 rl, .int .u32 (rs : Int)] 35) = w4 := ⟨_, rfl⟩
  have hy4 : Blk w4 w3.heap.size 35 #[.int .u64 (rn : Int), .int .i64 rl, .int .u32 (rs : Int)] := by rw [← hw4]; exact Blk.new _ _ _
  have hb4 : Below w3.heap.size w3 w4 := by rw [← hw4]; exact (Below.refl _ _).alloc (Nat.le_refl _) _
  have B4 := Lib.hid (B3.out.trans (hb4.mono B3.out.size))
  have X4 := Lib.hid (X3.out.below hb4 X3.out.lt)
  have Y4 := Lib.hid hy4
  rw [hw4]
  clear hw4 hy4 hb4
  go_upto_region 5 with (first
    | (go_at_call 88; (have l0 := B5.out; clear l0); (with_reducible refine (C4.out w5 B5.out).mono ?_); rintro e w6 ⟨A6, c6, rfl, hr6, b6⟩; have B6 := Lib.hid (B5.out.trans (b6.mono B5.out.size)); have X6 := Lib.hid (X5.out.below b6 X5.out.lt); have Y6 := Lib.hid (Y5.out.below b6 Y5.out.lt); have R5b := Lib.hid ((R5.out.below b6).more b6.size); have R6 := Lib.hid hr6; clear b6 hr6)
    | (go_at_call 87; (with_reducible refine (C3.out w4 B4.out).mono ?_); rintro e w5 ⟨A5, c5, rfl, hr5, b5⟩; have B5 := Lib.hid (B4.out.trans (b5.mono B4.out.size)); have X5 := Lib.hid (X4.out.below b5 X4.out.lt); have Y5 := Lib.hid (Y4.out.below b5 Y4.out.lt); have R5 := Lib.hid hr5; clear b5 hr5))
  have x0 := X6.out.cell 0
  have x1 := X6.out.cell 1
  have x2 := X6.out.cell 2
  have y0 := Y6.out.cell 0
  have y1 := Y6.out.cell 1
  have y2 := Y6.out.cell 2
  have HSM := Lib.hid (r6same_any A5 A6 c5 c6 n R w6 HRN.out R5b.out R6.out hn)
  go_wp2_with (go_at_call 89; (with_reducible refine HSM.out.mono ?_); rintro e w7 ⟨rfl, b7⟩; have B7 := Lib.hid (B6.out.trans (b7.mono B6.out.size)); clear b7)
  go_ret
  exact ⟨rfl, H.out.next B7.out, B7.out⟩
end Go.Proofs.YtkebbjodkhjbmaaGreat.root

namespace Go.Proofs.YtkebbjodkhjbmaaGreat.root
open Go.RowKit Go.Proofs.YtkebbjodkhjbmaaGreat.crc

structure E6 where
  q : Nat
  kd : Int
  rv : RV
  a : Int
  l : List UInt8
  n : Nat
  c : DCrash
  m : Nat
  BA : Option Addr
  Bc : Nat
  KA : Option Addr
  Kc : Nat

structure D6 (N : Nat) (w0 w : World) (d : DAt) (r : RAt) (s t : RSt) (E : E6) : Prop where
  wb : WB N w0 w d r s t Z0
  bx : Blk w E.q 41 #[.int .i64 E.kd, .int .u64 (E.rv.n : Int), .int .i64 E.rv.len, .int .u32 (E.rv.sm : Int), .int .i64 E.a, .slice E.BA E.n E.Bc, .int .i64 E.c.write, .slice E.KA E.m E.Kc, .int .i64 E.c.torn, .int .i64 E.c.at_]
  qd : ¬ d.foot E.q
  qr : ¬ r.foot E.q
  hn : E.l.length = E.n
  hm : E.c.keep.length = E.m
  less : E.m ≤ 20
  ai : i64ok E.a
  ci : E.c.Fine
  rf : E.rv.Fine
  bs : Sl w N E.BA E.Bc (E.l.map bv)
  ks : Sl w N E.KA E.Kc (E.c.keep.map iv)

section
variable {N : Nat} {w0 w w' : World} {d : DAt} {r : RAt} {s t s' t' : RSt} {er : Int} {E : E6}
theorem D6.turn {S : Nat → Prop} (h : D6 N w0 w d r s t E) (hw : WB N w0 w' d r s' t' Z0) (hk : Keep S w w') (hS : ∀ k, S k → N ≤ k ∧ k ≠ E.q) : D6 N w0 w' d r s' t' E :=
  ⟨hw, hk.blk h.bx (fun e => (hS _ e).2 rfl), h.qd, h.qr, h.hn, h.hm, h.less, h.ai, h.ci, h.rf, h.bs.below (hk.below h.wb.le (fun i hi hs => by have := (hS i hs).1; omega)), h.ks.below (hk.below h.wb.le (fun i hi hs => by have := (hS i hs).1; omega))⟩
theorem D6.next (h : D6 N w0 w d r s t E) (hb : Below w.heap.size w w') : D6 N w0 w' d r s t E := h.turn (h.wb.next hb) (Keep.of_below (S := fun _ => False) hb) (fun _ h => h.elim)
theorem D6.prog (h : D6 N w0 w d r s t E) (hw : WB N w0 w' d r s' t Z0) (hk : Keep d.foot w w') : D6 N w0 w' d r s' t E := h.turn hw hk (fun k e => ⟨h.wb.df k e, fun e2 => h.qd (e2 ▸ e)⟩)
theorem D6.given (h : D6 N w0 w d r s t E) (hw : WB N w0 w' d r s t' Z0) (hk : Keep r.foot w w') : D6 N w0 w' d r s t' E := h.turn hw hk (fun k e => ⟨h.wb.rf k e, fun e2 => h.qr (e2 ▸ e)⟩)
theorem D6.argR (h : D6 N w0 w d r s t E) : Reads w w.heap.size 1 E.BA E.n (E.l.map bv) := by
  have hr := h.bs.reads
  rw [List.length_map, h.hn] at hr
  exact hr.more h.wb.le
theorem D6.keepA (h : D6 N w0 w d r s t E) : HeadF r.b r.gS r.gC w (E.c.keep.map iv) (.slice E.KA E.m E.Kc) := by
  have hm := h.hm
  have ks := h.ks
  refine ⟨E.KA, E.Kc, by rw [List.length_map, hm], ks.cap, ks.big, ks.reads.more h.wb.le, fun h0 ad e hf => ?_⟩
  obtain ⟨ad', e', hlt, _⟩ := ks.reads.2 h0
  rw [e] at e'
  injection e' with e'
  subst e'
  have := h.wb.rf _ hf
  omega

theorem D6.save (h : D6 N w0 w d r s t E) (hm : s.many < 9223372036854775807) (he : saveE s E.rv = er) (hs : saveS s E.rv = s') :
    Calls Tryz.prog 72 #[.pointer (some ⟨d.b, 0, none⟩), .agg #[.int .u64 (E.rv.n : Int), .int .i64 E.rv.len, .int .u32 (E.rv.sm : Int)]] w fun e w' => e = .returned (.int .i64 er) ∧ D6 N w0 w' d r s' t E := by
  refine (wb_save h.wb E.rv h.rf hm he hs).mono ?_
  rintro e w' ⟨rfl, h', hk⟩
  exact ⟨rfl, h.prog h' hk⟩
theorem D6.rsave (h : D6 N w0 w d r s t E) (hm : t.many < 9223372036854775807) (hmo : t.More) (he : saveE t E.rv = er) (hs : saveS t E.rv = t') :
    Calls Tryz.prog 73 #[.pointer (some ⟨r.b, 0, none⟩), .agg #[.int .u64 (E.rv.n : Int), .int .i64 E.rv.len, .int .u32 (E.rv.sm : Int)]] w fun e w' => e = .returned (.int .i64 er) ∧ D6 N w0 w' d r s t' E := by
  refine (wb_rsave h.wb E.rv h.rf hm hmo he hs).mono ?_
  rintro e w' ⟨rfl, h', hk⟩
  exact ⟨rfl, h.given h' hk⟩
theorem D6.down (h : D6 N w0 w d r s t E) (he : (if s.down then (31 : Int) else 0) = er) (hs : downK s E.c = s') :
    Calls Tryz.prog 74 #[.pointer (some ⟨d.b, 0, none⟩), .agg #[.int .i64 E.c.write, .slice E.KA E.m E.Kc, .int .i64 E.c.torn, .int .i64 E.c.at_]] w fun e w' => e = .returned (.int .i64 er) ∧ D6 N w0 w' d r s' t E := by
  refine (h.wb.down E.c _ E.m E.Kc h.hm (h.ks.more h.wb.le) he hs).mono ?_
  rintro e w' ⟨rfl, h', hk⟩
  exact ⟨rfl, h.prog h' hk⟩
theorem D6.rdown (h : D6 N w0 w d r s t E) (he : (if t.down then (31 : Int) else 0) = er) (hs : downK t E.c = t') :
    Calls Tryz.prog 75 #[.pointer (some ⟨r.b, 0, none⟩), .agg #[.int .i64 E.c.write, .slice E.KA E.m E.Kc, .int .i64 E.c.torn, .int .i64 E.c.at_]] w fun e w' => e = .returned (.int .i64 er) ∧ D6 N w0 w' d r s t' E := by
  refine (h.wb.rdown E.c h.ci _ E.m E.Kc h.hm h.keepA he hs).mono ?_
  rintro e w' ⟨rfl, h', hk⟩
  exact ⟨rfl, h.given h' hk⟩
theorem D6.arm (h : D6 N w0 w d r s t E) (he : armErr3 E.c = er) (hs : armSt3 s E.c = s') :
    Calls Tryz.prog 67 #[.pointer (some ⟨d.b, 0, none⟩), .agg #[.int .i64 E.c.write, .slice E.KA E.m E.Kc, .int .i64 E.c.torn, .int .i64 E.c.at_]] w fun e w' => e = .returned (.int .i64 er) ∧ D6 N w0 w' d r s' t E := by
  refine (larm_free E.c E.KA E.m E.Kc h.ci (wb_lives h.wb) h.hm h.ks (by have := h.hm; have := h.less; omega) he hs).mono ?_
  rintro e w' ⟨rfl, L, hk⟩
  exact ⟨rfl, h.prog (wb_of h.wb L hk) hk⟩
theorem D6.rarm (h : D6 N w0 w d r s t E) (he : armErr3 E.c = er) (hs : armSt3 t E.c = t') :
    Calls Tryz.prog 76 #[.pointer (some ⟨r.b, 0, none⟩), .agg #[.int .i64 E.c.write, .slice E.KA E.m E.Kc, .int .i64 E.c.torn, .int .i64 E.c.at_]] w fun e w' => e = .returned (.int .i64 er) ∧ D6 N w0 w' d r s t' E := by
  refine (h.wb.rarm E.c _ E.m E.Kc h.hm h.keepA (by have := h.less; omega) he hs).mono ?_
  rintro e w' ⟨rfl, h', hk⟩
  exact ⟨rfl, h.given h' hk⟩
theorem D6.boot (h : D6 N w0 w d r s t E) (hs : bootSt s = s') :
    Calls Tryz.prog 14 #[.pointer (some ⟨d.b, 0, none⟩)] w fun e w' => e = .returned (.int .i64 0) ∧ D6 N w0 w' d r s' t E := by
  refine (h.wb.boot hs).mono ?_
  rintro e w' ⟨rfl, h', hk⟩
  exact ⟨rfl, h.prog h' hk⟩
theorem D6.rboot (h : D6 N w0 w d r s t E) : D6 N w0 (w.setCell ⟨r.b, 7, none⟩ (.bool false)) d r s (bootSt t) E := by
  obtain ⟨h1, hk⟩ := h.wb.rboot
  exact h.given h1 hk
theorem D6.flush (h : D6 N w0 w d r s t E) (he : (if s.down then (31 : Int) else 0) = er) (hs : flushK s = s') :
    Calls Tryz.prog 82 #[.pointer (some ⟨d.b, 0, none⟩)] w fun e w' => e = .returned (.int .i64 er) ∧ D6 N w0 w' d r s' t E := by
  refine (h.wb.flush he hs).mono ?_
  rintro e w' ⟨rfl, h', hk⟩
  exact ⟨rfl, h.prog h' hk⟩
theorem D6.rflush (h : D6 N w0 w d r s t E) (he : (if t.down then (31 : Int) else 0) = er) (hs : flushK t = t') :
    Calls Tryz.prog 83 #[.pointer (some ⟨r.b, 0, none⟩)] w fun e w' => e = .returned (.int .i64 er) ∧ D6 N w0 w' d r s t' E := by
  refine (h.wb.rflush he hs).mono ?_
  rintro e w' ⟨rfl, h', hk⟩
  exact ⟨rfl, h.given h' hk⟩
theorem D6.write (h : D6 N w0 w d r s t E) (hm : s.many < 9223372036854775807) (g : Nat) (hr : Reads w w.heap.size 1 (some ⟨g, 0, none⟩) 128 ((secB E.l).map bv)) (he : writeErr s E.a (secB E.l) = er) (hs : writeK s E.a (secB E.l) = s') :
    Calls Tryz.prog 80 #[.pointer (some ⟨d.b, 0, none⟩), .int .i64 E.a, .slice (some ⟨g, 0, none⟩) 128 128] w fun e w' => e = .returned (.int .i64 er) ∧ D6 N w0 w' d r s' t E ∧ Keep d.foot w w' := by
  refine (h.wb.write E.a _ 128 128 (secB E.l) (secB_length _) hr hm he hs).mono ?_
  rintro e w' ⟨rfl, h', hk⟩
  exact ⟨rfl, h.prog h' hk, hk⟩
theorem D6.rwrite (h : D6 N w0 w d r s t E) (hm : t.many < 9223372036854775807) (hmo : t.More) (g : Nat) (hr : Reads w w.heap.size 1 (some ⟨g, 0, none⟩) 128 ((secB E.l).map bv)) (he : writeErr t E.a (secB E.l) = er) (hs : writeK t E.a (secB E.l) = t') :
    Calls Tryz.prog 81 #[.pointer (some ⟨r.b, 0, none⟩), .int .i64 E.a, .slice (some ⟨g, 0, none⟩) 128 128] w fun e w' => e = .returned (.int .i64 er) ∧ D6 N w0 w' d r s t' E ∧ Keep r.foot w w' := by
  refine (h.wb.rwrite E.a h.ai _ 128 128 (secB E.l) (secB_length _) hr (by omega) hm hmo he hs).mono ?_
  rintro e w' ⟨rfl, h', hk⟩
  exact ⟨rfl, h.given h' hk, hk⟩
theorem D6.spoil (h : D6 N w0 w d r s t E) (g : Nat) (hr : Reads w w.heap.size 1 (some ⟨g, 0, none⟩) 128 ((secB E.l).map bv)) (he : spoilErr3 s E.a (secB E.l) = er) (hs : spoilSt3 s E.a (secB E.l) = s') :
    Calls Tryz.prog 77 #[.pointer (some ⟨d.b, 0, none⟩), .int .i64 E.a, .slice (some ⟨g, 0, none⟩) 128 128] w fun e w' => e = .returned (.int .i64 er) ∧ D6 N w0 w' d r s' t E ∧ Keep d.foot w w' := by
  refine (h.wb.spoil E.a _ 128 128 (secB E.l) (secB_length _) hr he hs).mono ?_
  rintro e w' ⟨rfl, h', hk⟩
  exact ⟨rfl, h.prog h' hk, hk⟩
theorem D6.rspoil (h : D6 N w0 w d r s t E) (g : Nat) (hr : Reads w w.heap.size 1 (some ⟨g, 0, none⟩) 128 ((secB E.l).map bv)) (he : spoilErr3 t E.a (secB E.l) = er) (hs : spoilSt3 t E.a (secB E.l) = t') :
    Calls Tryz.prog 79 #[.pointer (some ⟨r.b, 0, none⟩), .int .i64 E.a, .slice (some ⟨g, 0, none⟩) 128 128] w fun e w' => e = .returned (.int .i64 er) ∧ D6 N w0 w' d r s t' E ∧ Keep r.foot w w' := by
  refine (h.wb.rspoil E.a h.ai _ 128 128 (secB E.l) (secB_length _) hr (by omega) he hs).mono ?_
  rintro e w' ⟨rfl, h', hk⟩
  exact ⟨rfl, h.given h' hk, hk⟩
/-- A sector made of the operation's bytes. -/
def Sec (d : DAt) (r : RAt) (S : List UInt8) (v : Value) (w : World) : Prop := ∃ g, v = .slice (some ⟨g, 0, none⟩) 128 128 ∧ ¬ d.foot g ∧ ¬ r.foot g ∧ Reads w w.heap.size 1 (some ⟨g, 0, none⟩) 128 (S.map bv)
theorem Sec.keep {S : Nat → Prop} {L : List UInt8} {v : Value} (h : Sec d r L v w) (hk : Keep S w w') (hS : ∀ k, S k → d.foot k ∨ r.foot k) : Sec d r L v w' := by
  obtain ⟨g, rfl, h1, h2, hr⟩ := h
  exact ⟨g, rfl, h1, h2, (hr.keepS hk (Nat.le_refl _) (fun ad e hs => by injection e with e; subst e; exact (hS _ hs).elim h1 h2)).more hk.size⟩
theorem D6.sector (h : D6 N w0 w d r s t E) :
    Calls Tryz.prog 78 #[.slice E.BA E.n E.Bc] w fun e w' => ∃ v, e = .returned v ∧ Sec d r (secB E.l) v w' ∧ D6 N w0 w' d r s t E ∧ Below w.heap.size w w' := by
  refine (rsector_any E.BA E.Bc E.n E.l w h.hn h.argR).mono ?_
  rintro e w' ⟨g, rfl, hg, hr, hb⟩
  exact ⟨_, rfl, ⟨g, rfl, fun e => by have := (h.wb.pl.foot g e).1; omega, fun e => by have := (h.wb.rl.foot g e).2.2; omega, hr⟩, h.next hb, hb⟩
theorem D6.rblk (h : D6 N w0 w d r s t E) : ∃ kv, Blk w r.b 45 #[.slice (some ⟨r.gS, 0, none⟩) t.stays.length r.cS, .slice (some ⟨r.gC, 0, none⟩) t.stays.length r.cC, .int .i64 t.write, kv, .int .i64 t.torn, .int .i64 t.at_, .int .i64 t.many, .bool t.down] := by
  obtain ⟨kv, vs, ws, hd⟩ := h.wb.rl
  exact ⟨kv, @RD.blk Z0 _ _ _ _ _ _ _ _ _ _ hd⟩
end

/-- What region's operations yield: two sectors made; all else is a value. -/
def secR (d : DAt) (r : RAt) (S : List UInt8) (vals : List Value) : Nat → Value → World → Prop
  | 5, v, w => Sec d r S v w
  | 12, v, w => Sec d r S v w
  | i, v, _ => v = vals.getD i undef
theorem secR_keep {d : DAt} {r : RAt} {L : List UInt8} {vals : List Value} {S : Nat → Prop} {w w' : World} {j : Nat} {u : Value} (hk : Keep S w w') (hS : ∀ k, S k → d.foot k ∨ r.foot k) (h : secR d r L vals j u w) : secR d r L vals j u w' := by
  unfold secR at *
  split at h
  · exact h.keep hk hS
  · exact h.keep hk hS
  · exact h
theorem done_call_ex {P : Program} {md : Region.Mode} {ops : Array Oper} {Q : Exit → Act → World → Prop} {S : (Nat → Bool) → World → Prop} {R : (Nat → Bool) → Nat → Value → World → Prop} {a0 : Act} {i : Nat} {o : Oper} (f : FuncId) (hi : ops[i]? = some o)
    (h : ∀ (done : Nat → Bool) (a : Act) (w : World), S done w → done i = false → (∀ j, behind md ops j i = true → done j = false) → (∀ t, free md ops i t = true → a.tmps[t]? = a0.tmps[t]?) → (∀ j d, behind md ops i j = true → dstOf ops j = some d → ∃ v, a.tmps[d]? = some v ∧ R done j v w) →
      Region.wanted o (yielded ops a.tmps) = true ∧ ∃ args, (execOp a.eval o).run P w = .ok (.enter f args) w ∧
      Calls P f args w fun e w' => ∃ v, e = .returned v ∧ S (upd done i) w' ∧ R (upd done i) i v w' ∧ ∀ j u, j ≠ i → done j = true → R done j u w → R (upd done i) j u w') : DoneStep P md ops Q S R a0 i := by
  intro done a w hs hd hx ho hn
  obtain ⟨h1, args, h2, h3⟩ := h done a w hs hd hx ho hn
  unfold wpOp
  rw [hi]
  simp only [h1, if_true]
  refine .inl ?_
  unfold Oper.wp
  rw [h2, Oper.upon_enter]
  refine h3.mono ?_
  rintro e w' ⟨v, rfl, hS', hR, hst⟩
  exact ⟨v, by simp [dstOf, hi], hS', hR, hst⟩

/-- What an operation leaves. -/
def do6 (s : RSt) (kd : Int) (rv : RV) (a : Int) (l : List UInt8) (c : DCrash) : RSt :=
  if kd = 0 then saveS s rv else if kd = 1 then s else if kd = 2 then downK s c else if kd = 3 then armSt3 s c else if kd = 4 then bootSt s else if kd = 5 then spoilSt3 s a (secB l) else if kd = 6 then writeK s a (secB l) else flushK s

theorem fell_many (s : RSt) (c : DCrash) : (fellK s c).many = s.many := rfl
theorem flush_many (s : RSt) : (flushK s).many = s.many := by
  unfold flushK
  split <;> rfl
theorem write_many (s : RSt) (a : Int) (l : List UInt8) : (writeK s a l).many ≤ s.many + 1 ∧ s.many ≤ (writeK s a l).many := by
  unfold writeK
  split
  · omega
  · split
    · split
      · exact ⟨Int.le_refl _, by show s.many ≤ s.many + 1; omega⟩
      · split
        · exact ⟨Int.le_refl _, by show s.many ≤ s.many + 1; omega⟩
        · exact ⟨Int.le_refl _, by show s.many ≤ s.many + 1; omega⟩
    · omega
theorem do6_many (s : RSt) (kd : Int) (rv : RV) (a : Int) (l : List UInt8) (c : DCrash) : (do6 s kd rv a l c).many ≤ s.many + 1 := by
  unfold do6
  split
  · unfold saveS
    split
    · split
      · rw [flush_many]
        exact (write_many _ _ _).1
      · exact (write_many _ _ _).1
    · omega
  split
  · omega
  split
  · unfold downK
    split
    · omega
    · rw [fell_many]; omega
  split
  · unfold armSt3
    split
    · omega
    · show s.many ≤ _; omega
  split
  · show s.many ≤ _; omega
  split
  · unfold spoilSt3
    split
    · show s.many ≤ _; omega
    · omega
  split
  · exact (write_many _ _ _).1
  · rw [flush_many]; omega
end Go.Proofs.YtkebbjodkhjbmaaGreat.root

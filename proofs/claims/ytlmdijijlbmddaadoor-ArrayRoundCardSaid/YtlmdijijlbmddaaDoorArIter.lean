/-
  Layer 11 (array): the iterator of index tuples: ever nearer to the one that is asked for; a tuple lies in a block of its own.
-/
import Derived.Test.YtlmdijijlbmddaaDoorArRef
import Derived.Test.YtlmdijijlbmddaaDoorMovesT
import Derived.Test.YtlmdijijlbmddaaDoorDoneIn
import Derived.Test.YtlmdijijlbmddaaDoorStage
namespace Go.Proofs.YtlmdijijlbmddaaDoor.arr
open Go.RowKit

section
variable {P : Program} {o : Oper}
theorem armute_len {xs : Array Operand} {ts : Array TypeId} (ho : o.op = .call { callee := .builtin .len, args := xs, argTypes := ts }) : Mute P o :=
  ⟨fun w ρ => by simp [Oper.about, ho, resolve, Target.leads], fun ro ρ => Oper.semAt_eq ro ρ o (fun c h => by rw [ho] at h; cases h), fun ρ w => by unfold execOp; rw [ho]; exact plain_value _ w⟩
theorem armute_make {t : TypeId} {x y : Operand} (ho : o.op = .makeSlice t x y) : Mute P o :=
  ⟨fun w ρ => by simp [Oper.about, ho], fun ro ρ => Oper.semAt_eq ro ρ o (fun c h => by rw [ho] at h; cases h), fun ρ w => by unfold execOp; rw [ho]; exact plain_value _ w⟩
theorem armute_assign {x : Operand} (ho : o.op = .assign x) : Mute P o :=
  ⟨fun w ρ => by simp [Oper.about, ho], fun ro ρ => Oper.semAt_eq ro ρ o (fun c h => by rw [ho] at h; cases h), fun ρ w => .inl ⟨ρ x, w, by unfold execOp; rw [ho]; rfl⟩⟩
end

/-- The tuple behind k axes. -/
def tupC (L : List Nat) (n k : Nat) : List Value := ((dig L n).take k ++ List.replicate (L.length - k) 0).map (fun x : Nat => iv (x : Int))
theorem tupC_zero (L : List Nat) (n : Nat) : tupC L n 0 = List.replicate L.length (.int .i64 0) := by
  unfold tupC
  rw [List.take_zero, List.nil_append, List.map_replicate]
  rfl
theorem tupC_succ {L : List Nat} {n k : Nat} (hk : k < L.length) : (tupC L n k).set k (.int .i64 ((rest L n k / prodN (L.drop (k + 1)) : Nat) : Int)) = tupC L n (k + 1) := by
  have hd : k < (dig L n).length := by rw [dig_length]; exact hk
  obtain ⟨r, hr⟩ : ∃ r, L.length - k = r + 1 := ⟨L.length - k - 1, by omega⟩
  have hr2 : L.length - (k + 1) = r := by omega
  have e := dig_at L n k hk
  rw [List.getElem?_eq_getElem hd] at e
  injection e with e
  unfold tupC
  rw [hr, hr2, List.take_succ_eq_append_getElem hd, e, List.replicate_succ, List.map_append, List.map_append, List.map_append, List.map_cons, List.set_append_right _ _ (by simp; omega)]
  rw [List.length_map, List.length_take, Nat.min_eq_left (by omega), Nat.sub_self, List.set_cons_zero, List.append_assoc]
  rfl
theorem tupC_at {L : List Nat} {n k : Nat} (hk : k < L.length) : (tupC L n (k + 1))[k]? = some (.int .i64 ((rest L n k / prodN (L.drop (k + 1)) : Nat) : Int)) := by
  rw [← tupC_succ hk, List.getElem?_set_self]
  unfold tupC
  rw [List.length_map, List.length_append, List.length_take, dig_length, List.length_replicate]
  omega
theorem tupC_length {L : List Nat} {n k : Nat} (hk : k ≤ L.length) : (tupC L n k).length = L.length := by
  unfold tupC
  rw [List.length_map, List.length_append, List.length_take, dig_length, List.length_replicate]
  omega
theorem tupC_done {L : List Nat} {n k : Nat} (hk : k ≤ L.length) (h : rest L n k = 0) : tupC L n k = (iL (dig L n)).map iv := by
  unfold tupC iL
  rw [← dig_done hk h, List.map_map]
  rfl

def arAt (g : Nat) (L : List Nat) (n k : Nat) : Array Value := #[.int .i64 ((n - rest L n k : Nat) : Int), .slice (some ⟨g, 0, none⟩) L.length L.length]
structure ArPre (C0 C1 g c : Nat) (A : Option Addr) (L : List Nat) (n k : Nat) (W : World) : Prop where
  le : k ≤ L.length + 1
  c0 : W.cell? ⟨C0, 0, none⟩ = some (.slice A L.length c)
  c1 : W.cell? ⟨C1, 0, none⟩ = some (.int .i64 (n : Int))
  rd : Reads W W.heap.size 1 A L.length ((iL L).map iv)
  tu : 0 < k → Blk W g 3 (tupC L n (k - 1)).toArray
def arX (g : Nat) (L : List Nat) (n k : Nat) (W W' : World) : Prop := k ≤ L.length ∧ Keep (fun i => 0 < k ∧ i = g) W W' ∧ Blk W' g 3 (tupC L n k).toArray
def arZ (L : List Nat) (k : Nat) (W W' : World) : Prop := k = L.length + 1 ∧ W' = W

theorem artuples_any (A : Option Addr) (c m : Nat) (x : Int) (w : World) : Calls Tryd.prog 15 #[.slice A m c, .int .i64 x] w fun e w' => e = .returned (.func (.func 19) #[] #[.pointer (some ⟨w.heap.size, 0, none⟩), .pointer (some ⟨w.heap.size + 1, 0, none⟩)]) ∧ (w.alloc (.cells #[.slice A m c] 22)).alloc (.cells #[.int .i64 x] 3) = w' := by
  go_enter Tryd.func15, Tryd.ntmps15
  go_wp2
  go_ret
  exact ⟨rfl, rfl⟩

section
attribute [local go_sem] Oper.semAt_some
set_option maxRecDepth 100000 in
set_option maxHeartbeats 4000000 in
theorem artuples_moves (f : Nat) (h1 : 1 ≤ f) (C0 C1 c : Nat) (A : Option Addr) (L : List Nat) (n : Nat) (hL4 : L.length ≤ 4) (hok : (iL L).all lenOk = true) (hc : L.length ≤ c) (hn : n < prodN L) (hn63 : n ≤ 4096) (w : World) :
    SeqMovesT Fence.wide f Tryd.prog 19 #[.pointer (some ⟨C0, 0, none⟩), .pointer (some ⟨C1, 0, none⟩)] (arAt (w.heap.size + 2) L n) (ArPre C0 C1 (w.heap.size + 2) c A L n) (arX (w.heap.size + 2) L n) (arZ L) w := by
  intro lp J Jm Jx Jz W hW hWs hP hX hZ hY h0
  obtain ⟨g, hg⟩ : ∃ g, w.heap.size + 2 = g := ⟨_, rfl⟩
  rw [hg] at hWs hP hX hY
  obtain ⟨m, hm⟩ : ∃ m, L.length = m := ⟨_, rfl⟩
  obtain ⟨i0, hi, hz0, hz1, hz2⟩ := info_parts arInfoInt
  obtain ⟨Z, hZZ⟩ : ∃ Z, madeCells (Value.int .i64 0).cells (m * 1) = Z := ⟨_, rfl⟩
  have hmk : ∀ w : World, (Instr.makeSlice 22 (.int .i64 (m : Int)) (.int .i64 (m : Int))).run Tryd.prog w = .ok (.slice (some ⟨w.heap.size, 0, none⟩) m m) (w.alloc (.cells Z 3)) := fun w => by
    have := run_make (P := Tryd.prog) w 22 3 i0 _ Tryd.underlying22 hi hz0 .i64 .i64 (m : Int) (m : Int) (by omega) (by omega) (by rw [hz2]; omega) (by omega)
    rw [hz1, Int.toNat_natCast, hZZ] at this
    exact this
  have hZr : Z = (tupC L n 0).toArray := by
    rw [tupC_zero, hm, ← hZZ]
    apply Array.ext
    · simp [madeCells]
    · intro i h1 h2
      simp [madeCells, Value.cells, Nat.mod_one]
  have HZR := Lib.hid hZr
  have HG := Lib.hid hWs
  have HM := Lib.hid hm
  have hp0 := hP 0 W h0
  have HBX : Hid (∀ (ns : Nat) (X : World), (match ns with | 0 => X = W.drew | 1 => X = W.drew.alloc (.cells Z 3) | _ => X = W.drew.alloc (.cells Z 3)) → X.cell? ⟨C0, 0, none⟩ = some (.slice A m c) ∧ X.cell? ⟨C1, 0, none⟩ = some (.int .i64 (n : Int))) := Lib.hid (fun ns X h => by
    have hb : Below W.heap.size W X := by
      rcases ns with _ | _ | ns
      · rw [show X = W.drew from h]; exact (Below.refl _ _).drew
      · rw [show X = W.drew.alloc (.cells Z 3) from h]; exact (Below.refl _ _).drew.alloc (Nat.le_refl _) _
      · rw [show X = W.drew.alloc (.cells Z 3) from h]; exact (Below.refl _ _).drew.alloc (Nat.le_refl _) _
    have e0 := hp0.c0
    rw [hm] at e0
    exact ⟨(hb.cell (block_lt_of_cell e0)).trans e0, (hb.cell (block_lt_of_cell hp0.c1)).trans hp0.c1⟩)
  have HP := Lib.hid hP
  have HX := Lib.hid hX
  have HZ := Lib.hid hZ
  have HY := Lib.hid hY
  have H0 := Lib.hid h0
  have HOK := Lib.hid hok
  have HC := Lib.hid hc
  have HN := Lib.hid hn
  have hfw : Fence.wide.fn 14 := trivial
  clear hP hX hZ hY h0 hW hZZ hi hz0 hz1 hz2 hWs hok hc hn hp0 hg hZr
  refine callsIn_of_wp Tryd.func19 rfl trivial ?_ rfl
  simp only [Tryd.ntmps19, List.size_toArray, List.length_cons, List.length_nil, Nat.reduceAdd, Nat.reduceSub, Array.replicate_succ, Array.replicate_zero, List.push_toArray, List.append_toArray, List.nil_append, List.cons_append]
  gi_wp2
  refine wpIn_region_done_mute_on (fun ⟨_, _, h⟩ => by have h2 : (∃ v, Ending.outgrown = Ending.returned v) ∧ _ := h; obtain ⟨⟨v, e⟩, _⟩ := h2; cases e) (SS [2, 4] (fun n1 X => match n1 with | 0 => X = W.drew | 1 => X = W.drew.alloc (.cells Z 3) | _ => X = W.drew.alloc (.cells Z 3))) (RR [2, 4] (fun _ v => v = .slice (some ⟨g, 0, none⟩) m m) (fun _ _ _ => True) [.slice A m c, .int .i64 (m : Int), undef, .int .i64 0, undef]) (by kernel_rfl) (by intro o ho; simp only [List.mem_toArray, List.mem_cons, List.not_mem_nil, or_false] at ho; rcases ho with rfl | rfl | rfl | rfl | rfl <;> first | exact mute_load rfl | exact armute_len rfl | exact armute_make rfl | exact armute_assign rfl) 48 rfl (by kernel_rfl) (SS.start (rfl)) ?_ ?_
  · intro i hi
    have hi2 : i < 5 := hi
    clear hi
    rcases i with _ | i
    · refine ss_value rfl (by decide) (.slice A m c) rfl 2 (.inl rfl) ?_
      intro a8 w8 ns hns hT ho hn
      have o1 : a8.tmps[1]? = some _ := (ho 1 (by kernel_rfl)).trans rfl
      clear ho hn
      refine ⟨wanted_free rfl, ?_⟩
      obtain ⟨y0, y1⟩ := HBX.out ns w8 hT
      go_simp
    rcases i with _ | i
    · refine ss_value rfl (by decide) (.int .i64 (m : Int)) rfl 2 (.inl rfl) ?_
      intro a8 w8 ns hns hT ho hn
      obtain ⟨v8, n8, hq8⟩ := hn 0 8 (by kernel_rfl) rfl
      obtain rfl := hq8.1 (by decide)
      clear ho hn
      refine ⟨wanted_free rfl, ?_⟩
      go_simp
    rcases i with _ | i
    · refine ss_make 0 (by decide) rfl rfl (.inl rfl) ?_
      intro a8 w8 hT ho hn
      obtain ⟨v9, n9, hq9⟩ := hn 1 9 (by kernel_rfl) rfl
      obtain rfl := hq9.1 (by decide)
      clear ho hn
      refine ⟨wanted_free rfl, ?_⟩
      obtain rfl : w8 = W.drew := hT
      exact ⟨.slice (some ⟨g, 0, none⟩) m m, W.drew.alloc (.cells Z 3), (by rw [← HG.out]; go_simp), rfl, rfl, trivial⟩
    rcases i with _ | i
    · refine ss_value rfl (by decide) (.int .i64 0) rfl 2 (.inl rfl) ?_
      intro a8 w8 ns hns hT ho hn
      clear ho hn
      refine ⟨wanted_free rfl, ?_⟩
      go_simp
    rcases i with _ | i
    · refine ss_make 1 (by decide) rfl rfl (.inr ⟨2, 10, rfl, by kernel_rfl, rfl⟩) ?_
      intro a8 w8 hT ho hn
      obtain ⟨v10, n10, hq10⟩ := hn 2 10 (by kernel_rfl) rfl
      have hv10 := hq10.2 0 rfl
      clear ho hn
      refine ⟨wanted_free rfl, ?_⟩
      obtain rfl : v10 = .slice (some ⟨g, 0, none⟩) m m := hv10.2.1
      obtain rfl : w8 = W.drew.alloc (.cells Z 3) := hT
      exact ⟨.slice (some ⟨g, 0, none⟩) m m, W.drew.alloc (.cells Z 3), (by go_simp), rfl, rfl, trivial⟩
    omega
  · intro dn fv w5 hS5 hR5 hall
    have hT5 := hS5.2
    rw [stg_all (l := [2, 4]) (by intro k hk; simp only [List.mem_cons, List.not_mem_nil, or_false] at hk; rcases hk with rfl | rfl <;> exact hall _ (by decide))] at hT5
    have h4 : fv 4 = _ := (hR5 3 4 rfl).1 (by decide)
    have h5 := ((hR5 4 5 rfl).2 1 rfl).2.1
    simp only [putAll, List.foldl_cons, List.foldl_nil, Act.put, List.setIfInBounds_toArray, List.set_cons_succ, List.set_cons_zero, h4, List.getD_cons_zero, List.getD_cons_succ]
    clear hR5 hS5 hall
    have HB0 : Hid (Keep (fun i => 0 < 0 ∧ i = g) W w5) := Lib.hid (by rw [hT5]; exact (Keep.of_below ((Below.refl _ _).drew)).alloc _)
    have HX0 : Hid (Blk w5 g 3 (tupC L n 0).toArray) := Lib.hid (by
      rw [hT5, ← HZR.out, ← HG.out]
      exact Blk.new W.drew _ _)
    rw [h5]
    generalize fv 8 = u8
    generalize fv 9 = u9
    generalize fv 10 = u10
    have e0 : arAt g L n 0 = #[.int .i64 0, .slice (some ⟨g, 0, none⟩) m m] := by
      unfold arAt
      rw [rest_zero, Nat.sub_self, hm]
      rfl
    obtain ⟨fn, tmps, assign, body, hy, hR⟩ := HY.out 0 w5 (HX.out 0 W w5 H0.out ⟨Nat.zero_le _, HB0.out, HX0.out⟩)
    rw [e0] at hy
    have HR := Lib.hid hR
    clear e0 hR HB0 HX0 hT5 h5 HZR HBX hmk h4
    gi_wp2
    refine HR.out.mono ?_
    rintro e W3 (⟨rfl, hJ3⟩ | ⟨rfl, hJx3⟩)
    case inr =>
      gi_wp2
      refine bodyPost_ret (results_none rfl _ _ _) rfl ?_
      exact ⟨⟨_, rfl⟩, .inl hJx3⟩
    have hc0 := (HP.out 1 W3 hJ3).c0
    rw [hm] at hc0
    have HJ3 := Lib.hid hJ3
    clear hJ3 HR hy
    gi_wp2
    gi_loopw [18, 4] (fun i p wr => ∃ k : Nat, i = .int .i64 (k : Int) ∧ p = .int .i64 ((n - rest L n k : Nat) : Int) ∧ k ≤ m ∧ J (k + 1) wr) (fun i _ _ => m + 1 - (RowKit.intOf i).toNat)
    case atStart => exact ⟨0, rfl, by rw [rest_zero, Nat.sub_self]; rfl, Nat.zero_le _, HJ3.out⟩
    case round =>
      obtain ⟨k, rfl, rfl, hkm, hJ⟩ := hrel
      have hpre := HP.out (k + 1) wr hJ
      have HJ := Lib.hid hJ
      have HPR := Lib.hid hpre
      have x0 := hpre.c0
      have x1 := hpre.c1
      have hbk := hpre.tu (Nat.succ_pos _)
      rw [hm] at x0
      rw [Nat.add_sub_cancel] at hbk
      clear hc0 hJ hpre
      by_cases hk : k < m
      · have hd : (k : Int) < (m : Int) := by omega
        have hkL : k < L.length := by rw [hm]; exact hk
        have hrs := rest_succ L n k hkL
        have hrl := rest_le L n k
        have hp0 := prodN_pos (k + 1) (Nat.lt_of_le_of_lt (Nat.zero_le _) HN.out)
        obtain ⟨vk, hvk⟩ : ∃ vk, (tupC L n k)[k]? = some vk := ⟨_, List.getElem?_eq_getElem (by rw [tupC_length (by omega)]; omega)⟩
        have g0 : wr.cell? ⟨g, k, none⟩ = some vk := by rw [hbk.cell k, List.getElem?_toArray, hvk]
        have g1 := hbk.frozen k
        obtain ⟨B, hB⟩ : ∃ B, prodN (L.drop (k + 1)) = B := ⟨_, rfl⟩
        obtain ⟨r, hr⟩ : ∃ r, rest L n k = r := ⟨_, rfl⟩
        obtain ⟨r2, hr2⟩ : ∃ r2, rest L n (k + 1) = r2 := ⟨_, rfl⟩
        rw [hB] at hp0 hrs
        rw [hr] at hrs hrl
        rw [hr2] at hrs
        obtain ⟨d, hd2⟩ : ∃ d, r / B = d := ⟨_, rfl⟩
        obtain ⟨q, hq⟩ : ∃ q, d * B = q := ⟨_, rfl⟩
        have hdm : q + r2 = r := by
          rw [← hq, ← hd2, hrs, Nat.mul_comm]
          exact Nat.div_add_mod r B
        obtain ⟨P, hP1⟩ : ∃ P, n - r = P := ⟨_, rfl⟩
        obtain ⟨P2, hP2⟩ : ∃ P2, n - r2 = P2 := ⟨_, rfl⟩
        have e1 : (n : Int) - (P : Int) = (r : Int) := by omega
        have et : (r : Int).tdiv (B : Int) = (d : Int) := by rw [← hd2]; exact (Int.ofNat_tdiv r B).symm
        have em : (d : Int) * (B : Int) = (q : Int) := by rw [← hq]; push_cast; rfl
        have ep : (P : Int) + (q : Int) = (P2 : Int) := by omega
        have bP : (P : Int) ≤ 4096 := by omega
        have bP2 : (P2 : Int) ≤ 4096 := by omega
        have br : (r : Int) ≤ 4096 := by omega
        have bq : (q : Int) ≤ 4096 := by omega
        have hBall := prodI_four (all_drop HOK.out (k + 1)) (by rw [List.length_drop, iL_length]; omega)
        rw [iL_drop, prod_iL, hB] at hBall
        obtain ⟨_, bB⟩ := hBall
        have bB0 : (0 : Int) < (B : Int) := by omega
        have bd : (d : Int) ≤ 4096 := by have := Nat.div_le_self r B; omega
        rw [hr, hP1]
        have hcm : m ≤ c := by have := HC.out; omega
        have HS : Hid (∀ d', d' = d → (tupC L n k).set k (.int .i64 (d' : Int)) = tupC L n (k + 1)) := Lib.hid (fun d' e => by subst e; rw [← hd2, ← hr, ← hB]; exact tupC_succ hkL)
        have HP2 := Lib.hid hP2
        have HR2 := Lib.hid hr2
        have HBK := Lib.hid hbk
        have HPRD : Hid (∀ c', Calls Tryd.prog 14 #[.slice (if c = k + 1 then A else A.map (fun x => { block := x.block, off := x.off + (k + 1) })) (m - (k + 1)) c'] wr fun e w' => e = .returned (.int .i64 (B : Int)) ∧ wr = w') := Lib.hid (fun c' => by
          have hf : (fun x : Addr => x.add (k + 1)) = fun x => { block := x.block, off := x.off + (k + 1) } := by funext x; simp [Addr.add]
          have hrd := HPR.out.rd.cut (k := k + 1) (cap := c) (by omega) HC.out
          rw [hm, Nat.mul_one, ← List.map_drop, iL_drop, hf] at hrd
          have hlen : (iL (L.drop (k + 1))).length = m - (k + 1) := by rw [iL_length, List.length_drop, hm]
          have := arprod_any (if c = k + 1 then A else A.map (fun x => { block := x.block, off := x.off + (k + 1) })) c' (m - (k + 1)) (iL (L.drop (k + 1))) wr hlen hrd (by omega) (by rw [← iL_drop]; exact all_drop HOK.out _)
          rw [prod_iL, hB] at this
          exact this)
        have hbk2 : Blk (wr.setCell ⟨g, k, none⟩ (.int .i64 (d : Int))) g 3 (tupC L n (k + 1)).toArray := by
          have := hbk.set_ k (.int .i64 (d : Int))
          rw [List.setIfInBounds_toArray, HS.out d rfl] at this
          exact this
        obtain ⟨fn2, tm2, as2, bo2, hy2, hRR2⟩ := HY.out (k + 1) (wr.setCell ⟨g, k, none⟩ (.int .i64 (d : Int))) (HX.out (k + 1) wr _ HJ.out ⟨by omega, (Keep.refl _ wr).setCell ⟨g, k, none⟩ _ (fun _ => ⟨Nat.succ_pos _, rfl⟩), hbk2⟩)
        have e0 : arAt g L n (k + 1) = #[.int .i64 (P2 : Int), .slice (some ⟨g, 0, none⟩) m m] := by
          unfold arAt
          rw [hr2, hP2, hm]
        rw [e0] at hy2
        have HRR := Lib.hid hRR2
        clear hrs hrl hp0 hdm hd2 hq hP1 hP2 hr hr2 hB hbk hvk e0 hRR2 hbk2
        by_cases hcc : c = k + 1
        · have hif : ∀ x y : Option Addr, (if c = k + 1 then x else y) = x := fun x y => if_pos hcc
          have HPRD := Lib.hid (HPRD.out (c - (k + 1)))
          rw [hif] at HPRD
          clear hcc
          gi_wp2_with (gi_at_call 14; refine (callsIn_wide.2 HPRD.out).mono ?_; rintro e _ ⟨rfl, rfl⟩)
          refine HRR.out.mono ?_
          rintro e W4 (⟨rfl, hJ4⟩ | ⟨rfl, hJx4⟩)
          · gi_wp2
            go_roundw
            case rel => exact ⟨k + 1, by go_num, by rw [HR2.out, HP2.out], by omega, hJ4⟩
            case measure => simp [RowKit.intOf]; omega
          · gi_wp2
            refine bodyPost_ret (results_none rfl _ _ _) rfl ?_
            exact ⟨⟨_, rfl⟩, .inl hJx4⟩
        · have hif : ∀ x y : Option Addr, (if c = k + 1 then x else y) = y := fun x y => if_neg hcc
          have HPRD := Lib.hid (HPRD.out (c - (k + 1)))
          rw [hif] at HPRD
          clear hcc
          gi_wp2_with (gi_at_call 14; refine (callsIn_wide.2 HPRD.out).mono ?_; rintro e _ ⟨rfl, rfl⟩)
          refine HRR.out.mono ?_
          rintro e W4 (⟨rfl, hJ4⟩ | ⟨rfl, hJx4⟩)
          · gi_wp2
            go_roundw
            case rel => exact ⟨k + 1, by go_num, by rw [HR2.out, HP2.out], by omega, hJ4⟩
            case measure => simp [RowKit.intOf]; omega
          · gi_wp2
            refine bodyPost_ret (results_none rfl _ _ _) rfl ?_
            exact ⟨⟨_, rfl⟩, .inl hJx4⟩
      · obtain rfl : k = m := by omega
        have HE := Lib.hid (HZ.out (k + 1) wr wr HJ.out ⟨by rw [hm], rfl⟩)
        clear hbk
        gi_wp2
        go_end0
        exact ⟨⟨_, rfl⟩, .inr HE.out⟩
end
end Go.Proofs.YtlmdijijlbmddaaDoor.arr

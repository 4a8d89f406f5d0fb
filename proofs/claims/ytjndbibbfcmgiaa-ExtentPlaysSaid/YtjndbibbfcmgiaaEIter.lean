/-
  The space of layer 4: its iterator of runs.
-/
import Derived.Test.YtjndbibbfcmgiaaESpace
import Derived.Sort.QuietTacIn
import Derived.Test.YtjndbibbfcmgiaaDoneIn
namespace Go.Proofs.Ytjndbibbfcmgiaa
open Go.RowKit

/-- What a round keeps: the cells of the blocks in S. -/
def KpS (S : Nat → Prop) (W W' : World) : Prop := ∀ p : Addr, S p.block → ∀ v, W.cell? p = some v → W'.cell? p = some v
theorem KpS.trans {S : Nat → Prop} {A B C : World} (h : KpS S A B) (k : KpS S B C) : KpS S A C := fun p hp v hv => k p hp v (h p hp v hv)
theorem KpS.of_below {S : Nat → Prop} {W W' : World} (h : Below W.heap.size W W') : KpS S W W' := fun _ _ _ hv => (h.cell (block_lt_of_cell hv)).trans hv
theorem KpS.putObj {S : Nat → Prop} (W : World) (l : Nat) (o o' : Obj) (h : W.heap[l]? = some o) (ho : o.isCells = false) : KpS S W (W.putObj l o') := fun p _ v hv => by
  by_cases e : p.block = l
  · unfold World.cell? at hv
    rw [e, h] at hv
    cases o <;> simp_all [Obj.isCells]
  · exact (World.cell?_of_block (World.putObj_heap_other e)).trans hv
/-- .. all but those of block q. -/
abbrev KpE (q : Nat) (W W' : World) : Prop := KpS (fun k => k ≠ q) W W'
theorem KpE.refl (q : Nat) (W : World) : KpE q W W := fun _ _ _ h => h
theorem KpE.trans {q : Nat} {A B C : World} (h : KpE q A B) (k : KpE q B C) : KpE q A C := fun p hp v hv => k p hp v (h p hp v hv)
theorem KpE.of_below {q : Nat} {W W' : World} (h : Below W.heap.size W W') : KpE q W W' := fun _ _ _ hv => (h.cell (block_lt_of_cell hv)).trans hv
theorem KpE.of_keep {q : Nat} {W W' : World} (h : Keep (fun k => k = q) W W') : KpE q W W' := fun p hp v hv => by
  have hlt : p.block < W.heap.size := block_lt_of_cell hv
  exact (World.cell?_of_block (h.block p.block hlt hp)).trans hv
theorem KpE.putObj {q : Nat} (W : World) (l : Nat) (o o' : Obj) (h : W.heap[l]? = some o) (ho : o.isCells = false) : KpE q W (W.putObj l o') := fun p _ v hv => by
  by_cases e : p.block = l
  · unfold World.cell? at hv
    rw [e, h] at hv
    cases o <;> simp_all [Obj.isCells]
  · exact (World.cell?_of_block (World.putObj_heap_other e)).trans hv

/-- What the iterator has captured. -/
structure RunsAt (w : World) (b1 b2 : Nat) (d : SpAt) (a : Bool) : Prop where
  p1 : Blk w b1 23 #[.pointer (some ⟨d.b, 0, none⟩)]
  p2 : Blk w b2 4 #[.bool a]
theorem RunsAt.keep {S : Nat → Prop} {w w' : World} {b1 b2 : Nat} {d : SpAt} {a : Bool} (h : RunsAt w b1 b2 d a) (hk : Keep S w w') (h1 : ¬ S b1) (h2 : ¬ S b2) : RunsAt w' b1 b2 d a :=
  ⟨hk.blk h.p1 h1, hk.blk h.p2 h2⟩

theorem infoB : (Try.prog.info? 4).map (fun i => (i.zero, i.size, i.bytes)) = some (some (.bool false), 1, 1) := by kernel_rfl
theorem slice_from (g p n c : Nat) (h : p + n ≤ c) (hn : 0 < n) (W : World) : (Instr.sliceAt 41 (.slice (some ⟨g, 0, none⟩) (p + n) c) (some (.int .i64 (p : Int))) none none).run Try.prog W = .ok (.slice (some ⟨g, p, none⟩) n (c - p)) W := by
  obtain ⟨i0, hi, hz0, hz1, hz2⟩ := info_parts infoB
  have he : Try.prog.elem 41 = 4 := by kernel_rfl
  have hu : Try.prog.underlying 41 = some (.slice (Try.prog.elem 41)) := by kernel_rfl
  have z5 : ∀ w, Sem.run Try.prog (Go.sizeOf 4) w = .ok 1 w := fun w => by simp [Go.sizeOf, typeInfo, hi, hz1]
  rw [run_sliceAt_slice (h := hu), run_slice_l (ht := hu) (h0 := by omega) (h1 := by omega), he, z5]
  simp only [Result.andThen, sliced, Int.toNat_natCast, Nat.mul_one, Nat.add_sub_cancel_left]
  rw [if_neg (by omega)]
  simp [Addr.add_mid]
/-- One of the runs. -/
abbrev Run (s : ESt) (a : Bool) := { r : Nat × Nat // r ∈ runsAt s.L a 0 }
def runV (f : Nat) (r : Nat × Nat) : Value := .agg #[.int .i64 ((f + r.1 : Nat) : Int), .int .i64 (r.2 : Int)]

theorem runs_few {L : List Bool} {a : Bool} : ∀ p, (runsAt L a p).length + p ≤ max p L.length := by
  refine runs_ind (L := L) _ (fun p h => ?_) (fun p h ih => ?_)
  · rw [runs_stop h, List.length_nil]
    omega
  · have h1 := runN_pos h
    have h2 := runN_le L (Nat.le_of_lt h)
    by_cases ha : L.getD p false = a
    · rw [runs_hit h ha, List.length_cons]
      omega
    · rw [runs_miss h ha]
      omega

/-- What is seen of the space in whatever world the body leaves. -/
structure Seen (w : World) (b1 b2 : Nat) (d : SpAt) (s : ESt) (a : Bool) : Prop where
  c1 : w.cell? ⟨b1, 0, none⟩ = some (.pointer (some ⟨d.b, 0, none⟩))
  c2 : w.cell? ⟨b2, 0, none⟩ = some (.bool a)
  f : w.cell? ⟨d.b, 1, none⟩ = some (.int .i64 (s.f : Int))
  t : w.cell? ⟨d.b, 2, none⟩ = some (.int .i64 (s.to : Int))
  l : w.cell? ⟨d.b, 3, none⟩ = some (.slice d.A s.L.length d.c)
  row : ∀ (k : Nat) (x : Bool), s.L[k]? = some x → d.A = some ⟨d.g, 0, none⟩ ∧ w.cell? ⟨d.g, k, none⟩ = some (.bool x)
theorem Seen.of {w : World} {b1 b2 : Nat} {d : SpAt} {s : ESt} {a : Bool} (h : EK w d s) (hr : RunsAt w b1 b2 d a) : Seen w b1 b2 d s a :=
  ⟨hr.p1.cell 0, hr.p2.cell 0, h.blk.cell 1, h.blk.cell 2, h.blk.cell 3, fun _ _ hk => ⟨(h.row.at_ hk).1, (h.row.at_ hk).2.1⟩⟩
theorem Seen.drewN {w : World} {b1 b2 : Nat} {d : SpAt} {s : ESt} {a : Bool} (h : Seen w b1 b2 d s a) (k : Nat) : Seen (w.drewN k) b1 b2 d s a := ⟨h.c1, h.c2, h.f, h.t, h.l, h.row⟩
theorem Seen.keep {w w' : World} {S : Nat → Prop} {b1 b2 : Nat} {d : SpAt} {s : ESt} {a : Bool} (h : Seen w b1 b2 d s a) (hk : KpS S w w') (hne : S b1 ∧ S b2 ∧ S d.b ∧ S d.g) : Seen w' b1 b2 d s a :=
  ⟨hk _ hne.1 _ h.c1, hk _ hne.2.1 _ h.c2, hk _ hne.2.2.1 _ h.f, hk _ hne.2.2.1 _ h.t, hk _ hne.2.2.1 _ h.l, fun k x hx => ⟨(h.row k x hx).1, hk _ hne.2.2.2 _ (h.row k x hx).2⟩⟩

/-- What stands in the region that yields: its operation 10 yields, behind the reading ones. -/
def S6 (W0 : World) (dn : Nat → Bool) (w : World) : Prop := (dn 10 = false ∧ w = W0) ∨ (dn 10 = true ∧ dn 2 = true ∧ dn 3 = true)
structure R6 (vs : List Value) (Post : Bool → World → Prop) (dn : Nat → Bool) (i : Nat) (v : Value) (w : World) : Prop where
  val : i < 10 → v = vs.getD i undef
  a10 : i = 10 → ∃ bb, v = .bool bb ∧ Post bb w
  a11 : 11 ≤ i → ∃ bb, v = .bool (!bb) ∧ Post bb w
  d2 : i = 2 → dn 2 = true
  d3 : i = 3 → dn 3 = true
  d45 : i = 4 ∨ i = 5 → dn 2 = true ∧ dn 3 = true
  d10 : 10 ≤ i → dn 10 = true
theorem S6.up {W0 : World} {i : Nat} (hi : i ≠ 10) : ∀ dn w, S6 W0 dn w → S6 W0 (upd dn i) w := fun dn w h => by
  have hu : ∀ k, dn k = true → upd dn i k = true := fun k hk => by unfold upd; rw [hk, Bool.or_true]
  rcases h with ⟨h1, h2⟩ | ⟨h1, h2, h3⟩
  · refine .inl ⟨?_, h2⟩
    unfold upd
    rw [h1, Bool.or_false]
    simpa using fun e => hi e.symm
  · exact .inr ⟨hu _ h1, hu _ h2, hu _ h3⟩
theorem R6.up {vs : List Value} {Post : Bool → World → Prop} {i : Nat} : ∀ dn j u w, R6 vs Post dn j u w → R6 vs Post (upd dn i) j u w := fun dn j u w h => by
  have hu : ∀ k, dn k = true → upd dn i k = true := fun k hk => by unfold upd; rw [hk, Bool.or_true]
  exact ⟨h.val, h.a10, h.a11, fun e => hu _ (h.d2 e), fun e => hu _ (h.d3 e), fun e => ⟨hu _ (h.d45 e).1, hu _ (h.d45 e).2⟩, fun e => hu _ (h.d10 e)⟩
theorem S6.at2 {W0 w : World} {dn : Nat → Bool} (h : S6 W0 dn w) (h2 : dn 2 = false) : w = W0 := by
  rcases h with h | ⟨_, h, _⟩
  · exact h.2
  · rw [h2] at h; cases h
theorem S6.at3 {W0 w : World} {dn : Nat → Bool} (h : S6 W0 dn w) (h3 : dn 3 = false) : w = W0 := by
  rcases h with h | ⟨_, _, h⟩
  · exact h.2
  · rw [h3] at h; cases h
theorem S6.at10 {W0 w : World} {dn : Nat → Bool} (h : S6 W0 dn w) (h3 : dn 10 = false) : w = W0 := by
  rcases h with h | ⟨h, _⟩
  · exact h.2
  · rw [h3] at h; cases h

section
attribute [local go_sem] Oper.semAt_some
set_option maxRecDepth 100000 in
set_option maxHeartbeats 4000000 in
theorem runs_stopsS (m : Nat) (hm : 1 ≤ m) (SS : Nat → Prop) (b1 b2 : Nat) (d : SpAt) (s : ESt) (a : Bool) (w : World) (h : EK w d s) (hr : RunsAt w b1 b2 d a) (hne : SS b1 ∧ SS b2 ∧ SS d.b ∧ SS d.g) :
    SeqStopsK Fence.wide m Try.prog 33 #[.pointer (some ⟨b1, 0, none⟩), .pointer (some ⟨b2, 0, none⟩)] (fun x : Run s a => #[runV s.f x.1]) (KpS SS) (fun xs => xs.map (·.1) = runsAt s.L a 0) (fun xs => xs.map (·.1) <+: runsAt s.L a 0) 4096 w := by
  intro l J Jx W hW hJ _ hY h0
  have hD : EK W d s := h.below hW
  have hF : RunsAt W b1 b2 d a := hr.keep (Keep.of_below (S := fun _ => False) hW) (fun h => h) (fun h => h)
  have hS : Seen W b1 b2 d s a := Seen.of hD hF
  have hfew := hD.ok.few
  have hcap := hD.cap
  have HS := Lib.hid hS
  have HY := Lib.hid hY
  have H0 := Lib.hid h0
  have HJD : Hid (∀ pre W1 k, J pre W1 → J pre (W1.drewN k)) := Lib.hid (fun pre W1 k h1 => hJ pre W1 _ none h1 ⟨rfl, rfl, rfl, Nat.le_refl _, fun _ _ _ => rfl⟩ (fun r e => by cases e))
  have e1 := hS.c1
  have e2 := hS.f
  have hfw : Fence.wide.fn 34 := trivial
  have hto : s.to = s.f + s.L.length := rfl
  clear h hr hD hF hS hJ hY h0 hW
  refine callsIn_of_wp Try.func33 rfl trivial ?_ rfl
  simp only [Try.ntmps33, List.size_toArray, List.length_cons, List.length_nil, Nat.reduceAdd, Nat.reduceSub, Array.replicate_succ, Array.replicate_zero, List.push_toArray, List.append_toArray, List.nil_append, List.cons_append]
  gi_wp2
  gi_loopw [4] (fun i wr => ∃ (p : Nat) (pre : List (Run s a)), p ≤ s.L.length ∧ i = .int .i64 ((s.f + p : Nat) : Int) ∧ pre.map (·.1) ++ runsAt s.L a p = runsAt s.L a 0 ∧ J pre wr ∧ Seen wr b1 b2 d s a) (fun i _ => s.to - (RowKit.intOf i).toNat)
  case atStart => exact ⟨0, [], Nat.zero_le _, rfl, rfl, H0.out, HS.out⟩
  case round =>
    obtain ⟨p, pre, hp, rfl, hpre, hJs, hS⟩ := hrel
    by_cases hlt : p < s.L.length
    · have hA := (hS.row p _ (getD_some hlt)).1
      obtain ⟨M, hM⟩ : ∃ M, s.L.drop p = M := ⟨_, rfl⟩
      obtain ⟨n, hn⟩ : ∃ n, s.L.length - p = n := ⟨_, rfl⟩
      have hMl : M.length = n := by rw [← hM, List.length_drop, hn]
      have hlen : s.L.length = p + n := by omega
      have hrd : Reads wr wr.heap.size 1 (some ⟨d.g, p, none⟩) n (bools M) := by
        refine ⟨by unfold bools; rw [List.length_map]; omega, fun _ => ⟨_, rfl, ?_, fun j u hu => ?_⟩⟩
        · exact block_lt_of_cell (hS.row p _ (getD_some hlt)).2
        · unfold bools at hu
          rw [List.getElem?_map] at hu
          obtain ⟨x, hx, rfl⟩ := Option.map_eq_some_iff.1 hu
          rw [← hM, List.getElem?_drop] at hx
          rw [Addr.add_mid]
          exact (hS.row _ x hx).2
      obtain ⟨x, hx⟩ : ∃ x, s.L.getD p false = x := ⟨_, rfl⟩
      have hcx : wr.cell? ⟨d.g, p, none⟩ = some (.bool x) := by rw [← hx]; exact (hS.row p _ (getD_some hlt)).2
      have c1 := hS.c1
      have c2 := hS.c2
      have cf := hS.f
      have ct := hS.t
      have cl := hS.l
      rw [hA] at cl
      rw [hlen] at cl hcap hto hfew
      have HIX : Hid (∀ k, Calls Try.prog 34 #[.slice (some ⟨d.g, p, none⟩) n (d.c - p), .bool (!x)] (wr.drewN k) fun e w' => e = .returned (.int .i64 (if runN s.L p < n then ((runN s.L p : Nat) : Int) else -1)) ∧ wr.drewN k = w') := Lib.hid (fun k => by
        have := eindex_any (some ⟨d.g, p, none⟩) n (d.c - p) M (!x) (wr.drewN k) hMl hrd (by omega)
        rw [Bool.not_not] at this
        unfold runN
        rw [hM, hx]
        exact this)
      have hm1 := runN_pos hlt
      have hm2 := runN_le s.L hp
      rw [hlen] at hm2
      obtain ⟨m1, hmm⟩ : ∃ m1, runN s.L p = m1 := ⟨_, rfl⟩
      rw [hmm] at HIX hm1 hm2
      have hsub : IntKind.i64.wrap ((s.f : Int) + (p : Int) - (s.f : Int)) = (p : Int) := by rw [IntKind.wrap_i64]; omega
      have hpc : ¬ d.c = p := by omega
      have HPRE := Lib.hid hpre
      have HSS := Lib.hid hS
      have HJS := Lib.hid hJs
      have HX := Lib.hid hx
      have HLEN := Lib.hid hlen
      have HMM := Lib.hid hmm
      clear hpre hS hJs hx hlen hmm hrd hM hMl hn hA
      generalize s.to = t at *
      have hsl := slice_from d.g p n d.c hcap.1 (by omega)
      have hn0 : 0 < n := by omega
      have hn1 : ¬ (n : Int) ≤ 0 := by omega
      have hn2 : ¬ n = 0 := by omega
      have hmx : Try.prog.follows .mixedOrders = true := by kernel_rfl
      have HIXN : Hid (∀ k, m1 < n → Calls Try.prog 34 #[.slice (some ⟨d.g, p, none⟩) n (d.c - p), .bool (!x)] (wr.drewN k) fun e w' => e = .returned (.int .i64 (m1 : Int)) ∧ wr.drewN k = w') := Lib.hid (fun k h => by have := HIX.out k; rwa [if_pos h] at this)
      have HIXE : Hid (∀ k, ¬ m1 < n → Calls Try.prog 34 #[.slice (some ⟨d.g, p, none⟩) n (d.c - p), .bool (!x)] (wr.drewN k) fun e w' => e = .returned (.int .i64 (-1)) ∧ wr.drewN k = w') := Lib.hid (fun k h => by have := HIX.out k; rwa [if_neg h] at this)
      clear HIX
      by_cases hxa : x = a
      · have hmem : runsAt s.L a p = (p, m1) :: runsAt s.L a (p + m1) := by
          rw [runs_hit (by have := HLEN.out; omega) (by rw [HX.out]; exact hxa), HMM.out]
        have hin : (p, m1) ∈ runsAt s.L a 0 := by
          rw [← HPRE.out, hmem]
          exact List.mem_append_right _ (List.mem_cons_self ..)
        obtain ⟨X, hXv⟩ : ∃ X : Run s a, X.1 = (p, m1) := ⟨⟨_, hin⟩, rfl⟩
        have HNEXT : Hid ((pre ++ [X]).map (·.1) ++ runsAt s.L a (p + m1) = runsAt s.L a 0) := Lib.hid (by
          refine Eq.trans ?_ HPRE.out
          rw [hmem, List.map_append, List.map_singleton, hXv, List.append_assoc]
          rfl)
        have hpl : pre.length < 4096 := by
          have h1 := congrArg List.length HNEXT.out
          have h2 := runs_few (L := s.L) (a := a) 0
          rw [List.length_append, List.length_map, List.length_append, List.length_singleton] at h1
          have := HLEN.out
          omega
        have HY2 : Hid (∀ k, YieldAt Fence.wide (m - 1) Try.prog l #[.agg #[.int .i64 ((s.f : Int) + (p : Int)), .int .i64 (m1 : Int)]] (wr.drewN k) fun e W' => ∃ bb, e = .returned (.bool bb) ∧ (bb = true → J (pre ++ [X]) W' ∧ Seen W' b1 b2 d s a) ∧ (bb = false → Jx (pre ++ [X]) W')) := Lib.hid (fun k => by
          obtain ⟨fn, tmps, assign, body, hy, hR⟩ := HY.out pre X (wr.drewN k) (HJD.out _ _ k HJS.out) hpl
          refine ⟨fn, tmps, assign, body, ?_, hR.mono ?_⟩
          · rw [hXv] at hy
            unfold runV at hy
            simpa only [Int.natCast_add] using hy
          · rintro e W3 (⟨rfl, h1, h2⟩ | ⟨rfl, h1⟩)
            · exact ⟨true, rfl, fun _ => ⟨h1, (HSS.out.drewN k).keep h2 hne⟩, fun h => Bool.noConfusion h⟩
            · exact ⟨false, rfl, (fun h => Bool.noConfusion h), fun _ => h1⟩)
        have hne : (x == a) = true := by simp [hxa]
        clear hmem hin hXv HY hpl hxa
        by_cases hend : m1 < n
        · gi_wp2
          gi_quiet_th (fail)
          gi_wp2_with (gi_at_call 34; with_reducible refine (callsIn_wide.2 (HIXN.out _ hend)).mono ?_; rintro e _ ⟨rfl, rfl⟩)
          have HY3 : Hid (YieldAt Fence.wide (m - 1) Try.prog l #[.agg #[.int .i64 ((s.f : Int) + (p : Int)), .int .i64 (m1 : Int)]] ((wr.drewN nq).drew) fun e W' => ∃ bb, e = .returned (.bool bb) ∧ (bb = true → J (pre ++ [X]) W' ∧ Seen W' b1 b2 d s a) ∧ (bb = false → Jx (pre ++ [X]) W')) := Lib.hid (HY2.out (nq + 1))
          refine wpIn_region_done_on (S6 ((wr.drewN nq).drew)) (R6 [.slice (some ⟨d.g, p, none⟩) n (d.c - p), .pointer (some ⟨d.g, p, none⟩), .bool x, .bool a, .bool true, .bool true, .func (.yield l) #[] #[], .int .i64 ((s.f : Int) + (p : Int)), .int .i64 (m1 : Int), .agg #[.int .i64 ((s.f : Int) + (p : Int)), .int .i64 (m1 : Int)]] (fun bb W' => (bb = true → J (pre ++ [X]) W' ∧ Seen W' b1 b2 d s a) ∧ (bb = false → Jx (pre ++ [X]) W'))) (by kernel_rfl) 54 rfl (by kernel_rfl) (.inl ⟨rfl, rfl⟩) ?_ ?_
          · intro i hi
            have hi2 : i < 13 := hi
            clear hi
            rcases i with _ | i
            · refine doneIn_value (S6.up (by decide)) R6.up (.slice (some ⟨d.g, p, none⟩) n (d.c - p)) rfl (fun _ => rfl) ?_
              intro dn a8 w8 hS hd ho hn
              have o5 : a8.tmps[5]? = some _ := (ho 5 (by kernel_rfl)).trans rfl
              clear ho hn
              refine ⟨wanted_free rfl, ?_, ⟨fun _ => rfl, (fun h => by omega), (fun h => by omega), (fun h => by omega), (fun h => by omega), (fun h => by omega), (fun h => by omega)⟩⟩
              go_simp
            rcases i with _ | i
            · refine doneIn_value (S6.up (by decide)) R6.up (.pointer (some ⟨d.g, p, none⟩)) rfl (fun _ => rfl) ?_
              intro dn a8 w8 hS hd ho hn
              obtain ⟨_, n38, h38⟩ := hn 0 38 (by kernel_rfl) rfl
              obtain rfl := h38.val (by decide)
              clear ho hn
              refine ⟨wanted_free rfl, ?_, ⟨fun _ => rfl, (fun h => by omega), (fun h => by omega), (fun h => by omega), (fun h => by omega), (fun h => by omega), (fun h => by omega)⟩⟩
              go_simp
            rcases i with _ | i
            · refine doneIn_value (S6.up (by decide)) R6.up (.bool x) rfl (fun _ => rfl) ?_
              intro dn a8 w8 hS hd ho hn
              obtain rfl := hS.at2 hd
              obtain ⟨_, n39, h39⟩ := hn 1 39 (by kernel_rfl) rfl
              obtain rfl := h39.val (by decide)
              clear ho hn
              refine ⟨wanted_free rfl, ?_, ⟨fun _ => rfl, (fun h => by omega), (fun h => by omega), (fun _ => upd_self _ _), (fun h => by omega), (fun h => by omega), (fun h => by omega)⟩⟩
              go_simp
            rcases i with _ | i
            · refine doneIn_value (S6.up (by decide)) R6.up (.bool a) rfl (fun _ => rfl) ?_
              intro dn a8 w8 hS hd ho hn
              obtain rfl := hS.at3 hd
              have o2 : a8.tmps[2]? = some _ := (ho 2 (by kernel_rfl)).trans rfl
              clear ho hn
              refine ⟨wanted_free rfl, ?_, ⟨fun _ => rfl, (fun h => by omega), (fun h => by omega), (fun h => by omega), (fun _ => upd_self _ _), (fun h => by omega), (fun h => by omega)⟩⟩
              go_simp
            rcases i with _ | i
            · refine doneIn_value (S6.up (by decide)) R6.up (.bool true) rfl (fun _ => rfl) ?_
              intro dn a8 w8 hS hd ho hn
              obtain ⟨_, n40, h40⟩ := hn 2 40 (by kernel_rfl) rfl
              obtain rfl := h40.val (by decide)
              obtain ⟨_, n41, h41⟩ := hn 3 41 (by kernel_rfl) rfl
              obtain rfl := h41.val (by decide)
              clear ho hn
              refine ⟨wanted_free rfl, ?_, ⟨fun _ => rfl, (fun h => by omega), (fun h => by omega), (fun h => by omega), (fun h => by omega), (fun _ => ⟨upd_on (h40.d2 rfl), upd_on (h41.d3 rfl)⟩), (fun h => by omega)⟩⟩
              go_simp
            rcases i with _ | i
            · refine doneIn_value (S6.up (by decide)) R6.up (.bool true) rfl (fun _ => rfl) ?_
              intro dn a8 w8 hS hd ho hn
              obtain ⟨_, n42, h42⟩ := hn 4 42 (by kernel_rfl) rfl
              obtain rfl := h42.val (by decide)
              clear ho hn
              refine ⟨wanted_free rfl, ?_, ⟨fun _ => rfl, (fun h => by omega), (fun h => by omega), (fun h => by omega), (fun h => by omega), (fun _ => ⟨upd_on (h42.d45 (.inl rfl)).1, upd_on (h42.d45 (.inl rfl)).2⟩), (fun h => by omega)⟩⟩
              go_simp
            rcases i with _ | i
            · refine doneIn_value (S6.up (by decide)) R6.up (.func (.yield l) #[] #[]) rfl (fun _ => rfl) ?_
              intro dn a8 w8 hS hd ho hn
              have o0 : a8.tmps[0]? = some _ := (ho 0 (by kernel_rfl)).trans rfl
              obtain ⟨_, n43, h43⟩ := hn 5 43 (by kernel_rfl) rfl
              obtain rfl := h43.val (by decide)
              clear ho hn
              refine ⟨wanted_of 5 43 rfl rfl n43, ?_, ⟨fun _ => rfl, (fun h => by omega), (fun h => by omega), (fun h => by omega), (fun h => by omega), (fun h => by omega), (fun h => by omega)⟩⟩
              go_simp
            rcases i with _ | i
            · refine doneIn_value (S6.up (by decide)) R6.up (.int .i64 ((s.f : Int) + (p : Int))) rfl (fun _ => rfl) ?_
              intro dn a8 w8 hS hd ho hn
              have o4 : a8.tmps[4]? = some _ := (ho 4 (by kernel_rfl)).trans rfl
              obtain ⟨_, n43, h43⟩ := hn 5 43 (by kernel_rfl) rfl
              obtain rfl := h43.val (by decide)
              clear ho hn
              refine ⟨wanted_of 5 43 rfl rfl n43, ?_, ⟨fun _ => rfl, (fun h => by omega), (fun h => by omega), (fun h => by omega), (fun h => by omega), (fun h => by omega), (fun h => by omega)⟩⟩
              go_simp
            rcases i with _ | i
            · refine doneIn_value (S6.up (by decide)) R6.up (.int .i64 (m1 : Int)) rfl (fun _ => rfl) ?_
              intro dn a8 w8 hS hd ho hn
              have o6 : a8.tmps[6]? = some _ := (ho 6 (by kernel_rfl)).trans rfl
              obtain ⟨_, n43, h43⟩ := hn 5 43 (by kernel_rfl) rfl
              obtain rfl := h43.val (by decide)
              clear ho hn
              refine ⟨wanted_of 5 43 rfl rfl n43, ?_, ⟨fun _ => rfl, (fun h => by omega), (fun h => by omega), (fun h => by omega), (fun h => by omega), (fun h => by omega), (fun h => by omega)⟩⟩
              go_simp
            rcases i with _ | i
            · refine doneIn_value (S6.up (by decide)) R6.up (.agg #[.int .i64 ((s.f : Int) + (p : Int)), .int .i64 (m1 : Int)]) rfl (fun _ => rfl) ?_
              intro dn a8 w8 hS hd ho hn
              obtain ⟨_, n45, h45⟩ := hn 7 45 (by kernel_rfl) rfl
              obtain rfl := h45.val (by decide)
              obtain ⟨_, n46, h46⟩ := hn 8 46 (by kernel_rfl) rfl
              obtain rfl := h46.val (by decide)
              obtain ⟨_, n43, h43⟩ := hn 5 43 (by kernel_rfl) rfl
              obtain rfl := h43.val (by decide)
              clear ho hn
              refine ⟨wanted_of 5 43 rfl rfl n43, ?_, ⟨fun _ => rfl, (fun h => by omega), (fun h => by omega), (fun h => by omega), (fun h => by omega), (fun h => by omega), (fun h => by omega)⟩⟩
              go_simp
            rcases i with _ | i
            · refine doneIn_round rfl (fun _ => rfl) ?_
              intro dn a8 w8 hS hd ho hn
              obtain rfl := hS.at10 hd
              obtain ⟨_, n44, h44⟩ := hn 6 44 (by kernel_rfl) rfl
              obtain rfl := h44.val (by decide)
              obtain ⟨_, n47, h47⟩ := hn 9 47 (by kernel_rfl) rfl
              obtain rfl := h47.val (by decide)
              obtain ⟨_, n43, h43⟩ := hn 5 43 (by kernel_rfl) rfl
              obtain rfl := h43.val (by decide)
              clear ho hn
              obtain ⟨fn, tmps, assign, body, hy, hR⟩ := HY3.out
              refine ⟨wanted_of 5 43 rfl rfl n43, l, fn, tmps, assign, body, ?_, hR.mono ?_⟩
              · go_simp
                exact hy
              · rintro e w9 ⟨bb, rfl, hpo⟩
                refine ⟨_, rfl, .inr ⟨upd_self _ _, upd_on (h43.d45 (.inr rfl)).1, upd_on (h43.d45 (.inr rfl)).2⟩, ⟨(fun h => by omega), fun _ => ⟨bb, rfl, hpo⟩, (fun h => by omega), (fun h => by omega), (fun h => by omega), (fun h => by omega), fun _ => upd_self _ _⟩, ?_⟩
                intro j u hj hdj hR
                have hj9 : j < 10 := by
                  rcases Nat.lt_or_ge j 10 with h | h
                  · exact h
                  · have := hR.d10 h
                    rw [hd] at this
                    cases this
                exact ⟨hR.val, (fun h => by omega), (fun h => by omega), fun e => upd_on (hR.d2 e), fun e => upd_on (hR.d3 e), fun e => ⟨upd_on (hR.d45 e).1, upd_on (hR.d45 e).2⟩, (fun h => by omega)⟩
            rcases i with _ | i
            · refine doneIn_any (S6.up (by decide)) R6.up rfl (fun _ => rfl) ?_
              intro dn a8 w8 hS hd ho hn
              obtain ⟨_, n48, h48⟩ := hn 10 48 (by kernel_rfl) rfl
              obtain ⟨bb, rfl, hpo⟩ := h48.a10 rfl
              obtain ⟨_, n43, h43⟩ := hn 5 43 (by kernel_rfl) rfl
              obtain rfl := h43.val (by decide)
              clear ho hn
              refine ⟨wanted_of 5 43 rfl rfl n43, .bool (!bb), ?_, ⟨(fun h => by omega), (fun h => by omega), fun _ => ⟨bb, rfl, hpo⟩, (fun h => by omega), (fun h => by omega), (fun h => by omega), fun _ => upd_on (h48.d10 (by decide))⟩⟩
              go_simp
            rcases i with _ | i
            · refine doneIn_any (S6.up (by decide)) R6.up rfl (fun _ => rfl) ?_
              intro dn a8 w8 hS hd ho hn
              obtain ⟨_, n43, h43⟩ := hn 5 43 (by kernel_rfl) rfl
              obtain rfl := h43.val (by decide)
              obtain ⟨_, n49, h49⟩ := hn 11 49 (by kernel_rfl) rfl
              obtain ⟨bb, rfl, hpo⟩ := h49.a11 (by decide)
              clear ho hn
              refine ⟨wanted_free rfl, .bool (!bb), ?_, ⟨(fun h => by omega), (fun h => by omega), fun _ => ⟨bb, rfl, hpo⟩, (fun h => by omega), (fun h => by omega), (fun h => by omega), fun _ => upd_on (h49.d10 (by decide))⟩⟩
              go_simp
            omega
          · intro done f w8 _ hR _
            obtain ⟨bb, h50, hp1, hp2⟩ := (hR 12 50 (by kernel_rfl)).a11 (by decide)
            clear hR
            simp only [putAll, List.foldl_cons, List.foldl_nil, Act.put, List.setIfInBounds_toArray, List.set_cons_succ, List.set_cons_zero, h50]
            have HP1 := Lib.hid hp1
            have HP2 := Lib.hid hp2
            clear hp1 hp2 h50
            cases bb
            · gi_wp2
              refine bodyPost_ret (results_none rfl _ _ _) rfl ?_
              exact ⟨⟨_, rfl⟩, .inr ⟨_, ⟨_, HNEXT.out⟩, HP2.out trivial⟩⟩
            · gi_wp2
              go_roundw
              case rel => exact ⟨p + m1, pre ++ [X], by have := HLEN.out; omega, by go_num, HNEXT.out, (HP1.out rfl).1, (HP1.out rfl).2⟩
              case measure => simp [RowKit.intOf]; omega
        · gi_wp2
          gi_quiet_th (fail)
          gi_wp2_with (gi_at_call 34; with_reducible refine (callsIn_wide.2 (HIXE.out _ hend)).mono ?_; rintro e _ ⟨rfl, rfl⟩)
          obtain rfl : m1 = n := by omega
          have HY3 : Hid (YieldAt Fence.wide (m - 1) Try.prog l #[.agg #[.int .i64 ((s.f : Int) + (p : Int)), .int .i64 (m1 : Int)]] ((wr.drewN nq).drew) fun e W' => ∃ bb, e = .returned (.bool bb) ∧ (bb = true → J (pre ++ [X]) W' ∧ Seen W' b1 b2 d s a) ∧ (bb = false → Jx (pre ++ [X]) W')) := Lib.hid (HY2.out (nq + 1))
          refine wpIn_region_done_on (S6 ((wr.drewN nq).drew)) (R6 [.slice (some ⟨d.g, p, none⟩) m1 (d.c - p), .pointer (some ⟨d.g, p, none⟩), .bool x, .bool a, .bool true, .bool true, .func (.yield l) #[] #[], .int .i64 ((s.f : Int) + (p : Int)), .int .i64 (m1 : Int), .agg #[.int .i64 ((s.f : Int) + (p : Int)), .int .i64 (m1 : Int)]] (fun bb W' => (bb = true → J (pre ++ [X]) W' ∧ Seen W' b1 b2 d s a) ∧ (bb = false → Jx (pre ++ [X]) W'))) (by kernel_rfl) 54 rfl (by kernel_rfl) (.inl ⟨rfl, rfl⟩) ?_ ?_
          · intro i hi
            have hi2 : i < 13 := hi
            clear hi
            rcases i with _ | i
            · refine doneIn_value (S6.up (by decide)) R6.up (.slice (some ⟨d.g, p, none⟩) m1 (d.c - p)) rfl (fun _ => rfl) ?_
              intro dn a8 w8 hS hd ho hn
              have o5 : a8.tmps[5]? = some _ := (ho 5 (by kernel_rfl)).trans rfl
              clear ho hn
              refine ⟨wanted_free rfl, ?_, ⟨fun _ => rfl, (fun h => by omega), (fun h => by omega), (fun h => by omega), (fun h => by omega), (fun h => by omega), (fun h => by omega)⟩⟩
              go_simp
            rcases i with _ | i
            · refine doneIn_value (S6.up (by decide)) R6.up (.pointer (some ⟨d.g, p, none⟩)) rfl (fun _ => rfl) ?_
              intro dn a8 w8 hS hd ho hn
              obtain ⟨_, n38, h38⟩ := hn 0 38 (by kernel_rfl) rfl
              obtain rfl := h38.val (by decide)
              clear ho hn
              refine ⟨wanted_free rfl, ?_, ⟨fun _ => rfl, (fun h => by omega), (fun h => by omega), (fun h => by omega), (fun h => by omega), (fun h => by omega), (fun h => by omega)⟩⟩
              go_simp
            rcases i with _ | i
            · refine doneIn_value (S6.up (by decide)) R6.up (.bool x) rfl (fun _ => rfl) ?_
              intro dn a8 w8 hS hd ho hn
              obtain rfl := hS.at2 hd
              obtain ⟨_, n39, h39⟩ := hn 1 39 (by kernel_rfl) rfl
              obtain rfl := h39.val (by decide)
              clear ho hn
              refine ⟨wanted_free rfl, ?_, ⟨fun _ => rfl, (fun h => by omega), (fun h => by omega), (fun _ => upd_self _ _), (fun h => by omega), (fun h => by omega), (fun h => by omega)⟩⟩
              go_simp
            rcases i with _ | i
            · refine doneIn_value (S6.up (by decide)) R6.up (.bool a) rfl (fun _ => rfl) ?_
              intro dn a8 w8 hS hd ho hn
              obtain rfl := hS.at3 hd
              have o2 : a8.tmps[2]? = some _ := (ho 2 (by kernel_rfl)).trans rfl
              clear ho hn
              refine ⟨wanted_free rfl, ?_, ⟨fun _ => rfl, (fun h => by omega), (fun h => by omega), (fun h => by omega), (fun _ => upd_self _ _), (fun h => by omega), (fun h => by omega)⟩⟩
              go_simp
            rcases i with _ | i
            · refine doneIn_value (S6.up (by decide)) R6.up (.bool true) rfl (fun _ => rfl) ?_
              intro dn a8 w8 hS hd ho hn
              obtain ⟨_, n40, h40⟩ := hn 2 40 (by kernel_rfl) rfl
              obtain rfl := h40.val (by decide)
              obtain ⟨_, n41, h41⟩ := hn 3 41 (by kernel_rfl) rfl
              obtain rfl := h41.val (by decide)
              clear ho hn
              refine ⟨wanted_free rfl, ?_, ⟨fun _ => rfl, (fun h => by omega), (fun h => by omega), (fun h => by omega), (fun h => by omega), (fun _ => ⟨upd_on (h40.d2 rfl), upd_on (h41.d3 rfl)⟩), (fun h => by omega)⟩⟩
              go_simp
            rcases i with _ | i
            · refine doneIn_value (S6.up (by decide)) R6.up (.bool true) rfl (fun _ => rfl) ?_
              intro dn a8 w8 hS hd ho hn
              obtain ⟨_, n42, h42⟩ := hn 4 42 (by kernel_rfl) rfl
              obtain rfl := h42.val (by decide)
              clear ho hn
              refine ⟨wanted_free rfl, ?_, ⟨fun _ => rfl, (fun h => by omega), (fun h => by omega), (fun h => by omega), (fun h => by omega), (fun _ => ⟨upd_on (h42.d45 (.inl rfl)).1, upd_on (h42.d45 (.inl rfl)).2⟩), (fun h => by omega)⟩⟩
              go_simp
            rcases i with _ | i
            · refine doneIn_value (S6.up (by decide)) R6.up (.func (.yield l) #[] #[]) rfl (fun _ => rfl) ?_
              intro dn a8 w8 hS hd ho hn
              have o0 : a8.tmps[0]? = some _ := (ho 0 (by kernel_rfl)).trans rfl
              obtain ⟨_, n43, h43⟩ := hn 5 43 (by kernel_rfl) rfl
              obtain rfl := h43.val (by decide)
              clear ho hn
              refine ⟨wanted_of 5 43 rfl rfl n43, ?_, ⟨fun _ => rfl, (fun h => by omega), (fun h => by omega), (fun h => by omega), (fun h => by omega), (fun h => by omega), (fun h => by omega)⟩⟩
              go_simp
            rcases i with _ | i
            · refine doneIn_value (S6.up (by decide)) R6.up (.int .i64 ((s.f : Int) + (p : Int))) rfl (fun _ => rfl) ?_
              intro dn a8 w8 hS hd ho hn
              have o4 : a8.tmps[4]? = some _ := (ho 4 (by kernel_rfl)).trans rfl
              obtain ⟨_, n43, h43⟩ := hn 5 43 (by kernel_rfl) rfl
              obtain rfl := h43.val (by decide)
              clear ho hn
              refine ⟨wanted_of 5 43 rfl rfl n43, ?_, ⟨fun _ => rfl, (fun h => by omega), (fun h => by omega), (fun h => by omega), (fun h => by omega), (fun h => by omega), (fun h => by omega)⟩⟩
              go_simp
            rcases i with _ | i
            · refine doneIn_value (S6.up (by decide)) R6.up (.int .i64 (m1 : Int)) rfl (fun _ => rfl) ?_
              intro dn a8 w8 hS hd ho hn
              have o6 : a8.tmps[6]? = some _ := (ho 6 (by kernel_rfl)).trans rfl
              obtain ⟨_, n43, h43⟩ := hn 5 43 (by kernel_rfl) rfl
              obtain rfl := h43.val (by decide)
              clear ho hn
              refine ⟨wanted_of 5 43 rfl rfl n43, ?_, ⟨fun _ => rfl, (fun h => by omega), (fun h => by omega), (fun h => by omega), (fun h => by omega), (fun h => by omega), (fun h => by omega)⟩⟩
              go_simp
            rcases i with _ | i
            · refine doneIn_value (S6.up (by decide)) R6.up (.agg #[.int .i64 ((s.f : Int) + (p : Int)), .int .i64 (m1 : Int)]) rfl (fun _ => rfl) ?_
              intro dn a8 w8 hS hd ho hn
              obtain ⟨_, n45, h45⟩ := hn 7 45 (by kernel_rfl) rfl
              obtain rfl := h45.val (by decide)
              obtain ⟨_, n46, h46⟩ := hn 8 46 (by kernel_rfl) rfl
              obtain rfl := h46.val (by decide)
              obtain ⟨_, n43, h43⟩ := hn 5 43 (by kernel_rfl) rfl
              obtain rfl := h43.val (by decide)
              clear ho hn
              refine ⟨wanted_of 5 43 rfl rfl n43, ?_, ⟨fun _ => rfl, (fun h => by omega), (fun h => by omega), (fun h => by omega), (fun h => by omega), (fun h => by omega), (fun h => by omega)⟩⟩
              go_simp
            rcases i with _ | i
            · refine doneIn_round rfl (fun _ => rfl) ?_
              intro dn a8 w8 hS hd ho hn
              obtain rfl := hS.at10 hd
              obtain ⟨_, n44, h44⟩ := hn 6 44 (by kernel_rfl) rfl
              obtain rfl := h44.val (by decide)
              obtain ⟨_, n47, h47⟩ := hn 9 47 (by kernel_rfl) rfl
              obtain rfl := h47.val (by decide)
              obtain ⟨_, n43, h43⟩ := hn 5 43 (by kernel_rfl) rfl
              obtain rfl := h43.val (by decide)
              clear ho hn
              obtain ⟨fn, tmps, assign, body, hy, hR⟩ := HY3.out
              refine ⟨wanted_of 5 43 rfl rfl n43, l, fn, tmps, assign, body, ?_, hR.mono ?_⟩
              · go_simp
                exact hy
              · rintro e w9 ⟨bb, rfl, hpo⟩
                refine ⟨_, rfl, .inr ⟨upd_self _ _, upd_on (h43.d45 (.inr rfl)).1, upd_on (h43.d45 (.inr rfl)).2⟩, ⟨(fun h => by omega), fun _ => ⟨bb, rfl, hpo⟩, (fun h => by omega), (fun h => by omega), (fun h => by omega), (fun h => by omega), fun _ => upd_self _ _⟩, ?_⟩
                intro j u hj hdj hR
                have hj9 : j < 10 := by
                  rcases Nat.lt_or_ge j 10 with h | h
                  · exact h
                  · have := hR.d10 h
                    rw [hd] at this
                    cases this
                exact ⟨hR.val, (fun h => by omega), (fun h => by omega), fun e => upd_on (hR.d2 e), fun e => upd_on (hR.d3 e), fun e => ⟨upd_on (hR.d45 e).1, upd_on (hR.d45 e).2⟩, (fun h => by omega)⟩
            rcases i with _ | i
            · refine doneIn_any (S6.up (by decide)) R6.up rfl (fun _ => rfl) ?_
              intro dn a8 w8 hS hd ho hn
              obtain ⟨_, n48, h48⟩ := hn 10 48 (by kernel_rfl) rfl
              obtain ⟨bb, rfl, hpo⟩ := h48.a10 rfl
              obtain ⟨_, n43, h43⟩ := hn 5 43 (by kernel_rfl) rfl
              obtain rfl := h43.val (by decide)
              clear ho hn
              refine ⟨wanted_of 5 43 rfl rfl n43, .bool (!bb), ?_, ⟨(fun h => by omega), (fun h => by omega), fun _ => ⟨bb, rfl, hpo⟩, (fun h => by omega), (fun h => by omega), (fun h => by omega), fun _ => upd_on (h48.d10 (by decide))⟩⟩
              go_simp
            rcases i with _ | i
            · refine doneIn_any (S6.up (by decide)) R6.up rfl (fun _ => rfl) ?_
              intro dn a8 w8 hS hd ho hn
              obtain ⟨_, n43, h43⟩ := hn 5 43 (by kernel_rfl) rfl
              obtain rfl := h43.val (by decide)
              obtain ⟨_, n49, h49⟩ := hn 11 49 (by kernel_rfl) rfl
              obtain ⟨bb, rfl, hpo⟩ := h49.a11 (by decide)
              clear ho hn
              refine ⟨wanted_free rfl, .bool (!bb), ?_, ⟨(fun h => by omega), (fun h => by omega), fun _ => ⟨bb, rfl, hpo⟩, (fun h => by omega), (fun h => by omega), (fun h => by omega), fun _ => upd_on (h49.d10 (by decide))⟩⟩
              go_simp
            omega
          · intro done f w8 _ hR _
            obtain ⟨bb, h50, hp1, hp2⟩ := (hR 12 50 (by kernel_rfl)).a11 (by decide)
            clear hR
            simp only [putAll, List.foldl_cons, List.foldl_nil, Act.put, List.setIfInBounds_toArray, List.set_cons_succ, List.set_cons_zero, h50]
            have HP1 := Lib.hid hp1
            have HP2 := Lib.hid hp2
            clear hp1 hp2 h50
            cases bb
            · gi_wp2
              refine bodyPost_ret (results_none rfl _ _ _) rfl ?_
              exact ⟨⟨_, rfl⟩, .inr ⟨_, ⟨_, HNEXT.out⟩, HP2.out trivial⟩⟩
            · gi_wp2
              go_roundw
              case rel => exact ⟨p + m1, pre ++ [X], by have := HLEN.out; omega, by go_num, HNEXT.out, (HP1.out rfl).1, (HP1.out rfl).2⟩
              case measure => simp [RowKit.intOf]; omega
      · have HREST : Hid (pre.map (·.1) ++ runsAt s.L a (p + m1) = runsAt s.L a 0) := Lib.hid (by rw [← HMM.out, ← runs_miss (by have := HLEN.out; omega) (by rw [HX.out]; exact hxa)]; exact HPRE.out)
        have hne2 : (x == a) = false := by simpa using hxa
        clear hxa HY
        by_cases hend : m1 < n
        · gi_wp2
          gi_quiet_th (fail)
          gi_wp2_with (gi_at_call 34; with_reducible refine (callsIn_wide.2 (HIXN.out _ hend)).mono ?_; rintro e _ ⟨rfl, rfl⟩)
          refine wpIn_region_done_on (fun _ w => w = (wr.drewN nq).drew) (fun _ i v _ => v = ([.slice (some ⟨d.g, p, none⟩) n (d.c - p), .pointer (some ⟨d.g, p, none⟩), .bool x, .bool a, .bool false, .bool false, undef, undef, undef, undef, undef, undef, .bool false] : List Value).getD i undef) (by kernel_rfl) 54 rfl (by kernel_rfl) rfl ?_ ?_
          · intro i hi
            have hi2 : i < 13 := hi
            clear hi
            rcases i with _ | i
            · refine doneIn_value (fun _ _ h => h) (fun _ _ _ _ h => h) (.slice (some ⟨d.g, p, none⟩) n (d.c - p)) rfl (fun _ => rfl) ?_
              intro dn a8 w8 hS hd ho hn
              obtain rfl : w8 = _ := hS
              have o5 : a8.tmps[5]? = some _ := (ho 5 (by kernel_rfl)).trans rfl
              clear ho hn
              refine ⟨wanted_free rfl, ?_, rfl⟩
              go_simp
            rcases i with _ | i
            · refine doneIn_value (fun _ _ h => h) (fun _ _ _ _ h => h) (.pointer (some ⟨d.g, p, none⟩)) rfl (fun _ => rfl) ?_
              intro dn a8 w8 hS hd ho hn
              obtain rfl : w8 = _ := hS
              obtain ⟨_, n38, rfl⟩ := hn 0 38 (by kernel_rfl) rfl
              clear ho hn
              refine ⟨wanted_free rfl, ?_, rfl⟩
              go_simp
            rcases i with _ | i
            · refine doneIn_value (fun _ _ h => h) (fun _ _ _ _ h => h) (.bool x) rfl (fun _ => rfl) ?_
              intro dn a8 w8 hS hd ho hn
              obtain rfl : w8 = _ := hS
              obtain ⟨_, n39, rfl⟩ := hn 1 39 (by kernel_rfl) rfl
              clear ho hn
              refine ⟨wanted_free rfl, ?_, rfl⟩
              go_simp
            rcases i with _ | i
            · refine doneIn_value (fun _ _ h => h) (fun _ _ _ _ h => h) (.bool a) rfl (fun _ => rfl) ?_
              intro dn a8 w8 hS hd ho hn
              obtain rfl : w8 = _ := hS
              have o2 : a8.tmps[2]? = some _ := (ho 2 (by kernel_rfl)).trans rfl
              clear ho hn
              refine ⟨wanted_free rfl, ?_, rfl⟩
              go_simp
            rcases i with _ | i
            · refine doneIn_value (fun _ _ h => h) (fun _ _ _ _ h => h) (.bool false) rfl (fun _ => rfl) ?_
              intro dn a8 w8 hS hd ho hn
              obtain rfl : w8 = _ := hS
              obtain ⟨_, n40, rfl⟩ := hn 2 40 (by kernel_rfl) rfl
              obtain ⟨_, n41, rfl⟩ := hn 3 41 (by kernel_rfl) rfl
              clear ho hn
              refine ⟨wanted_free rfl, ?_, rfl⟩
              go_simp
            rcases i with _ | i
            · refine doneIn_value (fun _ _ h => h) (fun _ _ _ _ h => h) (.bool false) rfl (fun _ => rfl) ?_
              intro dn a8 w8 hS hd ho hn
              obtain rfl : w8 = _ := hS
              obtain ⟨_, n42, rfl⟩ := hn 4 42 (by kernel_rfl) rfl
              clear ho hn
              refine ⟨wanted_free rfl, ?_, rfl⟩
              go_simp
            rcases i with _ | i
            · refine doneIn_skip (fun _ _ h => h) (fun _ _ _ _ h => h) rfl ?_
              intro dn a8 w8 hS hd ho hn
              obtain ⟨_, n43, rfl⟩ := hn 5 43 (by kernel_rfl) rfl
              exact ⟨unwanted_of 5 43 rfl rfl n43 rfl, rfl⟩
            rcases i with _ | i
            · refine doneIn_skip (fun _ _ h => h) (fun _ _ _ _ h => h) rfl ?_
              intro dn a8 w8 hS hd ho hn
              obtain ⟨_, n43, rfl⟩ := hn 5 43 (by kernel_rfl) rfl
              exact ⟨unwanted_of 5 43 rfl rfl n43 rfl, rfl⟩
            rcases i with _ | i
            · refine doneIn_skip (fun _ _ h => h) (fun _ _ _ _ h => h) rfl ?_
              intro dn a8 w8 hS hd ho hn
              obtain ⟨_, n43, rfl⟩ := hn 5 43 (by kernel_rfl) rfl
              exact ⟨unwanted_of 5 43 rfl rfl n43 rfl, rfl⟩
            rcases i with _ | i
            · refine doneIn_skip (fun _ _ h => h) (fun _ _ _ _ h => h) rfl ?_
              intro dn a8 w8 hS hd ho hn
              obtain ⟨_, n43, rfl⟩ := hn 5 43 (by kernel_rfl) rfl
              exact ⟨unwanted_of 5 43 rfl rfl n43 rfl, rfl⟩
            rcases i with _ | i
            · refine doneIn_skip (fun _ _ h => h) (fun _ _ _ _ h => h) rfl ?_
              intro dn a8 w8 hS hd ho hn
              obtain ⟨_, n43, rfl⟩ := hn 5 43 (by kernel_rfl) rfl
              exact ⟨unwanted_of 5 43 rfl rfl n43 rfl, rfl⟩
            rcases i with _ | i
            · refine doneIn_skip (fun _ _ h => h) (fun _ _ _ _ h => h) rfl ?_
              intro dn a8 w8 hS hd ho hn
              obtain ⟨_, n43, rfl⟩ := hn 5 43 (by kernel_rfl) rfl
              exact ⟨unwanted_of 5 43 rfl rfl n43 rfl, rfl⟩
            rcases i with _ | i
            · refine doneIn_value (fun _ _ h => h) (fun _ _ _ _ h => h) (.bool false) rfl (fun _ => rfl) ?_
              intro dn a8 w8 hS hd ho hn
              obtain rfl : w8 = _ := hS
              obtain ⟨_, n43, rfl⟩ := hn 5 43 (by kernel_rfl) rfl
              obtain ⟨_, n49, rfl⟩ := hn 11 49 (by kernel_rfl) rfl
              clear ho hn
              refine ⟨wanted_free rfl, ?_, rfl⟩
              go_simp
            omega
          · intro done f w8 hS hR _
            obtain rfl := hS
            have h50 : f 50 = .bool false := hR 12 50 (by kernel_rfl)
            clear hR
            simp only [putAll, List.foldl_cons, List.foldl_nil, Act.put, List.setIfInBounds_toArray, List.set_cons_succ, List.set_cons_zero, h50]
            clear h50
            gi_wp2
            go_roundw
            case rel => exact ⟨p + m1, pre, by have := HLEN.out; omega, by go_num, HREST.out, HJD.out _ _ 1 (HJD.out _ _ nq HJS.out), (HSS.out.drewN nq).drewN 1⟩
            case measure => simp [RowKit.intOf]; omega
        · gi_wp2
          gi_quiet_th (fail)
          gi_wp2_with (gi_at_call 34; with_reducible refine (callsIn_wide.2 (HIXE.out _ hend)).mono ?_; rintro e _ ⟨rfl, rfl⟩)
          obtain rfl : m1 = n := by omega
          refine wpIn_region_done_on (fun _ w => w = (wr.drewN nq).drew) (fun _ i v _ => v = ([.slice (some ⟨d.g, p, none⟩) m1 (d.c - p), .pointer (some ⟨d.g, p, none⟩), .bool x, .bool a, .bool false, .bool false, undef, undef, undef, undef, undef, undef, .bool false] : List Value).getD i undef) (by kernel_rfl) 54 rfl (by kernel_rfl) rfl ?_ ?_
          · intro i hi
            have hi2 : i < 13 := hi
            clear hi
            rcases i with _ | i
            · refine doneIn_value (fun _ _ h => h) (fun _ _ _ _ h => h) (.slice (some ⟨d.g, p, none⟩) m1 (d.c - p)) rfl (fun _ => rfl) ?_
              intro dn a8 w8 hS hd ho hn
              obtain rfl : w8 = _ := hS
              have o5 : a8.tmps[5]? = some _ := (ho 5 (by kernel_rfl)).trans rfl
              clear ho hn
              refine ⟨wanted_free rfl, ?_, rfl⟩
              go_simp
            rcases i with _ | i
            · refine doneIn_value (fun _ _ h => h) (fun _ _ _ _ h => h) (.pointer (some ⟨d.g, p, none⟩)) rfl (fun _ => rfl) ?_
              intro dn a8 w8 hS hd ho hn
              obtain rfl : w8 = _ := hS
              obtain ⟨_, n38, rfl⟩ := hn 0 38 (by kernel_rfl) rfl
              clear ho hn
              refine ⟨wanted_free rfl, ?_, rfl⟩
              go_simp
            rcases i with _ | i
            · refine doneIn_value (fun _ _ h => h) (fun _ _ _ _ h => h) (.bool x) rfl (fun _ => rfl) ?_
              intro dn a8 w8 hS hd ho hn
              obtain rfl : w8 = _ := hS
              obtain ⟨_, n39, rfl⟩ := hn 1 39 (by kernel_rfl) rfl
              clear ho hn
              refine ⟨wanted_free rfl, ?_, rfl⟩
              go_simp
            rcases i with _ | i
            · refine doneIn_value (fun _ _ h => h) (fun _ _ _ _ h => h) (.bool a) rfl (fun _ => rfl) ?_
              intro dn a8 w8 hS hd ho hn
              obtain rfl : w8 = _ := hS
              have o2 : a8.tmps[2]? = some _ := (ho 2 (by kernel_rfl)).trans rfl
              clear ho hn
              refine ⟨wanted_free rfl, ?_, rfl⟩
              go_simp
            rcases i with _ | i
            · refine doneIn_value (fun _ _ h => h) (fun _ _ _ _ h => h) (.bool false) rfl (fun _ => rfl) ?_
              intro dn a8 w8 hS hd ho hn
              obtain rfl : w8 = _ := hS
              obtain ⟨_, n40, rfl⟩ := hn 2 40 (by kernel_rfl) rfl
              obtain ⟨_, n41, rfl⟩ := hn 3 41 (by kernel_rfl) rfl
              clear ho hn
              refine ⟨wanted_free rfl, ?_, rfl⟩
              go_simp
            rcases i with _ | i
            · refine doneIn_value (fun _ _ h => h) (fun _ _ _ _ h => h) (.bool false) rfl (fun _ => rfl) ?_
              intro dn a8 w8 hS hd ho hn
              obtain rfl : w8 = _ := hS
              obtain ⟨_, n42, rfl⟩ := hn 4 42 (by kernel_rfl) rfl
              clear ho hn
              refine ⟨wanted_free rfl, ?_, rfl⟩
              go_simp
            rcases i with _ | i
            · refine doneIn_skip (fun _ _ h => h) (fun _ _ _ _ h => h) rfl ?_
              intro dn a8 w8 hS hd ho hn
              obtain ⟨_, n43, rfl⟩ := hn 5 43 (by kernel_rfl) rfl
              exact ⟨unwanted_of 5 43 rfl rfl n43 rfl, rfl⟩
            rcases i with _ | i
            · refine doneIn_skip (fun _ _ h => h) (fun _ _ _ _ h => h) rfl ?_
              intro dn a8 w8 hS hd ho hn
              obtain ⟨_, n43, rfl⟩ := hn 5 43 (by kernel_rfl) rfl
              exact ⟨unwanted_of 5 43 rfl rfl n43 rfl, rfl⟩
            rcases i with _ | i
            · refine doneIn_skip (fun _ _ h => h) (fun _ _ _ _ h => h) rfl ?_
              intro dn a8 w8 hS hd ho hn
              obtain ⟨_, n43, rfl⟩ := hn 5 43 (by kernel_rfl) rfl
              exact ⟨unwanted_of 5 43 rfl rfl n43 rfl, rfl⟩
            rcases i with _ | i
            · refine doneIn_skip (fun _ _ h => h) (fun _ _ _ _ h => h) rfl ?_
              intro dn a8 w8 hS hd ho hn
              obtain ⟨_, n43, rfl⟩ := hn 5 43 (by kernel_rfl) rfl
              exact ⟨unwanted_of 5 43 rfl rfl n43 rfl, rfl⟩
            rcases i with _ | i
            · refine doneIn_skip (fun _ _ h => h) (fun _ _ _ _ h => h) rfl ?_
              intro dn a8 w8 hS hd ho hn
              obtain ⟨_, n43, rfl⟩ := hn 5 43 (by kernel_rfl) rfl
              exact ⟨unwanted_of 5 43 rfl rfl n43 rfl, rfl⟩
            rcases i with _ | i
            · refine doneIn_skip (fun _ _ h => h) (fun _ _ _ _ h => h) rfl ?_
              intro dn a8 w8 hS hd ho hn
              obtain ⟨_, n43, rfl⟩ := hn 5 43 (by kernel_rfl) rfl
              exact ⟨unwanted_of 5 43 rfl rfl n43 rfl, rfl⟩
            rcases i with _ | i
            · refine doneIn_value (fun _ _ h => h) (fun _ _ _ _ h => h) (.bool false) rfl (fun _ => rfl) ?_
              intro dn a8 w8 hS hd ho hn
              obtain rfl : w8 = _ := hS
              obtain ⟨_, n43, rfl⟩ := hn 5 43 (by kernel_rfl) rfl
              obtain ⟨_, n49, rfl⟩ := hn 11 49 (by kernel_rfl) rfl
              clear ho hn
              refine ⟨wanted_free rfl, ?_, rfl⟩
              go_simp
            omega
          · intro done f w8 hS hR _
            obtain rfl := hS
            have h50 : f 50 = .bool false := hR 12 50 (by kernel_rfl)
            clear hR
            simp only [putAll, List.foldl_cons, List.foldl_nil, Act.put, List.setIfInBounds_toArray, List.set_cons_succ, List.set_cons_zero, h50]
            clear h50
            gi_wp2
            go_roundw
            case rel => exact ⟨p + m1, pre, by have := HLEN.out; omega, by go_num, HREST.out, HJD.out _ _ 1 (HJD.out _ _ nq HJS.out), (HSS.out.drewN nq).drewN 1⟩
            case measure => simp [RowKit.intOf]; omega
    · obtain rfl : p = s.L.length := by omega
      rw [runs_stop (Nat.le_refl _), List.append_nil] at hpre
      have c1 := hS.c1
      have ct := hS.t
      have HPRE := Lib.hid hpre
      have HJS := Lib.hid hJs
      clear hpre hJs hS HY
      rw [hto] at ct
      gi_wp2
      go_end0
      exact ⟨⟨_, rfl⟩, .inl ⟨_, HPRE.out, HJS.out⟩⟩
theorem runs_stops (m : Nat) (hm : 1 ≤ m) (q b1 b2 : Nat) (d : SpAt) (s : ESt) (a : Bool) (w : World) (h : EK w d s) (hr : RunsAt w b1 b2 d a) (hne : b1 ≠ q ∧ b2 ≠ q ∧ d.b ≠ q ∧ d.g ≠ q) :
    SeqStopsK Fence.wide m Try.prog 33 #[.pointer (some ⟨b1, 0, none⟩), .pointer (some ⟨b2, 0, none⟩)] (fun x : Run s a => #[runV s.f x.1]) (KpE q) (fun xs => xs.map (·.1) = runsAt s.L a 0) (fun xs => xs.map (·.1) <+: runsAt s.L a 0) 4096 w :=
  runs_stopsS m hm (fun k => k ≠ q) b1 b2 d s a w h hr hne
end
end Go.Proofs.Ytjndbibbfcmgiaa

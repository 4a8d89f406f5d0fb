/-
  Layer 13 (mold): gather maps as values; gather, ReshapeWay.
  Layer 13 (mold): ReshapeWay.
-/
import Derived.Test.YtenpohnccnlngaaMoList
import Derived.Test.YtenpohnccnlngaaWriter
import Derived.Laws.EntriesVeiled
namespace Go.Proofs.Ytenpohnccnlngaa.mo
open Go.RowKit Go.Proofs.Ytenpohnccnlngaa.arr

/-- Blocks of cells from B on are as they were. -/
structure Sin (B : Nat) (w w' : World) : Prop where
  size : w.heap.size ≤ w'.heap.size
  block : ∀ (k : Nat) (cs : Array Value) (t : TypeId) (fr : Nat × Nat), B ≤ k → w.heap[k]? = some (.cells cs t fr) → w'.heap[k]? = some (.cells cs t fr)
theorem Sin.of {B : Nat} {w w' : World} (h : Below w.heap.size w w') : Sin B w w' := ⟨h.size, fun k _ _ _ _ hk => (h.block k (Array.getElem?_eq_some_iff.1 hk).1).trans hk⟩
theorem Sin.on {B : Nat} {w w1 w2 : World} (h : Sin B w w1) (k : Sin B w1 w2) : Sin B w w2 := ⟨Nat.le_trans h.size k.size, fun i cs t fr hi hk => k.block i cs t fr hi (h.block i cs t fr hi hk)⟩
theorem Sin.less {B C : Nat} {w w' : World} (h : Sin C w w') (hC : C ≤ B) : Sin B w w' := ⟨h.size, fun i cs t fr hi hk => h.block i cs t fr (by omega) hk⟩
theorem Sin.keep {B : Nat} {S : Nat → Prop} {w w' : World} (h : Keep S w w') (hS : ∀ i, B ≤ i → ¬ S i) : Sin B w w' := ⟨h.size, fun k _ _ _ hk hc => (h.block k (Array.getElem?_eq_some_iff.1 hc).1 (hS k hk)).trans hc⟩
theorem Sin.put {B D : Nat} {w : World} {o : Obj} (hD : ∀ cs t fr, w.heap[D]? ≠ some (.cells cs t fr)) : Sin B w (w.putObj D o) := by
  have hg := grownBy_putObj' w D o
  exact ⟨hg.size, fun k cs t fr _ hc => (hg.block k (Array.getElem?_eq_some_iff.1 hc).1 (fun e => by injection e with e; subst e; exact hD cs t fr hc)).trans hc⟩
theorem Sin.blk_ {B g : Nat} {w w' : World} {t : TypeId} {cs : Array Value} (h : Sin B w w') (hb : Blk w g t cs) (hg : B ≤ g) : Blk w' g t cs := h.block g cs t _ hg hb
theorem Sin.own_ {B base size n : Nat} {w w' : World} {e : TypeId} {v : Value} {xs : List Value} (h : Sin B w w') (ho : w.ownsRow base e size v n xs) (hg : B ≤ base) : w'.ownsRow base e size v n xs := by
  refine ⟨ho.1, ?_⟩
  rcases ho.2 with hv | ⟨g, cap, cur, rfl, hb, hh, h1, h2, h3, h4⟩
  · exact .inl hv
  · exact .inr ⟨g, cap, cur, rfl, hb, h.block g _ _ _ (by omega) hh, h1, h2, h3, h4⟩

/-- v is a gather map, all of it made since B: its shape, and where its elements come from. -/
def WayAt (B : Nat) (W : World) (v : Value) (sh : List Int) (f : Nat → Int × Int) : Prop :=
  ∃ (A : Option Addr) (c gf : Nat) (cap : Array Value), v = .agg #[.slice A sh.length c, .func (.func gf) #[] cap] ∧ W.ownsRow B 3 1 (.slice A sh.length c) sh.length (sh.map iv) ∧ B ≤ W.heap.size ∧
    (∀ args w, (callFunc gf args).run Try.prog w = .ok (.enter gf args) w) ∧
    ∀ W', Sin B W W' → ∀ n : Nat, (n : Int) < prodI sh → Calls Try.prog gf (#[.int .i64 (n : Int)] ++ cap) W' fun e w' => e = .returned (.tuple #[.int .i64 (f n).1, .int .i64 (f n).2]) ∧ Below W'.heap.size W' w'
theorem WayAt.sin {B : Nat} {W W' : World} {v : Value} {sh : List Int} {f : Nat → Int × Int} (h : WayAt B W v sh f) (hs : Sin B W W') : WayAt B W' v sh f := by
  obtain ⟨A, c, gf, cap, h1, h2, h3, h4, h5⟩ := h
  exact ⟨A, c, gf, cap, h1, hs.own_ h2 (Nat.le_refl _), Nat.le_trans h3 hs.size, h4, fun W2 h6 => h5 W2 (hs.on h6)⟩
theorem WayAt.below {B : Nat} {W W' : World} {v : Value} {sh : List Int} {f : Nat → Int × Int} (h : WayAt B W v sh f) (hb : Below W.heap.size W W') : WayAt B W' v sh f := h.sin (Sin.of hb)
theorem WayAt.base {B C : Nat} {W : World} {v : Value} {sh : List Int} {f : Nat → Int × Int} (h : WayAt B W v sh f) (hC : C ≤ B) : WayAt C W v sh f := by
  obtain ⟨A, c, gf, cap, h1, h2, h3, h4, h5⟩ := h
  exact ⟨A, c, gf, cap, h1, arown_mono h2 hC, by omega, h4, fun W2 h6 => h5 W2 (h6.less hC)⟩
theorem WayAt.to {B : Nat} {W : World} {v : Value} {sh : List Int} {f g : Nat → Int × Int} (h : WayAt B W v sh f) (hg : ∀ n : Nat, (n : Int) < prodI sh → g n = f n) : WayAt B W v sh g := by
  obtain ⟨A, c, gf, cap, h1, h2, h3, h4, h5⟩ := h
  exact ⟨A, c, gf, cap, h1, h2, h3, h4, fun W2 h6 n hn => by rw [hg n hn]; exact h5 W2 h6 n hn⟩
abbrev noW : Value := .agg #[.slice none 0 0, .nilFunc]
/-- What a call for a gather map answers. -/
def GiveW (B : Nat) (sh : List Int) (f : Nat → Int × Int) (E : Int) (w : World) (e : Ending) (w' : World) : Prop :=
  ∃ v, e = .returned (.tuple #[v, .int .i64 E]) ∧ Below w.heap.size w w' ∧ (E = 0 → okShape sh = true ∧ WayAt B w' v sh f) ∧ (E ≠ 0 → v = noW)
theorem GiveW.no {B : Nat} {sh : List Int} {f : Nat → Int × Int} {E : Int} {w w' : World} (h : E ≠ 0) (hb : Below w.heap.size w w') : GiveW B sh f E w (.returned (.tuple #[noW, .int .i64 E])) w' := ⟨_, rfl, hb, fun e => absurd e h, fun _ => rfl⟩

/-! ### A gather map as a result -/
theorem load_way (w : World) (g : Nat) (x y : Value) (hb : Blk w g 37 #[x, y]) : (loadVar 37 ⟨g, 0, none⟩).run Try.prog w = .ok (.agg #[x, y]) w := by
  have h1 : w.rangeAt g 0 [x, y] := fun j v hv => by
    rw [Nat.zero_add, hb.cell]
    simpa using hv
  exact run_loadVar_mid w g 0 37 [x, y] _ h1 Try.underlying37 rfl (by kernel_rfl)
theorem results_way2 {fn : Func} {t i : Tmp} {tmps : Array Value} {w : World} {g : Nat} {x y v : Value} (h : fn.results = #[.cell t 37, .tmp i]) (ht : tmps.getD t undef = .pointer (some ⟨g, 0, none⟩)) (hv : tmps.getD i undef = v) (hb : Blk w g 37 #[x, y]) : (results fn tmps).run Try.prog w = .ok (.tuple #[.agg #[x, y], v]) w := by
  have h1 := load_way w g x y hb
  rw [Array.getD_eq_getD_getElem?] at ht hv
  simp [results, h, ht, h1, hv, asAddr]
theorem mokeep_two (W : World) (g : Nat) (x y : Value) : Keep (fun k => k = g) W ((W.setCell ⟨g, 0, none⟩ x).setCell ⟨g, 1, none⟩ y) := by
  have h1 : Keep (fun k => k = g) W (W.setCell ⟨g, 0, none⟩ x) := (Keep.refl _ _).setCell _ _ (fun _ => rfl)
  exact h1.setCell _ _ (fun _ => rfl)
theorem moblk_two {W : World} {g : Nat} {t : TypeId} {a b : Value} (x y : Value) (h : Blk W g t #[a, b]) : Blk ((W.setCell ⟨g, 0, none⟩ x).setCell ⟨g, 1, none⟩ y) g t #[x, y] :=
  (h.set_ 0 x).set_ 1 y

/-- The closure of gather: the count's box, and the rule's. -/
theorem mogather1_any (n : Nat) (N : Int) (b6 b3 rg : Nat) (rcap : Array Value) (hrg : ∀ args w, (callFunc rg args).run Try.prog w = .ok (.enter rg args) w) (V1 V2 : Int) (w : World) (hn : (n : Int) < N)
    (x6 : Blk w b6 3 #[.int .i64 N]) (x3 : Blk w b3 35 #[.func (.func rg) #[] rcap])
    (hc : Calls Try.prog rg (#[.int .i64 (n : Int)] ++ rcap) w fun e w' => e = .returned (.tuple #[.int .i64 V1, .int .i64 V2]) ∧ Below w.heap.size w w') :
    Calls Try.prog 125 #[.int .i64 (n : Int), .pointer (some ⟨b6, 0, none⟩), .pointer (some ⟨b3, 0, none⟩)] w fun e w' => e = .returned (.tuple #[.int .i64 V1, .int .i64 V2]) ∧ Below w.heap.size w w' := by
  have c6 := x6.cell 0
  have c3 := x3.cell 0
  have h1 : ¬ N ≤ (n : Int) := by omega
  have HC := Lib.hid hc
  clear hc x6 x3
  go_enter Try.func125, Try.ntmps125
  go_wp2_with ((with_reducible refine HC.out.mono ?_); rintro e w2 ⟨rfl, b2⟩)
  go_ret2
  exact ⟨rfl, b2⟩

set_option maxRecDepth 100000 in
set_option maxHeartbeats 4000000 in
theorem mogather_any (B : Nat) (A : Option Addr) (c : Nat) (sh : List Int) (rg : Nat) (rcap : Array Value) (hrg : ∀ args w, (callFunc rg args).run Try.prog w = .ok (.enter rg args) w) (f : Nat → Int × Int) (w : World)
    (ho : w.ownsRow B 3 1 (.slice A sh.length c) sh.length (sh.map iv)) (hB : B ≤ w.heap.size) (hs : sh.length ≤ 9223372036854775807)
    (hr : okShape sh = true → ∀ W', Sin B w W' → ∀ n : Nat, (n : Int) < prodI sh → Calls Try.prog rg (#[.int .i64 (n : Int)] ++ rcap) W' fun e w' => e = .returned (.tuple #[.int .i64 (f n).1, .int .i64 (f n).2]) ∧ Below W'.heap.size W' w') :
    Calls Try.prog 78 #[.slice A sh.length c, .func (.func rg) #[] rcap] w (GiveW B sh f (if okShape sh = true then 0 else 9) w) := by
  have hb2 := mobelow2 (w := w) (.cells #[.func (.func rg) #[] rcap] 35) (.cells #[.slice none 0 0, .nilFunc] 37)
  have h3 := (Blk.new w 35 #[.func (.func rg) #[] rcap]).alloc (.cells #[.slice none 0 0, .nilFunc] 37)
  have h4 := Blk.new (w.alloc (.cells #[.func (.func rg) #[] rcap] 35)) 37 #[.slice none 0 0, .nilFunc]
  rw [World.size_alloc] at h4
  have HC := Lib.hid (arcount_any A c sh.length sh _ rfl (((Reads.of_own ho).below hb2).more hb2.size) hs)
  obtain ⟨w1, hw1⟩ : ∃ w1, (w.alloc (.cells #[.func (.func rg) #[] rcap] 35)).alloc (.cells #[.slice none 0 0, .nilFunc] 37) = w1 := ⟨_, rfl⟩
  rw [hw1] at HC hb2 h3 h4
  have hsz : w1.heap.size = w.heap.size + 2 := by rw [← hw1]; simp
  cases hok : okShape sh
  · obtain ⟨e1, e2⟩ := cnt_no hok
    rw [e1, e2] at HC
    rw [if_neg (by decide)]
    have h5 := h4.alloc (.cells #[.int .i64 0] 3)
    have hb3 := bon hb2 (albel w1 (.cells #[.int .i64 0] 3))
    have x0 := h5.cell 0
    have x1 := h5.cell 1
    have f0 := h5.frozen 0
    have f1 := h5.frozen 1
    have H5 := Lib.hid h5
    have HB3 := Lib.hid hb3
    clear hr ho h3 h4 h5 hb2 hb3 hok e1 e2 hsz
    go_enter Try.func78, Try.ntmps78
    go_wp2_with (go_at_call 69; (try rw [hw1]); refine HC.out.mono ?_; rintro e _ ⟨rfl, rfl⟩)
    refine bodyPost_ret (results_way2 rfl rfl rfl (moblk_two _ _ H5.out)) rfl ?_
    exact GiveW.no (by decide) (HB3.out.trans ((mokeep_two _ _ _ _).below HB3.out.size (fun i hi e => by omega)))
  · obtain ⟨e1, e2⟩ := cnt_ok hok
    rw [e1, e2] at HC
    rw [if_pos rfl]
    have HR := Lib.hid (hr hok)
    generalize hq : prodI sh = q at *
    have h5 := h4.alloc (.cells #[.int .i64 q] 3)
    have h53 := h3.alloc (.cells #[.int .i64 q] 3)
    have h55 := Blk.new w1 3 #[.int .i64 q]
    have hb3 := bon hb2 (albel w1 (.cells #[.int .i64 q] 3))
    have x0 := h5.cell 0
    have x1 := h5.cell 1
    have f0 := h5.frozen 0
    have f1 := h5.frozen 1
    have H5 := Lib.hid h5
    have H53 := Lib.hid h53
    have H55 := Lib.hid h55
    have HB3 := Lib.hid hb3
    have HO := Lib.hid ho
    have HS := Lib.hid hsz
    have HQ := Lib.hid hq
    clear hr ho h3 h4 h5 h53 h55 hb2 hb3 e1 e2 hsz hq
    go_enter Try.func78, Try.ntmps78
    go_wp2_with (go_at_call 69; (try rw [hw1]); refine HC.out.mono ?_; rintro e _ ⟨rfl, rfl⟩)
    refine bodyPost_ret (results_way2 rfl rfl rfl (moblk_two _ _ H5.out)) rfl ?_
    have hk := mokeep_two (w1.alloc (.cells #[.int .i64 q] 3)) (w.heap.size + 1) (.slice A sh.length c) (.func (.func 125) #[] #[.pointer (some ⟨w1.heap.size, 0, none⟩), .pointer (some ⟨w.heap.size, 0, none⟩)])
    have hb4 := HB3.out.trans (hk.below HB3.out.size (fun i hi e => by omega))
    have hsz := HS.out
    have hq := HQ.out
    subst hq
    refine ⟨_, rfl, hb4, fun _ => ⟨hok, A, c, 125, _, rfl, (Sin.of hb4).own_ HO.out (Nat.le_refl _), Nat.le_trans hB hb4.size, enters_of Try.func125 (by kernel_rfl) rfl, fun W' hs' n hn => ?_⟩, fun h => absurd rfl h⟩
    have k3 := hs'.blk_ (hk.blk H53.out (by omega)) hB
    have k6 := hs'.blk_ (hk.blk H55.out (by omega)) (by omega)
    exact mogather1_any n (prodI sh) w1.heap.size w.heap.size rg rcap hrg _ _ W' hn k6 k3 (HR.out W' ((Sin.of hb4).on hs') n hn)

/-! ### ReshapeWay -/
def rshF (N : Int) (n : Nat) : Int × Int := if N = 0 then (-1, 0) else (0, (n : Int) % N)
theorem moreway2_any (N : Nat) (n b : Nat) (hN : N ≤ 4096) (hn : n ≤ 4096) (w : World) (hb : Blk w b 3 #[.int .i64 (N : Int)]) :
    Calls Try.prog 79 #[.int .i64 (n : Int), .pointer (some ⟨b, 0, none⟩)] w fun e w' => e = .returned (.tuple #[.int .i64 (rshF (N : Int) n).1, .int .i64 (rshF (N : Int) n).2]) ∧ Below w.heap.size w w' := by
  have x0 := hb.cell 0
  clear hb
  by_cases h0 : N = 0
  · subst h0
    have e : rshF ((0 : Nat) : Int) n = (-1, 0) := rfl
    rw [e]
    have hz : ((0 : Nat) : Int) = 0 := rfl
    rw [hz] at x0
    go_enter Try.func79, Try.ntmps79
    go_wp2
    go_ret2
    exact ⟨rfl, Below.refl _ _⟩
  · have e : rshF (N : Int) n = (0, ((n % N : Nat) : Int)) := by
      unfold rshF
      rw [if_neg (by omega)]
      rfl
    have h1 : ((N : Int) == 0) = false := by rw [beq_eq_false_iff_ne]; omega
    have h2 : ¬ (N : Int) = 0 := by omega
    have et : (n : Int).tmod (N : Int) = ((n % N : Nat) : Int) := (Int.ofNat_tmod n N).symm
    rw [e]
    obtain ⟨r, hr⟩ : ∃ r, n % N = r := ⟨_, rfl⟩
    have hr2 : r ≤ 4096 := by have := Nat.mod_le n N; omega
    rw [hr] at et ⊢
    clear e hr h0
    go_enter Try.func79, Try.ntmps79
    go_wp2
    go_quiet (fail)
    go_wp2
    go_ret2
    exact ⟨rfl, below_drewN (Below.refl _ _) _⟩
end Go.Proofs.Ytenpohnccnlngaa.mo

namespace Go.Proofs.Ytenpohnccnlngaa.mo
open Go.RowKit Go.Proofs.Ytenpohnccnlngaa.arr

def negB (x : Int) : Bool := decide (x < 0)
theorem moneg_any (x : Int) (w : World) : Calls Try.prog 77 #[.int .i64 x] w fun e w' => e = .returned (.bool (negB x)) ∧ w = w' := by
  unfold negB
  go_enter Try.func77, Try.ntmps77
  go_wp2
  go_ret
  exact ⟨rfl, rfl⟩

set_option maxHeartbeats 1000000 in
theorem monegidx_any (A : Option Addr) (c n : Nat) (l : List Int) (w : World) (hl : l.length = n) (ha : Reads w w.heap.size 1 A n (l.map iv)) (hn : n ≤ 9223372036854775807) :
    Calls Try.prog 124 #[.slice A n c, .func (.func 77) #[] #[]] w fun e w' => ∃ k : Int, e = .returned (.int .i64 k) ∧ (decide (k ≥ 0) = l.any negB) ∧ w = w' := by
  have HA := Lib.hid ha
  have HL := Lib.hid hl
  clear ha hl
  go_enter Try.func124, Try.ntmps124
  go_wp2
  go_loopw [8] (fun i wr => ∃ j, j ≤ n ∧ i = .int .i64 ((j : Nat) : Int) ∧ (l.take j).any negB = false ∧ wr = w) (fun i _ => n - (intOf i).toNat)
  case atStart => exact ⟨0, Nat.zero_le _, rfl, by simp, rfl⟩
  case round =>
    obtain ⟨j, hj, rfl, hni, rfl⟩ := hrel
    by_cases hlt : j < n
    · obtain ⟨adA, rfl, _, cA⟩ := HA.out.int_at hlt HL.out
      have hjl : j < l.length := by have := HL.out; omega
      have hin : l[j] ∈ l := List.getElem_mem hjl
      have hstep : negB l[j] = false → (l.take (j + 1)).any negB = false := fun h => by
        rw [List.take_succ_eq_append_getElem hjl, List.any_append, hni]
        simpa using h
      have hno : negB l[j] = true → l.any negB = true := fun h => by
        rw [List.any_eq_true]
        exact ⟨_, hin, h⟩
      generalize l[j] = y at *
      have HST := Lib.hid hstep
      have HNO := Lib.hid hno
      have HC := Lib.hid (moneg_any y wr)
      clear hin hstep hno hni
      cases hy : negB y
      · rw [hy] at HC
        have HY := Lib.hid hy
        clear hy
        go_wp2_with (go_at_call 77; refine HC.out.mono ?_; rintro e _ ⟨rfl, rfl⟩)
        exact ⟨⟨j + 1, by omega, by go_num, HST.out HY.out, trivial⟩, by simp [intOf]; omega⟩
      · rw [hy] at HC
        have HY := Lib.hid hy
        clear hy
        go_wp2_with (go_at_call 77; refine HC.out.mono ?_; rintro e _ ⟨rfl, rfl⟩)
        go_ret
        refine ⟨_, rfl, ?_, rfl⟩
        rw [HNO.out HY.out, decide_eq_true (by omega)]
    · obtain rfl : j = n := by omega
      have hall : l.any negB = false := by
        rwa [List.take_of_length_le (by have := HL.out; omega)] at hni
      have HALL := Lib.hid hall
      clear hall hni
      go_wp2
      go_ret
      refine ⟨_, rfl, ?_, rfl⟩
      rw [HALL.out]
      rfl

theorem moneghas_any (A : Option Addr) (c n : Nat) (l : List Int) (w : World) (hl : l.length = n) (ha : Reads w w.heap.size 1 A n (l.map iv)) (hn : n ≤ 9223372036854775807) :
    Calls Try.prog 76 #[.slice A n c, .func (.func 77) #[] #[]] w fun e w' => e = .returned (.bool (l.any negB)) ∧ w = w' := by
  have H := Lib.hid (monegidx_any A c n l w hl ha hn)
  clear ha hl
  go_enter Try.func76, Try.ntmps76
  go_wp2_with (go_at_call 124; refine H.out.mono ?_; rintro e _ ⟨k, rfl, hk, rfl⟩)
  go_ret
  exact ⟨by rw [← hk]; rfl, rfl⟩

/-- ReshapeWay's error. -/
def rwE (a : AV) (sh : List Int) : Int := if axE a sh ≠ 0 then axE a sh else if (axL a sh).any negB = true then 5 else if okShape (axL a sh) = true then 0 else 9
theorem axE_ok {a : AV} {sh : List Int} (h : axE a sh = 0) : okShape sh = true ∧ listE a = 0 := by
  unfold axE at h
  split at h
  · exact ⟨by assumption, h⟩
  · omega
theorem axL_len (a : AV) (sh : List Int) : (axL a sh).length ≤ 4096 := by
  unfold axL
  split
  · rename_i h
    rw [List.length_map]
    exact (okA_len (listE_ok (axE_ok h).2)).1
  · simp

set_option maxRecDepth 100000 in
set_option maxHeartbeats 4000000 in
theorem moreway_any (a : AV) (p : AP) (S : Option Addr) (c : Nat) (sh : List Int) (w : World) (h : AEl w a p) (rs : Reads w w.heap.size 1 S sh.length (sh.map iv)) (hs : sh.length ≤ 9223372036854775807) :
    Calls Try.prog 33 #[.agg (arC a p), .slice S sh.length c] w (GiveW w.heap.size (axL a sh) (rshF (prodI sh)) (rwE a sh) w) := by
  have hb2 := mobelow2 (w := w) (.cells (arC a p) 25) (.cells #[.slice none 0 0, .nilFunc] 37)
  have h2 := (Blk.new w 25 (arC a p)).alloc (.cells #[.slice none 0 0, .nilFunc] 37)
  have h4 := Blk.new (w.alloc (.cells (arC a p) 25)) 37 #[.slice none 0 0, .nilFunc]
  rw [World.size_alloc] at h4
  have HAX := Lib.hid (moaxis_any a p S c sh _ (h.below hb2) ((rs.below hb2).more hb2.size) hs)
  obtain ⟨w1, hw1⟩ : ∃ w1, (w.alloc (.cells (arC a p) 25)).alloc (.cells #[.slice none 0 0, .nilFunc] 37) = w1 := ⟨_, rfl⟩
  rw [hw1] at HAX hb2 h2 h4
  have hE : rwE a sh = if axE a sh ≠ 0 then axE a sh else if (axL a sh).any negB = true then 5 else if okShape (axL a sh) = true then 0 else 9 := rfl
  have hAL := axL_len a sh
  have HOK := Lib.hid (fun he : axE a sh = 0 => (axE_ok he).1)
  have hL0 : axE a sh ≠ 0 → axL a sh = [] := fun h => by unfold axL; rw [if_neg h]
  have HC := Lib.hid (fun W (hb : Below w.heap.size w W) => arcount_any S c sh.length sh W rfl ((rs.below hb).more hb.size) hs)
  have hAC : arC a p = #[.int .i64 a.kind, .slice p.A0 a.sh.length p.c0, .slice p.A1 a.el.length p.c1] := rfl
  rw [hAC] at HAX hw1 h2
  rw [hAC]
  have u0 := h2.cell 0
  have u1 := h2.cell 1
  have u2 := h2.cell 2
  have H4 := Lib.hid h4
  have HB2 := Lib.hid hb2
  generalize a.kind = ka at *
  generalize (Value.slice p.A0 a.sh.length p.c0) = sa at *
  generalize (Value.slice p.A1 a.el.length p.c1) = la at *
  obtain ⟨E, hEq⟩ : ∃ E, axE a sh = E := ⟨_, rfl⟩
  obtain ⟨L, hLq⟩ : ∃ L, axL a sh = L := ⟨_, rfl⟩
  rw [hEq, hLq] at HAX hE hL0
  rw [hLq] at hAL ⊢
  rw [hEq] at HOK
  clear h rs h2 h4 hb2 hAC hEq hLq
  by_cases h0 : E = 0
  case neg =>
    rw [if_pos h0] at hE
    rw [hE]
    have hne : (E != 0) = true := by simp [h0]
    obtain rfl := hL0 h0
    clear hE hL0 HC HOK
    have H0 := Lib.hid h0
    clear h0
    go_enter Try.func33, Try.ntmps33
    go_wp2_with (go_at_call 75; (try rw [hw1]); refine HAX.out.mono ?_; rintro e w2 ⟨A2, c2, rfl, o2, b2⟩; have hx := H4.out.below b2 H4.out.lt; have x0 := hx.cell 0; have x1 := hx.cell 1; have f0 := hx.frozen 0; have f1 := hx.frozen 1; have HX := Lib.hid hx; have HB3 := Lib.hid (bon HB2.out b2); clear o2 b2 hx)
    refine bodyPost_ret (results_way2 rfl rfl rfl (moblk_two _ _ HX.out)) rfl ?_
    exact GiveW.no H0.out (HB3.out.trans ((mokeep_two _ _ _ _).below HB3.out.size (fun i hi e => by omega)))
  subst h0
  rw [if_neg (fun h => h rfl)] at hE
  obtain ⟨nb, hnb⟩ : ∃ nb, L.any negB = nb := ⟨_, rfl⟩
  have hok := HOK.out rfl
  obtain ⟨e1, e2⟩ := cnt_ok hok
  rw [e1, e2] at HC
  have hPb := prodI_four (okShape_iff.1 hok).2.1 (okShape_iff.1 hok).1
  have hP4 := (okShape_iff.1 hok).2.2
  generalize prodI sh = P at *
  have HNH := Lib.hid (fun (A : Option Addr) (c : Nat) (W : World) (ha : Reads W W.heap.size 1 A L.length (L.map iv)) => moneghas_any A c L.length L W rfl ha (by omega))
  rw [hnb] at HNH hE
  clear hL0 HOK e1 e2 hok
  cases nb
  case true =>
    rw [if_pos rfl] at hE
    rw [hE]
    clear hE hnb HC hPb hP4
    go_enter Try.func33, Try.ntmps33
    go_wp2_with (first
      | (go_at_call 75; (try rw [hw1]); refine HAX.out.mono ?_; rintro e w2 ⟨A2, c2, rfl, o2, b2⟩; have hx := H4.out.below b2 H4.out.lt; have x0 := hx.cell 0; have x1 := hx.cell 1; have f0 := hx.frozen 0; have f1 := hx.frozen 1; have HX := Lib.hid hx; have HB3 := Lib.hid (bon HB2.out b2); have HR := Lib.hid (Reads.of_own o2); clear o2 b2 hx)
      | (go_at_call 76; refine (HNH.out A2 c2 w2 HR.out).mono ?_; rintro e _ ⟨rfl, rfl⟩))
    refine bodyPost_ret (results_way2 rfl rfl rfl (moblk_two _ _ HX.out)) rfl ?_
    exact GiveW.no (by decide) (HB3.out.trans ((mokeep_two _ _ _ _).below HB3.out.size (fun i hi e => by omega)))
  rw [if_neg (by decide)] at hE
  obtain ⟨N, rfl⟩ := Int.eq_ofNat_of_zero_le hPb.1
  have HGA : Hid (∀ (A2 : Option Addr) (c2 : Nat) (w2 w3 : World), Below w1.heap.size w1 w2 → w2.ownsRow w1.heap.size 3 1 (.slice A2 L.length c2) L.length (L.map iv) → w2.alloc (.cells #[.int .i64 (N : Int)] 3) = w3 →
      Calls Try.prog 78 #[.slice A2 L.length c2, .func (.func 79) #[] #[.pointer (some ⟨w2.heap.size, 0, none⟩)]] w3 (GiveW w1.heap.size L (rshF (N : Int)) (if okShape L = true then 0 else 9) w3)) := Lib.hid (fun A2 c2 w2 w3 hb o2 e3 => by
    have hbx : Blk w3 w2.heap.size 3 #[.int .i64 (N : Int)] := by rw [← e3]; exact Blk.new w2 _ _
    have hb3 : Below w2.heap.size w2 w3 := by rw [← e3]; exact albel _ _
    refine mogather_any w1.heap.size A2 c2 L 79 _ (enters_of Try.func79 (by kernel_rfl) rfl) (rshF (N : Int)) w3 ((Sin.of hb3).own_ o2 (Nat.le_refl _)) (by have := hb.size; have := hb3.size; omega) (by omega) (fun hk W' hs' n hn => ?_)
    exact moreway2_any N n w2.heap.size (by omega) (by have := (okShape_iff.1 hk).2.2; omega) W' (hs'.blk_ hbx hb.size))
  have HNN := Lib.hid hnb
  clear hnb hPb hP4
  cases hok : okShape L
  · rw [hok, if_neg (by decide)] at hE HGA
    rw [hE]
    clear hE
    go_enter Try.func33, Try.ntmps33
    go_wp2_with (first
      | (go_at_call 75; (try rw [hw1]); refine HAX.out.mono ?_; rintro e w2 ⟨A2, c2, rfl, o2, b2⟩; have HX2 := Lib.hid (H4.out.below b2 H4.out.lt); have HB3 := Lib.hid (bon HB2.out b2); have HR := Lib.hid (Reads.of_own o2); have HO2 := Lib.hid o2; have HB12 := Lib.hid b2; clear o2 b2)
      | (go_at_call 76; refine (HNH.out A2 c2 w2 HR.out).mono ?_; rintro e _ ⟨rfl, rfl⟩)
      | (go_at_call 69; refine (HC.out w2 HB3.out).mono ?_; rintro e _ ⟨rfl, rfl⟩)
      | (go_at_call 78; refine (HGA.out A2 c2 w2 _ HB12.out HO2.out rfl).mono ?_; rintro e w4 ⟨v, rfl, b4, hy, hn⟩
         have hb4 := bon HB3.out (bon (albel w2 (.cells #[.int .i64 (N : Int)] 3)) b4)
         have hx := (HX2.out.alloc (.cells #[.int .i64 (N : Int)] 3)).below b4 (by have := HX2.out.lt; simp; omega)
         obtain rfl := hn (by decide)
         have x0 := hx.cell 0
         have x1 := hx.cell 1
         have f0 := hx.frozen 0
         have f1 := hx.frozen 1
         have HX := Lib.hid hx
         have HB4 := Lib.hid hb4
         clear hn
         clear hx b4 hb4 hy))
    refine bodyPost_ret (results_way2 rfl rfl rfl (moblk_two _ _ HX.out)) rfl ?_
    have hk := mokeep_two w4 (w.heap.size + 1) (.slice none 0 0) (.nilFunc)
    have h41 := H4.out.lt
    exact GiveW.no (by decide) (HB4.out.trans (hk.below HB4.out.size (fun i hi e => by omega)))
  · rw [hok, if_pos rfl] at hE HGA
    rw [hE]
    clear hE
    go_enter Try.func33, Try.ntmps33
    go_wp2_with (first
      | (go_at_call 75; (try rw [hw1]); refine HAX.out.mono ?_; rintro e w2 ⟨A2, c2, rfl, o2, b2⟩; have HX2 := Lib.hid (H4.out.below b2 H4.out.lt); have HB3 := Lib.hid (bon HB2.out b2); have HR := Lib.hid (Reads.of_own o2); have HO2 := Lib.hid o2; have HB12 := Lib.hid b2; clear o2 b2)
      | (go_at_call 76; refine (HNH.out A2 c2 w2 HR.out).mono ?_; rintro e _ ⟨rfl, rfl⟩)
      | (go_at_call 69; refine (HC.out w2 HB3.out).mono ?_; rintro e _ ⟨rfl, rfl⟩)
      | (go_at_call 78; go_loud (
         refine (HGA.out A2 c2 w2 _ HB12.out HO2.out rfl).mono ?_
         rintro e w4 ⟨v, rfl, b4, hy, hn⟩
         have hb4 := bon HB3.out (bon (albel w2 (.cells #[.int .i64 (N : Int)] 3)) b4)
         have hx := (HX2.out.alloc (.cells #[.int .i64 (N : Int)] 3)).below b4 (by have := HX2.out.lt; simp; omega)
         obtain ⟨hok4, A4, c4, gf4, cap4, rfl, hy5⟩ := hy rfl
         have x0 := hx.cell 0
         have x1 := hx.cell 1
         have f0 := hx.frozen 0
         have f1 := hx.frozen 1
         have HX := Lib.hid hx
         have HB4 := Lib.hid hb4
         have HY : Hid (WayAt w1.heap.size w4 (.agg #[.slice A4 L.length c4, .func (.func gf4) #[] cap4]) L (rshF (N : Int))) := Lib.hid ⟨A4, c4, gf4, cap4, rfl, hy5⟩
         have HOK4 := Lib.hid hok4
         clear hok4
         clear hx b4 hb4 hy hy5)))
    refine bodyPost_ret (results_way2 rfl rfl rfl (moblk_two _ _ HX.out)) rfl ?_
    have hk := mokeep_two w4 (w.heap.size + 1) (.slice A4 L.length c4) (.func (.func gf4) #[] cap4)
    have h41 := H4.out.lt
    exact ⟨_, rfl, HB4.out.trans (hk.below HB4.out.size (fun i hi e => by omega)), fun h => ⟨HOK4.out, ((HY.out).sin (Sin.keep hk (fun i hi e => by omega))).base HB2.out.size⟩, fun h => absurd rfl h⟩
end Go.Proofs.Ytenpohnccnlngaa.mo

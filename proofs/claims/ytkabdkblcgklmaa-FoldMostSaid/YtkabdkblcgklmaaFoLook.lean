/-
  Layer 16 (fold): the calls that only look: check, others, product, Rows, rowsOf.
-/
import Derived.Test.YtkabdkblcgklmaaFoRow
import Derived.Test.YtkabdkblcgklmaaDone
namespace Go.Proofs.Ytkabdkblcgklmaa.fo
open Go.RowKit Go.Proofs.Ytkabdkblcgklmaa.arr Go.Proofs.Ytkabdkblcgklmaa.sc

def chkE (fs : List Int) (ls : List AV) : Int := if fs.all binB = false then 2 else if ls.all okA = false then 110 else 0
theorem fochk1_any (f : Int) (w : World) : Calls Try.prog 155 #[.int .i64 f] w fun e w' => e = .returned (.bool (!binB f)) ∧ Below w.heap.size w w' := by
  have H := Lib.hid (scbin_any f w)
  generalize binB f = b at *
  go_enter Try.func155, Try.ntmps155
  go_wp2_with (go_at_call 52; refine H.out.mono ?_; rintro e w2 ⟨rfl, b2⟩)
  go_ret
  exact ⟨rfl, b2⟩
theorem fochk2_any (a : AV) (p : AP) (w : World) (h : AEl w a p) : Calls Try.prog 156 #[.agg (arC a p)] w fun e w' => e = .returned (.bool (!okA a)) ∧ Below w.heap.size w w' := by
  have hb := AEl.box h
  obtain ⟨w1, hw1⟩ : ∃ w1, w.alloc (.cells (arC a p) 25) = w1 := ⟨_, rfl⟩
  rw [hw1] at hb
  have H := Lib.hid (archeck_any a p w1 hb.el)
  have hLC : arC a p = #[.int .i64 a.kind, .slice p.A0 a.sh.length p.c0, .slice p.A1 a.el.length p.c1] := rfl
  have x0 := hb.blk.cell 0
  have x1 := hb.blk.cell 1
  have x2 := hb.blk.cell 2
  have HB := Lib.hid hb.b
  rw [hLC] at H hw1 x0 x1 x2
  rw [hLC]
  unfold checkE at H
  clear hb h hLC
  cases ho : okA a
  · rw [ho, if_neg (by decide)] at H
    clear ho
    go_enter Try.func156, Try.ntmps156
    go_wp2_with (go_at_call 21; refine H.out.mono ?_; rintro e w2 ⟨rfl, b2⟩)
    go_ret
    exact ⟨rfl, HB.out.trans (b2.mono HB.out.size)⟩
  · rw [ho, if_pos rfl] at H
    clear ho
    go_enter Try.func156, Try.ntmps156
    go_wp2_with (go_at_call 21; refine H.out.mono ?_; rintro e w2 ⟨rfl, b2⟩)
    go_ret
    exact ⟨rfl, HB.out.trans (b2.mono HB.out.size)⟩

set_option maxHeartbeats 1000000 in
theorem foidxf_any (A : Option Addr) (c n : Nat) (l : List Int) (w : World) (hl : l.length = n) (ha : Reads w w.heap.size 1 A n (l.map iv)) (hn : n ≤ 9223372036854775807) :
    Calls Try.prog 182 #[.slice A n c, .func (.func 155) #[] #[]] w fun e w' => ∃ k : Int, e = .returned (.int .i64 k) ∧ (decide (k ≥ 0) = !(l.all binB)) ∧ Below w.heap.size w w' := by
  have HA := Lib.hid ha
  have HL := Lib.hid hl
  clear ha hl
  go_enter Try.func182, Try.ntmps182
  go_wp2
  go_loopw [8] (fun i wr => ∃ j, j ≤ n ∧ i = .int .i64 ((j : Nat) : Int) ∧ (l.take j).all binB = true ∧ Below w.heap.size w wr) (fun i _ => n - (intOf i).toNat)
  case atStart => exact ⟨0, Nat.zero_le _, rfl, by simp, Below.refl _ _⟩
  case round =>
    obtain ⟨j, hj, rfl, hni, hb⟩ := hrel
    by_cases hlt : j < n
    · obtain ⟨adA, rfl, _, cA⟩ := (HA.out.below hb).int_at hlt HL.out
      have hjl : j < l.length := by have := HL.out; omega
      have hin : l[j] ∈ l := List.getElem_mem hjl
      have hstep : binB l[j] = true → (l.take (j + 1)).all binB = true := fun h => by
        rw [List.take_succ_eq_append_getElem hjl, List.all_append, hni]
        simpa using h
      have hno : binB l[j] = false → l.all binB = false := fun h => by
        rw [List.all_eq_false]
        exact ⟨_, hin, by rw [h]; decide⟩
      generalize l[j] = y at *
      have HST := Lib.hid hstep
      have HNO := Lib.hid hno
      have HB := Lib.hid hb
      have HC := Lib.hid (fochk1_any y wr)
      clear hin hstep hno hni hb
      cases hy : binB y
      · rw [hy] at HC
        have HY := Lib.hid hy
        clear hy
        go_wp2_with (go_at_call 155; refine HC.out.mono ?_; rintro e w2 ⟨rfl, b2⟩)
        go_ret
        refine ⟨_, rfl, ?_, HB.out.trans (b2.mono HB.out.size)⟩
        rw [HNO.out HY.out, decide_eq_true (by omega)]
        rfl
      · rw [hy] at HC
        have HY := Lib.hid hy
        clear hy
        go_wp2_with (go_at_call 155; refine HC.out.mono ?_; rintro e w2 ⟨rfl, b2⟩)
        exact ⟨⟨j + 1, by omega, by go_num, HST.out HY.out, HB.out.trans (b2.mono HB.out.size)⟩, by simp [intOf]; omega⟩
    · obtain rfl : j = n := by omega
      have hall : l.all binB = true := by
        rwa [List.take_of_length_le (by have := HL.out; omega)] at hni
      have HALL := Lib.hid hall
      have HB := Lib.hid hb
      clear hall hni hb
      go_wp2
      go_ret
      refine ⟨_, rfl, ?_, HB.out⟩
      rw [HALL.out]
      rfl
theorem fohasf_any (A : Option Addr) (c n : Nat) (l : List Int) (w : World) (hl : l.length = n) (ha : Reads w w.heap.size 1 A n (l.map iv)) (hn : n ≤ 9223372036854775807) :
    Calls Try.prog 112 #[.slice A n c, .func (.func 155) #[] #[]] w fun e w' => e = .returned (.bool (!(l.all binB))) ∧ Below w.heap.size w w' := by
  have H := Lib.hid (foidxf_any A c n l w hl ha hn)
  clear ha hl
  go_enter Try.func112, Try.ntmps112
  go_wp2_with (go_at_call 182; refine H.out.mono ?_; rintro e w2 ⟨k, rfl, hk, b2⟩)
  go_ret
  exact ⟨by rw [← hk]; rfl, b2⟩
/-- Arrays in a row at g. -/
structure Ars (W : World) (g : Nat) (ls : List AV) : Prop where
  lt : g < W.heap.size
  at_ : ∀ (i : Nat) (a : AV), ls[i]? = some a → ∃ p, AEl W a p ∧ W.cell? ⟨g, i * 3, none⟩ = some (.int .i64 a.kind) ∧ W.cell? ⟨g, i * 3 + 1, none⟩ = some (.slice p.A0 a.sh.length p.c0) ∧ W.cell? ⟨g, i * 3 + 2, none⟩ = some (.slice p.A1 a.el.length p.c1)
theorem Ars.below {W W' : World} {g : Nat} {ls : List AV} (h : Ars W g ls) (hb : Below W.heap.size W W') : Ars W' g ls :=
  ⟨Nat.lt_of_lt_of_le h.lt hb.size, fun i a ha => by
    obtain ⟨p, h1, h2, h3, h4⟩ := h.at_ i a ha
    exact ⟨p, h1.below hb, (hb.cell h.lt).trans h2, (hb.cell h.lt).trans h3, (hb.cell h.lt).trans h4⟩⟩
theorem Ars.one {W : World} {a : AV} {p : AP} (h : AEl W a p) : Ars (W.alloc (.cells (arC a p) 25)) W.heap.size [a] := by
  refine ⟨by simp, fun i x hx => ?_⟩
  rcases i with _ | i
  · injection hx with hx
    subst hx
    exact ⟨p, h.below (alloc_below _ _), (Blk.new W 25 (arC a p)).cell 0, (Blk.new W 25 (arC a p)).cell 1, (Blk.new W 25 (arC a p)).cell 2⟩
  · simp at hx
theorem Ars.two {W : World} {a b : AV} {p q : AP} (h : AEl W a p) (k : AEl W b q) : Ars (W.alloc (.cells #[.int .i64 a.kind, .slice p.A0 a.sh.length p.c0, .slice p.A1 a.el.length p.c1, .int .i64 b.kind, .slice q.A0 b.sh.length q.c0, .slice q.A1 b.el.length q.c1] 25)) W.heap.size [a, b] := by
  refine ⟨by simp, fun i x hx => ?_⟩
  rcases i with _ | i
  · injection hx with hx
    subst hx
    exact ⟨p, h.below (alloc_below _ _), (Blk.new W 25 _).cell 0, (Blk.new W 25 _).cell 1, (Blk.new W 25 _).cell 2⟩
  · rcases i with _ | i
    · injection hx with hx
      subst hx
      exact ⟨q, k.below (alloc_below _ _), (Blk.new W 25 _).cell 3, (Blk.new W 25 _).cell 4, (Blk.new W 25 _).cell 5⟩
    · simp at hx
set_option maxHeartbeats 1000000 in
theorem foidxa_any (g c n : Nat) (l : List AV) (w : World) (hl : l.length = n) (ha : Ars w g l) (hn : n ≤ 100) :
    Calls Try.prog 196 #[.slice (some ⟨g, 0, none⟩) n c, .func (.func 156) #[] #[]] w fun e w' => ∃ k : Int, e = .returned (.int .i64 k) ∧ (decide (k ≥ 0) = !(l.all okA)) ∧ Below w.heap.size w w' := by
  have HA := Lib.hid ha
  have HL := Lib.hid hl
  clear ha hl
  go_enter Try.func196, Try.ntmps196
  go_wp2
  go_loopw [8] (fun i wr => ∃ j, j ≤ n ∧ i = .int .i64 ((j : Nat) : Int) ∧ (l.take j).all okA = true ∧ Below w.heap.size w wr) (fun i _ => n - (intOf i).toNat)
  case atStart => exact ⟨0, Nat.zero_le _, rfl, by simp, Below.refl _ _⟩
  case round =>
    obtain ⟨j, hj, rfl, hni, hb⟩ := hrel
    by_cases hlt : j < n
    · have hjl : j < l.length := by have := HL.out; omega
      obtain ⟨p, hp, c0, c1, c2⟩ := (HA.out.below hb).at_ j l[j] (List.getElem?_eq_getElem hjl)
      have hin : l[j] ∈ l := List.getElem_mem hjl
      have hstep : okA l[j] = true → (l.take (j + 1)).all okA = true := fun h => by
        rw [List.take_succ_eq_append_getElem hjl, List.all_append, hni]
        simpa using h
      have hno : okA l[j] = false → l.all okA = false := fun h => by
        rw [List.all_eq_false]
        exact ⟨_, hin, by rw [h]; decide⟩
      generalize l[j] = y at *
      have HST := Lib.hid hstep
      have HNO := Lib.hid hno
      have HB := Lib.hid hb
      have HC := Lib.hid (fochk2_any y p wr hp)
      have hLC : arC y p = #[.int .i64 y.kind, .slice p.A0 y.sh.length p.c0, .slice p.A1 y.el.length p.c1] := rfl
      rw [hLC] at HC
      clear hin hstep hno hni hb hLC hp
      cases hy : okA y
      · rw [hy] at HC
        have HY := Lib.hid hy
        clear hy
        go_wp2_with (go_at_call 156; refine HC.out.mono ?_; rintro e w2 ⟨rfl, b2⟩)
        go_ret
        refine ⟨_, rfl, ?_, HB.out.trans (b2.mono HB.out.size)⟩
        rw [HNO.out HY.out, decide_eq_true (by omega)]
        rfl
      · rw [hy] at HC
        have HY := Lib.hid hy
        clear hy
        go_wp2_with (go_at_call 156; refine HC.out.mono ?_; rintro e w2 ⟨rfl, b2⟩)
        exact ⟨⟨j + 1, by omega, by go_num, HST.out HY.out, HB.out.trans (b2.mono HB.out.size)⟩, by simp [intOf]; omega⟩
    · obtain rfl : j = n := by omega
      have hall : l.all okA = true := by
        rwa [List.take_of_length_le (by have := HL.out; omega)] at hni
      have HALL := Lib.hid hall
      have HB := Lib.hid hb
      clear hall hni hb
      go_wp2
      go_ret
      refine ⟨_, rfl, ?_, HB.out⟩
      rw [HALL.out]
      rfl
theorem fohasa_any (g c n : Nat) (l : List AV) (w : World) (hl : l.length = n) (ha : Ars w g l) (hn : n ≤ 100) :
    Calls Try.prog 157 #[.slice (some ⟨g, 0, none⟩) n c, .func (.func 156) #[] #[]] w fun e w' => e = .returned (.bool (!(l.all okA))) ∧ Below w.heap.size w w' := by
  have H := Lib.hid (foidxa_any g c n l w hl ha hn)
  clear ha hl
  go_enter Try.func157, Try.ntmps157
  go_wp2_with (go_at_call 196; refine H.out.mono ?_; rintro e w2 ⟨k, rfl, hk, b2⟩)
  go_ret
  exact ⟨by rw [← hk]; rfl, b2⟩
theorem fochk_any (A : Option Addr) (c n : Nat) (fs : List Int) (g d m : Nat) (ls : List AV) (w : World) (hl : fs.length = n) (hr : Reads w w.heap.size 1 A n (fs.map iv)) (hn : n ≤ 100) (hm : ls.length = m) (ha : Ars w g ls) (hm1 : m ≤ 100) :
    Calls Try.prog 90 #[.slice A n c, .slice (some ⟨g, 0, none⟩) m d] w fun e w' => e = .returned (.int .i64 (chkE fs ls)) ∧ Below w.heap.size w w' := by
  have HF := Lib.hid (fohasf_any A c n fs w hl hr (by omega))
  have HG := Lib.hid (fun W (h : Below w.heap.size w W) => fohasa_any g d m ls W hm (ha.below h) hm1)
  unfold chkE
  clear hl hr hm ha
  cases h1 : fs.all binB
  · rw [h1] at HF
    rw [if_pos rfl]
    clear h1 HG
    go_enter Try.func90, Try.ntmps90
    go_wp2_with (go_at_call 112; refine HF.out.mono ?_; rintro e w2 ⟨rfl, b2⟩)
    go_ret
    exact ⟨rfl, b2⟩
  rw [h1] at HF
  rw [if_neg (by decide)]
  cases h2 : ls.all okA
  · rw [h2] at HG
    rw [if_pos rfl]
    clear h1 h2
    go_enter Try.func90, Try.ntmps90
    go_wp2_with (first
      | (go_at_call 157; refine (HG.out _ b2).mono ?_; rintro e w3 ⟨rfl, b3⟩)
      | (go_at_call 112; refine HF.out.mono ?_; rintro e w2 ⟨rfl, b2⟩))
    go_ret
    exact ⟨rfl, below_on b2 b3⟩
  · rw [h2] at HG
    rw [if_neg (by decide)]
    clear h1 h2
    go_enter Try.func90, Try.ntmps90
    go_wp2_with (first
      | (go_at_call 157; refine (HG.out _ b2).mono ?_; rintro e w3 ⟨rfl, b3⟩)
      | (go_at_call 112; refine HF.out.mono ?_; rintro e w2 ⟨rfl, b2⟩))
    go_ret
    exact ⟨rfl, below_on b2 b3⟩

/-! ### Rows -/
theorem reads_pre {W : World} {B n k : Nat} {A : Option Addr} {l : List Int} (h : Reads W B 1 A n (l.map iv)) (hk : k ≤ n) : Reads W B 1 A k ((l.take k).map iv) := by
  refine ⟨by rw [List.length_map, List.length_take]; have := h.1; rw [List.length_map] at this; omega, fun h0 => ?_⟩
  obtain ⟨ad, e, hb, hc⟩ := h.2 (by omega)
  refine ⟨ad, e, hb, fun j u hu => hc j u ?_⟩
  rw [List.getElem?_map] at hu ⊢
  by_cases hj : j < k
  · rwa [List.getElem?_take_of_lt hj] at hu
  · rw [List.getElem?_eq_none (by rw [List.length_take]; omega)] at hu
    cases hu
theorem reads_win {W : World} {B n i k cap : Nat} {A : Option Addr} {l : List Int} (h : Reads W B 1 A n (l.map iv)) (hk : i + k ≤ n) (hc : n ≤ cap) : Reads W B 1 (if cap = i then A else A.map (·.add i)) k (((l.drop i).take k).map iv) := by
  have h1 := h.cut (k := i) (cap := cap) (by omega) hc
  rw [Nat.mul_one] at h1
  rw [← List.map_drop] at h1
  exact reads_pre h1 (by omega)
theorem foprod_any (A : Option Addr) (c n : Nat) (l : List Int) (w : World) (hl : l.length = n) (ha : Reads w w.heap.size 1 A n (l.map iv)) (h4 : n ≤ 4) (hall : l.all lenOk = true) :
    Calls Try.prog 74 #[.slice A n c] w fun e w' => e = .returned (.int .i64 (prodI l)) ∧ w = w' := by
  have HA := Lib.hid ha
  have HL := Lib.hid hl
  have HALL := Lib.hid hall
  clear ha hl hall
  go_enter Try.func74, Try.ntmps74
  go_wp2
  go_loopw [8, 3] (fun i p wr => ∃ j, j ≤ n ∧ i = .int .i64 ((j : Nat) : Int) ∧ p = .int .i64 (prodI (l.take j)) ∧ wr = w) (fun i _ _ => n - (intOf i).toNat)
  case atStart => exact ⟨0, Nat.zero_le _, rfl, rfl, rfl⟩
  case round =>
    obtain ⟨j, hj, rfl, rfl, rfl⟩ := hrel
    by_cases hlt : j < n
    · obtain ⟨adA, rfl, _, cA⟩ := HA.out.int_at hlt HL.out
      have hjl : j < l.length := by have := HL.out; omega
      have hq := prodI_snoc l hjl
      have hb := prodI_four (all_take HALL.out (j + 1)) (by rw [List.length_take]; omega)
      generalize l[j] = x at *
      generalize prodI (l.take j) = p at *
      generalize hQ : prodI (l.take (j + 1)) = q at *
      have HQ := Lib.hid hQ
      obtain ⟨hb1, hb2⟩ := hb
      have hq' : p * x = q := hq.symm
      clear hq hQ
      go_wp2
      exact ⟨⟨j + 1, by omega, by go_num, by rw [HQ.out], trivial⟩, by simp [intOf]; omega⟩
    · obtain rfl : j = n := by omega
      rw [List.take_of_length_le (by have := HL.out; omega)]
      go_wp2
      go_ret
      exact ⟨rfl, rfl⟩
theorem foother_any (A : Option Addr) (n c : Nat) (w : World) (h0 : A = none → n = 0 ∧ c = 0) (hc : n ≤ c) (hn : n ≤ 100) :
    Calls Try.prog 75 #[.slice A n c] w fun e w' => e = .returned (.slice A (n - 1) c) ∧ w = w' := by
  cases A with
  | none =>
    obtain ⟨rfl, rfl⟩ := h0 rfl
    go_enter Try.func75, Try.ntmps75
    go_wp2
    go_ret
    exact ⟨rfl, rfl⟩
  | some ad =>
    rcases n with _ | n
    · go_enter Try.func75, Try.ntmps75
      go_wp2
      go_ret
      exact ⟨rfl, rfl⟩
    · have h1 : ((n + 1 : Nat) : Int) = (n : Int) + 1 := by omega
      have h2 : max ((n : Int) + 1) 1 = (n : Int) + 1 := by omega
      go_enter Try.func75, Try.ntmps75
      go_wp2
      go_ret
      exact ⟨rfl, rfl⟩
/-- Rows. -/
def rowsV (sh : List Int) : Int × Int := if okShape sh = false then (0, 0) else (prodI (othL sh), longI sh)
theorem long_ok {sh : List Int} (h : okShape sh = true) : 0 ≤ longI sh ∧ longI sh ≤ 4096 := by
  unfold longI
  split
  · omega
  · rename_i h0
    have hm : sh.length - 1 < sh.length := by omega
    rw [List.getD_eq_getElem?_getD, List.getElem?_eq_getElem hm]
    exact lenOk_iff.1 (List.all_eq_true.1 (okShape_iff.1 h).2.1 _ (List.getElem_mem hm))
set_option maxRecDepth 100000 in
set_option maxHeartbeats 4000000 in
theorem forows_any (A : Option Addr) (n c : Nat) (sh : List Int) (w : World) (hl : sh.length = n) (ha : Reads w w.heap.size 1 A n (sh.map iv)) (hn : n ≤ 9223372036854775807) (hc : n ≤ c) :
    Calls Try.prog 32 #[.slice A n c] w fun e w' => e = .returned (.tuple #[.int .i64 (rowsV sh).1, .int .i64 (rowsV sh).2]) ∧ Below w.heap.size w w' := by
  have HC := Lib.hid (arcount_any A c n sh w hl ha hn)
  cases hok : okShape sh
  · obtain ⟨e1, e2⟩ := cnt_no hok
    rw [e1, e2] at HC
    have hv : rowsV sh = (0, 0) := by unfold rowsV; rw [hok, if_pos rfl]
    rw [hv]
    clear ha hok e1 e2 hv hc hl
    go_enter Try.func32, Try.ntmps32
    go_wp2_with (go_at_call 63; refine HC.out.mono ?_; rintro e _ ⟨rfl, rfl⟩)
    go_ret2
    exact ⟨rfl, Below.refl _ _⟩
  obtain ⟨e1, e2⟩ := cnt_ok hok
  rw [e1, e2] at HC
  have hv : rowsV sh = (prodI (othL sh), longI sh) := by unfold rowsV; rw [hok, if_neg (by decide)]
  rw [hv]
  obtain ⟨Z, hZ⟩ : ∃ Z, prodI sh = Z := ⟨_, rfl⟩
  rw [hZ] at HC
  rcases n with _ | m
  · have hs : sh = [] := List.eq_nil_of_length_eq_zero hl
    subst hs
    rw [show prodI (othL []) = 1 from rfl, show longI [] = 1 from rfl]
    clear ha hok e1 e2 hv hc hl hZ
    go_enter Try.func32, Try.ntmps32
    go_wp2_with (go_at_call 63; refine HC.out.mono ?_; rintro e _ ⟨rfl, rfl⟩)
    go_ret2
    exact ⟨rfl, Below.refl _ _⟩
  · have hm : m < sh.length := by omega
    have hm4 : m + 1 ≤ 4 := by have := (okShape_iff.1 hok).1; omega
    obtain ⟨ad, rfl, hla, _⟩ := ha.int_at (k := m) (by omega) hl
    have hot : othL sh = sh.take m := by unfold othL; rw [hl]; rfl
    have hlg : longI sh = sh[m] := by
      unfold longI
      rw [if_neg (by omega), hl, Nat.add_sub_cancel, List.getD_eq_getElem?_getD, List.getElem?_eq_getElem hm]
      rfl
    have hpb := prodI_four (all_take (okShape_iff.1 hok).2.1 m) (by rw [List.length_take]; omega)
    have hxb := long_ok hok
    rw [hot]
    rw [hlg] at hxb ⊢
    have HCX : Hid (∀ W, Below w.heap.size w W → W.cell? (ad.add m) = some (.int .i64 sh[m])) := Lib.hid (fun W hb => by
      obtain ⟨ad', e, _, h⟩ := (ha.below hb).int_at (k := m) (by omega) hl
      injection e with e
      subst e
      exact h)
    have HPR : Hid (∀ W, Below w.heap.size w W → Calls Try.prog 74 #[.slice (some ad) m c] W fun e w' => e = .returned (.int .i64 (prodI (sh.take m))) ∧ W = w') := Lib.hid (fun W hb => by
      refine foprod_any (some ad) c m (sh.take m) W (by rw [List.length_take]; omega) ?_ (by omega) (all_take (okShape_iff.1 hok).2.1 m)
      have h := (ha.below hb).more hb.size
      exact reads_pre h (by omega))
    have HOT : Hid (∀ W, Calls Try.prog 75 #[.slice (some ad) (m + 1) c] W fun e w' => e = .returned (.slice (some ad) m c) ∧ W = w') := Lib.hid (fun W => foother_any (some ad) (m + 1) c W (fun h => by cases h) hc (by omega))
    generalize sh[m] = x at *
    generalize prodI (sh.take m) = P at *
    have hi1 : ((m + 1 : Nat) : Int) = (m : Int) + 1 := by omega
    have hwm : IntKind.i64.wrap (m : Int) = (m : Int) := by rw [IntKind.wrap_i64]; omega
    have hd1 : (m : Int) < (m : Int) + 1 := by omega
    have hd2 : ¬ ((m : Int) + 1 ≤ (m : Int)) := by omega
    clear ha hok e1 e2 hv hc hl hZ hla hot hlg hn hm
    go_enter Try.func32, Try.ntmps32
    go_upto_region 6 with (go_at_call 63; refine HC.out.mono ?_; rintro e _ ⟨rfl, rfl⟩)
    refine wp_region_done_on (GS w) (GR [1, 2] (fun (i : Nat) (v : Value) (_ : World) => v = if i = 1 then .slice (some ad) m c else .int .i64 P) [.slice (some ad) (m + 1) c, undef, undef, .slice (some ad) (m + 1) c, .slice (some ad) (m + 1) c, .int .i64 ((m : Int) + 1), .int .i64 (m : Int), .pointer (some (ad.add m)), .int .i64 x, .int .i64 P, .int .i64 x]) (by kernel_rfl) 25 rfl (by kernel_rfl) ((Below.refl _ _).drew) ?_ ?_
    · intro i hi
      have hi2 : i < 11 := hi
      clear hi
      rcases i with _ | i
      · refine gr_value rfl (by decide) (.slice (some ad) (m + 1) c) rfl ?_
        intro a8 w8 hb8 ho hn
        have o0 : a8.tmps[0]? = some _ := (ho 0 (by kernel_rfl)).trans rfl
        clear ho hn
        refine ⟨wanted_free rfl, ?_⟩
        go_simp
      rcases i with _ | i
      · refine gr_call (fun _ _ _ _ _ h => h) 75 rfl (by decide) ?_
        intro a8 w8 hb8 ho hn
        obtain ⟨v16, n16, hq16⟩ := hn 0 16 (by kernel_rfl) rfl
        obtain rfl := hq16.1 (by decide)
        clear ho hn
        refine ⟨wanted_free rfl, ?_⟩
        refine ⟨#[.slice (some ad) (m + 1) c], (by go_simp), (HOT.out w8).mono ?_⟩
        rintro e _ ⟨rfl, rfl⟩
        exact ⟨_, rfl, Below.refl _ _, rfl⟩
      rcases i with _ | i
      · refine gr_call (fun _ _ _ _ _ h => h) 74 rfl (by decide) ?_
        intro a8 w8 hb8 ho hn
        obtain ⟨v17, n17, hq17⟩ := hn 1 17 (by kernel_rfl) rfl
        have hv17 := hq17.2 (by decide)
        clear ho hn
        refine ⟨wanted_free rfl, ?_⟩
        obtain rfl : v17 = .slice (some ad) m c := hv17
        clear hq17
        refine ⟨#[.slice (some ad) m c], (by go_simp), (HPR.out w8 hb8).mono ?_⟩
        rintro e _ ⟨rfl, rfl⟩
        exact ⟨_, rfl, Below.refl _ _, rfl⟩
      rcases i with _ | i
      · refine gr_value rfl (by decide) (.slice (some ad) (m + 1) c) rfl ?_
        intro a8 w8 hb8 ho hn
        have o0 : a8.tmps[0]? = some _ := (ho 0 (by kernel_rfl)).trans rfl
        clear ho hn
        refine ⟨wanted_free rfl, ?_⟩
        go_simp
      rcases i with _ | i
      · refine gr_value rfl (by decide) (.slice (some ad) (m + 1) c) rfl ?_
        intro a8 w8 hb8 ho hn
        have o0 : a8.tmps[0]? = some _ := (ho 0 (by kernel_rfl)).trans rfl
        clear ho hn
        refine ⟨wanted_free rfl, ?_⟩
        go_simp
      rcases i with _ | i
      · refine gr_value rfl (by decide) (.int .i64 ((m : Int) + 1)) rfl ?_
        intro a8 w8 hb8 ho hn
        obtain ⟨v20, n20, hq20⟩ := hn 4 20 (by kernel_rfl) rfl
        obtain rfl := hq20.1 (by decide)
        clear ho hn
        refine ⟨wanted_free rfl, ?_⟩
        go_simp
      rcases i with _ | i
      · refine gr_value rfl (by decide) (.int .i64 (m : Int)) rfl ?_
        intro a8 w8 hb8 ho hn
        obtain ⟨v21, n21, hq21⟩ := hn 5 21 (by kernel_rfl) rfl
        obtain rfl := hq21.1 (by decide)
        clear ho hn
        refine ⟨wanted_free rfl, ?_⟩
        go_simp
      rcases i with _ | i
      · refine gr_value rfl (by decide) (.pointer (some (ad.add m))) rfl ?_
        intro a8 w8 hb8 ho hn
        obtain ⟨v19, n19, hq19⟩ := hn 3 19 (by kernel_rfl) rfl
        obtain rfl := hq19.1 (by decide)
        obtain ⟨v22, n22, hq22⟩ := hn 6 22 (by kernel_rfl) rfl
        obtain rfl := hq22.1 (by decide)
        clear ho hn
        refine ⟨wanted_free rfl, ?_⟩
        go_simp
      rcases i with _ | i
      · refine gr_value rfl (by decide) (.int .i64 x) rfl ?_
        intro a8 w8 hb8 ho hn
        obtain ⟨v23, n23, hq23⟩ := hn 7 23 (by kernel_rfl) rfl
        obtain rfl := hq23.1 (by decide)
        clear ho hn
        refine ⟨wanted_free rfl, ?_⟩
        have y3 := HCX.out w8 hb8
        go_simp
      rcases i with _ | i
      · refine gr_value rfl (by decide) (.int .i64 P) rfl ?_
        intro a8 w8 hb8 ho hn
        obtain ⟨v18, n18, hq18⟩ := hn 2 18 (by kernel_rfl) rfl
        have hv18 := hq18.2 (by decide)
        clear ho hn
        refine ⟨wanted_free rfl, ?_⟩
        obtain rfl : v18 = .int .i64 P := hv18
        clear hq18
        go_simp
      rcases i with _ | i
      · refine gr_value rfl (by decide) (.int .i64 x) rfl ?_
        intro a8 w8 hb8 ho hn
        obtain ⟨v24, n24, hq24⟩ := hn 8 24 (by kernel_rfl) rfl
        obtain rfl := hq24.1 (by decide)
        clear ho hn
        refine ⟨wanted_free rfl, ?_⟩
        go_simp
      omega
    · intro dn fv w5 hb5 hR5 hall
      have h2 : fv 2 = _ := (hR5 9 2 rfl).1 (by decide)
      have h3 : fv 3 = _ := (hR5 10 3 rfl).1 (by decide)
      simp only [putAll, List.foldl_cons, List.foldl_nil, Act.put, List.setIfInBounds_toArray, List.set_cons_succ, List.set_cons_zero, h2, h3, List.getD_cons_zero, List.getD_cons_succ]
      clear hR5 hall
      go_wp2
      go_ret2
      exact ⟨rfl, hb5⟩
end Go.Proofs.Ytkabdkblcgklmaa.fo

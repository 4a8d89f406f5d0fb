/-
  Layer 12 (scalar): the iterator of pairs of elements that stand at the same position.
-/
import Derived.Test.YtkabdkblcgklmaaScTog
namespace Go.Proofs.Ytkabdkblcgklmaa.sc
open Go.RowKit Go.Proofs.Ytkabdkblcgklmaa.arr

abbrev pv (x y : Int) : Value := .agg #[.int .i64 x, .int .i64 y]
structure PrPre (C0 C1 C2 : Nat) (S : Option Addr) (c : Nat) (sh : List Int) (a b : AV) (p q : AP) (W : World) : Prop where
  c0 : Blk W C0 22 #[.slice S sh.length c]
  c1 : Blk W C1 25 (arC a p)
  c2 : Blk W C2 25 (arC b q)
  rs : Reads W W.heap.size 1 S sh.length (sh.map iv)
  ea : AEl W a p
  eb : AEl W b q
theorem PrPre.below {C0 C1 C2 : Nat} {S : Option Addr} {c : Nat} {sh : List Int} {a b : AV} {p q : AP} {W W' : World} (h : PrPre C0 C1 C2 S c sh a b p q W) (hb : Below W.heap.size W W') : PrPre C0 C1 C2 S c sh a b p q W' :=
  ⟨h.c0.below hb h.c0.lt, h.c1.below hb h.c1.lt, h.c2.below hb h.c2.lt, (h.rs.below hb).more hb.size, h.ea.below hb, h.eb.below hb⟩
def prAt (a b : AV) (k : Nat) (_ : Unit) : Array Value := #[pv (elA a k) (elA b k)]
def prX (N k : Nat) (_ : Unit) (W W' : World) : Prop := k < N ∧ Below W.heap.size W W'
def prZ (N k : Nat) (W W' : World) : Prop := k = N ∧ W' = W

theorem scpairs_any (S : Option Addr) (n c : Nat) (u v : Value) (w : World) (x y : Array Value) (hu : u = .agg x) (hv : v = .agg y) : Calls Try.prog 159 #[.slice S n c, u, v] w fun e w' => e = .returned (.func (.func 197) #[] #[.pointer (some ⟨w.heap.size, 0, none⟩), .pointer (some ⟨w.heap.size + 1, 0, none⟩), .pointer (some ⟨w.heap.size + 1 + 1, 0, none⟩)]) ∧ ((w.alloc (.cells #[.slice S n c] 22)).alloc (.cells x 25)).alloc (.cells y 25) = w' := by
  subst hu
  subst hv
  go_enter Try.func159, Try.ntmps159
  go_wp2
  go_ret
  exact ⟨rfl, rfl⟩

/-- What stands in the region that yields: its operation 8 yields, behind both elements. -/
def S8 (W0 : World) (dn : Nat → Bool) (w : World) : Prop := (dn 8 = false ∧ Below W0.heap.size W0 w) ∨ (dn 8 = true ∧ dn 1 = true ∧ dn 3 = true ∧ dn 4 = true ∧ dn 6 = true)
structure R8 (vs : List Value) (Post : Bool → World → Prop) (dn : Nat → Bool) (i : Nat) (v : Value) (w : World) : Prop where
  val : i < 8 → v = vs.getD i undef
  a8 : i = 8 → ∃ bb, v = .bool bb ∧ Post bb w
  a9 : 9 ≤ i → ∃ bb, v = .bool (!bb) ∧ Post bb w
  d1 : i = 1 → dn 1 = true
  d3 : i = 3 → dn 1 = true ∧ dn 3 = true
  d4 : i = 4 → dn 4 = true
  d6 : i = 6 → dn 4 = true ∧ dn 6 = true
  d7 : i = 7 → dn 1 = true ∧ dn 3 = true ∧ dn 4 = true ∧ dn 6 = true
  d8 : 8 ≤ i → dn 8 = true
theorem S8.up {W0 : World} {i : Nat} (hi : i ≠ 8) : ∀ dn w, S8 W0 dn w → S8 W0 (upd dn i) w := fun dn w h => by
  have hu : ∀ k, dn k = true → upd dn i k = true := fun k hk => by unfold upd; rw [hk, Bool.or_true]
  rcases h with ⟨h1, h2⟩ | ⟨h1, h2, h3, h4, h5⟩
  · refine .inl ⟨?_, h2⟩
    unfold upd
    rw [h1, Bool.or_false]
    simpa using fun e => hi e.symm
  · exact .inr ⟨hu _ h1, hu _ h2, hu _ h3, hu _ h4, hu _ h5⟩
theorem R8.up {vs : List Value} {Post : Bool → World → Prop} {i : Nat} : ∀ dn j u w, R8 vs Post dn j u w → R8 vs Post (upd dn i) j u w := fun dn j u w h => by
  have hu : ∀ k, dn k = true → upd dn i k = true := fun k hk => by unfold upd; rw [hk, Bool.or_true]
  exact ⟨h.val, h.a8, h.a9, fun e => hu _ (h.d1 e), fun e => ⟨hu _ (h.d3 e).1, hu _ (h.d3 e).2⟩, fun e => hu _ (h.d4 e), fun e => ⟨hu _ (h.d6 e).1, hu _ (h.d6 e).2⟩, fun e => ⟨hu _ (h.d7 e).1, hu _ (h.d7 e).2.1, hu _ (h.d7 e).2.2.1, hu _ (h.d7 e).2.2.2⟩, fun e => hu _ (h.d8 e)⟩
theorem S8.at_ {W0 w : World} {dn : Nat → Bool} (h : S8 W0 dn w) (hd : dn 8 = false ∨ dn 1 = false ∨ dn 3 = false ∨ dn 4 = false ∨ dn 6 = false) : Below W0.heap.size W0 w := by
  rcases h with ⟨_, h⟩ | ⟨h1, h2, h3, h4, h5⟩
  · exact h
  · rw [h1, h2, h3, h4, h5] at hd
    rcases hd with h | h | h | h | h <;> cases h

section
attribute [local go_sem] Oper.semAt_some
set_option maxRecDepth 100000 in
set_option maxHeartbeats 4000000 in
theorem pairs_moves (f : Nat) (h1 : 1 ≤ f) (C0 C1 C2 : Nat) (S : Option Addr) (c : Nat) (sh : List Int) (a b : AV) (p q : AP) (N : Nat) (hok : okShape sh = true) (hN : prodI sh = (N : Int)) (hel : ∀ i, i < N → elOk a i ∧ elOk b i) (w : World) :
    SeqMovesV Fence.wide f Try.prog 197 #[.pointer (some ⟨C0, 0, none⟩), .pointer (some ⟨C1, 0, none⟩), .pointer (some ⟨C2, 0, none⟩)] (prAt a b) (fun _ => PrPre C0 C1 C2 S c sh a b p q) (prX N) (prZ N) w := by
  intro lp J Jm Jx Jz W hW hP hX hZ hY h0
  have hp0 := hP 0 W h0
  have hN2 : (N : Int) ≤ 4096 := by rw [← hN]; exact (okShape_iff.1 hok).2.2
  obtain ⟨n, hn⟩ : ∃ n, sh.length = n := ⟨_, rfl⟩
  have HC : Hid (CallsIn Fence.wide (f - 1) Try.prog 63 #[.slice S n c] W fun e w' => e = .returned (.tuple #[.int .i64 (N : Int), .int .i64 0]) ∧ W = w') := Lib.hid (callsIn_wide.2 (by
    have h := arcount_any S c n sh W hn (by rw [← hn]; exact hp0.rs) (by have := (okShape_iff.1 hok).1; omega)
    rw [(cnt_ok hok).1, (cnt_ok hok).2, hN] at h
    exact h))
  have x0 := hp0.c0.cell 0
  rw [hn] at x0
  have HP := Lib.hid hP
  have HX := Lib.hid hX
  have HZ := Lib.hid hZ
  have HY := Lib.hid hY
  have H0 := Lib.hid h0
  have HEL := Lib.hid hel
  have hfc : Fence.wide.fn 63 := trivial
  have hfe : Fence.wide.fn 198 := trivial
  clear hP hX hZ hY h0 hW hp0 hel hok hN hn
  refine callsIn_of_wp Try.func197 rfl trivial ?_ rfl
  simp only [Try.ntmps197, List.size_toArray, List.length_cons, List.length_nil, Nat.reduceAdd, Nat.reduceSub, Array.replicate_succ, Array.replicate_zero, List.push_toArray, List.append_toArray, List.nil_append, List.cons_append]
  gi_wp2_with (gi_at_call 63; refine HC.out.mono ?_; rintro e _ ⟨rfl, rfl⟩)
  gi_loopw [14] (fun i wr => ∃ k : Nat, i = .int .i64 (k : Int) ∧ k ≤ N ∧ J k wr) (fun i _ => N + 1 - (RowKit.intOf i).toNat)
  case atStart => exact ⟨0, rfl, Nat.zero_le _, H0.out⟩
  case round =>
    obtain ⟨k, rfl, hkM, hJ⟩ := hrel
    have hpre := HP.out k wr hJ
    have HJ := Lib.hid hJ
    by_cases hk : k < N
    · have hd : (k : Int) < (N : Int) := by omega
      have HPR := Lib.hid hpre
      have HK := Lib.hid hk
      have HAT : Hid (prAt a b k () = #[.agg #[.int .i64 (elA a k), .int .i64 (elA b k)]]) := Lib.hid rfl
      have HEA : Hid (∀ W2, Below wr.heap.size wr W2 → Calls Try.prog 198 #[.agg (arC a p), .int .i64 (k : Int)] W2 fun e w' => e = .returned (.int .i64 (elA a k)) ∧ Below W2.heap.size W2 w') := Lib.hid (fun W2 h2 => scelem_any a p k W2 (HPR.out.below h2).ea (HEL.out k HK.out).1)
      have HEB : Hid (∀ W2, Below wr.heap.size wr W2 → Calls Try.prog 198 #[.agg (arC b q), .int .i64 (k : Int)] W2 fun e w' => e = .returned (.int .i64 (elA b k)) ∧ Below W2.heap.size W2 w') := Lib.hid (fun W2 h2 => scelem_any b q k W2 (HPR.out.below h2).eb (HEL.out k HK.out).2)
      have HCL : Hid (∀ W2, Below wr.heap.size wr W2 → (W2.cell? ⟨C1, 0, none⟩ = some (.int .i64 a.kind) ∧ W2.cell? ⟨C1, 1, none⟩ = some (.slice p.A0 a.sh.length p.c0) ∧ W2.cell? ⟨C1, 2, none⟩ = some (.slice p.A1 a.el.length p.c1)) ∧ W2.cell? ⟨C2, 0, none⟩ = some (.int .i64 b.kind) ∧ W2.cell? ⟨C2, 1, none⟩ = some (.slice q.A0 b.sh.length q.c0) ∧ W2.cell? ⟨C2, 2, none⟩ = some (.slice q.A1 b.el.length q.c1)) := Lib.hid (fun W2 h2 => by
        have h := HPR.out.below h2
        exact ⟨⟨h.c1.cell 0, h.c1.cell 1, h.c1.cell 2⟩, h.c2.cell 0, h.c2.cell 1, h.c2.cell 2⟩)
      have HYK : Hid (∀ W2, Below wr.heap.size wr W2 → YieldAt Fence.wide (f - 1) Try.prog lp #[.agg #[.int .i64 (elA a k), .int .i64 (elA b k)]] W2 fun e W' => (e = .returned (.bool true) ∧ J (k + 1) W') ∨ (e = .returned (.bool false) ∧ Jx W')) := Lib.hid (fun W2 h2 => by
        have h := HY.out k () W2 (HX.out k () wr W2 HJ.out ⟨HK.out, h2⟩)
        rwa [HAT.out] at h)
      generalize elA a k = ea at *
      generalize elA b k = eb at *
      have HAC : Hid (arC a p = #[.int .i64 a.kind, .slice p.A0 a.sh.length p.c0, .slice p.A1 a.el.length p.c1]) := Lib.hid rfl
      have HBC : Hid (arC b q = #[.int .i64 b.kind, .slice q.A0 b.sh.length q.c0, .slice q.A1 b.el.length q.c1]) := Lib.hid rfl
      rw [HAC.out] at HEA
      rw [HBC.out] at HEB
      generalize a.kind = ka at *
      generalize b.kind = kb at *
      generalize (Value.slice p.A0 a.sh.length p.c0) = sa at *
      generalize (Value.slice p.A1 a.el.length p.c1) = la at *
      generalize (Value.slice q.A0 b.sh.length q.c0) = sb at *
      generalize (Value.slice q.A1 b.el.length q.c1) = lb at *
      clear hpre hk hkM hJ x0 HAC HBC HAT HEL HC
      gi_wp2
      refine wpIn_region_done_on (S8 wr) (R8 [.func (.yield lp) #[] #[], .agg #[.int .i64 ka, sa, la], .int .i64 (k : Int), .int .i64 ea, .agg #[.int .i64 kb, sb, lb], .int .i64 (k : Int), .int .i64 eb, .agg #[.int .i64 ea, .int .i64 eb]] (fun bb W' => (bb = true → J (k + 1) W') ∧ (bb = false → Jx W'))) (by kernel_rfl) 28 rfl (by kernel_rfl) (.inl ⟨rfl, (Below.refl _ _).drew⟩) ?_ ?_
      · intro i hi
        have hi2 : i < 10 := hi
        clear hi
        rcases i with _ | i
        · refine doneIn_value (S8.up (by decide)) R8.up (.func (.yield lp) #[] #[]) rfl (fun _ => rfl) ?_
          intro dn a8 w8 hS hd ho hn
          have o0 : a8.tmps[0]? = some _ := (ho 0 (by kernel_rfl)).trans rfl
          clear ho hn
          refine ⟨wanted_free rfl, ?_, ⟨fun _ => rfl, (fun h => by omega), (fun h => by omega), (fun h => by omega), (fun h => by omega), (fun h => by omega), (fun h => by omega), (fun h => by omega), (fun h => by omega)⟩⟩
          go_simp
        rcases i with _ | i
        · refine doneIn_value (S8.up (by decide)) R8.up (.agg #[.int .i64 ka, sa, la]) rfl (fun _ => rfl) ?_
          intro dn a8 w8 hS hd ho hn
          have o2 : a8.tmps[2]? = some _ := (ho 2 (by kernel_rfl)).trans rfl
          obtain ⟨⟨y0, y1, y2⟩, _⟩ := HCL.out w8 (hS.at_ (.inr (.inl hd)))
          clear ho hn
          refine ⟨wanted_free rfl, ?_, ⟨fun _ => rfl, (fun h => by omega), (fun h => by omega), (fun _ => upd_self _ _), (fun h => by omega), (fun h => by omega), (fun h => by omega), (fun h => by omega), (fun h => by omega)⟩⟩
          go_simp
        rcases i with _ | i
        · refine doneIn_value (S8.up (by decide)) R8.up (.int .i64 (k : Int)) rfl (fun _ => rfl) ?_
          intro dn a8 w8 hS hd ho hn
          have o7 : a8.tmps[7]? = some _ := (ho 7 (by kernel_rfl)).trans rfl
          clear ho hn
          refine ⟨wanted_free rfl, ?_, ⟨fun _ => rfl, (fun h => by omega), (fun h => by omega), (fun h => by omega), (fun h => by omega), (fun h => by omega), (fun h => by omega), (fun h => by omega), (fun h => by omega)⟩⟩
          go_simp
        rcases i with _ | i
        · refine doneIn_call 198 #[.agg #[.int .i64 ka, sa, la], .int .i64 (k : Int)] rfl (fun _ => rfl) ?_
          intro dn a8 w8 hS hd ho hn
          obtain ⟨_, n18, h18⟩ := hn 1 18 (by kernel_rfl) rfl
          obtain rfl := h18.val (by decide)
          obtain ⟨_, n19, h19⟩ := hn 2 19 (by kernel_rfl) rfl
          obtain rfl := h19.val (by decide)
          clear ho hn
          have hB := hS.at_ (.inr (.inr (.inl hd)))
          have h8 : dn 8 = false := by
            rcases hS with ⟨h, _⟩ | ⟨_, q1, q3, q4, q6⟩
            · exact h
            · rw [q3] at hd; cases hd
          refine ⟨wanted_free rfl, by go_simp, (HEA.out w8 hB).mono ?_⟩
          rintro e w9 ⟨rfl, b9⟩
          refine ⟨_, rfl, .inl ⟨?_, hB.trans (b9.mono hB.size)⟩, ⟨fun _ => rfl, (fun h => by omega), (fun h => by omega), (fun h => by omega), (fun _ => ⟨upd_on (h18.d1 rfl), upd_self _ _⟩), (fun h => by omega), (fun h => by omega), (fun h => by omega), (fun h => by omega)⟩, ?_⟩
          · unfold upd
            rw [h8]
            rfl
          · intro j u hj hdj hR
            have hlt : ¬ 8 ≤ j := fun h => by rw [hR.d8 h] at h8; cases h8
            have hR2 := R8.up (i := 3) dn j u w8 hR
            exact ⟨hR2.val, fun e => by omega, fun e => by omega, hR2.d1, hR2.d3, hR2.d4, hR2.d6, hR2.d7, hR2.d8⟩
        rcases i with _ | i
        · refine doneIn_value (S8.up (by decide)) R8.up (.agg #[.int .i64 kb, sb, lb]) rfl (fun _ => rfl) ?_
          intro dn a8 w8 hS hd ho hn
          have o3 : a8.tmps[3]? = some _ := (ho 3 (by kernel_rfl)).trans rfl
          obtain ⟨_, y0, y1, y2⟩ := HCL.out w8 (hS.at_ (.inr (.inr (.inr (.inl hd)))))
          clear ho hn
          refine ⟨wanted_free rfl, ?_, ⟨fun _ => rfl, (fun h => by omega), (fun h => by omega), (fun h => by omega), (fun h => by omega), (fun _ => upd_self _ _), (fun h => by omega), (fun h => by omega), (fun h => by omega)⟩⟩
          go_simp
        rcases i with _ | i
        · refine doneIn_value (S8.up (by decide)) R8.up (.int .i64 (k : Int)) rfl (fun _ => rfl) ?_
          intro dn a8 w8 hS hd ho hn
          have o7 : a8.tmps[7]? = some _ := (ho 7 (by kernel_rfl)).trans rfl
          clear ho hn
          refine ⟨wanted_free rfl, ?_, ⟨fun _ => rfl, (fun h => by omega), (fun h => by omega), (fun h => by omega), (fun h => by omega), (fun h => by omega), (fun h => by omega), (fun h => by omega), (fun h => by omega)⟩⟩
          go_simp
        rcases i with _ | i
        · refine doneIn_call 198 #[.agg #[.int .i64 kb, sb, lb], .int .i64 (k : Int)] rfl (fun _ => rfl) ?_
          intro dn a8 w8 hS hd ho hn
          obtain ⟨_, n21, h21⟩ := hn 4 21 (by kernel_rfl) rfl
          obtain rfl := h21.val (by decide)
          obtain ⟨_, n22, h22⟩ := hn 5 22 (by kernel_rfl) rfl
          obtain rfl := h22.val (by decide)
          clear ho hn
          have hB := hS.at_ (.inr (.inr (.inr (.inr hd))))
          have h8 : dn 8 = false := by
            rcases hS with ⟨h, _⟩ | ⟨_, q1, q3, q4, q6⟩
            · exact h
            · rw [q6] at hd; cases hd
          refine ⟨wanted_free rfl, by go_simp, (HEB.out w8 hB).mono ?_⟩
          rintro e w9 ⟨rfl, b9⟩
          refine ⟨_, rfl, .inl ⟨?_, hB.trans (b9.mono hB.size)⟩, ⟨fun _ => rfl, (fun h => by omega), (fun h => by omega), (fun h => by omega), (fun h => by omega), (fun h => by omega), (fun _ => ⟨upd_on (h21.d4 rfl), upd_self _ _⟩), (fun h => by omega), (fun h => by omega)⟩, ?_⟩
          · unfold upd
            rw [h8]
            rfl
          · intro j u hj hdj hR
            have hlt : ¬ 8 ≤ j := fun h => by rw [hR.d8 h] at h8; cases h8
            have hR2 := R8.up (i := 6) dn j u w8 hR
            exact ⟨hR2.val, fun e => by omega, fun e => by omega, hR2.d1, hR2.d3, hR2.d4, hR2.d6, hR2.d7, hR2.d8⟩
        rcases i with _ | i
        · refine doneIn_value (S8.up (by decide)) R8.up (.agg #[.int .i64 ea, .int .i64 eb]) rfl (fun _ => rfl) ?_
          intro dn a8 w8 hS hd ho hn
          obtain ⟨_, n20, h20⟩ := hn 3 20 (by kernel_rfl) rfl
          obtain rfl := h20.val (by decide)
          obtain ⟨_, n23, h23⟩ := hn 6 23 (by kernel_rfl) rfl
          obtain rfl := h23.val (by decide)
          clear ho hn
          refine ⟨wanted_free rfl, ?_, ⟨fun _ => rfl, (fun h => by omega), (fun h => by omega), (fun h => by omega), (fun h => by omega), (fun h => by omega), (fun h => by omega), (fun _ => ⟨upd_on (h20.d3 rfl).1, upd_on (h20.d3 rfl).2, upd_on (h23.d6 rfl).1, upd_on (h23.d6 rfl).2⟩), (fun h => by omega)⟩⟩
          go_simp
        rcases i with _ | i
        · refine doneIn_round rfl (fun _ => rfl) ?_
          intro dn a8 w8 hS hd ho hn
          obtain ⟨_, n17, h17⟩ := hn 0 17 (by kernel_rfl) rfl
          obtain rfl := h17.val (by decide)
          obtain ⟨_, n24, h24⟩ := hn 7 24 (by kernel_rfl) rfl
          obtain rfl := h24.val (by decide)
          clear ho hn
          have hB := hS.at_ (.inl hd)
          obtain ⟨fn, tmps, assign, body, hy, hR⟩ := HYK.out w8 hB
          refine ⟨wanted_free rfl, lp, fn, tmps, assign, body, by go_simp, hR.mono ?_⟩
          have dd := h24.d7 rfl
          rintro e w9 (⟨rfl, hJ9⟩ | ⟨rfl, hJ9⟩)
          · refine ⟨_, rfl, .inr ⟨upd_self _ _, upd_on dd.1, upd_on dd.2.1, upd_on dd.2.2.1, upd_on dd.2.2.2⟩, ⟨fun h => by omega, fun _ => ⟨true, rfl, (fun _ => hJ9), (fun h => by cases h)⟩, fun h => by omega, fun h => by omega, fun h => by omega, fun h => by omega, fun h => by omega, fun h => by omega, fun _ => upd_self _ _⟩, ?_⟩
            intro j u hj hdj hR
            have hlt : ¬ 8 ≤ j := fun h => by rw [hR.d8 h] at hd; cases hd
            have hR2 := R8.up (i := 8) dn j u w8 hR
            exact ⟨hR2.val, fun e => by omega, fun e => by omega, hR2.d1, hR2.d3, hR2.d4, hR2.d6, hR2.d7, hR2.d8⟩
          · refine ⟨_, rfl, .inr ⟨upd_self _ _, upd_on dd.1, upd_on dd.2.1, upd_on dd.2.2.1, upd_on dd.2.2.2⟩, ⟨fun h => by omega, fun _ => ⟨false, rfl, (fun h => by cases h), (fun _ => hJ9)⟩, fun h => by omega, fun h => by omega, fun h => by omega, fun h => by omega, fun h => by omega, fun h => by omega, fun _ => upd_self _ _⟩, ?_⟩
            intro j u hj hdj hR
            have hlt : ¬ 8 ≤ j := fun h => by rw [hR.d8 h] at hd; cases hd
            have hR2 := R8.up (i := 8) dn j u w8 hR
            exact ⟨hR2.val, fun e => by omega, fun e => by omega, hR2.d1, hR2.d3, hR2.d4, hR2.d6, hR2.d7, hR2.d8⟩
        rcases i with _ | i
        · refine doneIn_any (S8.up (by decide)) R8.up rfl (fun _ => rfl) ?_
          intro dn a8 w8 hS hd ho hn
          obtain ⟨_, n25, h25⟩ := hn 8 25 (by kernel_rfl) rfl
          obtain ⟨bb, rfl, hbb⟩ := h25.a8 rfl
          clear ho hn
          refine ⟨wanted_free rfl, .bool (!bb), by go_simp, ⟨fun h => by omega, fun h => by omega, fun _ => ⟨bb, rfl, hbb⟩, fun h => by omega, fun h => by omega, fun h => by omega, fun h => by omega, fun h => by omega, fun _ => upd_on (h25.d8 (Nat.le_refl _))⟩⟩
        omega
      · intro dn fv w5 hS5 hR5 hall
        obtain ⟨bb, h9, hbb⟩ := (hR5 9 26 rfl).a9 (Nat.le_refl _)
        simp only [putAll, List.foldl_cons, List.foldl_nil, Act.put, List.setIfInBounds_toArray, List.set_cons_succ, List.set_cons_zero, h9]
        have HBB := Lib.hid hbb
        clear hR5 hS5 hall hbb
        generalize fv 17 = uv17
        generalize fv 18 = uv18
        generalize fv 19 = uv19
        generalize fv 20 = uv20
        generalize fv 21 = uv21
        generalize fv 22 = uv22
        generalize fv 23 = uv23
        generalize fv 24 = uv24
        generalize fv 25 = uv25
        cases bb
        · have HJX := Lib.hid (HBB.out.2 rfl)
          gi_wp2
          refine bodyPost_ret (results_none rfl _ _ _) rfl ?_
          exact ⟨⟨_, rfl⟩, .inl HJX.out⟩
        · have HJ3 := Lib.hid (HBB.out.1 rfl)
          gi_wp2
          go_roundw
          case rel => exact ⟨k + 1, by go_num, by have := HK.out; omega, HJ3.out⟩
          case measure => have := HK.out; simp [RowKit.intOf]; omega
    · obtain rfl : k = N := by omega
      have HE := Lib.hid (HZ.out k wr wr HJ.out ⟨rfl, rfl⟩)
      clear hk hkM hpre hJ x0
      gi_wp2
      go_end0
      exact ⟨⟨_, rfl⟩, .inr HE.out⟩
end
end Go.Proofs.Ytkabdkblcgklmaa.sc

/-
  The tile of layer 5: the only tile that bytes can be those of.
-/
import Derived.Test.YtpededkfgjmhcaaTIter
import Derived.Test.YtpededkfgjmhcaaTLook
import Derived.Test.YtpededkfgjmhcaaCrcS
import Derived.Deep.MidRow
namespace Go.Proofs.Ytpededkfgjmhcaa.tile
open Go.RowKit Go.Proofs.Ytpededkfgjmhcaa.crc

theorem telements_any (b : Nat) (w : World) : Calls Try.prog 53 #[.pointer (some ⟨b, 0, none⟩)] w fun e w' => e = .returned (.func (.func 61) #[] #[.pointer (some ⟨w.heap.size, 0, none⟩)]) ∧ w.alloc (.cells #[.pointer (some ⟨b, 0, none⟩)] 81) = w' := by
  go_enter Try.func53, Try.ntmps53
  go_wp2
  go_ret
  exact ⟨rfl, rfl⟩

theorem RdN.rdB {N w : World} {b : Nat} {l : List UInt8} (h : RdN N w b l) : RdB w b w.heap.size l := by
  obtain ⟨A, c, h1, _, _⟩ := h
  exact ⟨A, c, h1, h1.lt⟩
theorem RdN.at_ {N w : World} {b : Nat} {l : List UInt8} (h : RdN N w b l) : N.heap.size ≤ b ∧ b < w.heap.size := by
  obtain ⟨A, c, h1, h2, _⟩ := h
  exact ⟨h2, h1.blk.lt⟩

theorem chunks_snoc : ∀ (k : Nat) (l : List UInt8), 8 * k + 8 ≤ l.length → chunks (k + 1) l = chunks k l ++ [wrap64 (num ((l.drop (8 * k)).take 8))]
  | 0, l, h => by
    show (if l.length < 8 then [] else _) = _
    rw [if_neg (by omega)]
    rfl
  | k + 1, l, h => by
    have ih := chunks_snoc k (l.drop 8) (by rw [List.length_drop]; omega)
    show (if l.length < 8 then [] else wrap64 (num (l.take 8)) :: chunks (k + 1) (l.drop 8)) = (if l.length < 8 then [] else wrap64 (num (l.take 8)) :: chunks k (l.drop 8)) ++ _
    rw [if_neg (by omega), if_neg (by omega), ih, List.drop_drop, List.cons_append, show 8 + 8 * k = 8 * (k + 1) by omega]
theorem chunks_more : ∀ (k n : Nat) (l : List UInt8), k ≤ n → l.length < 8 * k + 8 → chunks n l = chunks k l
  | 0, 0, _, _, _ => rfl
  | 0, n + 1, l, _, h => by
    show (if l.length < 8 then [] else _) = _
    rw [if_pos (by omega)]
    rfl
  | k + 1, 0, l, h, _ => by omega
  | k + 1, n + 1, l, h1, h2 => by
    show (if l.length < 8 then [] else wrap64 (num (l.take 8)) :: chunks n (l.drop 8)) = (if l.length < 8 then [] else wrap64 (num (l.take 8)) :: chunks k (l.drop 8))
    by_cases h8 : l.length < 8
    · rw [if_pos h8, if_pos h8]
    · rw [if_neg h8, if_neg h8, chunks_more k n (l.drop 8) (by omega) (by rw [List.length_drop]; omega)]
theorem chunks_length : ∀ (k : Nat) (l : List UInt8), 8 * k ≤ l.length → (chunks k l).length = k
  | 0, _, _ => rfl
  | k + 1, l, h => by
    show (if l.length < 8 then [] else wrap64 (num (l.take 8)) :: chunks k (l.drop 8)).length = _
    rw [if_neg (by omega), List.length_cons, chunks_length k (l.drop 8) (by rw [List.length_drop]; omega)]

theorem own_turned {W W' : World} {base B size n : Nat} {e : TypeId} {v : Value} {xs : List Value} {row : Option Nat} (h : W.ownsRow base e size v n xs) (hg : W.grownBy W' row) (hr : ∀ r, row = some r → B ≤ r ∧ ∃ o : Obj, W.heap[r]? = some o ∧ o.isCells = false) : W'.ownsRow base e size v n xs := by
  refine ⟨h.1, ?_⟩
  rcases h.2 with ⟨rfl, h0⟩ | ⟨g, cap, cur, rfl, hb, hh, hrest⟩
  · exact .inl ⟨rfl, h0⟩
  · exact .inr ⟨g, cap, cur, rfl, hb, (show Blk W' g e cur from blk_own (show Blk W g e cur from hh) hg hr), hrest⟩
theorem own_is {W : World} {base size n : Nat} {e : TypeId} {v : Value} {xs : List Value} (h : W.ownsRow base e size v n xs) : ∀ g, v.ownBlock = some g → base ≤ g ∧ g < W.heap.size ∧ ∃ cur, Blk W g e cur := by
  intro g hg
  rcases h.2 with ⟨rfl, h0⟩ | ⟨g', cap, cur, rfl, hb, hh, _⟩
  · simp [Value.ownBlock] at hg
  · have : g' = g := by simpa [Value.ownBlock] using hg
    subst this
    exact ⟨hb, (show Blk W g' e cur from hh).lt, cur, hh⟩
theorem keepFrom {W W' : World} {B : Nat} {row : Option Nat} (hg : W.grownBy W' row) (h : ∀ k, row = some k → B ≤ k) : Keep (fun k => B ≤ k) W W' := (Keep.refl _ W).grown hg (fun g e _ => h g e)

/-- What the rounds have turned since w2: the Reader at b, and the tile at qt, whose elements are el. -/
structure CI (w2 : World) (b qt : Nat) (x y z : Value) (el : List Int) (W : World) : Prop where
  keep : Keep (fun i => i = qt ∨ i = b) w2 W
  t : ∃ A c, Blk W qt 24 #[x, y, z, .slice A el.length c] ∧ W.ownsRow w2.heap.size 2 1 (.slice A el.length c) el.length (el.map iv)
theorem CI.own {w2 W W' : World} {b qt : Nat} {x y z : Value} {el : List Int} {row : Option Nat} (h : CI w2 b qt x y z el W) (hg : W.grownBy W' row) (hr : ∀ r, row = some r → w2.heap.size ≤ r ∧ ∃ o : Obj, W.heap[r]? = some o ∧ o.isCells = false) : CI w2 b qt x y z el W' := by
  obtain ⟨h1, A, c, h2, h3⟩ := h
  exact ⟨h1.grown hg (fun g e hlt => by have := (hr g e).1; omega), A, c, blk_own h2 hg hr, own_turned h3 hg hr⟩
theorem CI.moved {w2 W W' : World} {b qt : Nat} {x y z : Value} {el : List Int} (h : CI w2 b qt x y z el W) (hk : Keep (fun k => k = b) W W') (hb : b < w2.heap.size) (hne : b ≠ qt) : CI w2 b qt x y z el W' := by
  obtain ⟨h1, A, c, h2, h3⟩ := h
  exact ⟨h1.trans hk (fun i _ e => .inr e), A, c, hk.blk h2 (fun e => hne e.symm), hk.own h3 (fun g e e2 => by have := (own_is h3 g e).1; omega)⟩
theorem RdB.turn {W W' : World} {b B : Nat} {l : List UInt8} {row : Option Nat} (h : RdB W b B l) (hb : b < B) (hg : W.grownBy W' row) (hr : ∀ r, row = some r → B ≤ r) : RdB W' b B l :=
  h.keep (keepFrom hg hr) (by omega) (fun k hk => by omega)
theorem elX_keep {b B k : Nat} {l : List UInt8} {W W' : World} (h : elX b B l k W W' ∨ elZ b l k W W') : Keep (fun k => k = b) W W' := h.elim (fun h => h.2.2) (fun h => h.2)
theorem others_keep {W W' : World} {b : Nat} {l : List UInt8} {B : Nat} (h : RdB W b B l) (hk : Keep (fun k => k = b) W W') : ∀ (i : Nat) (o : Obj), W.heap[i]? = some o → o.isCells = false → W'.heap[i]? = some o := by
  intro i o hi ho
  obtain ⟨A, c, h1, _⟩ := h
  refine (hk.block i (Array.getElem?_eq_some_iff.1 hi).1 ?_).trans hi
  rintro rfl
  have := h1.blk
  unfold Blk at this
  rw [hi] at this
  injection this with this
  subst this
  cases ho

theorem load_tile (w : World) (g : Nat) (x y z u : Value) (hb : Blk w g 24 #[x, y, z, u]) : (loadVar 24 ⟨g, 0, none⟩).run Try.prog w = .ok (.agg #[x, y, z, u]) w := by
  have h1 : w.rangeAt g 0 [x, y, z, u] := fun j v hv => by
    rw [Nat.zero_add, hb.cell]
    simpa using hv
  exact run_loadVar_mid w g 0 24 [x, y, z, u] _ h1 Try.underlying24 rfl (by kernel_rfl)
theorem results_tile {fn : Func} {t : Tmp} {tmps : Array Value} {w : World} {g : Nat} {x y z u : Value} (h : fn.results = #[.cell t 24]) (ht : tmps.getD t undef = .pointer (some ⟨g, 0, none⟩)) (hb : Blk w g 24 #[x, y, z, u]) : (results fn tmps).run Try.prog w = .ok (.agg #[x, y, z, u]) w := by
  have h1 := load_tile w g x y z u hb
  rw [Array.getD_eq_getD_getElem?] at ht
  simp [results, h, ht, h1, asAddr]
theorem results_tile2 {fn : Func} {t i : Tmp} {tmps : Array Value} {w : World} {g : Nat} {x y z u v : Value} (h : fn.results = #[.cell t 24, .tmp i]) (ht : tmps.getD t undef = .pointer (some ⟨g, 0, none⟩)) (hv : tmps.getD i undef = v) (hb : Blk w g 24 #[x, y, z, u]) : (results fn tmps).run Try.prog w = .ok (.tuple #[.agg #[x, y, z, u], v]) w := by
  have h1 := load_tile w g x y z u hb
  rw [Array.getD_eq_getD_getElem?] at ht hv
  simp [results, h, ht, h1, hv, asAddr]
theorem keep_tile (W : World) (g : Nat) (x y z u : Value) : Keep (fun k => k = g) W ((((W.setCell ⟨g, 0, none⟩ x).setCell ⟨g, 1, none⟩ y).setCell ⟨g, 2, none⟩ z).setCell ⟨g, 3, none⟩ u) := by
  have h1 : Keep (fun k => k = g) W (W.setCell ⟨g, 0, none⟩ x) := (Keep.refl _ _).setCell _ _ (fun _ => rfl)
  exact ((h1.setCell _ _ (fun _ => rfl)).setCell _ _ (fun _ => rfl)).setCell _ _ (fun _ => rfl)
theorem blk_tile {W : World} {g : Nat} {a b c d : Value} (x y z u : Value) (h : Blk W g 24 #[a, b, c, d]) : Blk ((((W.setCell ⟨g, 0, none⟩ x).setCell ⟨g, 1, none⟩ y).setCell ⟨g, 2, none⟩ z).setCell ⟨g, 3, none⟩ u) g 24 #[x, y, z, u] :=
  (((h.set_ 0 x).set_ 1 y).set_ 2 z).set_ 3 u
theorem fin_tile {w W : World} {B rc D n c : Nat} {a b' c' d : Value} {A : Option Addr} {xs : List Value} (x y z : Value) (hw : Below B w W) (hB : B ≤ rc) (hD : B ≤ D) (hr : Blk W rc 24 #[a, b', c', d]) (hK : W.heap[D]? = some (.deferred (some []))) (ho : W.ownsRow (rc + 1) 2 1 (.slice A n c) n xs) :
    ((((W.setCell ⟨rc, 0, none⟩ x).setCell ⟨rc, 1, none⟩ y).setCell ⟨rc, 2, none⟩ z).setCell ⟨rc, 3, none⟩ (.slice A n c)).heap[D]? = some (.deferred (some [])) ∧
    Blk (((((W.setCell ⟨rc, 0, none⟩ x).setCell ⟨rc, 1, none⟩ y).setCell ⟨rc, 2, none⟩ z).setCell ⟨rc, 3, none⟩ (.slice A n c)).putObj D (.deferred none)) rc 24 #[x, y, z, .slice A n c] ∧
    Below B w (((((W.setCell ⟨rc, 0, none⟩ x).setCell ⟨rc, 1, none⟩ y).setCell ⟨rc, 2, none⟩ z).setCell ⟨rc, 3, none⟩ (.slice A n c)).putObj D (.deferred none)) ∧
    (((((W.setCell ⟨rc, 0, none⟩ x).setCell ⟨rc, 1, none⟩ y).setCell ⟨rc, 2, none⟩ z).setCell ⟨rc, 3, none⟩ (.slice A n c)).putObj D (.deferred none)).ownsRow B 2 1 (.slice A n c) n xs := by
  have hne : rc ≠ D := by
    rintro rfl
    unfold Blk at hr
    rw [hr] at hK
    cases hK
  have hk := keep_tile W rc x y z (.slice A n c)
  have hb := blk_tile x y z (.slice A n c) hr
  generalize (((W.setCell ⟨rc, 0, none⟩ x).setCell ⟨rc, 1, none⟩ y).setCell ⟨rc, 2, none⟩ z).setCell ⟨rc, 3, none⟩ (.slice A n c) = W2 at *
  have hp : Keep (fun k => k = D) W2 (W2.putObj D (.deferred none)) := (Keep.refl _ _).grown (grownBy_putObj' _ D _) (fun k e _ => by injection e with e; exact e.symm)
  have hDl : D < W.heap.size := (Array.getElem?_eq_some_iff.1 hK).1
  have hs := hw.size
  have hKD := (hk.block D hDl (fun e => hne e.symm)).trans hK
  have ho2 := hk.own ho (fun g e e2 => by have := (own_is ho g e).1; omega)
  have ho3 := own_turned (B := 0) ho2 (grownBy_putObj' W2 D (.deferred none)) (fun r e => by injection e with e; subst e; exact ⟨Nat.zero_le _, _, hKD, rfl⟩)
  refine ⟨hKD, hp.blk hb (fun e => hne e), ?_, own_mono ho3 (by omega)⟩
  have hBW : B ≤ W.heap.size := by omega
  exact (hw.trans (hk.below hBW (fun i hi e => by omega))).trans (hp.below (by have := hk.size; omega) (fun i hi e => by omega))
theorem infoI64 : (Try.prog.info? 2).map (fun i => (i.zero, i.size, i.bytes)) = some (some (.int .i64 0), 1, 8) := by kernel_rfl

section
attribute [local go_sem] Oper.semAt_some
set_option maxRecDepth 100000 in
set_option maxHeartbeats 4000000 in
theorem tcand_any (A : Option Addr) (c : Nat) (l : List UInt8) (w : World) (hr : Reads w w.heap.size 1 A l.length (l.map bv)) (h1 : 128 ≤ l.length) (h2 : l.length ≤ 140737488355328) :
    Calls Try.prog 36 #[.slice A l.length c] w fun e w' => ∃ A' c', e = .returned (tv (candT l) A' (candT l).el.length c') ∧ w'.ownsRow w.heap.size 2 1 (.slice A' (candT l).el.length c') (candT l).el.length ((candT l).el.map iv) ∧ Below w.heap.size w w' := by
  have hb0 : Below w.heap.size w (w.alloc (.cells #[.int .i64 0, .int .i64 0, .int .i64 0, .slice none 0 0] 24)) := (Below.refl _ _).alloc (Nat.le_refl _) _
  have hx0 := Blk.new w 24 #[.int .i64 0, .int .i64 0, .int .i64 0, .slice none 0 0]
  have HRD := Lib.hid (RdN.read _ A c l ((hr.below hb0).more hb0.size) h2)
  have HB0 := Lib.hid hb0
  have HX0 := Lib.hid hx0
  obtain ⟨l3, hl3⟩ : ∃ x, l.drop 3 = x := ⟨_, rfl⟩
  obtain ⟨l4, hl4⟩ : ∃ x, l3.drop 1 = x := ⟨_, rfl⟩
  obtain ⟨l12, hl12⟩ : ∃ x, l4.drop 8 = x := ⟨_, rfl⟩
  obtain ⟨l16, hl16⟩ : ∃ x, l12.drop 4 = x := ⟨_, rfl⟩
  obtain ⟨l20, hl20⟩ : ∃ x, l16.drop 4 = x := ⟨_, rfl⟩
  obtain ⟨k, hk⟩ : ∃ x, num (l3.take 1) = x := ⟨_, rfl⟩
  obtain ⟨f, hf⟩ : ∃ x, num (l4.take 8) = x := ⟨_, rfl⟩
  obtain ⟨m, hm⟩ : ∃ x, num (l12.take 4) = x := ⟨_, rfl⟩
  obtain ⟨cn, hcn⟩ : ∃ x, num (l16.take 4) = x := ⟨_, rfl⟩
  have n3 : l3.length = l.length - 3 := by rw [← hl3, List.length_drop]
  have n4 : l4.length = l.length - 4 := by rw [← hl4, List.length_drop, n3]; omega
  have n12 : l12.length = l.length - 12 := by rw [← hl12, List.length_drop, n4]; omega
  have n16 : l16.length = l.length - 16 := by rw [← hl16, List.length_drop, n12]; omega
  have n20 : l20.length = l.length - 20 := by rw [← hl20, List.length_drop, n16]; omega
  have hcand : candT l = ⟨wrap64 (f : Int), (m : Int), (k : Int), chunks cn l20⟩ := by
    unfold candT
    rw [hl3, hl4, hl12, hl16, hl20, hk, hf, hm, hcn]
  have hkb : k < 256 := by rw [← hk]; have := num_lt (l3.take 1); rw [List.length_take] at this; exact Nat.lt_of_lt_of_le this (by rw [show (256 : Nat) = 256 ^ 1 from rfl]; exact Nat.pow_le_pow_right (by omega) (by omega))
  have hfb : f < 18446744073709551616 := by rw [← hf]; have := num_lt (l4.take 8); rw [List.length_take] at this; exact Nat.lt_of_lt_of_le this (by rw [show (18446744073709551616 : Nat) = 256 ^ 8 from rfl]; exact Nat.pow_le_pow_right (by omega) (by omega))
  have hmb : m < 4294967296 := by rw [← hm]; have := num_lt (l12.take 4); rw [List.length_take] at this; exact Nat.lt_of_lt_of_le this (by rw [show (4294967296 : Nat) = 256 ^ 4 from rfl]; exact Nat.pow_le_pow_right (by omega) (by omega))
  have hcb : cn < 4294967296 := by rw [← hcn]; have := num_lt (l16.take 4); rw [List.length_take] at this; exact Nat.lt_of_lt_of_le this (by rw [show (4294967296 : Nat) = 256 ^ 4 from rfl]; exact Nat.pow_le_pow_right (by omega) (by omega))
  rw [hcand]
  have R3 : ∀ (N W : World) (b : Nat), RdN N W b l → Calls Try.prog 51 #[.pointer (some ⟨b, 0, none⟩), .int .i64 3] W fun e w' => (∃ v, e = .returned v) ∧ RdN N w' b l3 := fun N W b h => by
    refine (h.raw h2 3 (by omega)).mono ?_
    rintro e w' ⟨A', c', rfl, _, _, h'⟩
    rw [hl3] at h'
    exact ⟨⟨_, rfl⟩, h'⟩
  have R4 : ∀ (N W : World) (b : Nat), RdN N W b l3 → Calls Try.prog 52 #[.pointer (some ⟨b, 0, none⟩), .int .i64 1] W fun e w' => e = .returned (.tuple #[.int .u64 k, .int .i64 0]) ∧ RdN N w' b l4 := fun N W b h => by
    have := h.num 1 (by omega) (by omega)
    rw [hl4, hk] at this
    exact this.mono fun e w' h => ⟨h.1, h.2.1⟩
  have R12 : ∀ (N W : World) (b : Nat), RdN N W b l4 → Calls Try.prog 52 #[.pointer (some ⟨b, 0, none⟩), .int .i64 8] W fun e w' => e = .returned (.tuple #[.int .u64 f, .int .i64 0]) ∧ RdN N w' b l12 := fun N W b h => by
    have := h.num 8 (by omega) (by omega)
    rw [hl12, hf] at this
    exact this.mono fun e w' h => ⟨h.1, h.2.1⟩
  have R16 : ∀ (N W : World) (b : Nat), RdN N W b l12 → Calls Try.prog 52 #[.pointer (some ⟨b, 0, none⟩), .int .i64 4] W fun e w' => e = .returned (.tuple #[.int .u64 m, .int .i64 0]) ∧ RdN N w' b l16 := fun N W b h => by
    have := h.num 4 (by omega) (by omega)
    rw [hl16, hm] at this
    exact this.mono fun e w' h => ⟨h.1, h.2.1⟩
  have R20 : ∀ (N W : World) (b : Nat), RdN N W b l16 → Calls Try.prog 52 #[.pointer (some ⟨b, 0, none⟩), .int .i64 4] W fun e w' => e = .returned (.tuple #[.int .u64 cn, .int .i64 0]) ∧ RdN N w' b l20 := fun N W b h => by
    have := h.num 4 (by omega) (by omega)
    rw [hl20, hcn] at this
    exact this.mono fun e w' h => ⟨h.1, h.2.1⟩
  have hl20b : l20.length ≤ 140737488355328 := by omega
  have R3 := Lib.hid R3
  have R4 := Lib.hid R4
  have R12 := Lib.hid R12
  have R16 := Lib.hid R16
  have R20 := Lib.hid R20
  clear hr hb0 hx0 hcand hk hf hm hcn n3 n4 n12 n16 n20 hl3 hl4 hl12 hl16 hl20
  generalize l.length = n at *
  refine (callsIn_wide (n := 5)).1 ?_
  refine callsIn_of_wp_marks Try.func36 rfl trivial ?_
  simp only [Try.ntmps36, List.size_toArray, List.length_cons, List.length_nil, Nat.reduceAdd, Nat.reduceSub, Array.replicate_succ, Array.replicate_zero, List.push_toArray, List.append_toArray, List.nil_append, List.cons_append]
  gi_wp2
  refine wpIn_scope_wide ?_
  gi_wp2_with (first
    | (refine ⟨trivial, ?_⟩; gi_at_call 50; refine (callsIn_wide.2 HRD.out).mono ?_; rintro e w1 ⟨b, rfl, hg⟩; have G1 := Lib.hid hg; clear hg)
    | (refine ⟨trivial, ?_⟩; gi_at_call 51; refine (callsIn_wide.2 (R3.out _ _ _ G1.out)).mono ?_; rintro e w2 ⟨⟨v3, rfl⟩, hg⟩; have G2 := Lib.hid hg; clear hg)
    | (refine ⟨trivial, ?_⟩; gi_at_call 52; (have l0 := G5.out; clear l0); refine (callsIn_wide.2 (R20.out _ _ _ G5.out)).mono ?_; rintro e w6 ⟨rfl, hg⟩; have G6 := Lib.hid hg; clear hg)
    | (refine ⟨trivial, ?_⟩; gi_at_call 52; (have l0 := G4.out; clear l0); refine (callsIn_wide.2 (R16.out _ _ _ G4.out)).mono ?_; rintro e w5 ⟨rfl, hg⟩; have G5 := Lib.hid hg; clear hg)
    | (refine ⟨trivial, ?_⟩; gi_at_call 52; (have l0 := G3.out; clear l0); refine (callsIn_wide.2 (R12.out _ _ _ G3.out)).mono ?_; rintro e w4 ⟨rfl, hg⟩; have G4 := Lib.hid hg; clear hg)
    | (refine ⟨trivial, ?_⟩; gi_at_call 52; refine (callsIn_wide.2 (R4.out _ _ _ G2.out)).mono ?_; rintro e w3 ⟨rfl, hg⟩; have G3 := Lib.hid hg; clear hg))
  refine wpIn_label ?_
  gi_wp2_with (refine ⟨trivial, ?_⟩; gi_at_call 53; refine (callsIn_wide.2 (telements_any _ _)).mono ?_; rintro e w7 ⟨rfl, hw7⟩)
  obtain ⟨q6, hq6⟩ : ∃ q, w6.heap.size = q := ⟨_, rfl⟩
  rw [hq6]
  have hs7 : w7.heap.size = q6 + 3 := by rw [← hw7, ← hq6]; simp
  have hB67 : Below w6.heap.size w6 w7 := by rw [← hw7]; exact (((Below.refl _ _).alloc (Nat.le_refl _) _).alloc (by simp) _).alloc (by simp; omega) _
  have hc7 : Blk w7 q6 60 #[.int .u64 cn] := by rw [← hw7, ← hq6]; exact ((Blk.new w6 _ _).alloc _).alloc _
  have ht7 : Blk w7 (q6 + 1) 24 #[.int .i64 (wrap64 (f : Int)), .int .i64 (m : Int), .int .i64 (k : Int), .slice none 0 0] := by
    have h := (Blk.new (w6.alloc (.cells #[.int .u64 cn] 60)) 24 #[.int .i64 (wrap64 (f : Int)), .int .i64 (m : Int), .int .i64 (k : Int), .slice none 0 0]).alloc (.cells #[.pointer (some ⟨b, 0, none⟩)] 81)
    rw [hw7] at h
    simpa only [World.size_alloc, hq6] using h
  have hp7 : Blk w7 (q6 + 1 + 1) 81 #[.pointer (some ⟨b, 0, none⟩)] := by
    have h := Blk.new ((w6.alloc (.cells #[.int .u64 cn] 60)).alloc (.cells #[.int .i64 (wrap64 (f : Int)), .int .i64 (m : Int), .int .i64 (k : Int), .slice none 0 0] 24)) 81 #[.pointer (some ⟨b, 0, none⟩)]
    rw [hw7] at h
    simpa only [World.size_alloc, hq6] using h
  have hb6 := RdN.at_ G6.out
  have hr7 : RdB w7 b q6 l20 := by
    obtain ⟨A9, c9, h9, h9b⟩ := RdN.rdB G6.out
    exact ⟨A9, c9, h9.keep (Keep.of_below (S := fun _ => False) hB67) (fun h => h) (fun _ _ h => h), fun ad e => by rw [← hq6]; exact h9b ad e⟩
  have hbw7 : Below w.heap.size w w7 := HB0.out.trans ((G6.out.frame.trans (hB67.mono (G6.out.frame.size))).mono HB0.out.size)
  have hx7 := HX0.out.below (G6.out.frame.trans (hB67.mono (G6.out.frame.size))) HX0.out.lt
  have hwq : w.heap.size < q6 ∧ w.heap.size < b := by
    have h1 := HX0.out.lt
    have h2 := G6.out.frame.size
    omega
  have HC7 := Lib.hid hc7
  have HP7 := Lib.hid hp7
  have HX7 := Lib.hid hx7
  have HBW7 := Lib.hid hbw7
  have hCI0 : CI w7 b (q6 + 1) (.int .i64 (wrap64 (f : Int))) (.int .i64 (m : Int)) (.int .i64 (k : Int)) (chunks 0 l20) w7 := ⟨Keep.refl _ _, none, 0, ht7, World.ownsRow_nil _ _ _ _⟩
  have hbne : b < q6 := by omega
  clear hw7 ht7 hc7 hp7 hB67 hbw7 hx7 hb6 G1 G2 G3 G4 G5 G6 R3 R4 R12 R16 R20 HX0 HB0 HRD
  obtain ⟨i0, hi, hz0, hz1, hz2⟩ := info_parts infoI64
  refine wpIn_rangeFunc_moves rfl (by omega) (gf := 61) (lb := #[.pointer (some ⟨q6 + 1 + 1, 0, none⟩)]) rfl trivial (enters_of Try.func61 (by kernel_rfl) rfl)
    (els_moves 4 (by omega) (q6 + 1 + 1) b q6 l20 hl20b w7) (Below.refl _ _) (fun _ => rfl)
    (fun j W => CI w7 b (q6 + 1) (.int .i64 (wrap64 (f : Int))) (.int .i64 (m : Int)) (.int .i64 (k : Int)) (chunks j l20) W ∧ RdB W b q6 (l20.drop (8 * j)) ∧ j ≤ cn ∧ 8 * j ≤ l20.length)
    (fun j W => CI w7 b (q6 + 1) (.int .i64 (wrap64 (f : Int))) (.int .i64 (m : Int)) (.int .i64 (k : Int)) (chunks j l20) W ∧ RdB W b q6 (l20.drop (8 * (j + 1))) ∧ j ≤ cn ∧ 8 * j + 8 ≤ l20.length)
    (fun W => CI w7 b (q6 + 1) (.int .i64 (wrap64 (f : Int))) (.int .i64 (m : Int)) (.int .i64 (k : Int)) (chunks cn l20) W)
    (fun c W => c = .exit 0 ∧ CI w7 b (q6 + 1) (.int .i64 (wrap64 (f : Int))) (.int .i64 (m : Int)) (.int .i64 (k : Int)) (chunks cn l20) W)
    (fun j W W' row hs hg hr => ⟨hs.1.own hg hr, hs.2.1.turn (by omega) hg (fun r e => by have := (hr r e).1; omega), hs.2.2⟩)
    (fun j W W' row hs hg hr => ⟨hs.1.own hg hr, hs.2.1.turn (by omega) hg (fun r e => by have := (hr r e).1; omega), hs.2.2⟩)
    (fun _ W W' row hs hg hr => hs.own hg hr)
    (fun c W W' row hs hg hr => ⟨hs.1, hs.2.own hg hr⟩)
    (fun j W hs => ⟨(hs.1.keep.blk HP7.out (by omega)).cell 0, hs.2.1⟩)
    (fun j W W' hs hx => others_keep hs.2.1 (elX_keep hx))
    (fun j W W' hs hx => ⟨hs.1.moved hx.2.2 (by omega) (by omega), hx.2.1, hs.2.2.1, hx.1⟩)
    (fun j W W' hs hx => by
      have h := hs.1.moved hx.2 (by omega) (by omega)
      rwa [← chunks_more j cn l20 hs.2.2.1 hx.1] at h)
    ⟨hCI0, hr7, Nat.zero_le _, Nat.zero_le _⟩
    ?a1 ?assign ?body ?done ?stop
  case assign =>
    intro l' j W K hK
    unfold elAt
    gi_wp2
    exact hK
  case body =>
    rintro l' j W ⟨hC, hR, hjc, hjl⟩
    have c0 := (hC.keep.blk HC7.out (by omega)).cell 0
    have wu : IntKind.u64.wrap (j : Int) = (j : Int) := by rw [wrap_u64]; omega
    by_cases hj : j = cn
    · subst hj
      have HC := Lib.hid hC
      clear hC hR
      gi_wp2
      exact ⟨KeepsFrom.refl _ _, rfl, HC.out⟩
    · have hne : ((j : Int) == (cn : Int)) = false := by rw [beq_eq_false_iff_ne]; omega
      have hsn := chunks_snoc j l20 hjl
      have hln := chunks_length j l20 (by omega)
      have hln1 := chunks_length (j + 1) l20 (by omega)
      generalize hxv : wrap64 (num ((l20.drop (8 * j)).take 8)) = x at *
      obtain ⟨hkp, A9, c9, hT, hO⟩ := hC
      have hWB := hkp.size
      have hmap : (chunks (j + 1) l20).map iv = (chunks j l20).map iv ++ [iv x] := by rw [hsn, List.map_append]; rfl
      obtain ⟨rest, hrest⟩ : ∃ y, l20.drop (8 * (j + 1)) = y := ⟨_, rfl⟩
      rw [hrest] at hR
      rw [hln] at hT hO
      obtain ⟨elv, helv⟩ : ∃ y, (chunks j l20).map iv = y := ⟨_, rfl⟩
      rw [helv] at hO hmap
      have hev : ∀ u ∈ elv, u.oneCell' = true := by rw [← helv]; exact iv_one _
      have ct := hT.cell 3
      have hal : Below W.heap.size W (W.alloc (.cells #[.int .i64 x] 2)) := (Below.refl _ _).alloc (Nat.le_refl _) _
      have hO1 : (W.alloc (.cells #[.int .i64 x] 2)).ownsRow w7.heap.size 2 1 (.slice A9 j c9) j elv := hO.alloc _
      have hnew : ∀ i u, ([.int .i64 x] : List Value)[i]? = some u → (W.alloc (.cells #[.int .i64 x] 2)).cell? ((⟨W.heap.size, 0, none⟩ : Addr).add i) = some u := fun i u hu => by
        rw [Addr.add_mid, Nat.zero_add, (Blk.new W 2 _).cell i, List.getElem?_toArray]
        exact hu
      have h1c : ∀ u ∈ ([.int .i64 x] : List Value), u.oneCell' = true := by
        intro u hu
        rw [List.mem_singleton.1 hu]
        rfl
      have HFIN : Hid (∀ v' w9, w9.ownsRow w7.heap.size 2 1 v' (j + 1) (elv ++ [.int .i64 x]) → (W.alloc (.cells #[.int .i64 x] 2)).grownBy w9 (Value.slice A9 j c9).ownBlock → w9.cell? ⟨q6 + 1, 3, none⟩ = some (.slice A9 j c9) ∧ w9.frozen? ⟨q6 + 1, 3, none⟩ = false ∧
          ∃ A' c', v' = .slice A' (j + 1) c' ∧ KeepsFrom w7.heap.size W (w9.setCell ⟨q6 + 1, 3, none⟩ v') ∧ CI w7 b (q6 + 1) (.int .i64 (wrap64 (f : Int))) (.int .i64 (m : Int)) (.int .i64 (k : Int)) (chunks (j + 1) l20) (w9.setCell ⟨q6 + 1, 3, none⟩ v') ∧ RdB (w9.setCell ⟨q6 + 1, 3, none⟩ v') b q6 rest) := Lib.hid (fun v' w9 ho hg => by
        have hin := own_is hO1
        have hr : ∀ g, (Value.slice A9 j c9).ownBlock = some g → w7.heap.size ≤ g := fun g e => (hin g e).1
        have hk1 : Keep (fun i => w7.heap.size ≤ i) (W.alloc (.cells #[.int .i64 x] 2)) w9 := (Keep.refl _ _).grown hg (fun g e _ => hr g e)
        have hk2 : Keep (fun i => w7.heap.size ≤ i) W w9 := (Keep.of_below (S := fun i => w7.heap.size ≤ i) hal).trans hk1 (fun _ _ h => h)
        have hb9 := hk2.blk hT (by omega)
        obtain ⟨A', c', hv'⟩ : ∃ A' c', v' = .slice A' (j + 1) c' := by
          rcases ho.2 with ⟨_, h0⟩ | ⟨g, cap, cur, e, _⟩
          · omega
          · exact ⟨_, cap, e⟩
        have hk3 : Keep (fun i => w7.heap.size ≤ i ∨ i = q6 + 1) W (w9.setCell ⟨q6 + 1, 3, none⟩ v') := (hk2.more (S' := fun i => w7.heap.size ≤ i ∨ i = q6 + 1) (fun i _ h => .inl h)).setCell _ _ (fun _ => .inr rfl)
        refine ⟨hb9.cell 3, hb9.frozen 3, A', c', hv', ⟨hk3.size, fun i o hB hi ho' => ?_⟩, ⟨hkp.trans hk3 (fun i hi h => h.elim (fun h => absurd hi (by omega)) (fun h => .inl h)), A', c', ?_, ?_⟩, hR.keep hk3 (by omega) (fun k hk h => by omega)⟩
        · have hil : i < W.heap.size := (Array.getElem?_eq_some_iff.1 hi).1
          have hiq : i ≠ q6 + 1 := by omega
          refine (Below.heap_setCell w9 ⟨q6 + 1, 3, none⟩ v' i hiq).trans ?_
          have hir : some i ≠ (Value.slice A9 j c9).ownBlock := fun e => by
            obtain ⟨_, _, cur, hcb⟩ := own_is hO i e.symm
            unfold Blk at hcb
            rw [hi] at hcb
            injection hcb with hcb
            subst hcb
            cases ho'
          exact ((hg.block i (by simp; omega) hir).trans (hal.block i hil)).trans hi
        · rw [hln1, ← hv']
          exact hb9.set_ 3 v'
        · rw [hln1, hmap, ← hv']
          have hkq : Keep (fun i => i = q6 + 1) w9 (w9.setCell ⟨q6 + 1, 3, none⟩ v') := (Keep.refl _ _).setCell _ _ (fun _ => rfl)
          exact hkq.own ho (fun g e => by have := (own_is ho g e).1; omega))
      have HO1 := Lib.hid hO1
      have HNEW := Lib.hid hnew
      have H1C := Lib.hid h1c
      have hj1 : j + 1 ≤ cn ∧ 8 * (j + 1) ≤ l20.length := by omega
      have HJ1 := Lib.hid hj1
      have HREST := Lib.hid hrest
      have hwq2 : w7.heap.size ≤ W.heap.size := hWB
      have hjb : j ≤ 140737488355328 := by omega
      clear hkp hT hO hR hal hO1 hnew h1c hsn hln hln1 hxv hmap hrest hj1 helv hev
      gi_wp2_with (gi_at_builtin; refine wpListIn_append_own _ rfl _ _ 22 rfl w7.heap.size 2 i0 (.int .i64 0) 1 8 Try.underlying22 hi hz0 hz1 hz2 rfl (by decide) _ j _ rfl HO1.out ⟨W.heap.size, 0, none⟩ 1 1 [.int .i64 x] rfl rfl HNEW.out H1C.out (by unfold maxLen; omega) (by omega) (by simp; omega) ?_; intro v' w9 hown hgrow _; obtain ⟨cq9, fq9, A', c', rfl, hf9⟩ := HFIN.out v' w9 hown hgrow; have HF9 := Lib.hid hf9; clear hown hgrow hf9)
      exact ⟨HF9.out.1, HF9.out.2.1, by rw [HREST.out]; exact HF9.out.2.2, HJ1.out⟩
  case done =>
    rintro D W hD hC hK
    obtain ⟨hkp, A9, c9, hT, hO⟩ := hC
    have t0 := hT.cell 0
    have t1 := hT.cell 1
    have t2 := hT.cell 2
    have t3 := hT.cell 3
    have hX := hkp.blk HX7.out (by omega)
    have x0 := hX.cell 0
    have x1 := hX.cell 1
    have x2 := hX.cell 2
    have x3 := hX.cell 3
    have f0 := hX.frozen 0
    have f1 := hX.frozen 1
    have f2 := hX.frozen 2
    have f3 := hX.frozen 3
    have HE := Lib.hid (fin_tile (.int .i64 (wrap64 (f : Int))) (.int .i64 (m : Int)) (.int .i64 (k : Int)) (HBW7.out.trans (hkp.below (B := w.heap.size) (by have := HBW7.out.size; omega) (fun i hi e => by omega))) (Nat.le_refl _) (by have := HBW7.out.size; omega) hX hK (own_mono hO (by omega)))
    generalize hen : (chunks cn l20).length = en at *
    have HEN := Lib.hid hen
    clear hkp hT hO hX hen
    gi_wp2
    refine ⟨by simp, .inl ⟨_, _, rfl, run_takeDeferred HE.out.1, ?_⟩⟩
    obtain rfl := HEN.out
    exact ⟨_, results_tile rfl rfl HE.out.2.1, A9, c9, rfl, HE.out.2.2.2, HE.out.2.2.1⟩
  case stop =>
    rintro D c' W hD ⟨rfl, hC⟩ hK
    obtain ⟨hkp, A9, c9, hT, hO⟩ := hC
    have t0 := hT.cell 0
    have t1 := hT.cell 1
    have t2 := hT.cell 2
    have t3 := hT.cell 3
    have hX := hkp.blk HX7.out (by omega)
    have x0 := hX.cell 0
    have x1 := hX.cell 1
    have x2 := hX.cell 2
    have x3 := hX.cell 3
    have f0 := hX.frozen 0
    have f1 := hX.frozen 1
    have f2 := hX.frozen 2
    have f3 := hX.frozen 3
    have HE := Lib.hid (fin_tile (.int .i64 (wrap64 (f : Int))) (.int .i64 (m : Int)) (.int .i64 (k : Int)) (HBW7.out.trans (hkp.below (B := w.heap.size) (by have := HBW7.out.size; omega) (fun i hi e => by omega))) (Nat.le_refl _) (by have := HBW7.out.size; omega) hX hK (own_mono hO (by omega)))
    generalize hen : (chunks cn l20).length = en at *
    have HEN := Lib.hid hen
    clear hkp hT hO hX hen
    gi_wp2
    refine ⟨by simp, .inl ⟨_, _, rfl, run_takeDeferred HE.out.1, ?_⟩⟩
    obtain rfl := HEN.out
    exact ⟨_, results_tile rfl rfl HE.out.2.1, A9, c9, rfl, HE.out.2.2.2, HE.out.2.2.1⟩
end
end Go.Proofs.Ytpededkfgjmhcaa.tile

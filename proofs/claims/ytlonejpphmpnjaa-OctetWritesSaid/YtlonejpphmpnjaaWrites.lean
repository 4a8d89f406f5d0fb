/-
  The statement OctetWrites: whatever is written, in whatever order, the errors and the bytes are the document's; what is answered is new memory.
-/
import Derived.Test.YtlonejpphmpnjaaRef
import Derived.Test.YtlonejpphmpnjaaLift
import Derived.Deep.DeepCutAuto
import Derived.Deep.CutBlock
import Derived.Deep.RegionWith
import Derived.ProofKit
import Derived.OpenShut
import Derived.Carry
import Derived.Deep.Slices
import Derived.Deep.Fields
import Derived.ChangeSame
namespace Go.Proofs.Ytlonejpphmpnjaa.octetWrites
open Go.ChangeShapes Go.WideShapes Go.ChangeAt Go.RowKit

theorem wtext_total (w : World) (b : Nat) (A : Option Addr) (c : Nat) (u : Option Addr) (l : List UInt8) (hw : Wr w b A c u l) (s : ByteArray) (hs : s.size ≤ 140737488355328) (hlen : l.length + 65540 ≤ 140737488355328) :
    Calls Try.prog 14 #[.pointer (some ⟨b, 0, none⟩), .string s] w fun e w' => e = .returned (.int .i64 (textErr s)) ∧ Wrote w w' b A u (l ++ textOut s) := by
  by_cases h : 65535 < s.size
  · have he : textErr s = 10 := by simp [textErr, h]
    have ho : textOut s = [] := by simp [textOut, h]
    rw [he, ho, List.append_nil]
    refine (wtext_long b s w h hs).mono ?_
    rintro e w' ⟨rfl, rfl⟩
    exact ⟨rfl, Wrote.same hw⟩
  · have he : textErr s = 0 := by simp [textErr, h]
    have ho : textOut s = be 2 s.size ++ s.data.toList := by simp [textOut, h]
    rw [he, ho, ← List.append_assoc]
    exact wtext_any w b A c u l hw s (by omega) (by omega)

/-- The Writer at b has written lw, 'all' holds la; both stand on what is newer than N, apart from one another; what lay in N lies. -/
def St (N W : World) (b : Nat) (lw la : List UInt8) (all : Value) : Prop :=
  ∃ A c u, Wr W b A c u lw ∧ (∀ k, foot b A u k → N.heap.size ≤ k) ∧ Below N.heap.size N W ∧
    W.ownsRow N.heap.size 5 1 all la.length (la.map bv) ∧ (∀ k, all.ownBlock = some k → ¬ foot b A u k) ∧ ∃ Aa ca, all = .slice Aa la.length ca

/-- The Writer goes on. -/
theorem St.wrote {N w w1 w2 : World} {b : Nat} {la lw' : List UInt8} {all : Value} {A : Option Addr} {u : Option Addr} (hf : ∀ k, foot b A u k → N.heap.size ≤ k) (hB : Below N.heap.size N w)
    (hown : w.ownsRow N.heap.size 5 1 all la.length (la.map bv)) (hsep : ∀ k, all.ownBlock = some k → ¬ foot b A u k) (hform : ∃ Aa ca, all = .slice Aa la.length ca)
    (h1 : Below w.heap.size w w1) (h2 : Wrote w1 w2 b A u lw') : St N w2 b lw' la all := by
  obtain ⟨A', c', u', g1, g2, g3⟩ := h2
  have k1 : Keep (foot b A u) w w2 := (Keep.of_below (S := foot b A u) h1).trans g3 (fun _ _ h => h)
  refine ⟨A', c', u', g1, fun k h => ?_, hB.trans (k1.below hB.size (fun i hi h => by have := hf i h; omega)), k1.own hown hsep, fun k e h => ?_, hform⟩
  · rcases g2 k h with h | h
    · exact hf k h
    · have := h1.size; have := hB.size; omega
  · rcases g2 k h with h | h
    · exact hsep k e h
    · have := (hown.lt k e).2; have := h1.size; omega

/-- The Writer goes on, and then what is neither its own nor 'all' may turn. -/
theorem St.wroteS {N w w1 w2 w3 : World} {b : Nat} {la lw' : List UInt8} {all : Value} {A : Option Addr} {u : Option Addr} {S : Nat → Prop} (hlt : ∀ k, foot b A u k → k < w.heap.size) (hf : ∀ k, foot b A u k → N.heap.size ≤ k) (hB : Below N.heap.size N w)
    (hown : w.ownsRow N.heap.size 5 1 all la.length (la.map bv)) (hsep : ∀ k, all.ownBlock = some k → ¬ foot b A u k) (hform : ∃ Aa ca, all = .slice Aa la.length ca)
    (h1 : Below w.heap.size w w1) (h2 : Wrote w1 w2 b A u lw') (hS : ∀ k, S k → w.heap.size ≤ k ∧ k < w1.heap.size) (h3 : Keep S w2 w3) : St N w3 b lw' la all := by
  obtain ⟨A', c', u', g1, g2, g3⟩ := h2
  obtain ⟨A4, c4, u4, e1, e2, e3, e4, e5, e6⟩ := St.wrote hf hB hown hsep hform h1 ⟨A', c', u', g1, g2, g3⟩
  have nS : ∀ k, foot b A' u' k → ¬ S k := fun k h hs => by
    have := hS k hs
    rcases g2 k h with h | h
    · have := hlt k h; omega
    · omega
  have nA : ∀ k, all.ownBlock = some k → ¬ S k := fun k h hs => by have := hS k hs; have := (hown.lt k h).2; omega
  refine ⟨A', c', u', g1.keep h3 nS, fun k h => ?_, e3.trans (h3.below e3.size (fun i hi hs => by have := hS i hs; have := hB.size; omega)), h3.own e4 nA, fun k e h => ?_, e6⟩
  · rcases g2 k h with h | h
    · exact hf k h
    · have := h1.size; have := hB.size; omega
  · rcases g2 k h with h | h
    · exact hsep k e h
    · have := (hown.lt k e).2; have := h1.size; omega

/-- The first n cells of block g are bytes that may be written. -/
def Bys (W : World) (g n : Nat) : Prop := ∀ j, j < n → ∃ x : Int, W.cell? ⟨g, j, none⟩ = some (.int .u8 x) ∧ W.frozen? ⟨g, j, none⟩ = false
theorem Bys.set_ {W : World} {g n j : Nat} {x : Int} (h : Bys W g n) (hj : j < n) : Bys (W.setCell ⟨g, j, none⟩ (.int .u8 x)) g n := by
  intro i hi
  obtain ⟨y, c, f⟩ := h i hi
  obtain ⟨y0, c0, _⟩ := h j hj
  by_cases e : i = j
  · subst e
    exact ⟨x, World.cell?_setCell_same' _ _ _ (by rw [c0]; rfl), by rw [World.frozen?_setCell]; exact f⟩
  · exact ⟨y, (World.cell?_setCell_other _ _ _ _ (by intro e'; injection e' with _ e' _; exact e e'.symm)).trans c, by rw [World.frozen?_setCell]; exact f⟩
theorem Bys.keep {W W' : World} {S : Nat → Prop} {g n : Nat} (h : Bys W g n) (hk : Keep S W W') (hg : ¬ S g) (hlt : g < W.heap.size) : Bys W' g n := by
  intro i hi
  obtain ⟨y, c, f⟩ := h i hi
  have hb := hk.block g hlt hg
  refine ⟨y, (World.cell?_of_block (a := ⟨g, i, none⟩) hb).trans c, ?_⟩
  unfold World.frozen? at f ⊢
  rw [show W'.heap[(⟨g, i, none⟩ : Addr).block]? = W.heap[(⟨g, i, none⟩ : Addr).block]? from hb]
  exact f
theorem bytesWorld_bys (W : World) (s : ByteArray) : Bys (Lib.bytesWorld W 5 s) W.heap.size s.size := by
  intro j hj
  refine ⟨_, Lib.bytesWorld_cell W 5 s j hj, ?_⟩
  have hs : s.size ≤ (Lib.bytesCells W 5 s).size := by
    unfold Lib.bytesCells
    rw [Array.size_append, Array.size_map]
    exact Nat.le_add_right _ _
  unfold World.frozen?
  rw [show (Lib.bytesWorld W 5 s).heap[(⟨W.heap.size, j, none⟩ : Addr).block]? = _ from Lib.bytesWorld_at_new W 5 s]
  simp
  omega

/-- Nothing of it turns. -/
theorem St.below {N w w1 : World} {b : Nat} {lw la : List UInt8} {all : Value} (h : St N w b lw la all) (hb : Below w.heap.size w w1) : St N w1 b lw la all := by
  obtain ⟨A, c, u, h1, h2, h3, h4, h5, h6⟩ := h
  have k : Keep (fun _ => False) w w1 := Keep.of_below hb
  exact ⟨A, c, u, h1.keep k (fun _ _ h => h), h2, h3.trans (hb.mono h3.size), k.own h4 (fun _ _ h => h), h5, h6⟩

/-- 'all = append(all, b...)'. -/
theorem St.appended {N wc w7 : World} {b : Nat} {lw out : List UInt8} {Aa : Option Addr} {ca : Nat} {A : Option Addr} {c : Nat} {u : Option Addr} {v' : Value} (t1 : Wr wc b A c u (lw ++ out)) (t2 : ∀ k, foot b A u k → N.heap.size ≤ k) (t3 : Below N.heap.size N wc)
    (t4 : wc.ownsRow N.heap.size 5 1 (.slice Aa lw.length ca) lw.length (lw.map bv)) (t5 : ∀ k, (Value.slice Aa lw.length ca).ownBlock = some k → ¬ foot b A u k)
    (hown : w7.ownsRow N.heap.size 5 1 v' (lw.length + out.length) (lw.map bv ++ out.map bv)) (hgrow : wc.grownBy w7 (Value.slice Aa lw.length ca).ownBlock)
    (hat : v'.ownBlock = (Value.slice Aa lw.length ca).ownBlock ∨ v'.ownBlock = some wc.heap.size) : ∃ A' c', v' = .slice A' (lw ++ out).length c' ∧ St N w7 b (lw ++ out) (lw ++ out) v' ∧ Wr w7 b A c u (lw ++ out) := by
  have hl : (lw ++ out).length = lw.length + out.length := List.length_append
  rw [← hl, ← List.map_append] at hown
  have hk : Keep (fun k => (Value.slice Aa lw.length ca).ownBlock = some k) wc w7 := (Keep.refl (fun k => (Value.slice Aa lw.length ca).ownBlock = some k) wc).grown hgrow (fun g e _ => e)
  have hw : Wr w7 b A c u (lw ++ out) := t1.keep hk (fun k h e => t5 k e h)
  have hform : ∃ A' c', v' = .slice A' (lw ++ out).length c' := by
    rcases hown.2 with ⟨e, h0⟩ | ⟨g, cap, cur, e, _⟩
    · exact ⟨none, 0, by rw [h0]; exact e⟩
    · exact ⟨_, cap, e⟩
  obtain ⟨A', c', e⟩ := hform
  refine ⟨A', c', e, ⟨A, c, u, hw, t2, t3.grown hgrow t3.size (fun k e => (t4.lt k e).1), hown, fun k e h => ?_, A', c', e⟩, hw⟩
  rcases hat with h' | h'
  · rw [h'] at e
    exact t5 k e h
  · rw [h'] at e
    have := t1.foot_lt k h
    injection e with e
    omega

theorem own_bys {W : World} {base g n c : Nat} {l : List UInt8} (h : W.ownsRow base 5 1 (.slice (some ⟨g, 0, none⟩) n c) n (l.map bv)) : Bys W g n := by
  intro j hj
  have hl : l.length = n := by simpa using h.1
  have hc := h.cells (g := g) rfl j (bv (l[j]'(by omega))) (by rw [List.getElem?_map, List.getElem?_eq_getElem (by omega)]; rfl)
  have hp : (⟨g, 0, none⟩ : Addr).add j = ⟨g, j, none⟩ := by unfold Addr.add; split <;> simp_all
  rw [hp] at hc
  refine ⟨_, hc, ?_⟩
  rcases h.2 with ⟨e, _⟩ | ⟨g', cap, cur, e, _, hh, _⟩
  · cases e
  · injection e with e
    injection e with e
    injection e with e
    subst e
    unfold World.frozen?
    rw [show W.heap[(⟨g, j, none⟩ : Addr).block]? = _ from hh]
    simp

/-- What a call leaves, ahead of 'all = append(all, b...)'. -/
def Left (N : World) (b : Nat) (lw : List UInt8) (all : Value) (m : Nat) (v e f : Value) (W : World) : Prop :=
  ∃ out er, (∃ Av cv, v = .slice Av out.length cv ∧ Reads W W.heap.size 1 Av out.length (out.map bv)) ∧ e = .int .i64 er ∧ f = .int .i64 er ∧ out.length ≤ m ∧ St N W b (lw ++ out) lw all

theorem left_of {N w3 w4 : World} {b m : Nat} {lw out : List UInt8} {all v : Value} {er : Int} (h : St N w3 b (lw ++ out) lw all) (hg : Gives w3 w4 v out) (hm : out.length ≤ m) : Left N b lw all m v (.int .i64 er) (.int .i64 er) w4 := by
  obtain ⟨A, c, rfl, ho, hB⟩ := hg
  exact ⟨out, er, ⟨A, c, rfl, Reads.of_own ho⟩, rfl, rfl, hm, h.below hB⟩

theorem numOut_len (size : Int) (n : Nat) : (numOut size n).length ≤ 8 := by
  unfold numOut
  by_cases h : numErr size n = 0
  · rw [if_pos h, be_length]
    unfold numErr at h
    by_cases hs : sized size = true
    · unfold sized at hs
      simp at hs
      omega
    · rw [if_neg hs] at h
      omega
  · rw [if_neg h]
    simp
theorem textOut_len (s : ByteArray) : (textOut s).length ≤ 10 + s.size := by
  unfold textOut
  by_cases h : 65535 < s.size
  · rw [if_pos h]; simp
  · rw [if_neg h, List.length_append, be_length, size_list]; omega

set_option maxRecDepth 100000 in
set_option maxHeartbeats 8000000 in
theorem walk (B : Nat) (A : Option Addr) (n c : Nat) (l : List Cal) (w : World) (h : Cals w B A n l) (hB : B ≤ w.heap.size) (hm : n ≤ 9223372036854775807) :
    Calls Try.prog 3 #[.slice A n c] w fun e w' => e = .returned (.bool true) ∧ Below w.heap.size w w' := by
  have HG := Lib.hid (great_any B A n c l w h hm)
  have H := Lib.hid h
  have hl := h.1
  clear h
  cases hgr : great l
  · rw [hgr] at HG
    have hgl : ¬ 100 < l.length ∧ ¬ 100000 < size l := by
      unfold great at hgr
      simpa using hgr
    obtain ⟨hg1, hg2⟩ := hgl
    clear hgr
    go_enter Try.func3, Try.ntmps3
    go_wp2_with (go_at_call 9; refine HG.out.mono ?_; rintro e w' ⟨rfl, rfl⟩)
    go_loopw [4, 18] (fun all i wr => ∃ k lw, k ≤ n ∧ i = .int .i64 k ∧ lw.length ≤ 10 * k + size (l.take k) ∧ St w wr w.heap.size lw lw all) (fun _ i _ => n - (intOf i).toNat)
    case atStart =>
      exact ⟨0, [], Nat.zero_le _, rfl, by simp, none, 0, none, Wr.made w, fun k h => by have := foot_new h; omega, (Below.refl _ _).alloc (Nat.le_refl _) _, World.ownsRow_nil _ _ _ _, fun k e => by simp [Value.ownBlock] at e, none, 0, rfl⟩
    case round =>
      obtain ⟨k, lw, hk, rfl, hlw, A0, c0, u0, s1, s2, s3, s4, s5, Aa, ca, rfl⟩ := hrel
      by_cases hlt : k < n
      · have hkl : k < l.length := by omega
        obtain ⟨ad, rfl, hb, x0, x1, x2, x3⟩ := (H.out.below (s3.mono hB)).at_ hlt hkl
        have hF := H.out.2.1 l[k] (List.getElem_mem hkl)
        obtain ⟨kk, hkk⟩ : ∃ o, l[k] = o := ⟨_, rfl⟩
        rw [hkk] at x0 x1 x2 x3 hF
        have HKK := Lib.hid hkk
        clear hkk
        obtain ⟨kd, sz, nn, tx⟩ := kk
        obtain ⟨q1, q2, q3, q4, q5, q6⟩ := hF
        simp only at q1 q2 q3 q4 q5 q6 x0 x1 x2 x3
        have S1 := Lib.hid s1
        have S2 := Lib.hid s2
        have S3 := Lib.hid s3
        have S4 := Lib.hid s4
        have S5 := Lib.hid s5
        have hsz := size_take_le l k
        have hsn : size (l.take k) + tx.size ≤ size l := by
          have h1 := size_take_le l (k + 1)
          rw [List.take_succ_eq_append_getElem hkl, size_snoc, HKK.out] at h1
          exact h1
        have hlw2 : lw.length ≤ 101000 := by omega
        have htx : tx.size ≤ 100000 := by omega
        clear hsn
        clear s1 s2 s3 s4 s5 hsz
        go_upto_block 2 with (fail)
        go_cut [7, 8, 9] (fun v e f wx => Left w w.heap.size lw (.slice Aa lw.length ca) (10 + tx.size) v e f wx)
        case first =>
          have hbx : Below wr.heap.size wr (wr.alloc (.cells #[.int .i64 kd, .int .i64 sz, .int .u64 nn, .string tx] 30)) := (Below.refl _ _).alloc (Nat.le_refl _) _
          have hx := Blk.new wr 30 #[.int .i64 kd, .int .i64 sz, .int .u64 nn, .string tx]
          have hw2 : Wr (wr.alloc (.cells #[.int .i64 kd, .int .i64 sz, .int .u64 nn, .string tx] 30)) w.heap.size A0 c0 u0 lw := S1.out.keep (Keep.of_below (S := fun _ => False) hbx) (fun _ _ h => h)
          have hX : ∀ w3, Keep (foot w.heap.size A0 u0) (wr.alloc (.cells #[.int .i64 kd, .int .i64 sz, .int .u64 nn, .string tx] 30)) w3 → Blk w3 wr.heap.size 30 #[.int .i64 kd, .int .i64 sz, .int .u64 nn, .string tx] :=
            fun w3 hk => hk.blk hx (fun h => by have := S1.out.foot_lt _ h; omega)
          have HBX := Lib.hid hbx
          have HW2 := Lib.hid hw2
          have HX := Lib.hid hX
          clear hbx hx hw2 hX
          clear x0 x1 x2 x3
          by_cases k0 : kd = 0
          · subst k0
            have H1 := Lib.hid (wnum_total _ _ _ _ _ _ HW2.out sz nn q3 q4 q5 (by omega))
            go_wp2_with (go_at_call 10; refine H1.out.mono ?_; rintro e w3 ⟨rfl, A3, c3, u3, g1, g2, g3⟩; have hb3 := HX.out w3 g3; have y1 : w3.cell? ⟨wr.heap.size, 1, none⟩ = some (.int .i64 sz) := hb3.cell 1; have y2 : w3.cell? ⟨wr.heap.size, 2, none⟩ = some (.int .u64 nn) := hb3.cell 2; have HS := Lib.hid (St.wrote S2.out S3.out S4.out S5.out ⟨Aa, ca, rfl⟩ HBX.out ⟨A3, c3, u3, g1, g2, g3⟩); clear hb3 g1 g2 g3)
            go_wp2_with (go_at_call 11; refine (refnum_any w3 sz nn q3 q4 q5).mono ?_; rintro e w4 ⟨v, rfl, hg⟩)
            go_meet
            exact left_of HS.out hg (Nat.le_trans (numOut_len _ _) (by omega))
          by_cases k1 : kd = 1
          · subst k1
            have H1 := Lib.hid (wint_any _ _ _ _ _ _ HW2.out (wrap64 nn) (by omega))
            go_wp2_with (first
              | (go_at_call 12; refine H1.out.mono ?_; rintro e w3 ⟨rfl, A3, c3, u3, g1, g2, g3⟩; have hb3 := HX.out w3 g3; have y2 : w3.cell? ⟨wr.heap.size, 2, none⟩ = some (.int .u64 nn) := hb3.cell 2; have HS := Lib.hid (St.wrote S2.out S3.out S4.out S5.out ⟨Aa, ca, rfl⟩ HBX.out ⟨A3, c3, u3, g1, g2, g3⟩); clear hb3 g1 g2 g3)
              | (go_at_call 13; refine (refint_any w3 (wrap64 nn)).mono ?_; rintro e w4 ⟨v, rfl, hg⟩))
            go_meet
            exact left_of HS.out hg (by rw [be_length]; omega)
          by_cases k2 : kd = 2
          · subst k2
            have H1 := Lib.hid (wtext_total _ _ _ _ _ _ HW2.out tx q6 (by omega))
            go_wp2_with (first
              | (go_at_call 14; refine H1.out.mono ?_; rintro e w3 ⟨rfl, A3, c3, u3, g1, g2, g3⟩; have hb3 := HX.out w3 g3; have y3 : w3.cell? ⟨wr.heap.size, 3, none⟩ = some (.string tx) := hb3.cell 3; have HS := Lib.hid (St.wrote S2.out S3.out S4.out S5.out ⟨Aa, ca, rfl⟩ HBX.out ⟨A3, c3, u3, g1, g2, g3⟩); clear hb3 g1 g2 g3)
              | (go_at_call 15; refine (reftext_any w3 tx q6).mono ?_; rintro e w4 ⟨v, rfl, hg⟩))
            go_meet
            exact left_of HS.out hg (textOut_len tx)
          by_cases k3 : kd = 3
          · subst k3
            have cv := fun W => Lib.run_convert_string_bytes (P := Try.prog) W 9 24 5 tx Try.underlying9 Try.underlying24 Try.underlying5
            obtain ⟨w2, hw2⟩ : ∃ w2, wr.alloc (.cells #[.int .i64 3, .int .i64 sz, .int .u64 nn, .string tx] 30) = w2 := ⟨_, rfl⟩
            have hxw : Blk w2 wr.heap.size 30 #[.int .i64 3, .int .i64 sz, .int .u64 nn, .string tx] := hw2 ▸ Blk.new wr _ _
            have hz2 : w2.heap.size = wr.heap.size + 1 := by rw [← hw2]; simp
            rw [hw2] at HBX HW2 HX ⊢
            clear hw2
            have HZ2 := Lib.hid hz2
            have hb2 := bytesWorld_below w2 5 tx
            have hxb : Blk (Lib.bytesWorld w2 5 tx) wr.heap.size 30 _ := hxw.below hb2 (by omega)
            have y0 : w2.cell? ⟨wr.heap.size, 3, none⟩ = some (.string tx) := hxw.cell 3
            have y0' : w2.cell? ⟨wr.heap.size, 0, none⟩ = some (.int .i64 3) := hxw.cell 0
            have hwr := wraw_any (Lib.bytesWorld w2 5 tx) w.heap.size A0 c0 u0 lw (HW2.out.keep (Keep.of_below (S := fun _ => False) hb2) (fun _ _ h => h)) (some ⟨w2.heap.size, 0, none⟩) tx.size (grownCap w2 tx.size 0 5) tx.data.toList (bytesWorld_reads _ _ _) (fun ad e => by cases e; have := HW2.out.blk.lt; simp; omega) (by omega)
            have H1 := Lib.hid hwr
            have HB2 := Lib.hid hb2
            have HXB := Lib.hid hxb
            clear hb2 hxb hxw hwr hz2
            go_wp2_with (go_at_call 16; refine H1.out.mono ?_; rintro e w3 ⟨rfl, hq⟩; have hxb3 : Blk w3 wr.heap.size 30 _ := (by obtain ⟨_, _, _, _, _, g3⟩ := hq; exact g3.blk HXB.out (fun h => by have := S1.out.foot_lt _ h; omega)); have y3 : w3.cell? ⟨wr.heap.size, 3, none⟩ = some (.string tx) := hxb3.cell 3; have HQ := Lib.hid hq; clear hq hxb3)
            have hb4 := bytesWorld_below w3 5 tx
            have hg2 : w2.heap.size < w3.heap.size := by
              obtain ⟨_, _, _, _, _, g3⟩ := HQ.out
              have := g3.size
              rw [Lib.bytesWorld_size] at this
              omega
            have hby : Bys (Lib.bytesWorld w3 5 tx) w2.heap.size tx.size := by
              obtain ⟨_, _, _, _, _, g3⟩ := HQ.out
              refine ((bytesWorld_bys w2 tx).keep g3 (fun h => ?_) (by rw [Lib.bytesWorld_size]; omega)).keep (Keep.of_below (S := fun _ => False) hb4) (fun h => h) hg2
              have := S1.out.foot_lt _ h
              have := HZ2.out
              omega
            have HB4 := Lib.hid hb4
            have HG2 := Lib.hid hg2
            obtain ⟨w4, hw4⟩ : ∃ w4, Lib.bytesWorld w3 5 tx = w4 := ⟨_, rfl⟩
            have HR4 := Lib.hid (bytesWorld_reads w3 5 tx)
            rw [hw4] at hby HB4 HR4 ⊢
            clear hb4 hg2 hw4 cv y0 y0' y3
            go_loopw [75] (fun i wi => ∃ j, j ≤ tx.size ∧ i = .int .i64 j ∧ Keep (fun k => k = w2.heap.size) w4 wi ∧ Bys wi w2.heap.size tx.size) (fun i _ => tx.size - (intOf i).toNat)
            case atStart => exact ⟨0, Nat.zero_le _, rfl, Keep.refl _ _, hby⟩
            case round =>
              obtain ⟨j, hj, rfl, hkp, hbi⟩ := hrel
              clear hby
              by_cases hjl : j < tx.size
              · obtain ⟨x, cx, fx⟩ := hbi j hjl
                have HBI := Lib.hid hbi
                have HKP := Lib.hid hkp
                clear hbi hkp
                go_wp2
                refine ⟨⟨j + 1, by omega, by go_num, HKP.out.setCell ⟨w2.heap.size, j, none⟩ _ (fun _ => rfl), HBI.out.set_ hjl⟩, by simp [intOf]; omega⟩
              · have HBI := Lib.hid hbi
                have HKP := Lib.hid hkp
                clear hbi hkp
                go_wp2
                go_meet
                refine ⟨tx.data.toList, 0, ⟨some ⟨w3.heap.size, 0, none⟩, _, by rw [size_list], ?_⟩, rfl, rfl, by rw [size_list]; omega, ?_⟩
                · have := (HR4.out.keepS HKP.out (Nat.le_refl _) (fun ad e => by cases e; have := HG2.out; simp; omega)).more HKP.out.size
                  rw [size_list]
                  exact this
                · refine St.wroteS (S := fun k => k = w2.heap.size) S1.out.foot_lt S2.out S3.out S4.out S5.out ⟨Aa, ca, rfl⟩ (HBX.out.trans (HB2.out.mono HBX.out.size)) HQ.out (fun k e => ?_) ((Keep.of_below (S := fun k => k = w2.heap.size) HB4.out).trans HKP.out (fun _ _ h => h))
                  subst e
                  exact ⟨HBX.out.size, by rw [Lib.bytesWorld_size]; omega⟩
          · have b0 : (kd == 0) = false := by simpa using k0
            have b1 : (kd == 1) = false := by simpa using k1
            have b2 : (kd == 2) = false := by simpa using k2
            have b3 : (kd == 3) = false := by simpa using k3
            go_wp2_with fail
            go_meet
            refine ⟨[], 0, ⟨none, 0, rfl, Reads.none_⟩, rfl, rfl, by simp, ?_⟩
            rw [List.append_nil]
            exact St.below ⟨A0, c0, u0, S1.out, S2.out, S3.out, S4.out, S5.out, Aa, ca, rfl⟩ HBX.out
        case rest =>
          obtain ⟨out, er, ⟨Av, cv, rfl, hrd⟩, rfl, rfl, hm2, A6, c6, u6, t1, t2, t3, t4, t5, t6⟩ := hcut
          obtain ⟨i0, hi, hz0, hz1, hz2⟩ := info_parts infoU8
          have T1 := Lib.hid t1
          have T2 := Lib.hid t2
          have T3 := Lib.hid t3
          have T4 := Lib.hid t4
          have T5 := Lib.hid t5
          have HR := Lib.hid hrd
          clear t1 t2 t3 t4 t5 t6 hrd
          clear x0 x1 x2 x3
          go_wp2_with (at_builtin; refine wpList_append_any _ rfl _ _ 24 rfl w.heap.size 5 i0 (.int .u8 0) 1 1 Try.underlying24 hi hz0 hz1 hz2 rfl (by decide) _ lw.length (lw.map bv) rfl T4.out wc.heap.size Av out.length cv (out.map bv) rfl HR.out (bv_one _) (by unfold maxLen; omega) (by omega) T3.out.size ?_)
          intro v' w7 hown hgrow hat
          obtain ⟨A7, c7, rfl, hst, hw7⟩ := St.appended T1.out T2.out T3.out T4.out T5.out hown hgrow hat
          have hlx : (lw ++ out).length ≤ 10 * (k + 1) + size (l.take (k + 1)) := by
            rw [List.take_succ_eq_append_getElem hkl, size_snoc, HKK.out, List.length_append]
            simp only
            omega
          obtain ⟨lx, hlx'⟩ : ∃ lx, lw ++ out = lx := ⟨_, rfl⟩
          rw [hlx'] at hst hw7 hlx ⊢
          have HST := Lib.hid hst
          have HW7 := Lib.hid hw7
          have HLX := Lib.hid hlx
          clear hown hgrow hat hst hw7 hlx hlx' T1 T2 T3 T4 T5 HR
          go_wp2_with (go_at_call 17; refine (wlen_any w7 _ _ _ _ _ HW7.out).mono ?_; rintro e _ ⟨rfl, rfl⟩)
          refine ⟨⟨k + 1, lx, by omega, by go_num, HLX.out, HST.out⟩, by simp [intOf]; omega⟩
      · obtain rfl : k = n := by omega
        have hll : lw.length ≤ 140737488355328 := by have := size_take_le l k; omega
        have HWB := Lib.hid (wbytes_any wr _ _ _ _ _ s1 hll)
        have S1 := Lib.hid s1
        have S3 := Lib.hid s3
        have S4 := Lib.hid s4
        clear s1 s2 s3 s4 s5 hlw
        go_wp2_with (go_at_call 18; refine HWB.out.mono ?_; rintro e w1 ⟨A1, c1, rfl, g1, k1⟩; have ca1 : (convert 24 9 (.slice A1 lw.length c1)).run Try.prog w1 = .ok (.string ⟨lw.toArray⟩) w1 := conv_reads c1 (Reads.of_own g1); have cb1 : (convert 24 9 (.slice Aa lw.length ca)).run Try.prog w1 = .ok (.string ⟨lw.toArray⟩) w1 := conv_reads ca ((Reads.of_own S4.out).below k1); have G1 := Lib.hid g1; have K1 := Lib.hid k1; clear g1 k1)
        clear ca1 cb1
        obtain ⟨wo, hwo⟩ : ∃ wo : World, wo = wr := ⟨_, rfl⟩
        rw [← hwo] at S1 S3 S4 G1 K1 HWB
        clear hwo
        go_loopw [106] (fun i wi => ∃ j, j ≤ lw.length ∧ i = .int .i64 j ∧ Below wo.heap.size wo wi ∧ ∀ g, A1 = some ⟨g, 0, none⟩ → Bys wi g lw.length) (fun i _ => lw.length - (intOf i).toNat)
        case atStart => exact ⟨0, Nat.zero_le _, rfl, K1.out, fun g e => by subst e; exact own_bys G1.out⟩
        case round =>
          obtain ⟨j, hj, rfl, hbw, hby⟩ := hrel
          have HBW := Lib.hid hbw
          have HBY := Lib.hid hby
          clear hbw hby
          by_cases hjl : j < lw.length
          · obtain ⟨g, rfl, hgb⟩ : ∃ g, A1 = some ⟨g, 0, none⟩ ∧ wo.heap.size ≤ g := by
              rcases G1.out.2 with ⟨_, h0⟩ | ⟨g, cap, cur, e, hb, _⟩
              · omega
              · injection e with e
                exact ⟨g, e, hb⟩
            obtain ⟨x, cx, fx⟩ := HBY.out g rfl j hjl
            go_wp2
            refine ⟨⟨j + 1, by omega, by go_num, HBW.out.setCell (p := ⟨g, j, none⟩) hgb _, fun g' e => ?_⟩, by simp [intOf]; omega⟩
            injection e with e
            injection e with e
            subst e
            exact (HBY.out g rfl).set_ hjl
          · have hwd : Wr wr.drew w.heap.size A0 c0 u0 lw := S1.out.keep (Keep.of_below (S := fun _ => False) HBW.out).drew (fun _ _ h => h)
            have HWB2 := Lib.hid (wbytes_any wr.drew _ _ _ _ _ hwd hll)
            have cb2 : (convert 24 9 (.slice Aa lw.length ca)).run Try.prog wr.drew = .ok (.string ⟨lw.toArray⟩) wr.drew := conv_reads ca (((Reads.of_own S4.out).below HBW.out).drew)
            clear hwd
            go_wp2_with fail
            go_region_with (go_at_call 18; refine HWB2.out.mono ?_; rintro e w9 ⟨A9, c9, rfl, g9, k9⟩; have ca9 : (convert 24 9 (.slice A9 lw.length c9)).run Try.prog w9 = .ok (.string ⟨lw.toArray⟩) w9 := conv_reads c9 (Reads.of_own g9); have cb9 : (convert 24 9 (.slice Aa lw.length ca)).run Try.prog w9 = .ok (.string ⟨lw.toArray⟩) w9 := conv_reads ca ((((Reads.of_own S4.out).below HBW.out).drew).below (k9.mono (by simpa using HBW.out.size))); have K9 := Lib.hid k9; clear g9 k9)
            all_goals go_wp2
            all_goals
              go_ret
              refine ⟨rfl, ?_⟩
              have hlt := S3.out.size
              exact (S3.out.trans (HBW.out.mono hlt)).trans ((((Below.refl _ _).drew).trans (K9.out.mono (Nat.le_refl _))).mono (Nat.le_trans hlt HBW.out.size))
  · rw [hgr] at HG
    go_enter Try.func3, Try.ntmps3
    go_wp2_with (go_at_call 9; refine HG.out.mono ?_; rintro e w' ⟨rfl, rfl⟩)
    go_ret
    exact ⟨rfl, Below.refl _ _⟩

theorem own : ownKnob Try.prog.godebug = none := by kernel_rfl
theorem laidOut : laidOutB Try.prog = true := by kernel_rfl

set_option maxRecDepth 100000 in
theorem lifted (os : Os) (started : os.Started) (H : Type) (enc : TypeId × Value → H) :
    ReturnsInHanded {} Try.checked os 3 .any (Rows.octetWritesSpec.pre6 enc Try.prog Try.f3 Rows.octetWritesRow.domain false) (Rows.octetWritesSpec.post enc Try.prog Try.f3 false true false false) := by
  refine returnsInHanded_of_change_sized (C := Try.checked) own started (by kernel_rfl) Try.func3
    (ChangeSpec.witness6 (enc := enc) (C := Try.checked) false ⟨#[], #[.slice none 0 0], []⟩ 8 (by kernel_rfl) (by kernel_rfl) (by kernel_rfl) (by kernel_rfl)) ?_
  intro W base args ds gs before hval0 hW _ hsz0 _
  have hval : ∀ (j : Nat) t v, Try.f3.params[j]? = some t → args[j]? = some v → Value.okWide Try.prog W .any base t v := hval0
  have hsz : (DataW.weightsEach Try.prog (Try.f3.params.toList ++ Rows.octetWritesSpec.plain.varTypes Try.prog) (ds ++ gs)).all (· ≤ reachBytes) = true := hsz0
  have hW' := hW
  obtain ⟨p, q, hA0, hV, rfl, _, _⟩ := hW
  have hA : DataW.TrodAll enc Try.prog W 0 (fun _ => true) true Try.f3.params.toList args.toList ds p := hA0
  have hA2 := hA
  rw [Try.params3] at hA hval hsz
  obtain ⟨v0, d0, rfl, rfl, h0⟩ := trodAll_one hA
  obtain ⟨rfl, rfl⟩ := trodVars_none hV
  clear hA0 hval0 hsz0
  simp only [List.append_nil] at hW'
  have hlt : ∀ x ∈ p, x.block < W.heap.size := fun x hx => by simpa using hW'.lt x hx
  obtain ⟨A, n, c, l, rfl, hc, hm⟩ := open_cals (hval 0 22 v0 rfl rfl) h0 (fun n hn => by
    have := List.all_eq_true.1 hsz n (DataW.weights_mem_each (j := 0) rfl rfl n hn)
    simpa using this)
  refine (walk W.heap.size A n c l W hc (Nat.le_refl _) hm).mono fun e W' ⟨he, hb⟩ => ?_
  subst he
  exact ⟨_, rfl, _, _, _, [], p, [], hW', trodAll_cons_mk (shut_bool Try.underlying4 _) trodAll_mk0, below_trodAll laidOut hb (by
    rw [Try.params3]
    intro t ht
    simp at ht
    subst ht
    exact ⟨by kernel_rfl, of_decide_eq_true (by kernel_rfl)⟩) hA2 hlt, rfl, hb.frame _, fun h => by cases h⟩

/-- The statement. -/
theorem proved : Rows.OctetWritesSaid :=
  OpenClaim.holds_of_wide 3 Try.f3 rfl rfl rfl rfl rfl rfl rfl ⟨rfl, rfl, rfl, rfl, rfl⟩ rfl rfl rfl rfl rfl (by kernel_rfl) Try.func3 (by kernel_rfl)
    (of_decide_eq_true (by kernel_rfl)) (by unfold Func.isWrapper; first | (rw [if_pos (by decide +kernel)]; kernel_rfl) | (rw [if_neg (by decide +kernel)]; exact ⟨rfl, rfl⟩))
    (fun os started H enc _ => lifted os started H enc)

#print axioms proved
end Go.Proofs.Ytlonejpphmpnjaa.octetWrites

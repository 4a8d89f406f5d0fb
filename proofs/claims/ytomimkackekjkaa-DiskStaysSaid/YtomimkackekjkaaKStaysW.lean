/-
  The statement DiskStays: the walk.
-/
import Derived.Test.YtomimkackekjkaaKStays
namespace Go.Proofs.Ytomimkackekjkaa
open Go.RowKit Go.Maps

/-- A disk, and three arrays: what was, what is now, what was written. -/
structure SI (w1 : World) (g1 g2 g3 : Nat) (d : DAt) (wr : World) (s : RSt) (vs ns bs : List Value) : Prop where
  l : Lives w1.heap.size w1 wr d s
  a1 : Blk wr g1 50 vs.toArray
  a2 : Blk wr g2 50 ns.toArray
  a3 : Blk wr g3 51 bs.toArray
structure Apart3 (w1 : World) (g1 g2 g3 : Nat) (d : DAt) : Prop where
  f : ∀ k, d.foot k → k < g1
  n : w1.heap.size ≤ g1
  a : g1 < g2
  b : g2 < g3

section
variable {w1 wr w' : World} {g1 g2 g3 : Nat} {d : DAt} {s s' : RSt} {vs ns bs : List Value}
theorem SI.next (h : SI w1 g1 g2 g3 d wr s vs ns bs) (hb : Below wr.heap.size wr w') : SI w1 g1 g2 g3 d w' s vs ns bs :=
  ⟨h.l.next h.l.lt hb, h.a1.below hb h.a1.lt, h.a2.below hb h.a2.lt, h.a3.below hb h.a3.lt⟩
theorem SI.call (h : SI w1 g1 g2 g3 d wr s vs ns bs) (P : Apart3 w1 g1 g2 g3 d) (hk : Keep d.foot wr w') (hl : Lives w1.heap.size w1 w' d s') : SI w1 g1 g2 g3 d w' s' vs ns bs :=
  ⟨hl, hk.blk h.a1 (fun hf => by have := P.f _ hf; omega), hk.blk h.a2 (fun hf => by have := P.f _ hf; have := P.a; omega), hk.blk h.a3 (fun hf => by have := P.f _ hf; have := P.a; have := P.b; omega)⟩
theorem SI.set1 (h : SI w1 g1 g2 g3 d wr s vs ns bs) (P : Apart3 w1 g1 g2 g3 d) (k : Nat) (v : Value) : SI w1 g1 g2 g3 d (wr.setCell ⟨g1, k, none⟩ v) s (vs.set k v) ns bs := by
  have hk : Keep (fun i => i = g1) wr (wr.setCell ⟨g1, k, none⟩ v) := (Keep.refl _ _).setCell _ _ (fun _ => rfl)
  refine ⟨h.l.aside hk (fun i e => ⟨by have := P.n; omega, fun hf => by have := P.f _ hf; omega, by subst e; exact fun e => absurd (h.a1.typ.ne e) (by decide)⟩), ?_, hk.blk h.a2 (by have := P.a; omega), hk.blk h.a3 (by have := P.a; have := P.b; omega)⟩
  have := h.a1.set_ k v
  rwa [List.setIfInBounds_toArray] at this
theorem SI.set2 (h : SI w1 g1 g2 g3 d wr s vs ns bs) (P : Apart3 w1 g1 g2 g3 d) (k : Nat) (v : Value) : SI w1 g1 g2 g3 d (wr.setCell ⟨g2, k, none⟩ v) s vs (ns.set k v) bs := by
  have hk : Keep (fun i => i = g2) wr (wr.setCell ⟨g2, k, none⟩ v) := (Keep.refl _ _).setCell _ _ (fun _ => rfl)
  refine ⟨h.l.aside hk (fun i e => ⟨by have := P.n; have := P.a; omega, fun hf => by have := P.f _ hf; have := P.a; omega, by subst e; exact fun e => absurd (h.a2.typ.ne e) (by decide)⟩), hk.blk h.a1 (by have := P.a; omega), ?_, hk.blk h.a3 (by have := P.b; omega)⟩
  have := h.a2.set_ k v
  rwa [List.setIfInBounds_toArray] at this
theorem SI.set3 (h : SI w1 g1 g2 g3 d wr s vs ns bs) (P : Apart3 w1 g1 g2 g3 d) (k : Nat) (v : Value) : SI w1 g1 g2 g3 d (wr.setCell ⟨g3, k, none⟩ v) s vs ns (bs.set k v) := by
  have hk : Keep (fun i => i = g3) wr (wr.setCell ⟨g3, k, none⟩ v) := (Keep.refl _ _).setCell _ _ (fun _ => rfl)
  refine ⟨h.l.aside hk (fun i e => ⟨by have := P.n; have := P.a; have := P.b; omega, fun hf => by have := P.f _ hf; have := P.a; have := P.b; omega, by subst e; exact fun e => absurd (h.a3.typ.ne e) (by decide)⟩), hk.blk h.a1 (by have := P.a; have := P.b; omega), hk.blk h.a2 (by have := P.b; omega), ?_⟩
  have := h.a3.set_ k v
  rwa [List.setIfInBounds_toArray] at this
end

theorem blk_reads {w : World} {g : Nat} {x : List UInt8} (h : Blk w g 70 (x.map bv).toArray) (hx : x.length = 128) : Reads w w.heap.size 1 (some ⟨g, 0, none⟩) 128 (x.map bv) :=
  ⟨by rw [List.length_map]; omega, fun _ => ⟨_, rfl, h.lt, fun j u hu => by
    have hp : (⟨g, 0, none⟩ : Addr).add j = ⟨g, j, none⟩ := by unfold Addr.add; split <;> simp_all
    rw [hp, h.cell, ← hu]
    simp⟩⟩
theorem nowL_none (S : List (List UInt8)) (k : Nat) : nowL S (List.replicate 6 []) k = S.getD k [] := by
  unfold nowL
  have h0 : ∀ n : Nat, (List.replicate n ([] : List UInt8)).getD k [] = [] := fun n => by
    rw [List.getD_eq_getElem?_getD, List.getElem?_replicate]
    split <;> rfl
  rw [h0 6, if_neg (by simp)]
theorem ReadOut.at_ {w w' : World} {v : Value} {x : List UInt8} (ro : ReadOut w w' v x) (hx : x.length = 128) : ∃ g9, v = .slice (some ⟨g9, 0, none⟩) 128 128 ∧ Blk w' g9 70 (x.map bv).toArray := by
  rcases ro.2 with ⟨rfl, _⟩ | ⟨_, g9, _, e, hb⟩
  · cases hx
  · exact ⟨g9, e, hb⟩
/-- A list of bytes as a string. -/
abbrev strV (l : List UInt8) : Value := .string ⟨l.toArray⟩

/-- The crash's two disks: the one that is let down, and the copy that keeps all; and the three arrays. -/
structure TI (w1 : World) (g1 g2 g3 : Nat) (d d2 : DAt) (wr : World) (s s2 : RSt) (vs ns bs : List Value) : Prop where
  si : SI w1 g1 g2 g3 d wr s vs ns bs
  l2 : Lives w1.heap.size w1 wr d2 s2
structure FarT (B g1 g2 g3 : Nat) (d d2 : DAt) : Prop where
  f : ∀ k, d2.foot k → B ≤ k
  lo : ∀ k, d.foot k → k < B
  g : g1 < B ∧ g2 < B ∧ g3 < B
section
variable {w1 wr w' : World} {B g1 g2 g3 : Nat} {d d2 : DAt} {s s2 s' : RSt} {vs ns bs : List Value}
theorem TI.next (h : TI w1 g1 g2 g3 d d2 wr s s2 vs ns bs) (hb : Below wr.heap.size wr w') : TI w1 g1 g2 g3 d d2 w' s s2 vs ns bs := ⟨h.si.next hb, h.l2.next h.l2.lt hb⟩
theorem TI.callA (h : TI w1 g1 g2 g3 d d2 wr s s2 vs ns bs) (P : Apart3 w1 g1 g2 g3 d) (Q : FarT B g1 g2 g3 d d2) (hk : Keep d.foot wr w') (hl : Lives w1.heap.size w1 w' d s') : TI w1 g1 g2 g3 d d2 w' s' s2 vs ns bs :=
  ⟨h.si.call P hk hl, h.l2.other h.si.l (fun k h1 h2 => by have := Q.f k h1; have := Q.lo k h2; omega) hk (fun _ h => h)⟩
theorem TI.callB (h : TI w1 g1 g2 g3 d d2 wr s s2 vs ns bs) (Q : FarT B g1 g2 g3 d d2) (hk : Keep d2.foot wr w') (hl : Lives w1.heap.size w1 w' d2 s') : TI w1 g1 g2 g3 d d2 w' s s' vs ns bs :=
  ⟨⟨h.si.l.other h.l2 (fun k h1 h2 => by have := Q.f k h2; have := Q.lo k h1; omega) hk (fun _ h => h), hk.blk h.si.a1 (fun hf => by have := Q.f _ hf; have := Q.g; omega), hk.blk h.si.a2 (fun hf => by have := Q.f _ hf; have := Q.g; omega), hk.blk h.si.a3 (fun hf => by have := Q.f _ hf; have := Q.g; omega)⟩, hl⟩
end
theorem str_take (l : List UInt8) (q : Nat) (h : q ≤ l.length) (W : World) : (Instr.sliceAt 9 (strV l) none (some (.int .i64 (q : Int))) none).run Try.prog W = .ok (strV (l.take q)) W := by
  have hu : Try.prog.underlying 9 = some .string := Try.underlying9
  have hs : (ByteArray.mk l.toArray).size = l.length := by simp [ByteArray.size]
  rw [run_sliceAt_string (h := hu), run_slice_string_h (ht := hu) (h0 := by omega) (h2 := by rw [hs]; omega), Int.toNat_natCast]
  have : (ByteArray.mk l.toArray).extract 0 q = ⟨(l.take q).toArray⟩ := by
    apply ByteArray.ext
    simp
  rw [this]
theorem str_drop (l : List UInt8) (q : Nat) (h : q ≤ l.length) (W : World) : (Instr.sliceAt 9 (strV l) (some (.int .i64 (q : Int))) none none).run Try.prog W = .ok (strV (l.drop q)) W := by
  have hu : Try.prog.underlying 9 = some .string := Try.underlying9
  have hs : (ByteArray.mk l.toArray).size = l.length := by simp [ByteArray.size]
  rw [run_sliceAt_string (h := hu), run_slice_string_l (ht := hu) (h0 := by omega) (h1 := by rw [hs]; omega), Int.toNat_natCast, hs]
  have : (ByteArray.mk l.toArray).extract q l.length = ⟨(l.drop q).toArray⟩ := by
    apply ByteArray.ext
    simp
    exact List.take_of_length_le (by rw [List.length_drop]; omega)
  rw [this]
theorem str_cat (a b : List UInt8) (h : a.length + b.length ≤ 1000) (W : World) : (binOp .add 9 (strV a) (strV b)).run Try.prog W = .ok (strV (a ++ b)) W := by
  have h1 := run_string_add_lists (P := Try.prog) W a b (by omega) (by omega)
  simp only [binOp]
  exact h1
theorem run_clamp (n q : Int) (hq : max 0 (min n 128) = q) : (∃ m : Int, (∀ ts t W, (Builtin.min_ ts t #[.int .i64 n, .int .i64 128]).run Try.prog W = .ok (.int .i64 m) W) ∧ ∀ ts t W, (Builtin.max_ ts t #[.int .i64 0, .int .i64 m]).run Try.prog W = .ok (.int .i64 q) W) := by
  refine ⟨min n 128, fun ts t W => ?_, fun ts t W => ?_⟩
  · have e : (if (128 : Int) < n then 128 else n) = min n 128 := by split <;> omega
    rw [run_min_int2, e]
  · have e : (if min n 128 > 0 then min n 128 else 0) = q := by split <;> omega
    rw [run_max_int2, e]
theorem waits_booted (S C : List (List UInt8)) (m : Int) (c : DCrash) : waits3 (bootSt (downK (pl6 S C m) c)) = [] := by
  have h0 : ∀ n : Nat, waitsTo (bootSt (downK (pl6 S C m) c)) n = [] := fun n => by
    induction n with
    | zero => rfl
    | succ n ih =>
      unfold waitsTo
      rw [ih]
      have hc : (bootSt (downK (pl6 S C m) c)).cache = List.replicate S.length [] := rfl
      have : ((bootSt (downK (pl6 S C m) c)).cache.getD n []).length = 0 := by
        rw [hc, List.getD_eq_getElem?_getD, List.getElem?_replicate]
        split <;> rfl
      rw [if_neg (by rw [this]; omega)]
  exact h0 _

set_option maxRecDepth 100000 in
set_option maxHeartbeats 4000000 in
theorem stays_walk (A : Option Addr) (n c : Nat) (l : List DOp) (A2 : Option Addr) (n2 c2 : Nat) (l2 : List DOp) (cr : DCrash) (KA : Option Addr) (Kc : Nat) (W : World) (H : DOps W W.heap.size A n l) (hn : n ≤ 9223372036854775807) (H2 : DOps W W.heap.size A2 n2 l2) (hn2 : n2 ≤ 9223372036854775807) (hk : Sl W W.heap.size KA Kc (cr.keep.map iv)) :
    Calls Try.prog 4 #[.slice A n c, .slice A2 n2 c2, .agg #[.int .i64 cr.write, .slice KA cr.keep.length Kc, .int .i64 cr.torn, .int .i64 cr.at_]] W fun e w' => e = .returned (.bool true) ∧ Below W.heap.size W w' := by
  obtain ⟨X, hX⟩ : ∃ X, (#[.int .i64 cr.write, .slice KA cr.keep.length Kc, .int .i64 cr.torn, .int .i64 cr.at_] : Array Value) = X := ⟨_, rfl⟩
  obtain ⟨W1, hW1⟩ : ∃ W1, W.alloc (.cells X 36) = W1 := ⟨_, rfl⟩
  have hB1 : Below W.heap.size W W1 := by rw [← hW1]; exact (Below.refl _ W).alloc (Nat.le_refl _) _
  have hN1 : Blk W1 W.heap.size 36 X := by rw [← hW1]; exact Blk.new W _ _
  rw [hX]
  have HB1 := Lib.hid hB1
  have HN1 := Lib.hid hN1
  have HX := Lib.hid hX
  have HH := Lib.hid H
  have HH2 := Lib.hid H2
  have HK := Lib.hid hk
  have HAL := Lib.hid (alive_any W1)
  have HGA : Hid (∀ w', Below W.heap.size W w' → Calls Try.prog 5 #[.slice A n c] w' fun e w2 => e = .returned (.bool (dgreat l)) ∧ w' = w2) := Lib.hid (fun w' hb => dgreat_any A c n l w' ((H.below hb).more hb.size) hn)
  have HGB : Hid (∀ w', Below W.heap.size W w' → Calls Try.prog 5 #[.slice A2 n2 c2] w' fun e w2 => e = .returned (.bool (dgreat l2)) ∧ w' = w2) := Lib.hid (fun w' hb => dgreat_any A2 c2 n2 l2 w' ((H2.below hb).more hb.size) hn2)
  clear H H2 hk hB1 hN1 hX
  generalize hkl : cr.keep.length = kl at *
  have HL1 : Hid (∀ w1, Below W1.heap.size W1 w1 → w1.cell? ⟨W.heap.size, 1, none⟩ = some (.slice KA kl Kc)) := Lib.hid (fun w1 b0 => ((HN1.out.below b0 HN1.out.lt).cell 1).trans (by rw [← HX.out]; rfl))
  by_cases hearly : dgreat l = true ∨ dgreat l2 = true ∨ 50 < n2 ∨ 100 < kl
  · have L0 : Hid True := Lib.hid trivial
    generalize dgreat l = b1 at *
    generalize dgreat l2 = b2 at *
    have HEA := Lib.hid hearly
    clear hearly
    rcases b1 with _ | _
    · rcases b2 with _ | _
      · by_cases h50 : 50 < n2
        · go_enter Try.func4, Try.ntmps4
          go_wp2_with (first
            | (go_at_call 12; refine HAL.out.mono ?_; rintro e w1 ⟨rfl, b0⟩; have HB := Lib.hid (HB1.out.trans (b0.mono HB1.out.size)); clear b0)
            | (go_at_call 5; have l0 := L0.out; clear l0; refine (HGA.out w1 HB.out).mono ?_; rintro e _ ⟨rfl, rfl⟩; clear L0)
            | (go_at_call 5; refine (HGB.out w1 HB.out).mono ?_; rintro e _ ⟨rfl, rfl⟩))
          go_ret
          exact ⟨rfl, HB.out⟩
        · have h100 : 100 < kl := by have := HEA.out; simpa [h50] using this
          go_enter Try.func4, Try.ntmps4
          go_wp2_with (first
            | (go_at_call 12; refine HAL.out.mono ?_; rintro e w1 ⟨rfl, b0⟩; have HB := Lib.hid (HB1.out.trans (b0.mono HB1.out.size)); have c1 := HL1.out w1 b0; clear b0)
            | (go_at_call 5; have l0 := L0.out; clear l0; refine (HGA.out w1 HB.out).mono ?_; rintro e _ ⟨rfl, rfl⟩; clear L0)
            | (go_at_call 5; refine (HGB.out w1 HB.out).mono ?_; rintro e _ ⟨rfl, rfl⟩))
          go_ret
          exact ⟨rfl, HB.out⟩
      · go_enter Try.func4, Try.ntmps4
        go_wp2_with (first
          | (go_at_call 12; refine HAL.out.mono ?_; rintro e w1 ⟨rfl, b0⟩; have HB := Lib.hid (HB1.out.trans (b0.mono HB1.out.size)); clear b0)
          | (go_at_call 5; have l0 := L0.out; clear l0; refine (HGA.out w1 HB.out).mono ?_; rintro e _ ⟨rfl, rfl⟩; clear L0)
          | (go_at_call 5; refine (HGB.out w1 HB.out).mono ?_; rintro e _ ⟨rfl, rfl⟩))
        go_ret
        exact ⟨rfl, HB.out⟩
    · go_enter Try.func4, Try.ntmps4
      go_wp2_with (first
        | (go_at_call 12; refine HAL.out.mono ?_; rintro e w1 ⟨rfl, b0⟩; have HB := Lib.hid (HB1.out.trans (b0.mono HB1.out.size)); clear b0)
        | (go_at_call 5; refine (HGA.out w1 HB.out).mono ?_; rintro e _ ⟨rfl, rfl⟩))
      go_ret
      exact ⟨rfl, HB.out⟩
  · have hg1 : dgreat l = false := by simpa using fun h => hearly (.inl h)
    have hg2 : dgreat l2 = false := by simpa using fun h => hearly (.inr (.inl h))
    have h50 : ¬ 50 < n2 := fun h => hearly (.inr (.inr (.inl h)))
    have h100 : ¬ 100 < kl := fun h => hearly (.inr (.inr (.inr h)))
    have hn200 : n ≤ 200 := by
      unfold dgreat at hg1
      rw [Bool.or_eq_false_iff, decide_eq_false_iff_not] at hg1
      have := HH.out.1
      omega
    rw [hg1] at HGA
    rw [hg2] at HGB
    clear hearly hg1 hg2
    have L0 : Hid True := Lib.hid trivial
    go_enter Try.func4, Try.ntmps4
    go_wp2_with (first
      | (go_at_call 12; refine HAL.out.mono ?_; rintro e w1 ⟨rfl, b0⟩; have HB := Lib.hid (HB1.out.trans (b0.mono HB1.out.size)); have c1 := HL1.out w1 b0; have HBX := Lib.hid (HN1.out.below b0 HN1.out.lt); clear b0)
      | (go_at_call 5; have l0 := L0.out; clear l0; refine (HGA.out w1 HB.out).mono ?_; rintro e _ ⟨rfl, rfl⟩; clear L0)
      | (go_at_call 5; refine (HGB.out w1 HB.out).mono ?_; rintro e _ ⟨rfl, rfl⟩)
      | (go_at_call 13; refine (made_any A n c l W.heap.size w1 (HH.out.below HB.out) HB.out.size hn200).mono ?_; rintro e w2 ⟨d, S, m, rfl, l2', hS6, hm⟩; have L2 := Lib.hid l2'; clear l2' c1))
    obtain ⟨wq, hwq⟩ : ∃ wq, ((w2.alloc (.cells #[.string ⟨#[]⟩, .string ⟨#[]⟩, .string ⟨#[]⟩, .string ⟨#[]⟩, .string ⟨#[]⟩, .string ⟨#[]⟩] 50)).alloc (.cells #[.string ⟨#[]⟩, .string ⟨#[]⟩, .string ⟨#[]⟩, .string ⟨#[]⟩, .string ⟨#[]⟩, .string ⟨#[]⟩] 50)).alloc (.cells #[.bool false, .bool false, .bool false, .bool false, .bool false, .bool false] 51) = wq := ⟨_, rfl⟩
    obtain ⟨s0, hs0⟩ : ∃ s0, pl6 S (List.replicate 6 []) (m : Int) = s0 := ⟨_, rfl⟩
    have HSI : Hid (SI w1 w2.heap.size (w2.heap.size + 1) (w2.heap.size + 1 + 1) d wq s0 (List.replicate 6 (strV [])) (List.replicate 6 (strV [])) (List.replicate 6 (.bool false))) := Lib.hid (by
      rw [← hwq, ← hs0]
      have b1 := (Below.refl w2.heap.size w2).alloc (Nat.le_refl _) (.cells #[.string ⟨#[]⟩, .string ⟨#[]⟩, .string ⟨#[]⟩, .string ⟨#[]⟩, .string ⟨#[]⟩, .string ⟨#[]⟩] 50)
      have b2 := b1.alloc b1.size (.cells #[.string ⟨#[]⟩, .string ⟨#[]⟩, .string ⟨#[]⟩, .string ⟨#[]⟩, .string ⟨#[]⟩, .string ⟨#[]⟩] 50)
      have b3 := b2.alloc b2.size (.cells #[.bool false, .bool false, .bool false, .bool false, .bool false, .bool false] 51)
      refine ⟨L2.out.next L2.out.lt b3, ((Blk.new w2 50 _).alloc _).alloc _, ?_, ?_⟩
      · have h := (Blk.new (w2.alloc (.cells #[.string ⟨#[]⟩, .string ⟨#[]⟩, .string ⟨#[]⟩, .string ⟨#[]⟩, .string ⟨#[]⟩, .string ⟨#[]⟩] 50)) 50 #[.string ⟨#[]⟩, .string ⟨#[]⟩, .string ⟨#[]⟩, .string ⟨#[]⟩, .string ⟨#[]⟩, .string ⟨#[]⟩]).alloc (.cells #[.bool false, .bool false, .bool false, .bool false, .bool false, .bool false] 51)
        rw [show (w2.alloc (.cells #[.string ⟨#[]⟩, .string ⟨#[]⟩, .string ⟨#[]⟩, .string ⟨#[]⟩, .string ⟨#[]⟩, .string ⟨#[]⟩] 50)).heap.size = w2.heap.size + 1 by simp] at h
        exact h
      · have h := Blk.new ((w2.alloc (.cells #[.string ⟨#[]⟩, .string ⟨#[]⟩, .string ⟨#[]⟩, .string ⟨#[]⟩, .string ⟨#[]⟩, .string ⟨#[]⟩] 50)).alloc (.cells #[.string ⟨#[]⟩, .string ⟨#[]⟩, .string ⟨#[]⟩, .string ⟨#[]⟩, .string ⟨#[]⟩, .string ⟨#[]⟩] 50)) 51 #[.bool false, .bool false, .bool false, .bool false, .bool false, .bool false]
        rw [show ((w2.alloc (.cells #[.string ⟨#[]⟩, .string ⟨#[]⟩, .string ⟨#[]⟩, .string ⟨#[]⟩, .string ⟨#[]⟩, .string ⟨#[]⟩] 50)).alloc (.cells #[.string ⟨#[]⟩, .string ⟨#[]⟩, .string ⟨#[]⟩, .string ⟨#[]⟩, .string ⟨#[]⟩, .string ⟨#[]⟩] 50)).heap.size = w2.heap.size + 1 + 1 by simp] at h
        exact h)
    have HP : Hid (Apart3 w1 w2.heap.size (w2.heap.size + 1) (w2.heap.size + 1 + 1) d) := Lib.hid ⟨L2.out.all_lt, L2.out.lt, by omega, by omega⟩
    have HST : Hid (∀ k, k < 6 → (S.getD k []).length = 128) := Lib.hid (fun k hk => by
      obtain ⟨kv, hdk⟩ := L2.out.dk
      exact hdk.ok.stay _ (get_mem (by show k < S.length; omega)))
    rw [hwq]
    obtain ⟨g1, hg1⟩ : ∃ g1, w2.heap.size = g1 := ⟨_, rfl⟩
    rw [hg1] at HSI HP ⊢
    have HS0 := Lib.hid hs0
    have HRE : Hid (∀ k, k < 6 → readErr3 s0 ((k : Nat) : Int) = 0 ∧ readOut3 s0 (k : Int) = S.getD k []) := Lib.hid (fun k hk => by
      rw [← hs0]
      exact ⟨pl6_err S _ _ k hS6 hk, (pl6_out S _ _ k hS6 hk).trans (nowL_none S k)⟩)
    clear hwq hs0 hg1 L2 HGA HGB HAL HL1 HN1 HB1 hW1
    go_loopw [50] (fun i wr => ∃ (k : Nat) (vs : List Value), k ≤ 6 ∧ i = .int .i64 (k : Int) ∧ vs.length = 6 ∧ (∀ j, j < k → vs[j]? = some (strV (S.getD j []))) ∧ SI w1 g1 (g1 + 1) (g1 + 1 + 1) d wr s0 vs vs (List.replicate 6 (.bool false))) (fun i _ => 6 - (intOf i).toNat)
    case atStart => exact ⟨0, _, Nat.zero_le _, rfl, rfl, (fun j hj => absurd hj (by omega)), HSI.out⟩
    case round =>
      obtain ⟨k, vs, hk6, rfl, hvl, hvs, hO⟩ := hrel
      clear HSI
      by_cases hlt : k < 6
      · obtain ⟨x, hx⟩ : ∃ x, S.getD k [] = x := ⟨_, rfl⟩
        have hx1 : x.length = 128 := by rw [← hx]; exact HST.out k hlt
        have HX1 := Lib.hid hx1
        have HR := Lib.hid (lread (k : Int) hO.l (HRE.out k hlt).1 ((HRE.out k hlt).2.trans hx))
        have HO := Lib.hid hO
        obtain ⟨u, hu⟩ : ∃ u, vs[k]? = some u := ⟨_, List.getElem?_eq_getElem (by omega)⟩
        have HU := Lib.hid hu
        have HVS : Hid (∀ j, j < k + 1 → (vs.set k (strV x))[j]? = some (strV (S.getD j []))) := Lib.hid (fun j hj => by
          by_cases e : k = j
          · subst e
            rw [List.getElem?_set_self (by omega), hx]
          · rw [List.getElem?_set_ne e]
            exact hvs j (by omega))
        have HVL := Lib.hid hvl
        clear hO hu hvs hx hvl
        go_wp2_with (go_at_call 10; refine HR.out.mono ?_; rintro e w9 ⟨v, rfl, ro, -⟩; obtain ⟨g9, rfl, hb9⟩ := ro.at_ HX1.out; have HO9 := Lib.hid (HO.out.next ro.1); have HB9 := Lib.hid hb9; clear ro hb9 HR HO)
        have HNE1 : Hid (∀ {gg : Nat} {ww : World} (cs : Array Value), Blk ww gg 50 cs → Blk ww g9 70 (x.map bv).toArray → g9 ≠ gg) := Lib.hid (fun cs h1 h2 => h2.ne_ h1 (by decide))
        clear hx1
        refine wp_region_done_on (fun dn w' => SI w1 g1 (g1 + 1) (g1 + 1 + 1) d w' s0 (if dn 7 = true then vs.set k (strV x) else vs) (if dn 9 = true then vs.set k (strV x) else vs) (List.replicate 6 (.bool false)) ∧ Blk w' g9 70 (x.map bv).toArray)
          (fun _ i v _ => v = ([.int .i64 (k : Int), .int .i64 (k : Int), .slice (some ⟨g9, 0, none⟩) 128 128, strV x, .slice (some ⟨g9, 0, none⟩) 128 128, strV x, .pointer (some ⟨g1, k, none⟩), undef, .pointer (some ⟨g1 + 1, k, none⟩), undef] : List Value).getD i undef) (by kernel_rfl) 180 rfl (by kernel_rfl) ⟨HO9.out.next (Below.refl _ _).drew, HB9.out.drew⟩ ?_ ?_
        · intro i hi
          have hi2 : i < 10 := hi
          clear hi
          rcases i with _ | i
          · refine done_value (fun _ _ h => h) (fun _ _ _ _ h => h) (.int .i64 (k : Int)) rfl ?_
            intro dn a8 w8 hS ho hn
            have o12 : a8.tmps[12]? = some _ := (ho 12 (by kernel_rfl)).trans rfl
            clear ho hn
            refine ⟨wanted_free rfl, ?_, rfl⟩
            go_simp
          rcases i with _ | i
          · refine done_value (fun _ _ h => h) (fun _ _ _ _ h => h) (.int .i64 (k : Int)) rfl ?_
            intro dn a8 w8 hS ho hn
            have o12 : a8.tmps[12]? = some _ := (ho 12 (by kernel_rfl)).trans rfl
            clear ho hn
            refine ⟨wanted_free rfl, ?_, rfl⟩
            go_simp
          rcases i with _ | i
          · refine done_value (fun _ _ h => h) (fun _ _ _ _ h => h) (.slice (some ⟨g9, 0, none⟩) 128 128) rfl ?_
            intro dn a8 w8 hS ho hn
            have o13 : a8.tmps[13]? = some _ := (ho 13 (by kernel_rfl)).trans rfl
            clear ho hn
            refine ⟨wanted_free rfl, ?_, rfl⟩
            go_simp
          rcases i with _ | i
          · refine done_value (fun _ _ h => h) (fun _ _ _ _ h => h) (strV x) rfl ?_
            intro dn a8 w8 hS ho hn
            obtain ⟨_, n68, rfl⟩ := hn 2 68 (by kernel_rfl) rfl
            clear ho hn
            refine ⟨wanted_free rfl, ?_, rfl⟩
            have cv := conv_reads 128 (blk_reads hS.2 HX1.out)
            unfold strV
            go_simp
          rcases i with _ | i
          · refine done_value (fun _ _ h => h) (fun _ _ _ _ h => h) (.slice (some ⟨g9, 0, none⟩) 128 128) rfl ?_
            intro dn a8 w8 hS ho hn
            have o13 : a8.tmps[13]? = some _ := (ho 13 (by kernel_rfl)).trans rfl
            clear ho hn
            refine ⟨wanted_free rfl, ?_, rfl⟩
            go_simp
          rcases i with _ | i
          · refine done_value (fun _ _ h => h) (fun _ _ _ _ h => h) (strV x) rfl ?_
            intro dn a8 w8 hS ho hn
            obtain ⟨_, n70, rfl⟩ := hn 4 70 (by kernel_rfl) rfl
            clear ho hn
            refine ⟨wanted_free rfl, ?_, rfl⟩
            have cv := conv_reads 128 (blk_reads hS.2 HX1.out)
            unfold strV
            go_simp
          rcases i with _ | i
          · refine done_value (fun _ _ h => h) (fun _ _ _ _ h => h) (.pointer (some ⟨g1, k, none⟩)) rfl ?_
            intro dn a8 w8 hS ho hn
            have o9 : a8.tmps[9]? = some _ := (ho 9 (by kernel_rfl)).trans rfl
            obtain ⟨_, n66, rfl⟩ := hn 0 66 (by kernel_rfl) rfl
            clear ho hn
            refine ⟨wanted_free rfl, ?_, rfl⟩
            go_simp
          rcases i with _ | i
          · refine done_store rfl rfl ?_
            intro dn a8 w8 hS hd hx ho hn
            obtain ⟨_, n72, rfl⟩ := hn 6 72 (by kernel_rfl) rfl
            obtain ⟨_, n69, rfl⟩ := hn 3 69 (by kernel_rfl) rfl
            clear ho hn
            refine ⟨wanted_free rfl, ?_⟩
            have hd7 : dn 7 = false := hd
            have hS1 : SI w1 g1 (g1 + 1) (g1 + 1 + 1) d w8 s0 vs (if dn 9 = true then vs.set k (strV x) else vs) (List.replicate 6 (.bool false)) := by { have h := hS.1; simpa only [hd7, Bool.false_eq_true, if_false] using h }
            have cg : w8.cell? ⟨g1, k, none⟩ = some u := (hS1.a1.cell k).trans (by rw [List.getElem?_toArray]; exact HU.out)
            have fg := hS1.a1.frozen k
            exact ⟨w8.setCell ⟨g1, k, none⟩ (strV x), by go_simp, ⟨hS1.set1 HP.out k _, hS.2.far (HNE1.out _ hS1.a1 hS.2) _⟩, rfl, fun j u _ _ h => h⟩
          rcases i with _ | i
          · refine done_value (fun _ _ h => h) (fun _ _ _ _ h => h) (.pointer (some ⟨g1 + 1, k, none⟩)) rfl ?_
            intro dn a8 w8 hS ho hn
            have o10 : a8.tmps[10]? = some _ := (ho 10 (by kernel_rfl)).trans rfl
            obtain ⟨_, n67, rfl⟩ := hn 1 67 (by kernel_rfl) rfl
            clear ho hn
            refine ⟨wanted_free rfl, ?_, rfl⟩
            go_simp
          rcases i with _ | i
          · refine done_store rfl rfl ?_
            intro dn a8 w8 hS hd hx ho hn
            obtain ⟨_, n73, rfl⟩ := hn 8 73 (by kernel_rfl) rfl
            obtain ⟨_, n71, rfl⟩ := hn 5 71 (by kernel_rfl) rfl
            clear ho hn
            refine ⟨wanted_free rfl, ?_⟩
            have hd7 : dn 9 = false := hd
            have hS1 : SI w1 g1 (g1 + 1) (g1 + 1 + 1) d w8 s0 (if dn 7 = true then vs.set k (strV x) else vs) vs (List.replicate 6 (.bool false)) := by { have h := hS.1; simpa only [hd7, Bool.false_eq_true, if_false] using h }
            have cg : w8.cell? ⟨g1 + 1, k, none⟩ = some u := (hS1.a2.cell k).trans (by rw [List.getElem?_toArray]; exact HU.out)
            have fg := hS1.a2.frozen k
            exact ⟨w8.setCell ⟨g1 + 1, k, none⟩ (strV x), by go_simp, ⟨hS1.set2 HP.out k _, hS.2.far (HNE1.out _ hS1.a2 hS.2) _⟩, rfl, fun j u _ _ h => h⟩
          omega
        · intro done f w8 hS _ hall
          have HO8 : Hid (SI w1 g1 (g1 + 1) (g1 + 1 + 1) d w8 s0 (vs.set k (strV x)) (vs.set k (strV x)) (List.replicate 6 (.bool false))) := Lib.hid (by have h := hS.1; rwa [if_pos (hall 7 (by decide)), if_pos (hall 9 (by decide))] at h)
          clear hS hall
          simp only [putAll, List.foldl_cons, List.foldl_nil, Act.put, List.setIfInBounds_toArray, List.set_cons_succ, List.set_cons_zero]
          go_wp2
          exact ⟨⟨k + 1, vs.set k (strV x), by omega, by go_num, by rw [List.length_set]; exact HVL.out, HVS.out, HO8.out⟩, by simp [intOf]; omega⟩
      · obtain rfl : k = 6 := by omega
        have HVS := Lib.hid hvs
        have HVL := Lib.hid hvl
        have HO := Lib.hid hO
        clear hvs hvl hO
        go_wp2
        go_loopw [77] (fun i wr => ∃ (k mm : Nat) (C : List (List UInt8)) (ns bs : List Value), k ≤ n2 ∧ i = .int .i64 ((k : Nat) : Int) ∧ mm ≤ 200 + k ∧ C.length = 6 ∧ ns.length = 6 ∧ bs.length = 6 ∧ (∀ j, j < 6 → ns[j]? = some (strV (nowL S C j))) ∧ (∀ j, j < 6 → bs[j]? = some (.bool (decide (0 < (C.getD j []).length)))) ∧ SI w1 g1 (g1 + 1) (g1 + 1 + 1) d wr (pl6 S C (mm : Int)) vs ns bs) (fun i _ => n2 - (intOf i).toNat)
        case atStart => exact ⟨0, m, List.replicate 6 [], vs, List.replicate 6 (.bool false), Nat.zero_le _, rfl, by omega, rfl, HVL.out, rfl, (fun j hj => by rw [nowL_none]; exact HVS.out j hj), (fun j hj => by
          have h0 : (List.replicate 6 ([] : List UInt8)).getD j [] = [] := by rw [List.getD_eq_getElem?_getD, List.getElem?_replicate]; split <;> rfl
          rw [h0, List.getElem?_replicate, if_pos hj]
          rfl), by rw [HS0.out]; exact HO.out⟩
        case round =>
          obtain ⟨k, mm, C, ns, bs, hkn, rfl, hmm, hC6, hn6, hb6, hns, hbs', hO⟩ := hrel
          clear HO
          by_cases hlt : k < n2
          · have hBN : W.heap.size ≤ w1.heap.size := HB.out.size
            have HBN := Lib.hid hBN
            have hBw : Below W.heap.size W wr := HB.out.trans (hO.l.below.mono hBN)
            obtain ⟨ad, BA, Bc, KA2, Kc2, rfl, hadb, dc⟩ := (HH2.out.below hBw).at_ hlt
            have hkl' : k < l2.length := by have := HH2.out.1; omega
            generalize l2[k]'(by have := HH2.out.1; omega) = o at dc
            obtain ⟨kd, at_, bb, cw⟩ := o
            have x0 := dc.kind
            have x1 := dc.at_
            have x2 := dc.b
            have x3 := dc.write
            have x4 := dc.keep
            have x5 := dc.torn
            have x6 := dc.cat
            have hbs : Reads wr W.heap.size 1 BA bb.length (bb.map bv) := by have := dc.bs.reads; rwa [List.length_map] at this
            simp only at x0 x1 x2 x3 x4 x5 x6
            obtain ⟨cww, cwk, cwt, cwa⟩ := cw
            simp only at x3 x4 x5 x6
            clear dc
            generalize hbl : bb.length = bl at *
            generalize cwk.length = kl2 at *
            have hbx : Below wr.heap.size wr (wr.alloc (.cells #[.int .i64 kd, .int .i64 at_, .slice BA bl Bc, .int .i64 cww, .slice KA2 kl2 Kc2, .int .i64 cwt, .int .i64 cwa] 38)) := (Below.refl _ _).alloc (Nat.le_refl _) _
            have hx := Blk.new wr 38 #[.int .i64 kd, .int .i64 at_, .slice BA bl Bc, .int .i64 cww, .slice KA2 kl2 Kc2, .int .i64 cwt, .int .i64 cwa]
            have HO2 := Lib.hid (hO.next hbx)
            have HRW := Lib.hid (hbs.below (hbx.mono hBw.size))
            have HWL := Lib.hid (Nat.le_trans hBw.size hbx.size)
            have HHX := Lib.hid hx
            have HNF : Hid (¬ d.foot wr.heap.size) := Lib.hid (fun hf => by have := hO.l.all_lt _ hf; omega)
            have HFEW : Hid (Few (pl6 S C (mm : Int))) := Lib.hid ⟨by show (mm : Int) < _; omega⟩
            clear hx hbx hBw hbs hO
            rcases pl6_write S C (mm : Int) at_ bb hS6 with ⟨he, hw, h0, h6, h128⟩ | ⟨he, hw⟩
            · obtain ⟨t, rfl⟩ : ∃ t : Nat, at_ = (t : Int) := ⟨at_.toNat, by omega⟩
              have ht : t < 6 := by omega
              have htn : ¬ (6 : Int) ≤ (t : Int) := by omega
              rw [Int.toNat_natCast] at hw
              have hw2 : writeK (pl6 S C (mm : Int)) (t : Int) bb = pl6 S (C.set t bb) ((mm + 1 : Nat) : Int) := hw.trans (by rw [Int.natCast_add]; rfl)
              have HWR := Lib.hid (lwrite (t : Int) BA bl Bc bb HO2.out.l hbl (HRW.out.more HWL.out) HFEW.out he hw2)
              have hget : ∀ j, j < 6 → (C.set t bb).getD j [] = if t = j then bb else C.getD j [] := fun j hj => by
                rw [List.getD_eq_getElem?_getD, List.getD_eq_getElem?_getD]
                by_cases e : t = j
                · subst e
                  rw [List.getElem?_set_self (by omega), if_pos rfl]
                  rfl
                · rw [List.getElem?_set_ne e, if_neg e]
              have HNS : Hid (∀ j, j < 6 → (ns.set t (strV bb))[j]? = some (strV (nowL S (C.set t bb) j))) := Lib.hid (fun j hj => by
                unfold nowL
                rw [hget j hj]
                by_cases e : t = j
                · subst e
                  rw [List.getElem?_set_self (by omega), if_pos rfl, if_pos (by omega)]
                · rw [List.getElem?_set_ne e, if_neg e]
                  exact hns j hj)
              have HBS : Hid (∀ j, j < 6 → (bs.set t (.bool true))[j]? = some (.bool (decide (0 < ((C.set t bb).getD j []).length)))) := Lib.hid (fun j hj => by
                rw [hget j hj]
                by_cases e : t = j
                · subst e
                  rw [List.getElem?_set_self (by omega), if_pos rfl, decide_eq_true (by omega)]
                · rw [List.getElem?_set_ne e, if_neg e]
                  exact hbs' j hj)
              obtain ⟨u, hu⟩ : ∃ u, ns[t]? = some u := ⟨_, List.getElem?_eq_getElem (by omega)⟩
              obtain ⟨u2, hu2⟩ : ∃ u2, bs[t]? = some u2 := ⟨_, List.getElem?_eq_getElem (by omega)⟩
              have HU := Lib.hid hu
              have HU2 := Lib.hid hu2
              have hm2 : mm + 1 ≤ 200 + (k + 1) := by omega
              clear he hw hw2 h0 h6 h128 hns hbs' hu hu2 hget
              obtain ⟨s2, hs2⟩ : ∃ s2, pl6 S (C.set t bb) ((mm + 1 : Nat) : Int) = s2 := ⟨_, rfl⟩
              rw [hs2] at HWR
              have HS2 := Lib.hid hs2
              clear hs2
              go_wp2_with (go_at_call 14; refine HWR.out.mono ?_; rintro e w9 ⟨rfl, l9, k9⟩; have HO9 := Lib.hid (HO2.out.call HP.out k9 l9); have HX9 := Lib.hid (k9.blk HHX.out HNF.out); have HR9 := Lib.hid (HRW.out.below ((k9.far HO2.out.l.lt HO2.out.l.foot).mono HBN.out)); clear l9 k9 HWR HO2 HHX HRW)
              obtain ⟨xb, hxb⟩ : ∃ xb, wr.heap.size = xb := ⟨_, rfl⟩
              rw [hxb] at HX9 HNF ⊢
              clear hxb x0 x1 x2 x3 x4 x5 x6
              refine wp_region_done_on (fun dn w' => SI w1 g1 (g1 + 1) (g1 + 1 + 1) d w' s2 vs (if dn 8 = true then ns.set t (strV bb) else ns) (if dn 10 = true then bs.set t (.bool true) else bs) ∧ Blk w' xb 38 #[.int .i64 kd, .int .i64 (t : Int), .slice BA bl Bc, .int .i64 cww, .slice KA2 kl2 Kc2, .int .i64 cwt, .int .i64 cwa] ∧ Reads w' W.heap.size 1 BA bl (bb.map bv))
                (fun _ i v _ => v = ([.pointer (some ⟨xb, 1, none⟩), .int .i64 (t : Int), .pointer (some ⟨xb, 1, none⟩), .int .i64 (t : Int), .pointer (some ⟨xb, 2, none⟩), .slice BA bl Bc, strV bb, .pointer (some ⟨g1 + 1, t, none⟩), undef, .pointer (some ⟨g1 + 1 + 1, t, none⟩), undef] : List Value).getD i undef) (by kernel_rfl) 180 rfl (by kernel_rfl) ⟨HO9.out.next (Below.refl _ _).drew, HX9.out.drew, HR9.out.drew⟩ ?_ ?_
              · intro i hi
                have hi2 : i < 11 := hi
                clear hi
                rcases i with _ | i
                · refine done_value (fun _ _ h => h) (fun _ _ _ _ h => h) (.pointer (some ⟨xb, 1, none⟩)) rfl ?_
                  intro dn a8 w8 hS ho hn
                  have o16 : a8.tmps[16]? = some _ := (ho 16 (by kernel_rfl)).trans rfl
                  clear ho hn
                  refine ⟨wanted_free rfl, ?_, rfl⟩
                  go_simp
                rcases i with _ | i
                · refine done_value (fun _ _ h => h) (fun _ _ _ _ h => h) (.int .i64 (t : Int)) rfl ?_
                  intro dn a8 w8 hS ho hn
                  obtain ⟨_, n88, rfl⟩ := hn 0 88 (by kernel_rfl) rfl
                  clear ho hn
                  refine ⟨wanted_free rfl, ?_, rfl⟩
                  have d1 := hS.2.1.cell 1
                  go_simp
                rcases i with _ | i
                · refine done_value (fun _ _ h => h) (fun _ _ _ _ h => h) (.pointer (some ⟨xb, 1, none⟩)) rfl ?_
                  intro dn a8 w8 hS ho hn
                  have o16 : a8.tmps[16]? = some _ := (ho 16 (by kernel_rfl)).trans rfl
                  clear ho hn
                  refine ⟨wanted_free rfl, ?_, rfl⟩
                  go_simp
                rcases i with _ | i
                · refine done_value (fun _ _ h => h) (fun _ _ _ _ h => h) (.int .i64 (t : Int)) rfl ?_
                  intro dn a8 w8 hS ho hn
                  obtain ⟨_, n90, rfl⟩ := hn 2 90 (by kernel_rfl) rfl
                  clear ho hn
                  refine ⟨wanted_free rfl, ?_, rfl⟩
                  have d1 := hS.2.1.cell 1
                  go_simp
                rcases i with _ | i
                · refine done_value (fun _ _ h => h) (fun _ _ _ _ h => h) (.pointer (some ⟨xb, 2, none⟩)) rfl ?_
                  intro dn a8 w8 hS ho hn
                  have o16 : a8.tmps[16]? = some _ := (ho 16 (by kernel_rfl)).trans rfl
                  clear ho hn
                  refine ⟨wanted_free rfl, ?_, rfl⟩
                  go_simp
                rcases i with _ | i
                · refine done_value (fun _ _ h => h) (fun _ _ _ _ h => h) (.slice BA bl Bc) rfl ?_
                  intro dn a8 w8 hS ho hn
                  obtain ⟨_, n92, rfl⟩ := hn 4 92 (by kernel_rfl) rfl
                  clear ho hn
                  refine ⟨wanted_free rfl, ?_, rfl⟩
                  have d2 := hS.2.1.cell 2
                  go_simp
                rcases i with _ | i
                · refine done_value (fun _ _ h => h) (fun _ _ _ _ h => h) (strV bb) rfl ?_
                  intro dn a8 w8 hS ho hn
                  obtain ⟨_, n93, rfl⟩ := hn 5 93 (by kernel_rfl) rfl
                  clear ho hn
                  refine ⟨wanted_free rfl, ?_, rfl⟩
                  have cv := conv_reads Bc hS.2.2
                  unfold strV
                  go_simp
                rcases i with _ | i
                · refine done_value (fun _ _ h => h) (fun _ _ _ _ h => h) (.pointer (some ⟨g1 + 1, t, none⟩)) rfl ?_
                  intro dn a8 w8 hS ho hn
                  have o10 : a8.tmps[10]? = some _ := (ho 10 (by kernel_rfl)).trans rfl
                  obtain ⟨_, n89, rfl⟩ := hn 1 89 (by kernel_rfl) rfl
                  clear ho hn
                  refine ⟨wanted_free rfl, ?_, rfl⟩
                  go_simp
                rcases i with _ | i
                · refine done_store rfl rfl ?_
                  intro dn a8 w8 hS hd hx ho hn
                  obtain ⟨_, n95, rfl⟩ := hn 7 95 (by kernel_rfl) rfl
                  obtain ⟨_, n94, rfl⟩ := hn 6 94 (by kernel_rfl) rfl
                  clear ho hn
                  refine ⟨wanted_free rfl, ?_⟩
                  have hd7 : dn 8 = false := hd
                  have hS1 : SI w1 g1 (g1 + 1) (g1 + 1 + 1) d w8 s2 vs ns (if dn 10 = true then bs.set t (.bool true) else bs) := by { have h := hS.1; simpa only [hd7, Bool.false_eq_true, if_false] using h }
                  have cg : w8.cell? ⟨g1 + 1, t, none⟩ = some u := (hS1.a2.cell t).trans (by rw [List.getElem?_toArray]; exact HU.out)
                  have fg := hS1.a2.frozen t
                  exact ⟨w8.setCell ⟨g1 + 1, t, none⟩ (strV bb), by go_simp, ⟨hS1.set2 HP.out t _, hS.2.1.far (hS.2.1.ne_ hS1.a2 (by decide)) _, hS.2.2.setCell (Nat.le_trans HBN.out (Nat.le_trans HP.out.n (Nat.le_succ _))) _⟩, rfl, fun j u _ _ h => h⟩
                rcases i with _ | i
                · refine done_value (fun _ _ h => h) (fun _ _ _ _ h => h) (.pointer (some ⟨g1 + 1 + 1, t, none⟩)) rfl ?_
                  intro dn a8 w8 hS ho hn
                  have o11 : a8.tmps[11]? = some _ := (ho 11 (by kernel_rfl)).trans rfl
                  obtain ⟨_, n91, rfl⟩ := hn 3 91 (by kernel_rfl) rfl
                  clear ho hn
                  refine ⟨wanted_free rfl, ?_, rfl⟩
                  go_simp
                rcases i with _ | i
                · refine done_store rfl rfl ?_
                  intro dn a8 w8 hS hd hx ho hn
                  obtain ⟨_, n96, rfl⟩ := hn 9 96 (by kernel_rfl) rfl
                  clear ho hn
                  refine ⟨wanted_free rfl, ?_⟩
                  have hd7 : dn 10 = false := hd
                  have hS1 : SI w1 g1 (g1 + 1) (g1 + 1 + 1) d w8 s2 vs (if dn 8 = true then ns.set t (strV bb) else ns) bs := by { have h := hS.1; simpa only [hd7, Bool.false_eq_true, if_false] using h }
                  have cg : w8.cell? ⟨g1 + 1 + 1, t, none⟩ = some u2 := (hS1.a3.cell t).trans (by rw [List.getElem?_toArray]; exact HU2.out)
                  have fg := hS1.a3.frozen t
                  exact ⟨w8.setCell ⟨g1 + 1 + 1, t, none⟩ (.bool true), by go_simp, ⟨hS1.set3 HP.out t _, hS.2.1.far (hS.2.1.ne_ hS1.a3 (by decide)) _, hS.2.2.setCell (Nat.le_trans HBN.out (Nat.le_trans HP.out.n (Nat.le_trans (Nat.le_succ _) (Nat.le_succ _)))) _⟩, rfl, fun j u _ _ h => h⟩
                omega
              · intro done f w8 hS _ hall
                have HO8 : Hid (SI w1 g1 (g1 + 1) (g1 + 1 + 1) d w8 s2 vs (ns.set t (strV bb)) (bs.set t (.bool true))) := Lib.hid (by have h := hS.1; rwa [if_pos (hall 8 (by decide)), if_pos (hall 10 (by decide))] at h)
                clear hS hall
                simp only [putAll, List.foldl_cons, List.foldl_nil, Act.put, List.setIfInBounds_toArray, List.set_cons_succ, List.set_cons_zero]
                go_wp2
                refine ⟨⟨_, _, _, _, _, _, _, _, _, _, _, _, _, _, _, _, _, _, _, _, _, _, ?_, rfl⟩, by simp [intOf]; omega⟩
                exact ⟨k + 1, mm + 1, C.set t bb, ns.set t (strV bb), bs.set t (.bool true), by omega, by go_num, hm2, by rw [List.length_set]; exact hC6, by rw [List.length_set]; exact hn6, by rw [List.length_set]; exact hb6, HNS.out, HBS.out, by rw [HS2.out]; exact HO8.out⟩
            · have HWR := Lib.hid (lwrite at_ BA bl Bc bb HO2.out.l hbl (HRW.out.more HWL.out) HFEW.out he hw)
              have HNS := Lib.hid hns
              have HBS := Lib.hid hbs'
              clear he hw hns hbs'
              go_wp2_with (go_at_call 14; refine HWR.out.mono ?_; rintro e w9 ⟨rfl, l9, k9⟩; have HO9 := Lib.hid (HO2.out.call HP.out k9 l9); clear l9 k9)
              refine ⟨⟨_, _, _, _, _, _, _, _, _, _, _, _, _, _, _, _, _, _, _, _, _, _, ?_, rfl⟩, by simp [intOf]; omega⟩
              exact ⟨k + 1, mm, C, ns, bs, by omega, by go_num, by omega, hC6, hn6, hb6, HNS.out, HBS.out, HO9.out⟩
          · obtain rfl : k = n2 := by omega
            have HNS := Lib.hid hns
            have HBS := Lib.hid hbs'
            have HO := Lib.hid hO
            clear hns hbs' hO
            have hsP : (pl6 S C (mm : Int)).keep.length ≤ 17592186044416 := by show (0 : Nat) ≤ _; omega
            have HC128 : Hid (∀ k, k < 6 → 0 < (C.getD k []).length → (C.getD k []).length = 128) := Lib.hid (fun k hk h0 => by
              obtain ⟨kv, hdk⟩ := HO.out.l.dk
              have := hdk.ok.wait _ (get_mem (ls := (pl6 S C (mm : Int)).cache) (k := k) (by show k < C.length; omega))
              have h1 : (C.getD k []).length = 0 ∨ (C.getD k []).length = 128 := this
              omega)
            have HCP := Lib.hid (lcopy HO.out.l hsP)
            obtain ⟨q, hq⟩ : ∃ q : Nat, max 0 (min cr.at_ 128) = (q : Int) := ⟨(max 0 (min cr.at_ 128)).toNat, by omega⟩
            obtain ⟨mq, hmin, hmax⟩ := run_clamp cr.at_ (q : Int) hq
            have HQ := Lib.hid hq
            have hXX := HX.out
            subst hXX
            have HBL : Hid (W.heap.size < w1.heap.size) := Lib.hid HBX.out.lt
            have HCR : Hid (∀ w8, Below w1.heap.size w1 w8 → w8.cell? ⟨W.heap.size, 0, none⟩ = some (.int .i64 cr.write) ∧ w8.cell? ⟨W.heap.size, 1, none⟩ = some (.slice KA kl Kc) ∧ w8.cell? ⟨W.heap.size, 2, none⟩ = some (.int .i64 cr.torn) ∧ w8.cell? ⟨W.heap.size, 3, none⟩ = some (.int .i64 cr.at_)) := Lib.hid (fun w8 hb => by
              have hbx := HBX.out.below hb HBL.out
              exact ⟨hbx.cell 0, hbx.cell 1, hbx.cell 2, hbx.cell 3⟩)
            have HSL : Hid (∀ w8, Below w1.heap.size w1 w8 → Sl w8 w8.heap.size KA Kc (cr.keep.map iv)) := Lib.hid (fun w8 hb => ((HK.out.below (HB.out.trans (hb.mono HB.out.size))).more (Nat.le_trans HB.out.size hb.size)))
            have HFB : Hid (∀ w8, Below w1.heap.size w1 w8 → Below W.heap.size W w8) := Lib.hid (fun w8 hb => HB.out.trans (hb.mono HB.out.size))
            obtain ⟨s0', hs0'⟩ : ∃ s', pl6 S C (mm : Int) = s' := ⟨_, rfl⟩
            have hdn : (if s0'.down then (31 : Int) else 0) = 0 := by rw [← hs0']; rfl
            obtain ⟨sA, hsA⟩ : ∃ sA, downK s0' cr = sA := ⟨_, rfl⟩
            obtain ⟨sB, hsB⟩ : ∃ sB, downK s0' ⟨0, [0, 1, 2, 3, 4, 5], 0, 0⟩ = sB := ⟨_, rfl⟩
            obtain ⟨tA, htA⟩ : ∃ tA, bootSt sA = tA := ⟨_, rfl⟩
            obtain ⟨tB, htB⟩ : ∃ tB, bootSt sB = tB := ⟨_, rfl⟩
            have HTA : Hid (∀ k : Nat, k < 6 → readErr3 tA (k : Int) = 0 ∧ readOut3 tA (k : Int) = wantL S C cr k) := Lib.hid (fun k hk => by
              rw [← htA, ← hsA, ← hs0']
              exact ⟨down_err S C _ cr k hS6 hk, down_out S C _ cr k hS6 hk⟩)
            have HTB : Hid (∀ k : Nat, k < 6 → readErr3 tB (k : Int) = 0 ∧ readOut3 tB (k : Int) = nowL S C k) := Lib.hid (fun k hk => by
              rw [← htB, ← hsB, ← hs0']
              refine ⟨down_err S C _ _ k hS6 hk, (down_out S C _ _ k hS6 hk).trans ?_⟩
              refine want_all S C _ k ?_ (HC128.out k hk) (HST.out k hk)
              have : k = 0 ∨ k = 1 ∨ k = 2 ∨ k = 3 ∨ k = 4 ∨ k = 5 := by omega
              rcases this with rfl | rfl | rfl | rfl | rfl | rfl <;> simp)
            have HWA : Hid (waits3 tA = []) := Lib.hid (by
              rw [← htA, ← hsA, ← hs0']
              exact waits_booted S C _ cr)
            have HDN := Lib.hid hdn
            have HSA := Lib.hid hsA
            have HSB := Lib.hid hsB
            have HTAe := Lib.hid htA
            have HTBe := Lib.hid htB
            rw [hs0'] at HO HCP
            clear hsP hs0' hdn hsA hsB htA htB hq HX HS0 HRE HBX HB
            go_wp2_with (first
              | (go_at_call 15; have l0 := HCP.out; clear l0; refine HCP.out.mono ?_; rintro e w9 ⟨d2, rfl, l2, l1, b9, hf2⟩; have HQF : Hid (FarT wr.heap.size g1 (g1 + 1) (g1 + 1 + 1) d d2) := Lib.hid ⟨hf2, HO.out.l.all_lt, HO.out.a1.lt, HO.out.a2.lt, HO.out.a3.lt⟩; have T1 : Hid (TI w1 g1 (g1 + 1) (g1 + 1 + 1) d d2 w9 s0' s0' vs ns bs) := Lib.hid ⟨HO.out.next b9, l2⟩; obtain ⟨c0, c1, c2, c3⟩ := HCR.out w9 l1.below; clear l2 l1 b9 hf2 HCP HO)
              | (go_at_call 16; have l0 := T1.out; clear l0; refine (ldown cr KA kl Kc T1.out.si.l hkl (HSL.out _ T1.out.si.l.below) HDN.out HSA.out).mono ?_; rintro e w10 ⟨rfl, l9, k9⟩; have T2 := Lib.hid (T1.out.callA HP.out HQF.out k9 l9); clear c0 c1 c2 c3 l9 k9 T1)
              | (go_at_call 16; have l0 := T2.out; clear l0; refine (ldown ⟨0, [0, 1, 2, 3, 4, 5], 0, 0⟩ _ 6 _ (T2.out.next ((Below.refl _ _).alloc (Nat.le_refl _) _)).l2 rfl ⟨reads_new _ _ _ _ _ rfl rfl, by decide, by omega⟩ HDN.out HSB.out).mono ?_; rintro e w11 ⟨rfl, l9, k9⟩; have T3 := Lib.hid (TI.callB (T2.out.next ((Below.refl _ _).alloc (Nat.le_refl _) _)) HQF.out k9 l9); clear l9 k9 T2)
              | (go_at_call 9; have l0 := T3.out; clear l0; refine (lboot T3.out.si.l HTAe.out).mono ?_; rintro e w12 ⟨rfl, l9, k9⟩; have T4 := Lib.hid (T3.out.callA HP.out HQF.out k9 l9); clear l9 k9 T3)
              | (go_at_call 9; have l0 := T4.out; clear l0; refine (lboot T4.out.l2 HTBe.out).mono ?_; rintro e w13 ⟨rfl, l9, k9⟩; have T5 := Lib.hid (T4.out.callB HQF.out k9 l9); obtain ⟨-, -, -, c3⟩ := HCR.out w13 T5.out.si.l.below; clear l9 k9 T4))
            clear c3
            go_loopw [115] (fun i wr => ∃ k : Nat, k ≤ 6 ∧ i = .int .i64 (k : Int) ∧ TI w1 g1 (g1 + 1) (g1 + 1 + 1) d d2 wr tA tB vs ns bs) (fun i _ => 6 - (intOf i).toNat)
            case atStart => exact ⟨0, by omega, rfl, T5.out⟩
            case round =>
              obtain ⟨k, hk6, rfl, hT⟩ := hrel
              clear T5
              by_cases hlt : k < 6
              · obtain ⟨x, hx⟩ : ∃ x, S.getD k [] = x := ⟨_, rfl⟩
                obtain ⟨y, hy⟩ : ∃ y, nowL S C k = y := ⟨_, rfl⟩
                obtain ⟨z, hz⟩ : ∃ z, wantL S C cr k = z := ⟨_, rfl⟩
                obtain ⟨b, hb⟩ : ∃ b, decide (0 < (C.getD k []).length) = b := ⟨_, rfl⟩
                have a1 : wr.cell? ⟨g1, k, none⟩ = some (strV x) := (hT.si.a1.cell k).trans (by rw [List.getElem?_toArray, ← hx]; exact HVS.out k hlt)
                have a2 : wr.cell? ⟨g1 + 1, k, none⟩ = some (strV y) := (hT.si.a2.cell k).trans (by rw [List.getElem?_toArray, ← hy]; exact HNS.out k hlt)
                have a3 : wr.cell? ⟨g1 + 1 + 1, k, none⟩ = some (.bool b) := (hT.si.a3.cell k).trans (by rw [List.getElem?_toArray, ← hb]; exact HBS.out k hlt)
                obtain ⟨-, c1, c2, -⟩ := HCR.out wr hT.si.l.below
                have hks : Reads wr wr.heap.size 1 KA kl (cr.keep.map iv) := by have := (HSL.out wr hT.si.l.below).reads; rwa [List.length_map, hkl] at this
                have HHAS := Lib.hid (has_any KA Kc kl cr.keep (k : Int) wr hkl hks (by omega))
                have HRA : Hid (decide (readErr3 tA (k : Int) = 0 ∧ readOut3 tA (k : Int) = z) = true) := Lib.hid (decide_eq_true ⟨(HTA.out k hlt).1, (HTA.out k hlt).2.trans hz⟩)
                have HRB : Hid (decide (readErr3 tB (k : Int) = 0 ∧ readOut3 tB (k : Int) = y) = true) := Lib.hid (decide_eq_true ⟨(HTB.out k hlt).1, (HTB.out k hlt).2.trans hy⟩)
                have HX9 := Lib.hid hx
                have HY9 := Lib.hid hy
                have HZ9 := Lib.hid hz
                have HB9 := Lib.hid hb
                have T6 := Lib.hid hT
                have htn : ¬ (6 : Int) ≤ (k : Int) := by omega
                clear hks hx hy hz hb hT
                cases b
                · have hzx : x = z := by
                    rw [← HX9.out, ← HZ9.out]
                    unfold wantL
                    rw [if_neg (by simpa using HB9.out)]
                  subst hzx
                  go_wp2_with (first
                    | (go_at_call 18; have l0 := HRA.out; clear l0; refine (reads_any (k : Int) x true T6.out.si.l HRA.out).mono ?_; rintro e w14 ⟨rfl, b9⟩; have T7 := Lib.hid (T6.out.next b9); have a4 : w14.cell? ⟨g1 + 1, k, none⟩ = some (strV y) := (b9.cell (p := ⟨g1 + 1, k, none⟩) T6.out.si.a2.lt).trans a2; clear b9 HRA T6 a1 a2 a3)
                    | (go_at_call 18; refine (reads_any (k : Int) y true T7.out.l2 HRB.out).mono ?_; rintro e w15 ⟨rfl, b9⟩; have T8 := Lib.hid (T7.out.next b9); clear b9 T7 a4))
                  exact ⟨⟨k + 1, by omega, by go_num, T8.out⟩, by simp [intOf]; omega⟩
                · have hpos : 0 < (C.getD k []).length := of_decide_eq_true HB9.out
                  by_cases hin : (k : Int) ∈ cr.keep
                  · have hzy : y = z := by
                      rw [← HY9.out, ← HZ9.out]
                      exact (want_all S C cr k hin (HC128.out k hlt) (HST.out k hlt)).symm
                    rw [decide_eq_true hin] at HHAS
                    subst hzy
                    clear hin hpos
                    go_wp2_with (first
                      | (go_at_call 17; have l0 := HHAS.out; clear l0; refine HHAS.out.mono ?_; rintro e _ ⟨rfl, rfl⟩; clear HHAS)
                      | (go_at_call 18; have l0 := HRA.out; clear l0; refine (reads_any (k : Int) y true T6.out.si.l HRA.out).mono ?_; rintro e w14 ⟨rfl, b9⟩; have T7 := Lib.hid (T6.out.next b9); have a4 : w14.cell? ⟨g1 + 1, k, none⟩ = some (strV y) := (b9.cell (p := ⟨g1 + 1, k, none⟩) T6.out.si.a2.lt).trans a2; clear b9 HRA T6 a1 a2 a3)
                      | (go_at_call 18; refine (reads_any (k : Int) y true T7.out.l2 HRB.out).mono ?_; rintro e w15 ⟨rfl, b9⟩; have T8 := Lib.hid (T7.out.next b9); clear b9 T7 a4))
                    exact ⟨⟨k + 1, by omega, by go_num, T8.out⟩, by simp [intOf]; omega⟩
                  · rw [decide_eq_false hin] at HHAS
                    by_cases ht : cr.torn = (k : Int)
                    · have hzt : y.take q ++ x.drop q = z := by
                        rw [← HY9.out, ← HZ9.out, ← HX9.out, want_torn S C cr k hin ht hpos (HC128.out k hlt hpos) (HST.out k hlt), HQ.out, Int.toNat_natCast]
                        unfold nowL
                        rw [if_pos hpos]
                      have hyl : y.length = 128 := by
                        rw [← HY9.out]
                        unfold nowL
                        rw [if_pos hpos]
                        exact HC128.out k hlt hpos
                      have hxl : x.length = 128 := by rw [← HX9.out]; exact HST.out k hlt
                      have hq128 : q ≤ 128 := by have := HQ.out; omega
                      have st := str_take y q (by omega)
                      have sd := str_drop x q (by omega)
                      have sc := str_cat (y.take q) (x.drop q) (by rw [List.length_take, List.length_drop]; omega)
                      have sc2 : ∀ W : World, (Op.stringOp .add ⟨(y.take q).toArray⟩ ⟨(x.drop q).toArray⟩).run Try.prog W = .ok (.string ⟨z.toArray⟩) W := fun W => (run_string_add_lists (P := Try.prog) W _ _ (by rw [List.length_take]; omega) (by rw [List.length_drop]; omega)).trans (by rw [hzt])
                      rw [hzt] at sc
                      have hq1 : (cr.torn == (k : Int)) = true := by simp [ht]
                      clear hin hpos hyl hxl hzt ht
                      go_wp2_with (go_at_call 17; have l0 := HHAS.out; clear l0; refine HHAS.out.mono ?_; rintro e _ ⟨rfl, rfl⟩; clear HHAS)
                      go_quiet (fail)
                      have T6' := Lib.hid (T6.out.next (below_drewN (Below.refl _ _) nq))
                      clear T6
                      have T6 := T6'
                      clear T6'
                      go_wp2_with (first
                        | (go_at_call 17; have l0 := HHAS.out; clear l0; refine HHAS.out.mono ?_; rintro e _ ⟨rfl, rfl⟩; clear HHAS)
                        | (go_at_call 18; have l0 := HRA.out; clear l0; refine (reads_any (k : Int) z true T6.out.si.l HRA.out).mono ?_; rintro e w14 ⟨rfl, b9⟩; have T7 := Lib.hid (T6.out.next b9); have a4 : w14.cell? ⟨g1 + 1, k, none⟩ = some (strV y) := (b9.cell (p := ⟨g1 + 1, k, none⟩) T6.out.si.a2.lt).trans a2; clear b9 HRA T6 a1 a2 a3)
                        | (go_at_call 18; refine (reads_any (k : Int) y true T7.out.l2 HRB.out).mono ?_; rintro e w15 ⟨rfl, b9⟩; have T8 := Lib.hid (T7.out.next b9); clear b9 T7 a4))
                      exact ⟨⟨k + 1, by omega, by go_num, T8.out⟩, by simp [intOf]; omega⟩
                    · have hzx : x = z := by
                        rw [← HX9.out, ← HZ9.out]
                        exact (want_was S C cr k hin ht).symm
                      have hq1 : (cr.torn == (k : Int)) = false := by simpa using ht
                      subst hzx
                      clear hin hpos ht
                      go_wp2_with (first
                        | (go_at_call 17; have l0 := HHAS.out; clear l0; refine HHAS.out.mono ?_; rintro e _ ⟨rfl, rfl⟩; clear HHAS)
                        | (go_at_call 18; have l0 := HRA.out; clear l0; refine (reads_any (k : Int) x true T6.out.si.l HRA.out).mono ?_; rintro e w14 ⟨rfl, b9⟩; have T7 := Lib.hid (T6.out.next b9); have a4 : w14.cell? ⟨g1 + 1, k, none⟩ = some (strV y) := (b9.cell (p := ⟨g1 + 1, k, none⟩) T6.out.si.a2.lt).trans a2; clear b9 HRA T6 a1 a2 a3)
                        | (go_at_call 18; refine (reads_any (k : Int) y true T7.out.l2 HRB.out).mono ?_; rintro e w15 ⟨rfl, b9⟩; have T8 := Lib.hid (T7.out.next b9); clear b9 T7 a4))
                      exact ⟨⟨k + 1, by omega, by go_num, T8.out⟩, by simp [intOf]; omega⟩
              · obtain rfl : k = 6 := by omega
                have T6 := Lib.hid hT
                have HWT := Lib.hid (lwaits (n := 0) hT.si.l HWA.out rfl)
                clear hT
                go_wp2_with (go_at_call 19; refine HWT.out.mono ?_; rintro e w14 ⟨A9, c9, rfl, -, b9, -⟩; have HF9 := Lib.hid (HFB.out _ (T6.out.next b9).si.l.below); clear b9)
                go_ret
                exact ⟨rfl, HF9.out⟩
end Go.Proofs.Ytomimkackekjkaa

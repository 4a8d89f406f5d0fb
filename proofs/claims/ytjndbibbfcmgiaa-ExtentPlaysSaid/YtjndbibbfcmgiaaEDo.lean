/-
  The statement ExtentPlays: one call made of both spaces.
-/
import Derived.Test.YtjndbibbfcmgiaaEFirst
import Derived.Test.YtjndbibbfcmgiaaRTaken
import Derived.Deep.CutBlock
import Derived.Deep.DeepCutAuto
namespace Go.Proofs.Ytjndbibbfcmgiaa
open Go.RowKit

/-- A program's space and a given one, made since N, apart from one another. -/
structure DR (N : Nat) (w0 w : World) (d r : SpAt) (s t : ESt) : Prop where
  ek : ELives N w0 w d s
  rk : RK w r t
  rf : ∀ k, r.foot k → N ≤ k
  ap : ∀ k, d.foot k → ¬ r.foot k
section
variable {N : Nat} {w0 w w' : World} {d r : SpAt} {s t s' : ESt}
theorem DR.next (h : DR N w0 w d r s t) (hb : Below w.heap.size w w') : DR N w0 w' d r s t := ⟨h.ek.next hb, h.rk.below hb, h.rf, h.ap⟩
theorem DR.prog (h : DR N w0 w d r s t) (hl : ELives N w0 w' d s') (hk : Keep (fun k => k = d.g) w w') : DR N w0 w' d r s' t :=
  ⟨hl, h.rk.keep hk (fun k hf e => h.ap d.g (.inr rfl) (by have e : k = d.g := e; rw [← e]; exact hf)), h.rf, h.ap⟩
theorem DR.given (h : DR N w0 w d r s t) (hr : RK w' r s') (hk : Keep (fun k => k = r.g) w w') : DR N w0 w' d r s s' := by
  have hg : N ≤ r.g := h.rf r.g (.inr rfl)
  refine ⟨⟨h.ek.below.trans (hk.below h.ek.lt (fun i hi e => by have e : i = r.g := e; omega)), h.ek.foot, h.ek.ek.keep hk (fun k hf e => h.ap k hf (by have e : k = r.g := e; rw [e]; exact .inr rfl))⟩, hr, h.rf, h.ap⟩
end

/-- The same, with the call in its box. -/
structure DB (N : Nat) (w0 w : World) (d r : SpAt) (s t : ESt) (q : Nat) (k a n : Int) : Prop where
  dr : DR N w0 w d r s t
  bx : Blk w q 35 #[.int .i64 k, .int .i64 a, .int .i64 n]
  qd : ∀ i, d.foot i → i ≠ q
  qr : ∀ i, r.foot i → i ≠ q
section
variable {N : Nat} {w0 w w' : World} {d r : SpAt} {s t s' : ESt} {q : Nat} {k a n : Int}
theorem DB.next (h : DB N w0 w d r s t q k a n) (hb : Below w.heap.size w w') : DB N w0 w' d r s t q k a n := ⟨h.dr.next hb, h.bx.below hb h.bx.lt, h.qd, h.qr⟩
theorem DB.prog (h : DB N w0 w d r s t q k a n) (hl : ELives N w0 w' d s') (hk : Keep (fun k => k = d.g) w w') : DB N w0 w' d r s' t q k a n :=
  ⟨h.dr.prog hl hk, hk.blk h.bx (fun e => h.qd d.g (.inr rfl) e.symm), h.qd, h.qr⟩
theorem DB.given (h : DB N w0 w d r s t q k a n) (hr : RK w' r s') (hk : Keep (fun k => k = r.g) w w') : DB N w0 w' d r s s' q k a n :=
  ⟨h.dr.given hr hk, hk.blk h.bx (fun e => h.qr r.g (.inr rfl) e.symm), h.qd, h.qr⟩
end
/-- A new space beside an old one that is turned in any way. -/
structure DC (N : Nat) (w0 w : World) (d2 d r : SpAt) (s t : ESt) (q : Nat) (k a n : Int) : Prop where
  new : DB N w0 w d2 r s s q k a n
  old : ELives N w0 w d t
  ad : ∀ i, d2.foot i → ¬ d.foot i
  ar : ∀ i, r.foot i → ¬ d.foot i
  aq : ∀ i, d.foot i → i ≠ q
section
variable {N : Nat} {w0 w w' : World} {d2 d r : SpAt} {s t t' : ESt} {q : Nat} {k a n : Int}
theorem DC.next (h : DC N w0 w d2 d r s t q k a n) (hb : Below w.heap.size w w') : DC N w0 w' d2 d r s t q k a n := ⟨h.new.next hb, h.old.next hb, h.ad, h.ar, h.aq⟩
theorem DC.turn (h : DC N w0 w d2 d r s t q k a n) (hl : ELives N w0 w' d t') (hk : Keep (fun k => k = d.g) w w') : DC N w0 w' d2 d r s t' q k a n :=
  ⟨⟨⟨h.new.dr.ek.other h.old h.ad hk, h.new.dr.rk.keep hk (fun k hf e => h.ar k hf (by have e : k = d.g := e; rw [e]; exact .inr rfl)), h.new.dr.rf, h.new.dr.ap⟩, hk.blk h.new.bx (fun e => h.aq d.g (.inr rfl) e.symm), h.new.qd, h.new.qr⟩, hl, h.ad, h.ar, h.aq⟩
theorem DB.copy {w1 : World} (h : DB N w0 w1 d r s s q k a n) (l2 : ELives N w0 w d2 s) (l1 : ELives N w0 w d s) (hb : Below w1.heap.size w1 w) (hf : ∀ k, d2.foot k → w1.heap.size ≤ k) : DC N w0 w d2 d r s s q k a n :=
  ⟨⟨⟨l2, h.dr.rk.below hb, h.dr.rf, fun i h1 h2 => by have := hf i h1; have := h.dr.rk.lt i h2; omega⟩, h.bx.below hb h.bx.lt, fun i h1 e => by have := hf i h1; have := h.bx.lt; omega, h.qr⟩, l1, fun i h1 h2 => by have := hf i h1; have := h.dr.ek.all_lt i h2; omega, fun i h1 h2 => h.dr.ap i h2 h1, h.qd⟩
end

def doR (vs : List Value) (m : Nat) (l : List (Int × Int)) : Nat → Value → World → Prop
  | 31, v, w' => ∃ A5 c5, v = .slice A5 m c5 ∧ Reads w' w'.heap.size 2 A5 m (extsC l)
  | i, v, _ => v = vs.getD i undef
theorem doR_keep {vs : List Value} {m : Nat} {l : List (Int × Int)} {w w' : World} {j : Nat} {u : Value} (hb : Below w.heap.size w w') (h : doR vs m l j u w) : doR vs m l j u w' := by
  unfold doR at *
  split at h
  · obtain ⟨A5, c5, e, hr⟩ := h
    exact ⟨A5, c5, e, (hr.below hb).more hb.size⟩
  · exact h
theorem step_call_ex {P : Program} {md : Region.Mode} {ops : Array Oper} {Q : Exit → Act → World → Prop} {S : World → Prop} {R : Nat → Value → World → Prop} {a0 : Act} {i : Nat} {o : Oper} (f : FuncId) (hi : ops[i]? = some o)
    (h : ∀ (a : Act) (w : World), S w → (∀ t, free md ops i t = true → a.tmps[t]? = a0.tmps[t]?) → (∀ j d, behind md ops i j = true → dstOf ops j = some d → ∃ v, a.tmps[d]? = some v ∧ R j v w) →
      Region.wanted o (yielded ops a.tmps) = true ∧ ∃ args, (execOp a.eval o).run P w = .ok (.enter f args) w ∧
      Calls P f args w fun e w' => ∃ v, e = .returned v ∧ S w' ∧ R i v w' ∧ ∀ j u, j ≠ i → R j u w → R j u w') : AnyStep P md ops Q S R a0 i := by
  intro a w hS ho hn
  obtain ⟨h1, args, h2, h3⟩ := h a w hS ho hn
  unfold wpOp
  rw [hi]
  simp only [h1, if_true]
  refine .inl ?_
  unfold Oper.wp
  rw [h2, Oper.upon_enter]
  refine h3.mono ?_
  rintro e w' ⟨v, rfl, hS', hR, hst⟩
  exact ⟨v, by simp [dstOf, hi], hS', hR, hst⟩

/-- What a call leaves. -/
def doS (s : ESt) (k a n : Int) : ESt := if k = 0 then takeS s n else if k = 1 then turnS s a n true else if k = 2 then turnS s a n false else s

section
variable {N : Nat} {w0 w : World} {d r : SpAt} {s : ESt}
set_option maxRecDepth 100000 in
set_option maxHeartbeats 8000000 in
theorem do_any (k a n : Int) (hn : n ≤ 9223372036854775807) (h : DR N w0 w d r s s) : Calls Try.prog 6 #[.pointer (some ⟨d.b, 0, none⟩), .pointer (some ⟨r.b, 0, none⟩), .agg #[.int .i64 k, .int .i64 a, .int .i64 n]] w fun e w' =>
    ∃ d', e = .returned (.tuple #[.pointer (some ⟨d'.b, 0, none⟩), .bool true]) ∧ DR N w0 w' d' r (doS s k a n) (doS s k a n) := by
  have hb1 : Below w.heap.size w (w.alloc (.cells #[.int .i64 k, .int .i64 a, .int .i64 n] 35)) := (Below.refl _ _).alloc (Nat.le_refl _) _
  have T1 : Hid (DB N w0 (w.alloc (.cells #[.int .i64 k, .int .i64 a, .int .i64 n] 35)) d r s s w.heap.size k a n) := Lib.hid ⟨h.next hb1, Blk.new w _ _, fun i hi e => by have := h.ek.all_lt i hi; omega, fun i hi e => by have := h.rk.lt i hi; omega⟩
  have HNW := Lib.hid h.ek.lt
  obtain ⟨s9, hs9⟩ : ∃ s9, doS s k a n = s9 := ⟨_, rfl⟩
  rw [hs9]
  have HS9 := Lib.hid hs9
  have x0 := T1.out.bx.cell 0
  have x1 := T1.out.bx.cell 1
  have x2 := T1.out.bx.cell 2
  clear h hb1 hs9
  go_enter Try.func6, Try.ntmps6
  go_upto_block 0 with (fail)
  obtain ⟨q, hq⟩ : ∃ q, w.heap.size = q := ⟨_, rfl⟩
  obtain ⟨w1, hw1⟩ : ∃ w1, w.alloc (.cells #[.int .i64 k, .int .i64 a, .int .i64 n] 35) = w1 := ⟨_, rfl⟩
  rw [hw1] at T1 x0 x1 x2 ⊢
  rw [hq] at T1 x0 x1 x2 ⊢
  clear hw1
  go_cut [0, 8] (fun p f wx => ∃ d', p = .pointer (some ⟨d'.b, 0, none⟩) ∧ f = .bool true ∧ DB N w0 wx d' r s9 s9 q k a n)
  case first =>
    by_cases k0 : k = 0
    · subst k0
      have hs : takeS s n = s9 := HS9.out
      obtain ⟨⟨y1, y2⟩, hy⟩ : ∃ x, takeX s n = x := ⟨_, rfl⟩
      obtain ⟨er, he⟩ : ∃ x, takeE s n = x := ⟨_, rfl⟩
      have HP : Hid (∀ W, ELives N w0 W d s → Calls Try.prog 12 #[.pointer (some ⟨d.b, 0, none⟩), .int .i64 n] W fun e w' => e = .returned (.tuple #[.agg #[.int .i64 y1, .int .i64 y2], .int .i64 er]) ∧ ELives N w0 w' d s9 ∧ Keep (fun k => k = d.g) W w') := Lib.hid (fun W L => ltake n L hn hy he hs)
      have HG : Hid (∀ W, RK W r s → Calls Try.prog 13 #[.pointer (some ⟨r.b, 0, none⟩), .int .i64 n] W fun e w' => e = .returned (.tuple #[.agg #[.int .i64 y1, .int .i64 y2], .int .i64 er]) ∧ RK w' r s9 ∧ Keep (fun k => k = r.g) W w') := Lib.hid (fun W L => by
        have := rtake_any n L
        rwa [hy, he, hs] at this)
      have heq := eql_ext y1 y2 y1 y2
      clear hs hy he
      go_wp2_with (first
        | (go_at_call 13; (have l0 := T2.out; clear l0); (with_reducible refine (HG.out _ T2.out.dr.rk).mono ?_); rintro e w3 ⟨rfl, hr, hk⟩; have T3 := Lib.hid ((T2.out.given hr hk).next ((Below.refl _ w3).alloc (Nat.le_refl _) (.cells #[.int .i64 y1, .int .i64 y2] 33))); have hx3 := (hk.blk HB2.out.1 HB2.out.2).alloc (.cells #[.int .i64 y1, .int .i64 y2] 33); have y0 := hx3.cell 0; have y9 := hx3.cell 1; clear hr hk hx3)
        | (go_at_call 12; (with_reducible refine (HP.out _ T1.out.dr.ek).mono ?_); rintro e w2 ⟨rfl, hl, hk⟩; have T2 := Lib.hid ((T1.out.prog hl hk).next ((Below.refl _ w2).alloc (Nat.le_refl _) (.cells #[.int .i64 y1, .int .i64 y2] 33))); have HB2 : Hid (Blk (w2.alloc (.cells #[.int .i64 y1, .int .i64 y2] 33)) w2.heap.size 33 #[.int .i64 y1, .int .i64 y2] ∧ w2.heap.size ≠ r.g) := Lib.hid ⟨Blk.new w2 _ _, fun e => by have := (T1.out.prog hl hk).dr.rk.lt r.g (.inr rfl); omega⟩; have z0 := T2.out.bx.cell 0; have z1 := T2.out.bx.cell 1; have z2 := T2.out.bx.cell 2; clear hl hk))
      go_meet
      exact ⟨d, rfl, rfl, T3.out⟩
    · by_cases k1 : k = 1
      · subst k1
        have hs : turnS s a n true = s9 := HS9.out
        obtain ⟨er, he⟩ : ∃ x, turnE s a n true = x := ⟨_, rfl⟩
        have HP : Hid (∀ W, ELives N w0 W d s → Calls Try.prog 14 #[.pointer (some ⟨d.b, 0, none⟩), .agg #[.int .i64 a, .int .i64 n]] W fun e w' => e = .returned (.int .i64 er) ∧ ELives N w0 w' d s9 ∧ Keep (fun k => k = d.g) W w') := Lib.hid (fun W L => lclaim a n L he hs)
        have HG : Hid (∀ W, RK W r s → Calls Try.prog 15 #[.pointer (some ⟨r.b, 0, none⟩), .agg #[.int .i64 a, .int .i64 n]] W fun e w' => e = .returned (.int .i64 er) ∧ RK w' r s9 ∧ Keep (fun k => k = r.g) W w') := Lib.hid (fun W L => by
          have := rclaim_any a n L
          rwa [he, hs] at this)
        clear hs he
        go_wp2_with (fail)
        refine wp_region_done_on (fun dn W => DB N w0 W d r (if dn 3 = true then s9 else s) (if dn 7 = true then s9 else s) q 1 a n) (fun dn i v _ => v = ([.pointer (some ⟨d.b, 0, none⟩), .pointer (some ⟨q, 1, none⟩), .agg #[.int .i64 a, .int .i64 n], .int .i64 er, .pointer (some ⟨r.b, 0, none⟩), .pointer (some ⟨q, 1, none⟩), .agg #[.int .i64 a, .int .i64 n], .int .i64 er, .bool true, .bool true] : List Value).getD i undef ∧ (i = 99 → dn 99 = true)) (by kernel_rfl) 134 rfl (by kernel_rfl) (T1.out.next (Below.refl _ _).drew) ?_ ?_
        · intro i hi
          have hi2 : i < 10 := hi
          clear hi
          rcases i with _ | i
          · refine done_value (fun _ _ h => h) (fun dn j u w h => ⟨h.1, fun e => by have := h.2 e; simp [upd, this]⟩) (.pointer (some ⟨d.b, 0, none⟩)) rfl ?_
            intro dn a8 w8 hS ho hn
            have o0 : a8.tmps[0]? = some _ := (ho 0 (by kernel_rfl)).trans rfl
            clear ho hn
            refine ⟨wanted_free rfl, ?_, rfl, fun e => absurd e (by decide)⟩
            go_simp
          rcases i with _ | i
          · refine done_value (fun _ _ h => h) (fun dn j u w h => ⟨h.1, fun e => by have := h.2 e; simp [upd, this]⟩) (.pointer (some ⟨q, 1, none⟩)) rfl ?_
            intro dn a8 w8 hS ho hn
            have o5 : a8.tmps[5]? = some _ := (ho 5 (by kernel_rfl)).trans rfl
            clear ho hn
            refine ⟨wanted_free rfl, ?_, rfl, fun e => absurd e (by decide)⟩
            go_simp
          rcases i with _ | i
          · refine done_value (fun _ _ h => h) (fun dn j u w h => ⟨h.1, fun e => by have := h.2 e; simp [upd, this]⟩) (.agg #[.int .i64 a, .int .i64 n]) rfl ?_
            intro dn a8 w8 hS ho hn
            obtain ⟨_, n49, rfl, fa49⟩ := hn 1 49 (by kernel_rfl) rfl
            clear ho hn
            refine ⟨wanted_free rfl, ?_, rfl, fun e => absurd e (by decide)⟩
            have hbx := hS.bx
            have c1 : w8.cell? ⟨q, 1, none⟩ = some (.int .i64 a) := hbx.cell 1
            have c2 : w8.cell? ⟨q, 2, none⟩ = some (.int .i64 n) := hbx.cell 2
            clear hbx hS
            go_simp
          rcases i with _ | i
          · refine done_call 14 #[.pointer (some ⟨d.b, 0, none⟩), .agg #[.int .i64 a, .int .i64 n]] rfl ?_
            intro dn a8 w8 hS hd hx ho hn
            obtain ⟨_, n48, rfl, fa48⟩ := hn 0 48 (by kernel_rfl) rfl
            obtain ⟨_, n50, rfl, fa50⟩ := hn 2 50 (by kernel_rfl) rfl
            clear ho hn
            refine ⟨wanted_free rfl, by go_simp, ?_⟩
            have h3 : dn 3 = false := hd
            rw [h3] at hS
            refine (HP.out w8 hS.dr.ek).mono ?_
            rintro e w9 ⟨rfl, hl, hk⟩
            exact ⟨_, rfl, hS.prog hl hk, ⟨rfl, fun e => absurd e (by decide)⟩, fun j u _ _ h => h⟩
          rcases i with _ | i
          · refine done_value (fun _ _ h => h) (fun dn j u w h => ⟨h.1, fun e => by have := h.2 e; simp [upd, this]⟩) (.pointer (some ⟨r.b, 0, none⟩)) rfl ?_
            intro dn a8 w8 hS ho hn
            have o1 : a8.tmps[1]? = some _ := (ho 1 (by kernel_rfl)).trans rfl
            clear ho hn
            refine ⟨wanted_free rfl, ?_, rfl, fun e => absurd e (by decide)⟩
            go_simp
          rcases i with _ | i
          · refine done_value (fun _ _ h => h) (fun dn j u w h => ⟨h.1, fun e => by have := h.2 e; simp [upd, this]⟩) (.pointer (some ⟨q, 1, none⟩)) rfl ?_
            intro dn a8 w8 hS ho hn
            have o5 : a8.tmps[5]? = some _ := (ho 5 (by kernel_rfl)).trans rfl
            clear ho hn
            refine ⟨wanted_free rfl, ?_, rfl, fun e => absurd e (by decide)⟩
            go_simp
          rcases i with _ | i
          · refine done_value (fun _ _ h => h) (fun dn j u w h => ⟨h.1, fun e => by have := h.2 e; simp [upd, this]⟩) (.agg #[.int .i64 a, .int .i64 n]) rfl ?_
            intro dn a8 w8 hS ho hn
            obtain ⟨_, n53, rfl, fa53⟩ := hn 5 53 (by kernel_rfl) rfl
            clear ho hn
            refine ⟨wanted_free rfl, ?_, rfl, fun e => absurd e (by decide)⟩
            have hbx := hS.bx
            have c1 : w8.cell? ⟨q, 1, none⟩ = some (.int .i64 a) := hbx.cell 1
            have c2 : w8.cell? ⟨q, 2, none⟩ = some (.int .i64 n) := hbx.cell 2
            clear hbx hS
            go_simp
          rcases i with _ | i
          · refine done_call 15 #[.pointer (some ⟨r.b, 0, none⟩), .agg #[.int .i64 a, .int .i64 n]] rfl ?_
            intro dn a8 w8 hS hd hx ho hn
            obtain ⟨_, n52, rfl, fa52⟩ := hn 4 52 (by kernel_rfl) rfl
            obtain ⟨_, n54, rfl, fa54⟩ := hn 6 54 (by kernel_rfl) rfl
            clear ho hn
            refine ⟨wanted_free rfl, by go_simp, ?_⟩
            have h7 : dn 7 = false := hd
            rw [h7] at hS
            refine (HG.out w8 hS.dr.rk).mono ?_
            rintro e w9 ⟨rfl, hr, hk⟩
            exact ⟨_, rfl, hS.given hr hk, ⟨rfl, fun e => absurd e (by decide)⟩, fun j u _ _ h => h⟩
          rcases i with _ | i
          · refine done_value (fun _ _ h => h) (fun dn j u w h => ⟨h.1, fun e => by have := h.2 e; simp [upd, this]⟩) (.bool true) rfl ?_
            intro dn a8 w8 hS ho hn
            obtain ⟨_, n51, rfl, fa51⟩ := hn 3 51 (by kernel_rfl) rfl
            obtain ⟨_, n55, rfl, fa55⟩ := hn 7 55 (by kernel_rfl) rfl
            clear ho hn
            refine ⟨wanted_free rfl, ?_, rfl, fun e => absurd e (by decide)⟩
            go_simp
          rcases i with _ | i
          · refine done_value (fun _ _ h => h) (fun dn j u w h => ⟨h.1, fun e => by have := h.2 e; simp [upd, this]⟩) (.bool true) rfl ?_
            intro dn a8 w8 hS ho hn
            obtain ⟨_, n56, rfl, fa56⟩ := hn 8 56 (by kernel_rfl) rfl
            clear ho hn
            refine ⟨wanted_free rfl, ?_, rfl, fun e => absurd e (by decide)⟩
            go_simp
          omega
        · intro dn5 fv w9 hS hR hall
          have h8 : fv 8 = _ := (hR 9 8 rfl).1
          have hS2 : DB N w0 w9 d r s9 s9 q 1 a n := by
            have h : DB N w0 w9 d r (if dn5 3 = true then s9 else s) (if dn5 7 = true then s9 else s) q 1 a n := hS
            rwa [hall 3 (by decide), hall 7 (by decide), if_pos rfl] at h
          have T9 := Lib.hid hS2
          simp only [putAll, List.foldl_cons, List.foldl_nil, Act.put, List.setIfInBounds_toArray, List.set_cons_succ, List.set_cons_zero, h8, List.getD_cons_zero, List.getD_cons_succ]
          clear hR h8 hS hall hS2
          go_wp2_with (fail)
          go_meet
          exact ⟨d, rfl, rfl, T9.out⟩
      · by_cases k2 : k = 2
        · subst k2
          have hs : turnS s a n false = s9 := HS9.out
          obtain ⟨er, he⟩ : ∃ x, turnE s a n false = x := ⟨_, rfl⟩
          have HP : Hid (∀ W, ELives N w0 W d s → Calls Try.prog 16 #[.pointer (some ⟨d.b, 0, none⟩), .agg #[.int .i64 a, .int .i64 n]] W fun e w' => e = .returned (.int .i64 er) ∧ ELives N w0 w' d s9 ∧ Keep (fun k => k = d.g) W w') := Lib.hid (fun W L => lgive a n L he hs)
          have HG : Hid (∀ W, RK W r s → Calls Try.prog 17 #[.pointer (some ⟨r.b, 0, none⟩), .agg #[.int .i64 a, .int .i64 n]] W fun e w' => e = .returned (.int .i64 er) ∧ RK w' r s9 ∧ Keep (fun k => k = r.g) W w') := Lib.hid (fun W L => by
            have := rgive_any a n L
            rwa [he, hs] at this)
          clear hs he
          go_wp2_with (fail)
          refine wp_region_done_on (fun dn W => DB N w0 W d r (if dn 3 = true then s9 else s) (if dn 7 = true then s9 else s) q 2 a n) (fun dn i v _ => v = ([.pointer (some ⟨d.b, 0, none⟩), .pointer (some ⟨q, 1, none⟩), .agg #[.int .i64 a, .int .i64 n], .int .i64 er, .pointer (some ⟨r.b, 0, none⟩), .pointer (some ⟨q, 1, none⟩), .agg #[.int .i64 a, .int .i64 n], .int .i64 er, .bool true, .bool true] : List Value).getD i undef ∧ (i = 99 → dn 99 = true)) (by kernel_rfl) 134 rfl (by kernel_rfl) (T1.out.next (Below.refl _ _).drew) ?_ ?_
          · intro i hi
            have hi2 : i < 10 := hi
            clear hi
            rcases i with _ | i
            · refine done_value (fun _ _ h => h) (fun dn j u w h => ⟨h.1, fun e => by have := h.2 e; simp [upd, this]⟩) (.pointer (some ⟨d.b, 0, none⟩)) rfl ?_
              intro dn a8 w8 hS ho hn
              have o0 : a8.tmps[0]? = some _ := (ho 0 (by kernel_rfl)).trans rfl
              clear ho hn
              refine ⟨wanted_free rfl, ?_, rfl, fun e => absurd e (by decide)⟩
              go_simp
            rcases i with _ | i
            · refine done_value (fun _ _ h => h) (fun dn j u w h => ⟨h.1, fun e => by have := h.2 e; simp [upd, this]⟩) (.pointer (some ⟨q, 1, none⟩)) rfl ?_
              intro dn a8 w8 hS ho hn
              have o5 : a8.tmps[5]? = some _ := (ho 5 (by kernel_rfl)).trans rfl
              clear ho hn
              refine ⟨wanted_free rfl, ?_, rfl, fun e => absurd e (by decide)⟩
              go_simp
            rcases i with _ | i
            · refine done_value (fun _ _ h => h) (fun dn j u w h => ⟨h.1, fun e => by have := h.2 e; simp [upd, this]⟩) (.agg #[.int .i64 a, .int .i64 n]) rfl ?_
              intro dn a8 w8 hS ho hn
              obtain ⟨_, n60, rfl, fa60⟩ := hn 1 60 (by kernel_rfl) rfl
              clear ho hn
              refine ⟨wanted_free rfl, ?_, rfl, fun e => absurd e (by decide)⟩
              have hbx := hS.bx
              have c1 : w8.cell? ⟨q, 1, none⟩ = some (.int .i64 a) := hbx.cell 1
              have c2 : w8.cell? ⟨q, 2, none⟩ = some (.int .i64 n) := hbx.cell 2
              clear hbx hS
              go_simp
            rcases i with _ | i
            · refine done_call 16 #[.pointer (some ⟨d.b, 0, none⟩), .agg #[.int .i64 a, .int .i64 n]] rfl ?_
              intro dn a8 w8 hS hd hx ho hn
              obtain ⟨_, n59, rfl, fa59⟩ := hn 0 59 (by kernel_rfl) rfl
              obtain ⟨_, n61, rfl, fa61⟩ := hn 2 61 (by kernel_rfl) rfl
              clear ho hn
              refine ⟨wanted_free rfl, by go_simp, ?_⟩
              have h3 : dn 3 = false := hd
              rw [h3] at hS
              refine (HP.out w8 hS.dr.ek).mono ?_
              rintro e w9 ⟨rfl, hl, hk⟩
              exact ⟨_, rfl, hS.prog hl hk, ⟨rfl, fun e => absurd e (by decide)⟩, fun j u _ _ h => h⟩
            rcases i with _ | i
            · refine done_value (fun _ _ h => h) (fun dn j u w h => ⟨h.1, fun e => by have := h.2 e; simp [upd, this]⟩) (.pointer (some ⟨r.b, 0, none⟩)) rfl ?_
              intro dn a8 w8 hS ho hn
              have o1 : a8.tmps[1]? = some _ := (ho 1 (by kernel_rfl)).trans rfl
              clear ho hn
              refine ⟨wanted_free rfl, ?_, rfl, fun e => absurd e (by decide)⟩
              go_simp
            rcases i with _ | i
            · refine done_value (fun _ _ h => h) (fun dn j u w h => ⟨h.1, fun e => by have := h.2 e; simp [upd, this]⟩) (.pointer (some ⟨q, 1, none⟩)) rfl ?_
              intro dn a8 w8 hS ho hn
              have o5 : a8.tmps[5]? = some _ := (ho 5 (by kernel_rfl)).trans rfl
              clear ho hn
              refine ⟨wanted_free rfl, ?_, rfl, fun e => absurd e (by decide)⟩
              go_simp
            rcases i with _ | i
            · refine done_value (fun _ _ h => h) (fun dn j u w h => ⟨h.1, fun e => by have := h.2 e; simp [upd, this]⟩) (.agg #[.int .i64 a, .int .i64 n]) rfl ?_
              intro dn a8 w8 hS ho hn
              obtain ⟨_, n64, rfl, fa64⟩ := hn 5 64 (by kernel_rfl) rfl
              clear ho hn
              refine ⟨wanted_free rfl, ?_, rfl, fun e => absurd e (by decide)⟩
              have hbx := hS.bx
              have c1 : w8.cell? ⟨q, 1, none⟩ = some (.int .i64 a) := hbx.cell 1
              have c2 : w8.cell? ⟨q, 2, none⟩ = some (.int .i64 n) := hbx.cell 2
              clear hbx hS
              go_simp
            rcases i with _ | i
            · refine done_call 17 #[.pointer (some ⟨r.b, 0, none⟩), .agg #[.int .i64 a, .int .i64 n]] rfl ?_
              intro dn a8 w8 hS hd hx ho hn
              obtain ⟨_, n63, rfl, fa63⟩ := hn 4 63 (by kernel_rfl) rfl
              obtain ⟨_, n65, rfl, fa65⟩ := hn 6 65 (by kernel_rfl) rfl
              clear ho hn
              refine ⟨wanted_free rfl, by go_simp, ?_⟩
              have h7 : dn 7 = false := hd
              rw [h7] at hS
              refine (HG.out w8 hS.dr.rk).mono ?_
              rintro e w9 ⟨rfl, hr, hk⟩
              exact ⟨_, rfl, hS.given hr hk, ⟨rfl, fun e => absurd e (by decide)⟩, fun j u _ _ h => h⟩
            rcases i with _ | i
            · refine done_value (fun _ _ h => h) (fun dn j u w h => ⟨h.1, fun e => by have := h.2 e; simp [upd, this]⟩) (.bool true) rfl ?_
              intro dn a8 w8 hS ho hn
              obtain ⟨_, n62, rfl, fa62⟩ := hn 3 62 (by kernel_rfl) rfl
              obtain ⟨_, n66, rfl, fa66⟩ := hn 7 66 (by kernel_rfl) rfl
              clear ho hn
              refine ⟨wanted_free rfl, ?_, rfl, fun e => absurd e (by decide)⟩
              go_simp
            rcases i with _ | i
            · refine done_value (fun _ _ h => h) (fun dn j u w h => ⟨h.1, fun e => by have := h.2 e; simp [upd, this]⟩) (.bool true) rfl ?_
              intro dn a8 w8 hS ho hn
              obtain ⟨_, n67, rfl, fa67⟩ := hn 8 67 (by kernel_rfl) rfl
              clear ho hn
              refine ⟨wanted_free rfl, ?_, rfl, fun e => absurd e (by decide)⟩
              go_simp
            omega
          · intro dn5 fv w9 hS hR hall
            have h8 : fv 8 = _ := (hR 9 8 rfl).1
            have hS2 : DB N w0 w9 d r s9 s9 q 2 a n := by
              have h : DB N w0 w9 d r (if dn5 3 = true then s9 else s) (if dn5 7 = true then s9 else s) q 2 a n := hS
              rwa [hall 3 (by decide), hall 7 (by decide), if_pos rfl] at h
            have T9 := Lib.hid hS2
            simp only [putAll, List.foldl_cons, List.foldl_nil, Act.put, List.setIfInBounds_toArray, List.set_cons_succ, List.set_cons_zero, h8, List.getD_cons_zero, List.getD_cons_succ]
            clear hR h8 hS hall hS2
            go_wp2_with (fail)
            go_meet
            exact ⟨d, rfl, rfl, T9.out⟩
        · have hs : s = s9 := by
            have := HS9.out
            unfold doS at this
            rwa [if_neg k0, if_neg k1, if_neg k2] at this
          subst hs
          by_cases k3 : k = 3
          · subst k3
            go_wp2_with (first
              | (go_at_call 10; (with_reducible refine (ltaken C3.out.old rfl rfl).mono ?_); rintro e w4 ⟨A, c, rfl, ho, -, hb⟩; have C4 := Lib.hid (C3.out.next hb); have HB4 := Lib.hid hb; have HO4 := Lib.hid ho; clear ho hb)
              | (go_at_call 12; (with_reducible refine (ltake 1 C2.out.old (by omega) rfl rfl rfl).mono ?_); rintro e w3 ⟨rfl, hl, hk⟩; have C3 := Lib.hid (C2.out.turn hl hk); clear hl hk)
              | (go_at_call 18; (with_reducible refine (lcopy T1.out.dr.ek).mono ?_); rintro e w2 ⟨d2, rfl, l2, l1, hb, hf⟩; have C2 := Lib.hid (T1.out.copy l2 l1 hb hf); clear l2 l1 hb hf))
            obtain ⟨t, ht⟩ : ∃ t, takeS s 1 = t := ⟨_, rfl⟩
            rw [ht] at C3 C4 HO4 ⊢
            clear ht
            have hm4 := takenX_few C4.out.old.ek.ok
            obtain ⟨l, hl⟩ : ∃ l, takenX t = l := ⟨_, rfl⟩
            rw [hl] at HO4 hm4 ⊢
            obtain ⟨m, hm⟩ : ∃ m, l.length = m := ⟨_, rfl⟩
            have HL := Lib.hid hm
            rw [hm] at HO4 hm4 ⊢
            clear hl hm
            go_loopw [77] (fun i wr => ∃ (j : Nat) (t : ESt), j ≤ m ∧ i = .int .i64 ((j : Nat) : Int) ∧ DC N w0 wr d2 d r s t q 3 a n ∧ wr.ownsRow w3.heap.size 33 2 (.slice A m c) m (extsC l)) (fun i _ => m - (intOf i).toNat)
            case atStart => exact ⟨0, t, Nat.zero_le _, rfl, C4.out, HO4.out⟩
            case round =>
              obtain ⟨j, t9, hj, rfl, hC, hO⟩ := hrel
              by_cases hlt : j < m
              · obtain ⟨ad, rfl, _, ca, cb⟩ := reads_ext (Reads.of_own hO) HL.out hlt
                generalize (l[j]'(by have := HL.out; omega)).1 = y1 at ca
                generalize (l[j]'(by have := HL.out; omega)).2 = y2 at cb
                have hal : Below wr.heap.size wr (wr.alloc (.cells #[.int .i64 y1, .int .i64 y2] 33)) := (Below.refl _ _).alloc (Nat.le_refl _) _
                have C5 := Lib.hid (hC.next hal)
                have HO5 : Hid ((wr.alloc (.cells #[.int .i64 y1, .int .i64 y2] 33)).ownsRow w3.heap.size 33 2 (.slice (some ad) m c) m (extsC l)) := Lib.hid (((Keep.refl (fun _ => False) wr).alloc _).own hO (fun _ _ h => h))
                have HGL : Hid (d.g < w3.heap.size) := Lib.hid (C3.out.old.all_lt d.g (.inr rfl))
                clear hC hO hal
                go_wp2_with (go_at_call 16; (with_reducible refine (lgive y1 y2 C5.out.old rfl rfl).mono ?_); rintro e w6 ⟨rfl, hl, hk⟩; have C6 := Lib.hid (C5.out.turn hl hk); have HO6 := Lib.hid (hk.own HO5.out (fun g hg e => by have := (own_in HO5.out g hg).1; have e : g = d.g := e; have := HGL.out; omega)); clear hl hk)
                exact ⟨⟨j + 1, _, by omega, by go_num, C6.out, HO6.out⟩, by simp [intOf]; omega⟩
              · obtain rfl : m = j := by omega
                have HC := Lib.hid hC
                clear hC hO
                go_wp2_with (fail)
                go_meet
                exact ⟨d2, rfl, rfl, HC.out.new⟩
          · go_wp2_with (fail)
            go_meet
            exact ⟨d, rfl, rfl, T1.out⟩
  case rest =>
    obtain ⟨d1, rfl, rfl, hD⟩ := hcut
    clear T1 x0 x1 x2 HS9 HNW hn
    obtain ⟨l, hl⟩ : ∃ l, takenX s9 = l := ⟨_, rfl⟩
    obtain ⟨m, hm⟩ : ∃ m, l.length = m := ⟨_, rfl⟩
    have hm4 : m ≤ 4096 := by rw [← hm, ← hl]; exact takenX_few hD.dr.ek.ek.ok
    obtain ⟨F, hF⟩ : ∃ F, s9.L.count false = F := ⟨_, rfl⟩
    obtain ⟨M, hM⟩ : ∃ M, mostOf (runsAt s9.L false 0) = M := ⟨_, rfl⟩
    obtain ⟨ha, hha⟩ : ∃ b, hasE s9 a = b := ⟨_, rfl⟩
    have HF := Lib.hid hF
    have HM := Lib.hid hM
    have HHA := Lib.hid hha
    have HHH : Hid ((ha == ha) = true) := Lib.hid (by simp)
    have HRF : Hid (∀ W, RK W r s9 → Calls Try.prog 8 #[.pointer (some ⟨r.b, 0, none⟩)] W fun e w' => e = .returned (.int .i64 (F : Int)) ∧ Below W.heap.size W w') := Lib.hid (fun W h => by
      have := rleft_any h
      rwa [hF] at this)
    have HRM : Hid (∀ W, RK W r s9 → Calls Try.prog 20 #[.pointer (some ⟨r.b, 0, none⟩)] W fun e w' => e = .returned (.int .i64 (M : Int)) ∧ Below W.heap.size W w') := Lib.hid (fun W h => by
      have := rlongest_any h
      rwa [hM] at this)
    have HRH : Hid (∀ W, RK W r s9 → Calls Try.prog 22 #[.pointer (some ⟨r.b, 0, none⟩), .int .i64 a] W fun e w' => e = .returned (.bool ha) ∧ Below W.heap.size W w') := Lib.hid (fun W h => by
      have := rhas_any a h
      rwa [hha] at this)
    have HRT : Hid (∀ W, RK W r s9 → Calls Try.prog 11 #[.pointer (some ⟨r.b, 0, none⟩)] W fun e w' => ∃ A c, e = .returned (.slice A m c) ∧ w'.ownsRow W.heap.size 33 2 (.slice A m c) m (extsC l) ∧ Below W.heap.size W w') := Lib.hid (fun W h => by
      have := rtaken_any m h (by rw [← hm, ← hl]; unfold takenX; rw [List.length_map])
      rw [ext_exts] at this
      have e : (runsAt s9.L true 0).map (fun x => ((s9.f : Int) + (x.1 : Int), (x.2 : Int))) = l := hl
      rwa [e] at this)
    have HTK : Hid (∀ W, ELives N w0 W d1 s9 → Calls Try.prog 10 #[.pointer (some ⟨d1.b, 0, none⟩)] W fun e w' => ∃ A c, e = .returned (.slice A m c) ∧ w'.ownsRow W.heap.size 33 2 (.slice A m c) m (extsC l) ∧ ELives N w0 w' d1 s9 ∧ Below W.heap.size W w') := Lib.hid (fun W L => ltaken L hl hm)
    have HL := Lib.hid hm
    have TD := Lib.hid hD
    clear hF hM hha hl hm hD
    go_wp2_with (go_at_call 10; (with_reducible refine (HTK.out _ TD.out.dr.ek).mono ?_); rintro e w2 ⟨A, c, rfl, ho, -, hb⟩; have T2 := Lib.hid (TD.out.next hb); have HBC := Lib.hid hb; have HO := Lib.hid ho; clear ho hb)
    refine wp_region_steps_on (fun w' => DB N w0 w' d1 r s9 s9 q k a n ∧ Below w2.heap.size w2 w') (doR ([.bool true, .bool true, .pointer (some ⟨d1.b, 0, none⟩), .int .i64 (F : Int), .pointer (some ⟨r.b, 0, none⟩), .int .i64 (F : Int), .bool true, .bool true, .bool true, .pointer (some ⟨d1.b, 0, none⟩), .int .i64 (M : Int), .pointer (some ⟨r.b, 0, none⟩), .int .i64 (M : Int), .bool true, .bool true, .bool true, .pointer (some ⟨d1.b, 0, none⟩), .pointer (some ⟨q, 1, none⟩), .pointer (some ⟨q, 1, none⟩), .int .i64 a, .bool ha, .pointer (some ⟨r.b, 0, none⟩), .pointer (some ⟨q, 1, none⟩), .pointer (some ⟨q, 1, none⟩), .int .i64 a, .bool ha, .bool true, .bool true, .bool true, .slice A m c, .pointer (some ⟨r.b, 0, none⟩), undef, .bool true, .bool true, .bool true] : List Value) m l) (by kernel_rfl) 134 rfl (by kernel_rfl) ⟨T2.out.next (Below.refl _ _).drew, (Below.refl _ _).drew⟩ ?_ ?_
    · intro i hi
      have hi2 : i < 35 := hi
      clear hi
      rcases i with _ | i
      · refine step_value (.bool true) rfl ?_
        intro a8 w8 hS ho hn
        have o8 : a8.tmps[8]? = some _ := (ho 8 (by kernel_rfl)).trans rfl
        clear ho hn
        refine ⟨wanted_free rfl, ?_, rfl⟩
        go_simp
      rcases i with _ | i
      · refine step_value (.bool true) rfl ?_
        intro a8 w8 hS ho hn
        obtain ⟨_, n88, rfl⟩ := hn 0 88 (by kernel_rfl) rfl
        clear ho hn
        refine ⟨wanted_free rfl, ?_, rfl⟩
        go_simp
      rcases i with _ | i
      · refine step_value (.pointer (some ⟨d1.b, 0, none⟩)) rfl ?_
        intro a8 w8 hS ho hn
        have o0 : a8.tmps[0]? = some _ := (ho 0 (by kernel_rfl)).trans rfl
        obtain ⟨_, n89, rfl⟩ := hn 1 89 (by kernel_rfl) rfl
        clear ho hn
        refine ⟨wanted_of 1 89 rfl rfl n89, ?_, rfl⟩
        go_simp
      rcases i with _ | i
      · refine step_call 7 #[.pointer (some ⟨d1.b, 0, none⟩)] rfl ?_
        intro a8 w8 hS ho hn
        obtain ⟨_, n90, rfl⟩ := hn 2 90 (by kernel_rfl) rfl
        obtain ⟨_, n89, rfl⟩ := hn 1 89 (by kernel_rfl) rfl
        clear ho hn
        refine ⟨wanted_of 1 89 rfl rfl n89, by go_simp, ?_⟩
        refine (lleft hS.1.dr.ek HF.out).mono ?_
        rintro e w9 ⟨rfl, -, hb⟩
        exact ⟨_, rfl, ⟨hS.1.next hb, hS.2.trans (hb.mono hS.2.size)⟩, rfl, fun j u _ hR => doR_keep hb hR⟩
      rcases i with _ | i
      · refine step_value (.pointer (some ⟨r.b, 0, none⟩)) rfl ?_
        intro a8 w8 hS ho hn
        have o1 : a8.tmps[1]? = some _ := (ho 1 (by kernel_rfl)).trans rfl
        obtain ⟨_, n89, rfl⟩ := hn 1 89 (by kernel_rfl) rfl
        clear ho hn
        refine ⟨wanted_of 1 89 rfl rfl n89, ?_, rfl⟩
        go_simp
      rcases i with _ | i
      · refine step_call 8 #[.pointer (some ⟨r.b, 0, none⟩)] rfl ?_
        intro a8 w8 hS ho hn
        obtain ⟨_, n92, rfl⟩ := hn 4 92 (by kernel_rfl) rfl
        obtain ⟨_, n89, rfl⟩ := hn 1 89 (by kernel_rfl) rfl
        clear ho hn
        refine ⟨wanted_of 1 89 rfl rfl n89, by go_simp, ?_⟩
        refine (HRF.out w8 hS.1.dr.rk).mono ?_
        rintro e w9 ⟨rfl, hb⟩
        exact ⟨_, rfl, ⟨hS.1.next hb, hS.2.trans (hb.mono hS.2.size)⟩, rfl, fun j u _ hR => doR_keep hb hR⟩
      rcases i with _ | i
      · refine step_value (.bool true) rfl ?_
        intro a8 w8 hS ho hn
        obtain ⟨_, n91, rfl⟩ := hn 3 91 (by kernel_rfl) rfl
        obtain ⟨_, n93, rfl⟩ := hn 5 93 (by kernel_rfl) rfl
        obtain ⟨_, n89, rfl⟩ := hn 1 89 (by kernel_rfl) rfl
        clear ho hn
        refine ⟨wanted_of 1 89 rfl rfl n89, ?_, rfl⟩
        go_simp
      rcases i with _ | i
      · refine step_value (.bool true) rfl ?_
        intro a8 w8 hS ho hn
        obtain ⟨_, n89, rfl⟩ := hn 1 89 (by kernel_rfl) rfl
        obtain ⟨_, n94, rfl⟩ := hn 6 94 (by kernel_rfl) rfl
        clear ho hn
        refine ⟨wanted_free rfl, ?_, rfl⟩
        go_simp
      rcases i with _ | i
      · refine step_value (.bool true) rfl ?_
        intro a8 w8 hS ho hn
        obtain ⟨_, n95, rfl⟩ := hn 7 95 (by kernel_rfl) rfl
        clear ho hn
        refine ⟨wanted_free rfl, ?_, rfl⟩
        go_simp
      rcases i with _ | i
      · refine step_value (.pointer (some ⟨d1.b, 0, none⟩)) rfl ?_
        intro a8 w8 hS ho hn
        have o0 : a8.tmps[0]? = some _ := (ho 0 (by kernel_rfl)).trans rfl
        obtain ⟨_, n96, rfl⟩ := hn 8 96 (by kernel_rfl) rfl
        clear ho hn
        refine ⟨wanted_of 8 96 rfl rfl n96, ?_, rfl⟩
        go_simp
      rcases i with _ | i
      · refine step_call 19 #[.pointer (some ⟨d1.b, 0, none⟩)] rfl ?_
        intro a8 w8 hS ho hn
        obtain ⟨_, n97, rfl⟩ := hn 9 97 (by kernel_rfl) rfl
        obtain ⟨_, n96, rfl⟩ := hn 8 96 (by kernel_rfl) rfl
        clear ho hn
        refine ⟨wanted_of 8 96 rfl rfl n96, by go_simp, ?_⟩
        refine (llongest hS.1.dr.ek HM.out).mono ?_
        rintro e w9 ⟨rfl, -, hb⟩
        exact ⟨_, rfl, ⟨hS.1.next hb, hS.2.trans (hb.mono hS.2.size)⟩, rfl, fun j u _ hR => doR_keep hb hR⟩
      rcases i with _ | i
      · refine step_value (.pointer (some ⟨r.b, 0, none⟩)) rfl ?_
        intro a8 w8 hS ho hn
        have o1 : a8.tmps[1]? = some _ := (ho 1 (by kernel_rfl)).trans rfl
        obtain ⟨_, n96, rfl⟩ := hn 8 96 (by kernel_rfl) rfl
        clear ho hn
        refine ⟨wanted_of 8 96 rfl rfl n96, ?_, rfl⟩
        go_simp
      rcases i with _ | i
      · refine step_call 20 #[.pointer (some ⟨r.b, 0, none⟩)] rfl ?_
        intro a8 w8 hS ho hn
        obtain ⟨_, n99, rfl⟩ := hn 11 99 (by kernel_rfl) rfl
        obtain ⟨_, n96, rfl⟩ := hn 8 96 (by kernel_rfl) rfl
        clear ho hn
        refine ⟨wanted_of 8 96 rfl rfl n96, by go_simp, ?_⟩
        refine (HRM.out w8 hS.1.dr.rk).mono ?_
        rintro e w9 ⟨rfl, hb⟩
        exact ⟨_, rfl, ⟨hS.1.next hb, hS.2.trans (hb.mono hS.2.size)⟩, rfl, fun j u _ hR => doR_keep hb hR⟩
      rcases i with _ | i
      · refine step_value (.bool true) rfl ?_
        intro a8 w8 hS ho hn
        obtain ⟨_, n98, rfl⟩ := hn 10 98 (by kernel_rfl) rfl
        obtain ⟨_, n100, rfl⟩ := hn 12 100 (by kernel_rfl) rfl
        obtain ⟨_, n96, rfl⟩ := hn 8 96 (by kernel_rfl) rfl
        clear ho hn
        refine ⟨wanted_of 8 96 rfl rfl n96, ?_, rfl⟩
        go_simp
      rcases i with _ | i
      · refine step_value (.bool true) rfl ?_
        intro a8 w8 hS ho hn
        obtain ⟨_, n96, rfl⟩ := hn 8 96 (by kernel_rfl) rfl
        obtain ⟨_, n101, rfl⟩ := hn 13 101 (by kernel_rfl) rfl
        clear ho hn
        refine ⟨wanted_free rfl, ?_, rfl⟩
        go_simp
      rcases i with _ | i
      · refine step_value (.bool true) rfl ?_
        intro a8 w8 hS ho hn
        obtain ⟨_, n102, rfl⟩ := hn 14 102 (by kernel_rfl) rfl
        clear ho hn
        refine ⟨wanted_free rfl, ?_, rfl⟩
        go_simp
      rcases i with _ | i
      · refine step_value (.pointer (some ⟨d1.b, 0, none⟩)) rfl ?_
        intro a8 w8 hS ho hn
        have o0 : a8.tmps[0]? = some _ := (ho 0 (by kernel_rfl)).trans rfl
        obtain ⟨_, n103, rfl⟩ := hn 15 103 (by kernel_rfl) rfl
        clear ho hn
        refine ⟨wanted_of 15 103 rfl rfl n103, ?_, rfl⟩
        go_simp
      rcases i with _ | i
      · refine step_value (.pointer (some ⟨q, 1, none⟩)) rfl ?_
        intro a8 w8 hS ho hn
        have o5 : a8.tmps[5]? = some _ := (ho 5 (by kernel_rfl)).trans rfl
        obtain ⟨_, n103, rfl⟩ := hn 15 103 (by kernel_rfl) rfl
        clear ho hn
        refine ⟨wanted_of 15 103 rfl rfl n103, ?_, rfl⟩
        go_simp
      rcases i with _ | i
      · refine step_value (.pointer (some ⟨q, 1, none⟩)) rfl ?_
        intro a8 w8 hS ho hn
        obtain ⟨_, n105, rfl⟩ := hn 17 105 (by kernel_rfl) rfl
        obtain ⟨_, n103, rfl⟩ := hn 15 103 (by kernel_rfl) rfl
        clear ho hn
        refine ⟨wanted_of 15 103 rfl rfl n103, ?_, rfl⟩
        go_simp
      rcases i with _ | i
      · refine step_value (.int .i64 a) rfl ?_
        intro a8 w8 hS ho hn
        obtain ⟨_, n106, rfl⟩ := hn 18 106 (by kernel_rfl) rfl
        obtain ⟨_, n103, rfl⟩ := hn 15 103 (by kernel_rfl) rfl
        clear ho hn
        refine ⟨wanted_of 15 103 rfl rfl n103, ?_, rfl⟩
        have hbx := hS.1.bx
        have c1 : w8.cell? ⟨q, 1, none⟩ = some (.int .i64 a) := hbx.cell 1
        clear hbx hS
        go_simp
      rcases i with _ | i
      · refine step_call 21 #[.pointer (some ⟨d1.b, 0, none⟩), .int .i64 a] rfl ?_
        intro a8 w8 hS ho hn
        obtain ⟨_, n104, rfl⟩ := hn 16 104 (by kernel_rfl) rfl
        obtain ⟨_, n107, rfl⟩ := hn 19 107 (by kernel_rfl) rfl
        obtain ⟨_, n103, rfl⟩ := hn 15 103 (by kernel_rfl) rfl
        clear ho hn
        refine ⟨wanted_of 15 103 rfl rfl n103, by go_simp, ?_⟩
        refine (lhas a hS.1.dr.ek HHA.out).mono ?_
        rintro e w9 ⟨rfl, -, hb⟩
        exact ⟨_, rfl, ⟨hS.1.next hb, hS.2.trans (hb.mono hS.2.size)⟩, rfl, fun j u _ hR => doR_keep hb hR⟩
      rcases i with _ | i
      · refine step_value (.pointer (some ⟨r.b, 0, none⟩)) rfl ?_
        intro a8 w8 hS ho hn
        have o1 : a8.tmps[1]? = some _ := (ho 1 (by kernel_rfl)).trans rfl
        obtain ⟨_, n103, rfl⟩ := hn 15 103 (by kernel_rfl) rfl
        clear ho hn
        refine ⟨wanted_of 15 103 rfl rfl n103, ?_, rfl⟩
        go_simp
      rcases i with _ | i
      · refine step_value (.pointer (some ⟨q, 1, none⟩)) rfl ?_
        intro a8 w8 hS ho hn
        have o5 : a8.tmps[5]? = some _ := (ho 5 (by kernel_rfl)).trans rfl
        obtain ⟨_, n103, rfl⟩ := hn 15 103 (by kernel_rfl) rfl
        clear ho hn
        refine ⟨wanted_of 15 103 rfl rfl n103, ?_, rfl⟩
        go_simp
      rcases i with _ | i
      · refine step_value (.pointer (some ⟨q, 1, none⟩)) rfl ?_
        intro a8 w8 hS ho hn
        obtain ⟨_, n110, rfl⟩ := hn 22 110 (by kernel_rfl) rfl
        obtain ⟨_, n103, rfl⟩ := hn 15 103 (by kernel_rfl) rfl
        clear ho hn
        refine ⟨wanted_of 15 103 rfl rfl n103, ?_, rfl⟩
        go_simp
      rcases i with _ | i
      · refine step_value (.int .i64 a) rfl ?_
        intro a8 w8 hS ho hn
        obtain ⟨_, n111, rfl⟩ := hn 23 111 (by kernel_rfl) rfl
        obtain ⟨_, n103, rfl⟩ := hn 15 103 (by kernel_rfl) rfl
        clear ho hn
        refine ⟨wanted_of 15 103 rfl rfl n103, ?_, rfl⟩
        have hbx := hS.1.bx
        have c1 : w8.cell? ⟨q, 1, none⟩ = some (.int .i64 a) := hbx.cell 1
        clear hbx hS
        go_simp
      rcases i with _ | i
      · refine step_call 22 #[.pointer (some ⟨r.b, 0, none⟩), .int .i64 a] rfl ?_
        intro a8 w8 hS ho hn
        obtain ⟨_, n109, rfl⟩ := hn 21 109 (by kernel_rfl) rfl
        obtain ⟨_, n112, rfl⟩ := hn 24 112 (by kernel_rfl) rfl
        obtain ⟨_, n103, rfl⟩ := hn 15 103 (by kernel_rfl) rfl
        clear ho hn
        refine ⟨wanted_of 15 103 rfl rfl n103, by go_simp, ?_⟩
        refine (HRH.out w8 hS.1.dr.rk).mono ?_
        rintro e w9 ⟨rfl, hb⟩
        exact ⟨_, rfl, ⟨hS.1.next hb, hS.2.trans (hb.mono hS.2.size)⟩, rfl, fun j u _ hR => doR_keep hb hR⟩
      rcases i with _ | i
      · refine step_value (.bool true) rfl ?_
        intro a8 w8 hS ho hn
        obtain ⟨_, n108, rfl⟩ := hn 20 108 (by kernel_rfl) rfl
        obtain ⟨_, n113, rfl⟩ := hn 25 113 (by kernel_rfl) rfl
        obtain ⟨_, n103, rfl⟩ := hn 15 103 (by kernel_rfl) rfl
        clear ho hn
        refine ⟨wanted_of 15 103 rfl rfl n103, ?_, rfl⟩
        have hhh := HHH.out
        go_simp
      rcases i with _ | i
      · refine step_value (.bool true) rfl ?_
        intro a8 w8 hS ho hn
        obtain ⟨_, n103, rfl⟩ := hn 15 103 (by kernel_rfl) rfl
        obtain ⟨_, n114, rfl⟩ := hn 26 114 (by kernel_rfl) rfl
        clear ho hn
        refine ⟨wanted_free rfl, ?_, rfl⟩
        go_simp
      rcases i with _ | i
      · refine step_value (.bool true) rfl ?_
        intro a8 w8 hS ho hn
        obtain ⟨_, n115, rfl⟩ := hn 27 115 (by kernel_rfl) rfl
        clear ho hn
        refine ⟨wanted_free rfl, ?_, rfl⟩
        go_simp
      rcases i with _ | i
      · refine step_value (.slice A m c) rfl ?_
        intro a8 w8 hS ho hn
        have o16 : a8.tmps[16]? = some _ := (ho 16 (by kernel_rfl)).trans rfl
        obtain ⟨_, n116, rfl⟩ := hn 28 116 (by kernel_rfl) rfl
        clear ho hn
        refine ⟨wanted_of 28 116 rfl rfl n116, ?_, rfl⟩
        go_simp
      rcases i with _ | i
      · refine step_value (.pointer (some ⟨r.b, 0, none⟩)) rfl ?_
        intro a8 w8 hS ho hn
        have o1 : a8.tmps[1]? = some _ := (ho 1 (by kernel_rfl)).trans rfl
        obtain ⟨_, n116, rfl⟩ := hn 28 116 (by kernel_rfl) rfl
        clear ho hn
        refine ⟨wanted_of 28 116 rfl rfl n116, ?_, rfl⟩
        go_simp
      rcases i with _ | i
      · refine step_call 11 #[.pointer (some ⟨r.b, 0, none⟩)] rfl ?_
        intro a8 w8 hS ho hn
        obtain ⟨_, n118, rfl⟩ := hn 30 118 (by kernel_rfl) rfl
        obtain ⟨_, n116, rfl⟩ := hn 28 116 (by kernel_rfl) rfl
        clear ho hn
        refine ⟨wanted_of 28 116 rfl rfl n116, by go_simp, ?_⟩
        refine (HRT.out w8 hS.1.dr.rk).mono ?_
        rintro e w9 ⟨A5, c5, rfl, ho, hb⟩
        exact ⟨_, rfl, ⟨hS.1.next hb, hS.2.trans (hb.mono hS.2.size)⟩, ⟨A5, c5, rfl, Reads.of_own ho⟩, fun j u _ hR => doR_keep hb hR⟩
      rcases i with _ | i
      · refine step_call_ex 9 rfl ?_
        intro a8 w8 hS ho hn
        obtain ⟨_, n117, rfl⟩ := hn 29 117 (by kernel_rfl) rfl
        obtain ⟨_, n119, hR119⟩ := hn 31 119 (by kernel_rfl) rfl
        obtain ⟨_, n116, rfl⟩ := hn 28 116 (by kernel_rfl) rfl
        clear ho hn
        obtain ⟨A5, c5, rfl, hr5⟩ := hR119
        refine ⟨wanted_of 28 116 rfl rfl n116, #[.slice A m c, .slice A5 m c5], by go_simp, ?_⟩
        have h := same4_any A A5 c c5 m m l l w8 HL.out HL.out ((((Reads.of_own HO.out).below hS.2).more hS.2.size)) hr5 (by omega) (by omega)
        rw [decide_eq_true rfl] at h
        refine h.mono ?_
        rintro e w9 ⟨rfl, hb⟩
        exact ⟨_, rfl, ⟨hS.1.next hb, hS.2.trans (hb.mono hS.2.size)⟩, rfl, fun j u _ hR => doR_keep hb hR⟩
      rcases i with _ | i
      · refine step_value (.bool true) rfl ?_
        intro a8 w8 hS ho hn
        obtain ⟨_, n116, rfl⟩ := hn 28 116 (by kernel_rfl) rfl
        obtain ⟨_, n120, rfl⟩ := hn 32 120 (by kernel_rfl) rfl
        clear ho hn
        refine ⟨wanted_free rfl, ?_, rfl⟩
        go_simp
      rcases i with _ | i
      · refine step_value (.bool true) rfl ?_
        intro a8 w8 hS ho hn
        obtain ⟨_, n121, rfl⟩ := hn 33 121 (by kernel_rfl) rfl
        clear ho hn
        refine ⟨wanted_free rfl, ?_, rfl⟩
        go_simp
      omega
    · intro fv w3 hS hR
      have h8 : fv 8 = _ := hR 34 8 rfl
      have hB3 : Below w2.heap.size w2 w3 := hS.2
      have hO3 : w3.ownsRow wc.heap.size 33 2 (.slice A m c) m (extsC l) := (Keep.of_below (S := fun _ => False) hB3).own HO.out (fun _ _ e => e)
      have hBc : Below wc.heap.size wc w3 := HBC.out.trans (hB3.mono HBC.out.size)
      simp only [putAll, List.foldl_cons, List.foldl_nil, Act.put, List.setIfInBounds_toArray, List.set_cons_succ, List.set_cons_zero, h8, List.getD_cons_zero, List.getD_cons_succ]
      clear hR h8 hS hB3
      go_wp2
      go_loopw [124] (fun i wr => ∃ (j : Nat) (xs : List Value), j ≤ m ∧ i = .int .i64 ((j : Nat) : Int) ∧ wr.ownsRow wc.heap.size 33 2 (.slice A m c) m xs ∧ Below wc.heap.size wc wr) (fun i _ => m - (intOf i).toNat)
      case atStart => exact ⟨0, _, Nat.zero_le _, rfl, hO3, hBc⟩
      case round =>
        clear hO3 hBc
        obtain ⟨j, xs, hj, rfl, hO, hB⟩ := hrel
        by_cases hlt : j < m
        · obtain ⟨g, rfl⟩ : ∃ g, A = some ⟨g, 0, none⟩ := by
            rcases hO.2 with ⟨_, h0⟩ | ⟨g, cap, cur, e, _⟩
            · omega
            · injection e with e
              exact ⟨g, e⟩
          have hgl := (own_in hO g rfl).1
          have hxl : xs.length = m * 2 := hO.1
          obtain ⟨u, hu⟩ : ∃ u, xs[j * 2 + 1]? = some u := ⟨_, List.getElem?_eq_getElem (by omega)⟩
          obtain ⟨cn, fn⟩ := own_cell hO hu
          have ho2 := own_keep (j := j * 2 + 1) hO (.int .i64 0)
          have hb2 : Below wc.heap.size wc (wr.setCell ⟨g, j * 2 + 1, none⟩ (.int .i64 0)) := hB.setCell (p := ⟨g, j * 2 + 1, none⟩) hgl _
          have HO2 := Lib.hid ho2
          have HB2 := Lib.hid hb2
          clear hO hB hxl hu ho2 hb2 hgl
          go_wp2
          exact ⟨⟨j + 1, _, by omega, by go_num, HO2.out, HB2.out⟩, by simp [intOf]; omega⟩
        · obtain rfl : m = j := by omega
          have HB := Lib.hid hB
          clear hO hB
          go_wp2
          go_ret2
          exact ⟨d1, rfl, (TD.out.next HB.out).dr⟩
end
end Go.Proofs.Ytjndbibbfcmgiaa

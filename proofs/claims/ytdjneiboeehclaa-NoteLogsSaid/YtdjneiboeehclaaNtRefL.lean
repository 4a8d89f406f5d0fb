/-
  Layer 9, the document's answers of a log: Notes.
-/
import Derived.Test.YtdjneiboeehclaaNtRefN
import Derived.Test.YtdjneiboeehclaaNtGrow
import Derived.Test.YtdjneiboeehclaaNtRefD
namespace Go.Proofs.Ytdjneiboeehclaa.note
open Go.RowKit Go.Maps Go.Proofs.Ytdjneiboeehclaa.crc Go.Proofs.Ytdjneiboeehclaa.root

/-- What the document's Notes have taken in, k payloads behind the first one looked at. -/
structure RN9 (w0 : World) (r : List (List UInt8)) (k : Nat) (v : Value) (W : World) : Prop where
  below : Below w0.heap.size w0 W
  go : GoL r k
  own : W.ownsRow w0.heap.size 23 4 v k ((nsK r k).flatMap nc)

def Noted (w w' : World) (e : Ending) (ns : List NV) (bg : Bool) : Prop := ∃ A c, e = .returned (.tuple #[.slice A ns.length c, .bool bg]) ∧ w'.ownsRow w.heap.size 23 4 (.slice A ns.length c) ns.length (ns.flatMap nc) ∧ Below w.heap.size w w'

theorem Noted.of {w w' : World} {e : Ending} {ns ns' : List NV} {bg : Bool} {A : Option Addr} {c k : Nat} (h : ns = ns') (hl : ns'.length = k) (he : e = .returned (.tuple #[.slice A k c, .bool bg])) (ho : w'.ownsRow w.heap.size 23 4 (.slice A k c) k (ns'.flatMap nc)) (hb : Below w.heap.size w w') : Noted w w' e ns bg := by
  subst h hl
  exact ⟨A, c, he, ho, hb⟩

set_option maxRecDepth 100000 in
set_option maxHeartbeats 4000000 in
theorem r9notes_no (st : Int) {A : Option Addr} {n c : Nat} {ls : List (List UInt8)} {us : List Value} {w : World} (hr : RArgs w A n c ls us) (hno : begunN st ls = false) :
    Calls Try.prog 15 #[.int .i64 st, .slice A n c] w fun e w' => Noted w w' e [] false := by
  have hlen := hr.len
  have hcap := hr.cap
  rcases Nat.eq_zero_or_pos n with h0 | h0
  · subst h0
    clear hr hlen hcap hno
    go_enter Try.func15, Try.ntmps15
    go_wp2
    go_ret2
    exact ⟨none, 0, rfl, World.ownsRow_nil _ _ _ _, Below.refl _ _⟩
  · obtain ⟨ad, B, d, rfl, ck, hrk, hd1, hd2⟩ := hr.one h0
    obtain ⟨p, r, rfl⟩ : ∃ p r, ls = p :: r := by
      cases ls with
      | nil => simp at hlen; omega
      | cons p r => exact ⟨p, r, rfl⟩
    rw [begun_cons] at hno
    rw [List.getD_cons_zero] at ck hrk hd1
    have a0 : ad.add 0 = ad := by unfold Addr.add; rfl
    rw [a0] at ck
    obtain ⟨m, hm⟩ : ∃ m, p.length = m := ⟨_, rfl⟩
    rw [hm] at ck hrk hd1
    have HDC := Lib.hid (r9decode_any B d m p w hm hrk ⟨hd1, hd2⟩)
    obtain ⟨⟨tk, ta, tb, tn⟩, hT⟩ : ∃ T, decN p = T := ⟨_, rfl⟩
    have hE : decErrN p = if goodN p = true then 0 else 90 := rfl
    rw [hT, hE] at HDC
    rw [hT] at hno
    unfold nv at HDC
    simp only at HDC hno
    have n0 : ((n : Int) == 0) = false := by rw [beq_eq_false_iff_ne]; omega
    have HX : Hid (∀ w1, Below w.heap.size w w1 → Below w.heap.size w (w1.alloc (.cells #[.int .i64 tk, .int .i64 ta, .int .i64 tb, .int .i64 tn] 23)) ∧ Blk (w1.alloc (.cells #[.int .i64 tk, .int .i64 ta, .int .i64 tb, .int .i64 tn] 23)) w1.heap.size 23 #[.int .i64 tk, .int .i64 ta, .int .i64 tb, .int .i64 tn]) := Lib.hid (fun w1 hb => ⟨hb.alloc hb.size _, Blk.new _ _ _⟩)
    have hcs : goodN p = false ∨ (goodN p = true ∧ ¬ tk = 1) ∨ (goodN p = true ∧ tk = 1 ∧ ¬ ta = st) := by
      cases hg : goodN p
      · exact .inl rfl
      · rw [hg] at hno
        by_cases h1 : tk = 1
        · refine .inr (.inr ⟨rfl, h1, fun h2 => ?_⟩)
          simp [h1, h2] at hno
        · exact .inr (.inl ⟨rfl, h1⟩)
    clear hr hlen hm hrk hT hE a0 hno hcap hd1 hd2
    rcases hcs with hg | ⟨hg, h1⟩ | ⟨hg, rfl, h2⟩
    · rw [hg] at HDC
      simp only [Bool.false_eq_true, if_false] at HDC
      clear hg
      go_enter Try.func15, Try.ntmps15
      go_wp2_with (go_at_call 12; refine HDC.out.mono ?_; rintro e w1 ⟨rfl, hb⟩; obtain ⟨hb2, hx2⟩ := HX.out w1 hb; have HB := Lib.hid hb2; have x0 := hx2.cell 0; have x1 := hx2.cell 1; clear hb hb2 hx2)
      go_ret2
      exact ⟨none, 0, rfl, World.ownsRow_nil _ _ _ _, HB.out⟩
    · rw [hg] at HDC
      simp only [if_true] at HDC
      have b1 : (tk != 1) = true := by rw [bne_iff_ne]; exact h1
      clear hg h1
      go_enter Try.func15, Try.ntmps15
      go_wp2_with (go_at_call 12; refine HDC.out.mono ?_; rintro e w1 ⟨rfl, hb⟩; obtain ⟨hb2, hx2⟩ := HX.out w1 hb; have HB := Lib.hid hb2; have x0 := hx2.cell 0; have x1 := hx2.cell 1; clear hb hb2 hx2)
      go_ret2
      exact ⟨none, 0, rfl, World.ownsRow_nil _ _ _ _, HB.out⟩
    · rw [hg] at HDC
      simp only [if_true] at HDC
      have b2 : (ta != st) = true := by rw [bne_iff_ne]; exact h2
      clear hg h2
      go_enter Try.func15, Try.ntmps15
      go_wp2_with (go_at_call 12; refine HDC.out.mono ?_; rintro e w1 ⟨rfl, hb⟩; obtain ⟨hb2, hx2⟩ := HX.out w1 hb; have HB := Lib.hid hb2; have x0 := hx2.cell 0; have x1 := hx2.cell 1; clear hb hb2 hx2)
      go_ret2
      exact ⟨none, 0, rfl, World.ownsRow_nil _ _ _ _, HB.out⟩

set_option maxRecDepth 100000 in
set_option maxHeartbeats 8000000 in
theorem r9notes_yes (st : Int) {A : Option Addr} {n c : Nat} {ls : List (List UInt8)} {us : List Value} {w : World} (hr : RArgs w A n c ls us) (hyes : begunN st ls = true) (hbig : n ≤ 1000) :
    Calls Try.prog 15 #[.int .i64 st, .slice A n c] w fun e w' => Noted w w' e (notesN st ls) true := by
  obtain ⟨i0, hi, hz0, hz1, hz2⟩ := info_parts infoNote
  have hlen := hr.len
  have hns : notesN st ls = takeN ls.tail := by unfold notesN; rw [hyes]; rfl
  rw [hns]
  obtain ⟨p, r, rfl⟩ : ∃ p r, ls = p :: r := by
    cases ls with
    | nil => cases hyes
    | cons p r => exact ⟨p, r, rfl⟩
  rw [List.tail_cons]
  have h0 : 0 < n := by simp at hlen; omega
  have hrl : r.length + 1 = n := by simpa using hlen
  have HARG := Lib.hid hr
  obtain ⟨ad, B, d, rfl, ck, hrk, hd1, hd2⟩ := hr.one h0
  rw [begun_cons] at hyes
  rw [List.getD_cons_zero] at ck hrk hd1
  have a0 : ad.add 0 = ad := by unfold Addr.add; rfl
  rw [a0] at ck
  obtain ⟨m, hm⟩ : ∃ m, p.length = m := ⟨_, rfl⟩
  rw [hm] at ck hrk hd1
  have HDC := Lib.hid (r9decode_any B d m p w hm hrk ⟨hd1, hd2⟩)
  simp only [Bool.and_eq_true, decide_eq_true_eq] at hyes
  obtain ⟨hg, h1, h2⟩ := hyes
  have hE : decErrN p = 0 := by unfold decErrN; rw [if_pos hg]
  obtain ⟨⟨tk, ta, tb, tn⟩, hT⟩ : ∃ T, decN p = T := ⟨_, rfl⟩
  rw [hT, hE] at HDC
  rw [hT] at h1 h2
  simp only at h1 h2
  subst h1 h2
  unfold nv at HDC
  simp only at HDC
  have n0 : ((n : Int) == 0) = false := by rw [beq_eq_false_iff_ne]; omega
  have HX : Hid (∀ w1, Below w.heap.size w w1 → Below w.heap.size w (w1.alloc (.cells #[.int .i64 1, .int .i64 ta, .int .i64 tb, .int .i64 tn] 23)) ∧ Blk (w1.alloc (.cells #[.int .i64 1, .int .i64 ta, .int .i64 tb, .int .i64 tn] 23)) w1.heap.size 23 #[.int .i64 1, .int .i64 ta, .int .i64 tb, .int .i64 tn]) := Lib.hid (fun w1 hb => ⟨hb.alloc hb.size _, Blk.new _ _ _⟩)
  have HRL := Lib.hid hrl
  have hn0 : (0 : Int) < (n : Int) := by omega
  clear hr hlen hm hrk hT hE a0 hd1 hd2 hns hg hrl
  go_enter Try.func15, Try.ntmps15
  go_wp2_with (go_at_call 12; refine HDC.out.mono ?_; rintro e w1 ⟨rfl, hb⟩; obtain ⟨hb2, hx2⟩ := HX.out w1 hb; have HB := Lib.hid hb2; have x0 := hx2.cell 0; have x1 := hx2.cell 1; clear hb hb2 hx2)
  clear ck
  go_loopw [8, 9] (fun o i wr => ∃ (j : Nat) (v : Value), 1 ≤ j ∧ j ≤ n ∧ i = .int .i64 (j : Int) ∧ o = v ∧ RN9 w r (j - 1) v wr) (fun _ i _ => n - (intOf i).toNat)
  case atStart => exact ⟨1, _, Nat.le_refl _, h0, rfl, rfl, HB.out, GoL.zero r, World.ownsRow_nil _ _ _ _⟩
  case round =>
    obtain ⟨j, v, hj1, hj, rfl, rfl, hR⟩ := hrel
    clear x0 x1
    obtain ⟨k, hk⟩ : ∃ k, j - 1 = k := ⟨_, rfl⟩
    rw [hk] at hR
    obtain ⟨A3, c3, rfl⟩ := own_slice4 hR.own
    by_cases hlt : j < n
    · obtain ⟨ad', B, d, e', ck, hrk, hd1, hd2⟩ := (HARG.out.below hR.below).one hlt
      injection e' with e'
      subst e'
      have hgd : (p :: r).getD j [] = r.getD k [] := by
        have : j = k + 1 := by omega
        rw [this, List.getD_cons_succ]
      rw [hgd] at ck hrk hd1
      have hkl : k < r.length := by have := HRL.out; omega
      have hend := takeN_end hR.go hkl
      have hlast := takeN_last hR.go hkl
      have hsucc := hR.go.succ
      have htake : nsK r (k + 1) = nsK r k ++ [decN (r.getD k [])] := take_snoc hkl
      obtain ⟨q, hq⟩ : ∃ q, r.getD k [] = q := ⟨_, rfl⟩
      rw [hq] at ck hrk hd1 hend hlast hsucc htake
      obtain ⟨m2, hm2⟩ : ∃ m, q.length = m := ⟨_, rfl⟩
      rw [hm2] at ck hrk hd1
      have HD2 := Lib.hid (r9decode_any B d m2 q wr hm2 hrk ⟨hd1, hd2⟩)
      obtain ⟨⟨uk, ua, ub, un⟩, hU⟩ : ∃ T, decN q = T := ⟨_, rfl⟩
      rw [hU] at HD2 hlast htake
      have HY : Hid (∀ w2, Below wr.heap.size wr w2 → Below wr.heap.size wr (w2.alloc (.cells #[.int .i64 uk, .int .i64 ua, .int .i64 ub, .int .i64 un] 23)) ∧ Blk (w2.alloc (.cells #[.int .i64 uk, .int .i64 ua, .int .i64 ub, .int .i64 un] 23)) w2.heap.size 23 #[.int .i64 uk, .int .i64 ua, .int .i64 ub, .int .i64 un]) := Lib.hid (fun w2 hb => ⟨hb.alloc hb.size _, Blk.new _ _ _⟩)
      have hjn : (j : Int) < (n : Int) := by omega
      have HJ : Hid (j = k + 1) := Lib.hid (by omega)
      have HR := Lib.hid hR
      have HKL := Lib.hid hkl
      have HT := Lib.hid htake
      unfold nv at HD2
      simp only at HD2
      by_cases hge : endsN q = true
      case pos =>
        have hcs : decErrN q = 90 ∨ (decErrN q = 0 ∧ uk = 1) := by
          unfold endsN at hge
          rw [Bool.or_eq_true] at hge
          unfold decErrN
          rcases hge with h1 | h1
          · left
            rw [if_neg (by rw [Bool.not_eq_true'] at h1; rw [h1]; decide)]
          · by_cases hg : goodN q = true
            · right
              rw [if_pos hg]
              exact ⟨rfl, by have := of_decide_eq_true h1; rw [hU] at this; exact this⟩
            · left
              rw [if_neg hg]
        have htk : takeN r = nsK r k := hend hge
        have hnl : (nsK r k).length = k := nsK_len (by omega)
        have HTK := Lib.hid htk
        have HFIN : Hid (∀ w', Below wr.heap.size wr w' → w'.ownsRow w.heap.size 23 4 (.slice A3 k c3) k ((nsK r k).flatMap nc) ∧ Below w.heap.size w w') := Lib.hid (fun w' hb => by
          exact ⟨own_stay HR.out.own hb, HR.out.below.trans (hb.mono HR.out.below.size)⟩)
        have HNL := Lib.hid hnl
        generalize decErrN q = E at *
        clear hR hend hlast hsucc htake hge hU hq hkl hd1 hd2 hrk hm2 hgd hk htk hnl
        rcases hcs with rfl | ⟨rfl, rfl⟩
        · go_wp2_with (go_at_call 12; refine HD2.out.mono ?_; rintro e w2 ⟨rfl, hb⟩; obtain ⟨hb2, hx2⟩ := HY.out w2 hb; have HB2 := Lib.hid hb2; have x0 := hx2.cell 0; clear hb hb2 hx2)
          go_ret2
          exact Noted.of HTK.out HNL.out rfl (HFIN.out _ HB2.out).1 (HFIN.out _ HB2.out).2
        · go_wp2_with (go_at_call 12; refine HD2.out.mono ?_; rintro e w2 ⟨rfl, hb⟩; obtain ⟨hb2, hx2⟩ := HY.out w2 hb; have HB2 := Lib.hid hb2; have x0 := hx2.cell 0; clear hb hb2 hx2)
          go_ret2
          exact Noted.of HTK.out HNL.out rfl (HFIN.out _ HB2.out).1 (HFIN.out _ HB2.out).2
      case neg =>
        have hge : endsN q = false := Bool.eq_false_iff.2 hge
        obtain ⟨hgood, hok⟩ := ends_not hge
        have hE0 : decErrN q = 0 := by unfold decErrN; rw [if_pos hgood]
        rw [hU] at hok
        have hk2 : 2 ≤ uk := hok.2.2
        have hk5 : uk ≤ 5 := (ok_kind hok.1).2
        have hk1 : (uk == 1) = false := by rw [beq_eq_false_iff_ne]; omega
        have hlf : lastN q = false ↔ (uk = 2 ∨ uk = 3) := by have := last_iff (p := q); rw [hU] at this; exact this
        rw [hE0] at HD2
        have HAPP : Hid (∀ w2, Below wr.heap.size wr w2 → World.ownsRow ((w2.alloc (.cells #[.int .i64 uk, .int .i64 ua, .int .i64 ub, .int .i64 un] 23)).alloc (.cells #[.int .i64 uk, .int .i64 ua, .int .i64 ub, .int .i64 un] 23)) w.heap.size 23 4 (.slice A3 k c3) k ((nsK r k).flatMap nc)) := Lib.hid (fun w2 hb => own_stay HR.out.own ((hb.alloc hb.size _).alloc (by have := hb.size; simp; omega) _))
        have HSRC : Hid (∀ w2 : World, Reads ((w2.alloc (.cells #[.int .i64 uk, .int .i64 ua, .int .i64 ub, .int .i64 un] 23)).alloc (.cells #[.int .i64 uk, .int .i64 ua, .int .i64 ub, .int .i64 un] 23)) (w2.heap.size + 2) 4 (some ⟨w2.heap.size + 1, 0, none⟩) 1 (nc ⟨uk, ua, ub, un⟩)) := Lib.hid (fun w2 => ⟨rfl, fun _ => ⟨_, rfl, by simp, fun i u hu => by
          have hb6 := Blk.new (w2.alloc (.cells #[.int .i64 uk, .int .i64 ua, .int .i64 ub, .int .i64 un] 23)) 23 #[.int .i64 uk, .int .i64 ua, .int .i64 ub, .int .i64 un]
          rw [World.size_alloc] at hb6
          have e : (⟨w2.heap.size + 1, 0, none⟩ : Addr).add i = ⟨w2.heap.size + 1, i, none⟩ := by unfold Addr.add; split <;> simp_all
          rw [e, hb6.cell i]
          unfold nc at hu
          simpa using hu⟩⟩)
        have HSZ : Hid (∀ w2, Below wr.heap.size wr w2 → w.heap.size ≤ w2.heap.size) := Lib.hid (fun w2 hb => Nat.le_trans HR.out.below.size hb.size)
        have HAFT : Hid (∀ w2 v7 w7, Below wr.heap.size wr w2 → World.grownBy ((w2.alloc (.cells #[.int .i64 uk, .int .i64 ua, .int .i64 ub, .int .i64 un] 23)).alloc (.cells #[.int .i64 uk, .int .i64 ua, .int .i64 ub, .int .i64 un] 23)) w7 (Value.slice A3 k c3).ownBlock → w7.ownsRow w.heap.size 23 4 v7 (k + 1) ((nsK r k).flatMap nc ++ nc ⟨uk, ua, ub, un⟩) →
            Blk w7 w2.heap.size 23 #[.int .i64 uk, .int .i64 ua, .int .i64 ub, .int .i64 un] ∧ Below w.heap.size w w7 ∧ w7.ownsRow w.heap.size 23 4 v7 (k + 1) ((nsK r (k + 1)).flatMap nc)) := Lib.hid (fun w2 v7 w7 hb hg ho => by
          have hb2 := (hb.alloc hb.size (.cells #[.int .i64 uk, .int .i64 ua, .int .i64 ub, .int .i64 un] 23)).alloc (by have := hb.size; simp; omega) (.cells #[.int .i64 uk, .int .i64 ua, .int .i64 ub, .int .i64 un] 23)
          have hx := (Blk.new w2 23 #[.int .i64 uk, .int .i64 ua, .int .i64 ub, .int .i64 un]).alloc (.cells #[.int .i64 uk, .int .i64 ua, .int .i64 ub, .int .i64 un] 23)
          refine ⟨hx.grown hg (fun e => ?_), (HR.out.below.trans (hb2.mono HR.out.below.size)).grown hg (by have := HSZ.out w2 hb; simp; omega) (fun g e => (own_is HR.out.own g e).1), ?_⟩
          · have := (own_is HR.out.own _ e.symm).2.1
            have := hb.size
            omega
          · rw [HT.out, List.flatMap_append, List.flatMap_cons, List.flatMap_nil, List.append_nil]
            exact ho)
        have HGO := Lib.hid (fun h => hsucc hge h)
        have HLA := Lib.hid (fun h => hlast hge h)
        have HK5 := Lib.hid (And.intro hk2 hk5)
        have HLF := Lib.hid hlf
        have HBIG : Hid (k ≤ 1000) := Lib.hid (by omega)
        by_cases h23 : uk = 2 ∨ uk = 3
        case pos =>
          have h3 : ¬ (3 : Int) < uk := by omega
          have HG2 := Lib.hid (HGO.out (hlf.2 h23))
          clear hR hend hlast hsucc htake hge hU hq hkl hd1 hd2 hrk hm2 hgd hk hok hgood hE0 h23 hlf hk2 hk5
          go_wp2_with (first
            | (go_at_call 12; refine HD2.out.mono ?_; rintro e w2 ⟨rfl, hb⟩; obtain ⟨hb2, hx2⟩ := HY.out w2 hb; have HB2 := Lib.hid hb; have x0 := hx2.cell 0; have x1 := hx2.cell 1; have x2 := hx2.cell 2; have x3 := hx2.cell 3; clear hb hb2 hx2)
            | (at_builtin; refine wpList_append_any _ rfl _ _ 39 rfl w.heap.size 23 i0 _ 4 32 Try.underlying39 hi hz0 hz1 hz2 rfl (by decide) (.slice A3 k c3) k ((nsK r k).flatMap nc) rfl (HAPP.out w2 HB2.out) (w2.heap.size + 2) (some ⟨w2.heap.size + 1, 0, none⟩) 1 1 (nc ⟨uk, ua, ub, un⟩) rfl (HSRC.out w2) (fun u' hm => nc_one [⟨uk, ua, ub, un⟩] u' (by simpa using hm)) (by have := HBIG.out; unfold maxLen; omega) (by have := HBIG.out; omega) (by have := HSZ.out w2 HB2.out; simp; omega) ?_
               intro v7 w7 o7 g7 _
               obtain ⟨g1, g2, g3⟩ := HAFT.out w2 v7 w7 HB2.out g7 o7
               have y0 := g1.cell 0
               have G2 := Lib.hid g2; have G3 := Lib.hid g3
               clear g1 g2 g3 o7 g7 x0 x1 x2 x3))
          go_roundw
          case rel => exact ⟨j + 1, v7, by omega, by omega, by go_num, rfl, G2.out, by rw [show j + 1 - 1 = k + 1 by have := HJ.out; omega]; exact HG2.out, by rw [show j + 1 - 1 = k + 1 by have := HJ.out; omega]; exact G3.out⟩
          case measure => simp [intOf]; omega
        case neg =>
          have h3 : (3 : Int) < uk := by omega
          have hla : lastN q = true := by
            cases hl : lastN q
            · exact absurd (hlf.1 hl) h23
            · rfl
          have htk : takeN r = nsK r (k + 1) := by rw [HT.out]; exact HLA.out hla
          have hnl : (nsK r (k + 1)).length = k + 1 := nsK_len (by omega)
          have HTK := Lib.hid htk
          have HNL := Lib.hid hnl
          clear hR hend hlast hsucc htake hge hU hq hkl hd1 hd2 hrk hm2 hgd hk hok hgood hE0 h23 hlf hk2 hk5 hla htk hnl
          go_wp2_with (first
            | (go_at_call 12; refine HD2.out.mono ?_; rintro e w2 ⟨rfl, hb⟩; obtain ⟨hb2, hx2⟩ := HY.out w2 hb; have HB2 := Lib.hid hb; have x0 := hx2.cell 0; have x1 := hx2.cell 1; have x2 := hx2.cell 2; have x3 := hx2.cell 3; clear hb hb2 hx2)
            | (at_builtin; refine wpList_append_any _ rfl _ _ 39 rfl w.heap.size 23 i0 _ 4 32 Try.underlying39 hi hz0 hz1 hz2 rfl (by decide) (.slice A3 k c3) k ((nsK r k).flatMap nc) rfl (HAPP.out w2 HB2.out) (w2.heap.size + 2) (some ⟨w2.heap.size + 1, 0, none⟩) 1 1 (nc ⟨uk, ua, ub, un⟩) rfl (HSRC.out w2) (fun u' hm => nc_one [⟨uk, ua, ub, un⟩] u' (by simpa using hm)) (by have := HBIG.out; unfold maxLen; omega) (by have := HBIG.out; omega) (by have := HSZ.out w2 HB2.out; simp; omega) ?_
               intro v7 w7 o7 g7 _
               obtain ⟨g1, g2, g3⟩ := HAFT.out w2 v7 w7 HB2.out g7 o7
               obtain ⟨A7, c7, rfl⟩ := own_slice4 g3
               have y0 := g1.cell 0
               have G2 := Lib.hid g2; have G3 := Lib.hid g3
               clear g1 g2 g3 o7 g7 x0 x1 x2 x3))
          go_ret2
          exact Noted.of HTK.out HNL.out rfl G3.out G2.out
    · obtain rfl : j = n := by omega
      have hkr : k = r.length := by have := HRL.out; omega
      have htk : takeN r = nsK r k := by rw [hkr]; exact takeN_all (by rw [hkr] at hR; exact hR.go) rfl
      have hnl : (nsK r k).length = k := nsK_len (by omega)
      have HTK := Lib.hid htk
      have HR := Lib.hid hR
      have HNL := Lib.hid hnl
      clear hR hkr htk hnl hk
      go_wp2
      go_ret2
      exact Noted.of HTK.out HNL.out rfl HR.out.own HR.out.below

theorem r9notes_any (st : Int) {A : Option Addr} {n c : Nat} {ls : List (List UInt8)} {us : List Value} {w : World} (hr : RArgs w A n c ls us) (hbig : n ≤ 1000) :
    Calls Try.prog 15 #[.int .i64 st, .slice A n c] w fun e w' => Noted w w' e (notesN st ls) (begunN st ls) := by
  cases hb : begunN st ls
  · have hn : notesN st ls = [] := by unfold notesN; rw [hb]; rfl
    rw [hn]
    exact r9notes_no st hr hb
  · exact r9notes_yes st hr hb hbig
end Go.Proofs.Ytdjneiboeehclaa.note

/-
  The log of layer 9: begins, New.
-/
import Derived.Test.YtdjneiboeehclaaNtLoad
namespace Go.Proofs.Ytdjneiboeehclaa.note
open Go.RowKit Go.Maps Go.Proofs.Ytdjneiboeehclaa.crc Go.Proofs.Ytdjneiboeehclaa.root

theorem begun_nil (st : Int) : begunN st [] = false := rfl
theorem begun_cons (st : Int) (p : List UInt8) (r : List (List UInt8)) : begunN st (p :: r) = (goodN p && (decide ((decN p).k = 1) && decide ((decN p).a = st))) := rfl

set_option maxRecDepth 100000 in
set_option maxHeartbeats 4000000 in
theorem nbegins_any (st : Int) {A : Option Addr} {n c : Nat} {ls : List (List UInt8)} {us : List Value} {w : World} (hr : Rws w.heap.size w A n ls us) (hbig : n ≤ 1000) :
    Calls Try.prog 36 #[.int .i64 st, .slice A n c] w fun e w' => e = .returned (.bool (begunN st ls)) ∧ Below w.heap.size w w' := by
  have hlen := hr.len
  rcases Nat.eq_zero_or_pos n with h0 | h0
  · subst h0
    obtain rfl : ls = [] := List.eq_nil_of_length_eq_zero hlen
    rw [begun_nil]
    clear hr hlen
    go_enter Try.func36, Try.ntmps36
    go_wp2
    go_ret
    exact ⟨rfl, Below.refl _ _⟩
  · obtain ⟨ad, B, d, rfl, hadM, ck, hrk⟩ := hr.one h0
    obtain ⟨p, r, rfl⟩ : ∃ p r, ls = p :: r := by
      cases ls with
      | nil => simp at hlen; omega
      | cons p r => exact ⟨p, r, rfl⟩
    rw [begun_cons]
    rw [List.getD_cons_zero] at ck hrk
    have a0 : ad.add 0 = ad := by unfold Addr.add; rfl
    rw [a0] at ck
    obtain ⟨m, hm⟩ : ∃ m, p.length = m := ⟨_, rfl⟩
    rw [hm] at ck hrk
    have HDC := Lib.hid (ndecode_any B d m p w hm hrk)
    have hE : decErrN p = if goodN p = true then 0 else 90 := rfl
    obtain ⟨⟨tk, ta, tb, tn⟩, hT⟩ : ∃ T, decN p = T := ⟨_, rfl⟩
    rw [hT, hE] at HDC
    rw [hT]
    unfold nv at HDC
    simp only at HDC ⊢
    have n0 : ((n : Int) == 0) = false := by rw [beq_eq_false_iff_ne]; omega
    have HX : Hid (∀ w1, Below w.heap.size w w1 → Below w.heap.size w (w1.alloc (.cells #[.int .i64 tk, .int .i64 ta, .int .i64 tb, .int .i64 tn] 23)) ∧ Blk (w1.alloc (.cells #[.int .i64 tk, .int .i64 ta, .int .i64 tb, .int .i64 tn] 23)) w1.heap.size 23 #[.int .i64 tk, .int .i64 ta, .int .i64 tb, .int .i64 tn]) := Lib.hid (fun w1 hb => ⟨hb.alloc hb.size _, Blk.new _ _ _⟩)
    clear hr hlen hm hrk hT hE a0 hadM
    cases hg : goodN p
    · rw [hg] at HDC
      simp only [Bool.false_eq_true, if_false] at HDC
      rw [Bool.false_and]
      clear hg
      go_enter Try.func36, Try.ntmps36
      go_wp2_with (go_at_call 11; refine HDC.out.mono ?_; rintro e w1 ⟨rfl, hb⟩; obtain ⟨hb2, hx2⟩ := HX.out w1 hb; have HB := Lib.hid hb2; have x0 := hx2.cell 0; have x1 := hx2.cell 1; clear hb hb2 hx2)
      go_ret
      exact ⟨rfl, HB.out⟩
    · rw [hg] at HDC
      simp only [if_true] at HDC
      rw [Bool.true_and]
      clear hg
      by_cases hk : tk = 1
      · subst hk
        rw [decide_eq_true rfl, Bool.true_and]
        obtain ⟨q, hq⟩ : ∃ q, decide (ta = st) = q := ⟨_, rfl⟩
        have hq2 : (ta == st) = q := by rw [← hq]; rfl
        rw [hq]
        clear hq
        go_enter Try.func36, Try.ntmps36
        go_wp2_with (go_at_call 11; refine HDC.out.mono ?_; rintro e w1 ⟨rfl, hb⟩; obtain ⟨hb2, hx2⟩ := HX.out w1 hb; have HB := Lib.hid hb2; have x0 := hx2.cell 0; have x1 := hx2.cell 1; clear hb hb2 hx2)
        go_ret
        exact ⟨rfl, HB.out⟩
      · have hk1 : (tk == 1) = false := by rw [beq_eq_false_iff_ne]; exact hk
        rw [decide_eq_false hk, Bool.false_and]
        clear hk
        go_enter Try.func36, Try.ntmps36
        go_wp2_with (go_at_call 11; refine HDC.out.mono ?_; rintro e w1 ⟨rfl, hb⟩; obtain ⟨hb2, hx2⟩ := HX.out w1 hb; have HB := Lib.hid hb2; have x0 := hx2.cell 0; have x1 := hx2.cell 1; clear hb hb2 hx2)
        go_ret
        exact ⟨rfl, HB.out⟩

theorem Rws.tail {M n c : Nat} {W : World} {ad : Addr} {p : List UInt8} {ls : List (List UInt8)} {us : List Value} (h : Rws M W (some ad) (n + 1) (p :: ls) us) (hc : n + 1 ≤ c) :
    Rws M W (if c = 1 then some ad else some (ad.add 1)) n ls (us.drop 1) := by
  have hcut := h.reads.cut (k := 1) (cap := c) (by omega) hc
  rw [Nat.one_mul, Nat.add_sub_cancel] at hcut
  refine ⟨hcut, by have := h.len; simpa using this, fun i l hl => ?_⟩
  obtain ⟨B, d, h1, h2⟩ := h.heads (i + 1) l (by simpa using hl)
  exact ⟨B, d, by rw [List.getElem?_drop, Nat.add_comm]; exact h1, h2⟩

/-- A log that has just been laid. -/
theorem log_new {w w0 : World} (hw0 : ((w.alloc (.map #[] 0)).alloc (.map #[] 0)).alloc (.cells #[.pointer (some ⟨w.heap.size + 1 + 1, 0, none⟩), .bool false, .slice none 0 0, .map (some w.heap.size), .map (some (w.heap.size + 1)), .int .i64 0] 71) = w0) :
    LogN w.heap.size w0 (w.heap.size + 1 + 1) w.heap.size (w.heap.size + 1) (.slice none 0 0) false [] [] := by
  have hs : ∀ (W : World) (o : Obj), (W.alloc o).heap.size = W.heap.size + 1 := fun W o => by simp
  have m1 : (w.alloc (.map #[] 0)).ownsMap Try.prog 77 (plainElem Try.prog 2) w.heap.size 0 (.map [] : DataW Unit) := World.ownsMap_made w Try.prog 77 _
  have m2 : ((w.alloc (.map #[] 0)).alloc (.map #[] 0)).ownsMap Try.prog 3 (plainElem Try.prog 3) (w.heap.size + 1) 0 (.map [] : DataW Unit) := by
    have := World.ownsMap_made (H := Unit) (w.alloc (.map #[] 0)) Try.prog 3 (plainElem Try.prog 3)
    rwa [hs] at this
  have hb := Blk.new ((w.alloc (.map #[] 0)).alloc (.map #[] 0)) 71 #[.pointer (some ⟨w.heap.size + 1 + 1, 0, none⟩), .bool false, .slice none 0 0, .map (some w.heap.size), .map (some (w.heap.size + 1)), .int .i64 0]
  rw [hs, hs, hw0] at hb
  have m1 := (m1.alloc (.map #[] 0)).alloc (.cells #[.pointer (some ⟨w.heap.size + 1 + 1, 0, none⟩), .bool false, .slice none 0 0, .map (some w.heap.size), .map (some (w.heap.size + 1)), .int .i64 0] 71)
  have m2 := m2.alloc (.cells #[.pointer (some ⟨w.heap.size + 1 + 1, 0, none⟩), .bool false, .slice none 0 0, .map (some w.heap.size), .map (some (w.heap.size + 1)), .int .i64 0] 71)
  rw [hw0] at m1 m2
  refine ⟨hb, World.ownsRow_nil _ _ _ _, ⟨⟨_, m1, fun k s p _ _ _ => ⟨rfl, rfl⟩⟩, _, m2, fun s _ => rfl⟩, by omega, by omega, (fun x hx => by cases hx), (fun x hx => by cases hx), by simp⟩
theorem log_begun {N b mf md : Nat} {w : World} {v : Value} {ns fs : List NV} (h : LogN N w b mf md v false ns fs) : LogN N (w.setCell ⟨b, 1, none⟩ (.bool true)) b mf md v true ns fs := by
  have k1 : Keep (fun i => i = b) w (w.setCell ⟨b, 1, none⟩ (.bool true)) := (Keep.refl _ w).setCell _ _ (fun _ => rfl)
  have hm := h.maps
  exact ⟨h.blk.set_ 1 _, k1.own h.own (fun g e e2 => own_blk_ne h.own h.blk (by decide) (by rw [e, e2])), h.m.keep k1 (fun e => hm.1 (e ▸ cl_blk h.blk)) (fun e => hm.2.1 (e ▸ cl_blk h.blk)), h.lo, h.ne, h.ok, h.fok, h.few⟩

set_option maxRecDepth 100000 in
set_option maxHeartbeats 4000000 in
theorem nnew_any (st : Int) {A : Option Addr} {n c : Nat} {ls : List (List UInt8)} {us : List Value} {w : World} (hr : Rws w.heap.size w A n ls us) (hbig : n ≤ 1000) (hc : n ≤ c ∧ c ≤ 9223372036854775807) :
    Calls Try.prog 14 #[.int .i64 st, .slice A n c] w fun e w' => ∃ b mf md v, e = .returned (.pointer (some ⟨b, 0, none⟩)) ∧ LogN w.heap.size w' b mf md v (begunN st ls) (notesN st ls) (notesN st ls) ∧ Below w.heap.size w w' := by
  have hmm := @run_makeMap Try.prog
  obtain ⟨w0, hw0⟩ : ∃ w0, ((w.alloc (.map #[] 0)).alloc (.map #[] 0)).alloc (.cells #[.pointer (some ⟨w.heap.size + 1 + 1, 0, none⟩), .bool false, .slice none 0 0, .map (some w.heap.size), .map (some (w.heap.size + 1)), .int .i64 0] 71) = w0 := ⟨_, rfl⟩
  have h0 := log_new hw0
  have hb0 : Below w.heap.size w w0 := by rw [← hw0]; exact (((Below.refl _ w).alloc (Nat.le_refl _) _).alloc (by simp) _).alloc (by simp; omega) _
  have hr0 := hr.below hb0
  have HBG := Lib.hid (nbegins_any st (c := c) (hr0.more hb0.size) hbig)
  cases hg : begunN st ls
  · have hns : notesN st ls = [] := by unfold notesN; rw [hg]; rfl
    rw [hns]
    rw [hg] at HBG
    have H0 := Lib.hid h0
    have HB0 := Lib.hid hb0
    clear hg hns hr hr0 h0 hb0 hbig hc
    go_enter Try.func14, Try.ntmps14
    go_wp2_with (go_at_call 36; refine HBG.out.mono ?_; rintro e w1 ⟨rfl, hb⟩; have HB := Lib.hid hb; clear hb)
    go_ret
    exact ⟨_, _, _, _, rfl, H0.out.below HB.out, HB0.out.trans (HB.out.mono HB0.out.size)⟩
  · have hns : notesN st ls = takeN ls.tail := by unfold notesN; rw [hg]; rfl
    rw [hns]
    rw [hg] at HBG
    obtain ⟨p, r, rfl⟩ : ∃ p r, ls = p :: r := by
      cases ls with
      | nil => cases hg
      | cons p r => exact ⟨p, r, rfl⟩
    rw [List.tail_cons]
    have hlen := hr.len
    obtain ⟨m, rfl⟩ : ∃ m, n = m + 1 := ⟨n - 1, by simp at hlen; omega⟩
    obtain ⟨d, rfl⟩ : ∃ d, c = d + 1 := ⟨c - 1, by omega⟩
    obtain ⟨ad, rfl, _, _⟩ := hr.reads.2 (by omega)
    have htl := hr0.tail (c := d + 1) (by omega)
    have HLD := Lib.hid (fun (w1 : World) (hb : Below w0.heap.size w0 w1) (C : Nat) =>
      lload_any (c := C) (log_begun (h0.below hb)) (w0 := w) ((hb0.trans (hb.mono hb0.size)).setCell (by show w.heap.size ≤ w.heap.size + 1 + 1; omega) _) ((htl.below (hb.mono hb0.size)).below ((Below.refl w.heap.size w1).setCell (p := ⟨w.heap.size + 1 + 1, 1, none⟩) (by show w.heap.size ≤ w.heap.size + 1 + 1; omega) (.bool true))) (Nat.le_refl _) (by omega))
    have HF1 : Hid (∀ w1, Below w0.heap.size w0 w1 → w1.cell? ⟨w.heap.size + 1 + 1, 1, none⟩ = some (.bool false) ∧ w1.frozen? ⟨w.heap.size + 1 + 1, 1, none⟩ = false) := Lib.hid (fun w1 hb => ⟨(h0.below hb).blk.cell 1, (h0.below hb).blk.frozen 1⟩)
    have hd1 : d ≤ 9223372036854775806 := by omega
    have hmd : m ≤ d := by omega
    clear hg hns hr hr0 h0 hb0 htl hlen hc hbig
    by_cases hd : d = 0
    · obtain rfl : m = 0 := by omega
      subst hd
      clear hd1 hmd
      rw [if_pos rfl] at HLD
      go_enter Try.func14, Try.ntmps14
      go_wp2_with (first
        | (go_at_call 36; refine HBG.out.mono ?_; rintro e w1 ⟨rfl, hb⟩; obtain ⟨g1, g2⟩ := HF1.out w1 hb; have HL := Lib.hid (HLD.out w1 hb); clear hb)
        | (go_at_call 37; (with_reducible refine (HL.out _).mono ?_); rintro e w2 ⟨⟨u, rfl⟩, h2⟩; have H2 := Lib.hid h2; clear h2))
      go_ret
      obtain ⟨hb, v, hl⟩ := H2.out
      exact ⟨_, _, _, _, rfl, hl, hb⟩
    · rw [if_neg (by omega), show ad.add 1 = ⟨ad.block, ad.off + 1, none⟩ from rfl] at HLD
      have hd2 : ¬ d + 1 = 1 := by omega
      go_enter Try.func14, Try.ntmps14
      go_wp2_with (first
        | (go_at_call 36; refine HBG.out.mono ?_; rintro e w1 ⟨rfl, hb⟩; obtain ⟨g1, g2⟩ := HF1.out w1 hb; have HL := Lib.hid (HLD.out w1 hb); clear hb)
        | (go_at_call 37; (with_reducible refine (HL.out _).mono ?_); rintro e w2 ⟨⟨u, rfl⟩, h2⟩; have H2 := Lib.hid h2; clear h2))
      go_ret
      obtain ⟨hb, v, hl⟩ := H2.out
      exact ⟨_, _, _, _, rfl, hl, hb⟩
end Go.Proofs.Ytdjneiboeehclaa.note

/-
  The journal of layer 8: Records; and the statements' own list and Lists.
-/
import Derived.Test.YtddhldmeknmgpaaJLies
namespace Go.Proofs.Ytddhldmeknmgpaa.journal
open Go.RowKit Go.Proofs.Ytddhldmeknmgpaa.crc Go.Proofs.Ytddhldmeknmgpaa.root

/-- Slices of the call's own, each of bytes in memory of its own. -/
def Owns (w : World) (base : Nat) (ls : List (List UInt8)) (vs : List Value) : Prop :=
  vs.length = ls.length ∧ ∀ (i : Nat) (l : List UInt8), ls[i]? = some l → ∃ A c, vs[i]? = some (.slice A l.length c) ∧ w.ownsRow base 5 1 (.slice A l.length c) l.length (l.map bv)
theorem Owns.nil (w : World) (base : Nat) : Owns w base [] [] := ⟨rfl, fun i l hl => by simp at hl⟩
theorem Owns.heads {w : World} {base : Nat} {ls : List (List UInt8)} {vs : List Value} (h : Owns w base ls vs) : Heads w ls vs :=
  ⟨h.1, fun i l hl => by obtain ⟨A, c, h1, h2⟩ := h.2 i l hl; exact ⟨_, h1, by have := Head.own h2; exact this⟩⟩
theorem Owns.keep {w w' : World} {base : Nat} {S : Nat → Prop} {ls : List (List UInt8)} {vs : List Value} (h : Owns w base ls vs) (hk : Keep S w w') (h8 : ∀ k, S k → ¬ Typ w k 5) : Owns w' base ls vs :=
  ⟨h.1, fun i l hl => by obtain ⟨A, c, h1, h2⟩ := h.2 i l hl; exact ⟨A, c, h1, hk.own h2 (fun g e e2 => h8 g e2 (own_typ2 h2 g e).1)⟩⟩
theorem Owns.snoc {w : World} {base : Nat} {ls : List (List UInt8)} {vs : List Value} (h : Owns w base ls vs) {l : List UInt8} {A : Option Addr} {c : Nat} (hv : w.ownsRow base 5 1 (.slice A l.length c) l.length (l.map bv)) : Owns w base (ls ++ [l]) (vs ++ [.slice A l.length c]) := by
  refine ⟨by rw [List.length_append, List.length_append, h.1]; rfl, fun i m hm => ?_⟩
  by_cases hi : i < ls.length
  · rw [List.getElem?_append_left hi] at hm
    obtain ⟨B, d, hu, hh⟩ := h.2 i m hm
    exact ⟨B, d, by rw [List.getElem?_append_left (by rw [h.1]; exact hi)]; exact hu, hh⟩
  · rw [List.getElem?_append_right (by omega)] at hm
    have h0 : i - ls.length = 0 := by
      have := (List.getElem?_eq_some_iff.1 hm).1
      simp at this
      omega
    rw [h0] at hm
    injection hm with hm
    subst hm
    exact ⟨A, c, by rw [List.getElem?_append_right (by rw [h.1]; omega), h.1, h0]; rfl, hv⟩

/-- A list of byte slices as it grows: v: its slice, vs: what that holds. -/
structure Grows (w0 w : World) (ls : List (List UInt8)) (n : Nat) (v : Value) (vs : List Value) : Prop where
  below : Below w0.heap.size w0 w
  own : w.ownsRow w0.heap.size 23 1 v n vs
  len : ls.length = n
  owns : Owns w w0.heap.size ls vs
theorem Grows.start (w : World) : Grows w w [] 0 (.slice none 0 0) [] := ⟨Below.refl _ _, World.ownsRow_nil _ _ _ _, rfl, Owns.nil _ _⟩
theorem Grows.next {w0 w w' : World} {ls : List (List UInt8)} {n : Nat} {v : Value} {vs : List Value} (h : Grows w0 w ls n v vs) (hb : Below w.heap.size w w') : Grows w0 w' ls n v vs :=
  ⟨h.below.trans (hb.mono h.below.size), own_stay h.own hb, h.len, h.owns.keep (Keep.of_below (S := fun _ => False) hb) (fun _ e => e.elim)⟩
/-- One slice more. -/
theorem Grows.more {w0 W W2 W3 : World} {ls : List (List UInt8)} {n : Nat} {v v' : Value} {vs : List Value} {l : List UInt8} {A : Option Addr} {c : Nat} (h : Grows w0 W ls n v vs) (k2 : Below W.heap.size W W2) (ho : W2.ownsRow w0.heap.size 5 1 (.slice A l.length c) l.length (l.map bv))
    (hown : W3.ownsRow w0.heap.size 23 1 v' (n + 1) (vs ++ [.slice A l.length c])) (hg : W2.grownBy W3 v.ownBlock) : Grows w0 W3 (ls ++ [l]) (n + 1) v' (vs ++ [.slice A l.length c]) := by
  have h2 := h.next k2
  have tS := own_typ2 h2.own
  have kg : Keep (fun k => v.ownBlock = some k) W2 W3 := (Keep.refl _ W2).grown hg (fun g e _ => e)
  have n8 : ∀ k, v.ownBlock = some k → ¬ Typ W2 k 5 := fun k e t => absurd ((tS k e).1.ne t) (by decide)
  exact ⟨h2.below.grown hg h2.below.size (fun k e => (h2.own.lt k e).1), hown, by rw [List.length_append, h.len]; rfl, (h2.owns.snoc ho).keep kg n8⟩

section
variable {N b : Nat} {w w' : World} {p : Option Addr} {pv : Value} {vs : List Value} {j : JS}

theorem own_one_rows (w : World) (base : Nat) (hb : base ≤ w.heap.size) (x : Value) : (w.alloc (.cells #[x] 23)).ownsRow base 23 1 (.slice (some ⟨w.heap.size, 0, none⟩) 1 1) 1 [x] :=
  ⟨rfl, .inr ⟨w.heap.size, 1, #[x], rfl, hb, heap_alloc_new w _, Nat.le_refl _, by unfold maxLen; omega, rfl, rfl⟩⟩
theorem row_cell {w : World} {base n c i : Nat} {A : Option Addr} {xs : List Value} {v : Value} (h : w.ownsRow base 23 1 (.slice A n c) n xs) (hv : xs[i]? = some v) : ∃ g, A = some ⟨g, 0, none⟩ ∧ w.cell? ⟨g, i, none⟩ = some v ∧ w.frozen? ⟨g, i, none⟩ = false := by
  rcases h.2 with ⟨e, h0⟩ | ⟨g, cap, cur, e, hb, hh, hc, hm, hs, ht⟩
  · exfalso
    have := (List.getElem?_eq_some_iff.1 hv).1
    have h1 := h.1
    omega
  · have e2 := e
    injection e2 with e2
    subst e2
    exact ⟨g, rfl, own_at h hv⟩

theorem jrecords_idle (w : World) (q : Option Addr) (h : Idle w q) : Calls Try.prog 20 #[.pointer q] w fun e w' => e = .returned (.slice none 0 0) ∧ w = w' := by
  have HV := Lib.hid (jvalid_idle w q h)
  clear h
  go_enter Try.func20, Try.ntmps20
  go_wp2_with (go_at_call 37; refine HV.out.mono ?_; rintro e _ ⟨rfl, rfl⟩)
  go_ret
  exact ⟨rfl, rfl⟩

set_option maxRecDepth 100000 in
set_option maxHeartbeats 2000000 in
theorem jrecords_any (h : JAt N w b p pv vs j) (h64 : ∀ l ∈ j.ls, l.length ≤ 100000) : Calls Try.prog 20 #[.pointer (some ⟨b, 0, none⟩)] w fun e w' => ∃ A c us, e = .returned (.slice A j.ls.length c) ∧ Grows w w' j.ls j.ls.length (.slice A j.ls.length c) us := by
  obtain ⟨i0, hi, hz0, hz1, hz2⟩ := info_parts info_rows
  have HV := Lib.hid (jvalid_any h)
  obtain ⟨A, c, rfl⟩ := own_slice3 h.own
  obtain ⟨n, hn⟩ : ∃ n, j.ls.length = n := ⟨_, rfl⟩
  have hfew := h.few
  rw [hn] at hfew
  have x5 : w.cell? ⟨b, 5, none⟩ = some (.slice A n c) := by rw [← hn]; exact h.blk.cell 5
  have hown := h.own
  have hhd := h.heads
  rw [hn] at hown ⊢
  obtain ⟨ls, hls⟩ : ∃ ls, j.ls = ls := ⟨_, rfl⟩
  rw [hls] at hn hhd h64 ⊢
  have HN := Lib.hid hn
  have HO := Lib.hid hown
  have HH := Lib.hid hhd
  have H64 := Lib.hid h64
  clear h hown hhd hls hn h64
  go_enter Try.func20, Try.ntmps20
  go_wp2_with (go_at_call 37; refine HV.out.mono ?_; rintro e _ ⟨rfl, rfl⟩)
  have G0 := Lib.hid (Grows.start w)
  go_loopw [14, 3] (fun q1 q2 wr => ∃ (k : Nat) (v : Value) (us : List Value), k ≤ n ∧ q1 = .int .i64 (k : Int) ∧ q2 = v ∧ Grows w wr (ls.take k) k v us) (fun q1 _ _ => n - (RowKit.intOf q1).toNat)
  case atStart => exact ⟨0, _, [], Nat.zero_le _, rfl, rfl, G0.out⟩
  case round =>
    obtain ⟨k, v, us, hk, rfl, rfl, hg⟩ := hrel
    by_cases hlt : k < n
    · have hkl : k < ls.length := by rw [HN.out]; exact hlt
      obtain ⟨l, hl⟩ : ∃ l, ls[k]? = some l := ⟨_, List.getElem?_eq_getElem hkl⟩
      obtain ⟨x, hx, B, d, rfl, hd1, hd2, hrd, _⟩ := HH.out.2 k l hl
      have hml : (l.map bv).length = l.length := by simp
      obtain ⟨m, hm⟩ : ∃ m, l.length = m := ⟨_, rfl⟩
      rw [hml, hm] at hx hrd
      have h5 : m ≤ 100000 := by rw [← hm]; exact H64.out l (List.mem_of_getElem? hl)
      obtain ⟨g, rfl, cx, _⟩ := row_cell (own_stay HO.out hg.below) hx
      obtain ⟨A3, c3, rfl⟩ := own_slice3 hg.own
      have hts : ls.take (k + 1) = ls.take k ++ [l] := by rw [List.take_add_one, hl]; rfl
      have HC := Lib.hid (jclone_any B m d l wr hm (by omega) ((hrd.below hg.below).more hg.below.size))
      have HG := Lib.hid hg
      have HTS := Lib.hid hts
      have HM := Lib.hid hm
      have hlt9 : (k : Int) < (n : Int) := by omega
      have HSZ := Lib.hid hg.below.size
      clear hg hts hl hkl hrd hm hx hd1 hd2 hml
      go_wp2_with (first
        | (go_at_call 40; refine HC.out.mono ?_; rintro e w3 ⟨A4, c4, rfl, o4, b4⟩; have O4 := Lib.hid (own_stay (own_mono o4 HSZ.out) ((Below.refl _ w3).alloc (Nat.le_refl _) (.cells #[.slice A4 m c4] 23))); have B4 := Lib.hid (b4.alloc b4.size (.cells #[.slice A4 m c4] 23)); have HR4 := Lib.hid (Reads.of_own (own_one_rows w3 w3.heap.size (Nat.le_refl _) (.slice A4 m c4))); clear o4 b4)
        | (at_builtin; refine wpList_append_any _ rfl _ _ 44 rfl w.heap.size 23 i0 (.slice none 0 0) 1 24 Try.underlying44 hi hz0 hz1 hz2 rfl (by decide) _ k us rfl (HG.out.next B4.out).own _ (some ⟨w3.heap.size, 0, none⟩) 1 1 [.slice A4 m c4] rfl HR4.out (fun u hu => by rw [List.mem_singleton.1 hu]; rfl) (by unfold maxLen; omega) (by omega) (by have := B4.out.size; have := HSZ.out; omega) ?_; intro v7 w7 o7 g7 _; have G7 := Lib.hid (HG.out.more (l := l) B4.out (by rw [HM.out]; exact O4.out) (by rw [HM.out]; exact o7) g7); clear o7 g7))
      exact ⟨⟨k + 1, v7, _, by omega, by go_num, rfl, by rw [HTS.out]; exact G7.out⟩, by simp [RowKit.intOf]; omega⟩
    · obtain rfl : k = n := by omega
      have htk : ls.take k = ls := by rw [← HN.out]; exact List.take_length
      rw [htk] at hg
      obtain ⟨A3, c3, rfl⟩ := own_slice3 hg.own
      have HG := Lib.hid hg
      clear hg htk
      go_wp2
      go_ret
      exact ⟨A3, c3, us, rfl, HG.out⟩
end

/-! ### The statements' list and Lists -/
/-- Slices that read as these bytes. -/
def RHeads (w : World) (ls : List (List UInt8)) (vs : List Value) : Prop :=
  vs.length = ls.length ∧ ∀ (i : Nat) (l : List UInt8), ls[i]? = some l → ∃ A c, vs[i]? = some (.slice A l.length c) ∧ Reads w w.heap.size 1 A l.length (l.map bv)
theorem RHeads.of {w : World} {ls : List (List UInt8)} {vs : List Value} (h : Heads w ls vs) : RHeads w ls vs :=
  ⟨h.1, fun i l hl => by
    obtain ⟨v, hv, A, c, rfl, _, _, hr, _⟩ := h.2 i l hl
    have e : (l.map bv).length = l.length := by simp
    rw [e] at hv hr
    exact ⟨A, c, hv, hr⟩⟩
theorem RHeads.next {w w' : World} {ls : List (List UInt8)} {vs : List Value} (h : RHeads w ls vs) (hb : Below w.heap.size w w') : RHeads w' ls vs :=
  ⟨h.1, fun i l hl => by obtain ⟨A, c, h1, h2⟩ := h.2 i l hl; exact ⟨A, c, h1, (h2.below hb).more hb.size⟩⟩
theorem RHeads.nil (w : World) : RHeads w [] [] := ⟨rfl, fun i l hl => by simp at hl⟩
theorem RHeads.snoc {w : World} {ls : List (List UInt8)} {vs : List Value} (h : RHeads w ls vs) {l : List UInt8} {A : Option Addr} {c : Nat} (hv : Reads w w.heap.size 1 A l.length (l.map bv)) : RHeads w (ls ++ [l]) (vs ++ [.slice A l.length c]) := by
  refine ⟨by rw [List.length_append, List.length_append, h.1]; rfl, fun i m hm => ?_⟩
  by_cases hi : i < ls.length
  · rw [List.getElem?_append_left hi] at hm
    obtain ⟨B, d, hu, hh⟩ := h.2 i m hm
    exact ⟨B, d, by rw [List.getElem?_append_left (by rw [h.1]; exact hi)]; exact hu, hh⟩
  · rw [List.getElem?_append_right (by omega)] at hm
    have h0 : i - ls.length = 0 := by
      have := (List.getElem?_eq_some_iff.1 hm).1
      simp at this
      omega
    rw [h0] at hm
    injection hm with hm
    subst hm
    exact ⟨A, c, by rw [List.getElem?_append_right (by rw [h.1]; omega), h.1, h0]; rfl, hv⟩
set_option maxRecDepth 100000 in
set_option maxHeartbeats 2000000 in
theorem lists_any {w : World} {la lb : List (List UInt8)} {A B : Option Addr} {n m c d : Nat} {us vs : List Value} (hn : la.length = n) (hm : lb.length = m) (hbig : n ≤ 100000) (hra : Reads w w.heap.size 1 A n us) (hrb : Reads w w.heap.size 1 B m vs) (ha : RHeads w la us) (hb : RHeads w lb vs) :
    Calls Try.prog 24 #[.slice A n c, .slice B m d] w fun e w' => e = .returned (.bool (la == lb)) ∧ ∃ k, w' = w.drewN k := by
  obtain ⟨r, hr⟩ : ∃ r, (la == lb) = r := ⟨_, rfl⟩
  rw [hr]
  have HRES := Lib.hid hr
  clear hr
  by_cases hnm : n = m
  · subst hnm
    have HA := Lib.hid ha
    have HB := Lib.hid hb
    have HRA := Lib.hid hra
    have HRB := Lib.hid hrb
    have HN := Lib.hid hn
    have HM := Lib.hid hm
    clear ha hb hra hrb hn hm
    go_enter Try.func24, Try.ntmps24
    go_wp2
    go_loopw [5] (fun q wr => ∃ k z : Nat, k ≤ n ∧ q = .int .i64 (k : Int) ∧ wr = w.drewN z ∧ la.take k = lb.take k) (fun q _ => n - (RowKit.intOf q).toNat)
    case atStart => exact ⟨0, 0, Nat.zero_le _, rfl, rfl, rfl⟩
    case round =>
      obtain ⟨k, z, hk, rfl, rfl, htk⟩ := hrel
      by_cases hlt : k < n
      · obtain ⟨x, hx⟩ : ∃ x, la[k]? = some x := ⟨_, List.getElem?_eq_getElem (by rw [HN.out]; exact hlt)⟩
        obtain ⟨y, hy⟩ : ∃ y, lb[k]? = some y := ⟨_, List.getElem?_eq_getElem (by rw [HM.out]; exact hlt)⟩
        obtain ⟨X, cx, hu, hrx⟩ := HA.out.2 k x hx
        obtain ⟨Y, cy, hv, hry⟩ := HB.out.2 k y hy
        obtain ⟨ad, rfl, _, hca⟩ := HRA.out.2 (by omega)
        obtain ⟨be, rfl, _, hcb⟩ := HRB.out.2 (by omega)
        obtain ⟨W, hW⟩ : ∃ W, w.drewN z = W := ⟨_, rfl⟩
        have HQ : Hid (∀ q, ∃ z', W.drewN q = w.drewN z') := Lib.hid (fun q => ⟨z + q, by rw [← hW]; unfold World.drewN; simp [Nat.add_assoc]⟩)
        have c1 : W.cell? (ad.add k) = some (.slice X x.length cx) := by rw [← hW]; exact hca k _ hu
        have c2 : W.cell? (be.add k) = some (.slice Y y.length cy) := by rw [← hW]; exact hcb k _ hv
        have hrx2 : Reads W w.heap.size 1 X x.length (x.map bv) := by rw [← hW]; exact hrx.drewN z
        have hry2 : Reads W w.heap.size 1 Y y.length (y.map bv) := by rw [← hW]; exact hry.drewN z
        have v1 : ∀ q, (convert 23 9 (.slice X x.length cx)).run Try.prog (W.drewN q) = .ok (.string ⟨x.toArray⟩) (W.drewN q) := fun q => conv_reads cx (hrx2.drewN q)
        have v2 : ∀ q, (convert 23 9 (.slice Y y.length cy)).run Try.prog (W.drewN q) = .ok (.string ⟨y.toArray⟩) (W.drewN q) := fun q => conv_reads cy (hry2.drewN q)
        have hlt9 : (k : Int) < (n : Int) := by omega
        have ht1 : la.take (k + 1) = la.take k ++ [x] := by rw [List.take_add_one, hx]; rfl
        have ht2 : lb.take (k + 1) = lb.take k ++ [y] := by rw [List.take_add_one, hy]; rfl
        rw [hW]
        by_cases hxy : x = y
        · have hq : (x == y) = true := by rw [beq_iff_eq]; exact hxy
          have HT : Hid (la.take (k + 1) = lb.take (k + 1)) := Lib.hid (by rw [ht1, ht2, htk, hxy])
          clear ht1 ht2 htk hx hy hu hv hrx hry hca hcb hxy hrx2 hry2 hW
          generalize x.length = xn at *
          generalize y.length = yn at *
          go_wp2
          go_quiet (fail)
          go_wp2
          exact ⟨⟨k + 1, (by obtain ⟨z', hz'⟩ := HQ.out nq; exact ⟨z', by omega, by go_num, hz', HT.out⟩)⟩, by simp [RowKit.intOf]; omega⟩
        · have hq : (x == y) = false := by rw [beq_eq_false_iff_ne]; exact hxy
          obtain rfl : r = false := by
            rw [← HRES.out, beq_eq_false_iff_ne]
            intro e
            rw [e, hy] at hx
            injection hx with hx
            exact hxy hx.symm
          clear ht1 ht2 htk hx hy hu hv hrx hry hca hcb hxy hrx2 hry2 hW
          generalize x.length = xn at *
          generalize y.length = yn at *
          go_wp2
          go_quiet (fail)
          go_wp2
          go_ret
          exact ⟨rfl, HQ.out nq⟩
      · obtain rfl : k = n := by omega
        have he : (la == lb) = true := by
          rw [beq_iff_eq]
          have h1 : la.take k = la := by rw [← HN.out]; exact List.take_length
          have h2 : lb.take k = lb := by rw [← HM.out]; exact List.take_length
          rw [h1, h2] at htk
          exact htk
        obtain rfl : r = true := by rw [← HRES.out]; exact he
        clear he htk
        go_wp2
        go_ret
        exact ⟨rfl, z, rfl⟩
  · have hf : (la == lb) = false := by
      rw [beq_eq_false_iff_ne]
      intro e
      rw [e] at hn
      omega
    have hne : ((n : Int) != (m : Int)) = true := by rw [bne_iff_ne]; omega
    obtain rfl : r = false := by rw [← HRES.out]; exact hf
    clear ha hb hra hrb hn hm hf hnm
    go_enter Try.func24, Try.ntmps24
    go_wp2
    go_ret
    exact ⟨rfl, 0, rfl⟩

/-- The texts as bytes. -/
def txts (ss : List ByteArray) : List (List UInt8) := ss.map fun s => s.data.toList
theorem head_text (w : World) (s : ByteArray) (hs : s.size ≤ 1000) : Head (Lib.bytesWorld w 5 s) 5 (s.data.toList.map bv) (.slice (some ⟨w.heap.size, 0, none⟩) s.size (grownCap w s.size 0 5)) := by
  have hl : (s.data.toList.map bv).length = s.size := by rw [List.length_map]; exact size_list s
  have hm := grownCap_le_maxLen w s.size 0 5 (by unfold maxLen; omega)
  refine ⟨some ⟨w.heap.size, 0, none⟩, grownCap w s.size 0 5, by rw [hl], by rw [hl]; exact grownCap_ge _ _ _ _, by unfold maxLen at hm; omega, ?_, fun ad e => ?_⟩
  · rw [hl]
    exact bytesWorld_reads w 5 s
  · injection e with e
    subst e
    exact ⟨_, _, Lib.bytesWorld_at_new w 5 s⟩
theorem cell_below {w W : World} {a : Addr} {v : Value} (hb : Below w.heap.size w W) (h : w.cell? a = some v) : W.cell? a = some v := by
  refine (World.cell?_of_block (hb.block a.block ?_)).trans h
  unfold World.cell? at h
  cases he : w.heap[a.block]? with
  | none => rw [he] at h; cases h
  | some o => exact (Array.getElem?_eq_some_iff.1 he).1
set_option maxRecDepth 100000 in
set_option maxHeartbeats 2000000 in
theorem jlist_any {w : World} {ss : List ByteArray} {A : Option Addr} {n c : Nat} (hn : ss.length = n) (hbig : n ≤ 100) (hsz : ∀ s ∈ ss, s.size ≤ 1000) (hr : Reads w w.heap.size 1 A n (ss.map Value.string)) :
    Calls Try.prog 41 #[.slice A n c] w fun e w' => ∃ B d us, e = .returned (.slice B n d) ∧ w'.ownsRow w.heap.size 23 1 (.slice B n d) n us ∧ Heads w' (txts ss) us ∧ Below w.heap.size w w' := by
  obtain ⟨i0, hi, hz0, hz1, hz2⟩ := info_parts info_rows
  have HR := Lib.hid hr
  have HN := Lib.hid hn
  have HSZ := Lib.hid hsz
  clear hr hn hsz
  go_enter Try.func41, Try.ntmps41
  go_wp2
  go_loopw [8, 3] (fun q1 q2 wr => ∃ (k : Nat) (v : Value) (us : List Value), k ≤ n ∧ q1 = .int .i64 (k : Int) ∧ q2 = v ∧ wr.ownsRow w.heap.size 23 1 v k us ∧ Heads wr (txts (ss.take k)) us ∧ Below w.heap.size w wr) (fun q1 _ _ => n - (RowKit.intOf q1).toNat)
  case atStart => exact ⟨0, _, [], Nat.zero_le _, rfl, rfl, World.ownsRow_nil _ _ _ _, ⟨rfl, fun i l hl => by simp [txts] at hl⟩, Below.refl _ _⟩
  case round =>
    obtain ⟨k, v, us, hk, rfl, rfl, ho, hh, hb⟩ := hrel
    by_cases hlt : k < n
    · have hkl : k < ss.length := by rw [HN.out]; exact hlt
      obtain ⟨s, hs⟩ : ∃ s, ss[k]? = some s := ⟨_, List.getElem?_eq_getElem hkl⟩
      have hs1 : s.size ≤ 1000 := HSZ.out s (List.mem_of_getElem? hs)
      obtain ⟨ad, rfl, _, hc⟩ := HR.out.2 (by omega)
      have c1 : wr.cell? (ad.add k) = some (.string s) := cell_below hb (hc k _ (by rw [List.getElem?_map, hs]; rfl))
      obtain ⟨A3, c3, rfl⟩ := own_slice3 ho
      obtain ⟨w5, hw5⟩ : ∃ w5, Lib.bytesWorld wr 5 s = w5 := ⟨_, rfl⟩
      have hbw : Below wr.heap.size wr w5 := by rw [← hw5]; exact bytesWorld_below _ _ _
      have hh5 := head_text wr s hs1
      rw [hw5] at hh5
      have cv : (convert 9 23 (.string s)).run Try.prog wr = .ok (.slice (some ⟨wr.heap.size, 0, none⟩) s.size (grownCap wr s.size 0 5)) w5 := by
        rw [← hw5]
        exact Lib.run_convert_string_bytes wr 9 23 5 s Try.underlying9 Try.underlying23 Try.underlying5
      have hts : txts (ss.take (k + 1)) = txts (ss.take k) ++ [s.data.toList] := by unfold txts; rw [List.take_add_one, hs, List.map_append]; rfl
      generalize grownCap wr s.size 0 5 = cc at *
      have HB5 := Lib.hid hbw
      have H6 : Hid (∀ u w6, w5.alloc (.cells #[u] 23) = w6 → Below wr.heap.size wr w6) := Lib.hid (fun u w6 e => by rw [← e]; exact hbw.alloc hbw.size _)
      have HR6 := Lib.hid (Reads.of_own (own_one_rows w5 w5.heap.size (Nat.le_refl _) (.slice (some ⟨wr.heap.size, 0, none⟩) s.size cc)))
      have hb6 := H6.out (.slice (some ⟨wr.heap.size, 0, none⟩) s.size cc) _ rfl
      have HO6 := Lib.hid (own_stay ho hb6)
      have HSZ6 := Lib.hid (Nat.le_trans hb.size hb6.size)
      have HFIN : Hid (∀ v7 w7, w7.ownsRow w.heap.size 23 1 v7 (k + 1) (us ++ [.slice (some ⟨wr.heap.size, 0, none⟩) s.size cc]) → (w5.alloc (.cells #[.slice (some ⟨wr.heap.size, 0, none⟩) s.size cc] 23)).grownBy w7 (Value.slice A3 k c3).ownBlock → Heads w7 (txts (ss.take (k + 1))) (us ++ [.slice (some ⟨wr.heap.size, 0, none⟩) s.size cc]) ∧ Below w.heap.size w w7) := Lib.hid (fun v7 w7 o7 g7 => by
        have tS := own_typ2 HO6.out
        have kg : Keep (fun i => (Value.slice A3 k c3).ownBlock = some i) (w5.alloc (.cells #[.slice (some ⟨wr.heap.size, 0, none⟩) s.size cc] 23)) w7 := (Keep.refl _ _).grown g7 (fun g e _ => e)
        have n8 : ∀ i, (Value.slice A3 k c3).ownBlock = some i → ¬ Typ (w5.alloc (.cells #[.slice (some ⟨wr.heap.size, 0, none⟩) s.size cc] 23)) i 5 := fun i e t => absurd ((tS i e).1.ne t) (by decide)
        refine ⟨?_, (hb.trans (hb6.mono hb.size)).grown g7 HSZ6.out (fun i e => (HO6.out.lt i e).1)⟩
        rw [hts]
        exact ((hh.keep (Keep.of_below (S := fun _ => False) hb6) (fun _ e => e.elim)).snoc (hh5.keep (Keep.of_below (S := fun _ => False) ((Below.refl _ w5).alloc (Nat.le_refl _) _)) (fun _ e => e.elim))).keep kg n8)
      have hlt9 : (k : Int) < (n : Int) := by omega
      clear hh5 hbw hb6 hts hw5 ho hh hb hc hs hkl
      go_wp2_with (at_builtin; refine wpList_append_any _ rfl _ _ 44 rfl w.heap.size 23 i0 (.slice none 0 0) 1 24 Try.underlying44 hi hz0 hz1 hz2 rfl (by decide) _ k us rfl HO6.out _ (some ⟨w5.heap.size, 0, none⟩) 1 1 [.slice (some ⟨wr.heap.size, 0, none⟩) s.size cc] rfl HR6.out (fun u hu => by rw [List.mem_singleton.1 hu]; rfl) (by unfold maxLen; omega) (by omega) HSZ6.out ?_; intro v7 w7 o7 g7 _; have F7 := Lib.hid (HFIN.out v7 w7 o7 g7); have O7 := Lib.hid o7; clear o7 g7)
      exact ⟨⟨k + 1, v7, _, by omega, by go_num, rfl, O7.out, F7.out⟩, by simp [RowKit.intOf]; omega⟩
    · obtain rfl : k = n := by omega
      have htk : ss.take k = ss := by rw [← HN.out]; exact List.take_length
      rw [htk] at hh
      obtain ⟨A3, c3, rfl⟩ := own_slice3 ho
      have HO := Lib.hid ho
      have HH := Lib.hid hh
      have HB := Lib.hid hb
      clear ho hh hb htk
      go_wp2
      go_ret
      exact ⟨A3, c3, us, rfl, HO.out, HH.out, HB.out⟩
end Go.Proofs.Ytddhldmeknmgpaa.journal

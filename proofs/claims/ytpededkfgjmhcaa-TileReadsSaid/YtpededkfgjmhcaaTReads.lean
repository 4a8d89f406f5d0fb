/-
  The walk of the statement TileReads: the tile of any bytes, or the error, and whether they are sound, are the document's; the bytes stay, and what is answered is new memory.
-/
import Derived.Test.YtpededkfgjmhcaaTLaw
import Derived.Test.YtpededkfgjmhcaaTDecR
import Derived.Test.YtpededkfgjmhcaaCrcSeals
namespace Go.Proofs.Ytpededkfgjmhcaa.tileReads
open Go.RowKit Go.Proofs.Ytpededkfgjmhcaa.crc Go.Proofs.Ytpededkfgjmhcaa.crcSeals Go.Proofs.Ytpededkfgjmhcaa.crcJoins Go.Proofs.Ytpededkfgjmhcaa.tile

def pickR (W0 W1 : World) (a : Nat) (dn : Nat → Bool) : World := if dn a = true then W1 else W0
theorem own_store {w : World} {base e g n c j : Nat} {xs : List Value} (h : w.ownsRow base e 1 (.slice (some ⟨g, 0, none⟩) n c) n xs) (u : Value) : (w.setCell ⟨g, j, none⟩ u).ownsRow base e 1 (.slice (some ⟨g, 0, none⟩) n c) n (xs.set j u) := by
  refine ⟨by rw [List.length_set]; exact h.1, ?_⟩
  rcases h.2 with ⟨e1, _⟩ | ⟨g1, cap, cur, e1, hb, hh, hc, hm, hs, ht⟩
  · cases e1
  · have e2 := e1
    injection e2 with e2 _ e3
    injection e2 with e2
    injection e2 with e2 _ _
    subst e2 e3
    refine .inr ⟨g, c, cur.setIfInBounds j u, rfl, hb, (show Blk w g e cur from hh).set_ j u, hc, hm, by simpa using hs, ?_⟩
    rw [Array.toList_setIfInBounds, ← ht, Nat.mul_one, List.take_set]
theorem own_at {w : World} {base g n c j : Nat} {x : Int} {L : List Int} (h : w.ownsRow base 2 1 (.slice (some ⟨g, 0, none⟩) n c) n (L.map iv)) (hx : L[j]? = some x) : w.cell? ⟨g, j, none⟩ = some (.int .i64 x) ∧ w.frozen? ⟨g, j, none⟩ = false := by
  obtain ⟨_, _, cur, hb⟩ := own_is h g rfl
  refine ⟨?_, hb.frozen j⟩
  obtain ⟨ad', e, _, hcell⟩ := (Reads.of_own h).2 (by
    have h1 := h.1
    rw [List.length_map] at h1
    have := (List.getElem?_eq_some_iff.1 hx).1
    omega)
  injection e with e
  subst e
  have := hcell j (iv x) (by rw [List.getElem?_map, hx]; rfl)
  have e : (⟨g, 0, none⟩ : Addr).add j = ⟨g, j, none⟩ := by
    unfold Addr.add
    split
    · rename_i h0; rw [h0]
    · simp
  rw [e] at this
  exact this
theorem box_cells {w : World} (x y z u : Value) : ∀ W, Below (w.alloc (.cells #[x, y, z, u] 24)).heap.size (w.alloc (.cells #[x, y, z, u] 24)) W →
    W.cell? ⟨w.heap.size, 0, none⟩ = some x ∧ W.cell? ⟨w.heap.size, 1, none⟩ = some y ∧ W.cell? ⟨w.heap.size, 2, none⟩ = some z ∧ W.cell? ⟨w.heap.size, 3, none⟩ = some u := fun W h => by
  have hb := (Blk.new w 24 #[x, y, z, u]).below h (by simp)
  exact ⟨hb.cell 0, hb.cell 1, hb.cell 2, hb.cell 3⟩

section
variable (A : Option Addr) (c : Nat) (l : List UInt8) (w : World)

theorem walk_big (h : 9000 < l.length) (h1 : l.length ≤ 140737488355328) :
    Calls Try.prog 4 #[.slice A l.length c] w fun e w' => e = .returned (.bool true) ∧ Below w.heap.size w w' := by
  go_enter Try.func4, Try.ntmps4
  go_wp2
  go_ret
  exact ⟨rfl, Below.refl _ _⟩

set_option maxRecDepth 100000 in
set_option maxHeartbeats 4000000 in
theorem walk_small (a : Arg w A c l) (h1 : l.length ≤ 9000) :
    Calls Try.prog 4 #[.slice A l.length c] w fun e w' => e = .returned (.bool true) ∧ Below w.heap.size w w' := by
  obtain ⟨i0, hi, hz0, hz1, hz2⟩ := info_parts infoU8
  have HR := Lib.hid a.reads
  have hcap : l.length ≤ c ∧ c ≤ 9223372036854775807 := ⟨a.cap, by have := a.big; omega⟩
  have HCAP := Lib.hid hcap
  obtain ⟨u, hu⟩ : ∃ u, decT l = u := ⟨_, rfl⟩
  obtain ⟨er, her⟩ : ∃ er, decErr l = er := ⟨_, rfl⟩
  obtain ⟨sd, hsd⟩ : ∃ sd, soundB l = sd := ⟨_, rfl⟩
  obtain ⟨k, hk⟩ : ∃ k, u.el.length = k := ⟨_, rfl⟩
  have hk9 : k ≤ 9000 := by
    rw [← hk, ← hu]
    have := cand_le l
    unfold decT
    split
    · omega
    · simp [noT]
  have HD : Hid (∀ (A2 : Option Addr) (c2 : Nat) (W : World), Reads W W.heap.size 1 A2 l.length (l.map bv) → Calls Try.prog 15 #[.slice A2 l.length c2] W fun e w' => ∃ A' c', e = .returned (.tuple #[tv u A' k c', .int .i64 er]) ∧ w'.ownsRow W.heap.size 2 1 (.slice A' k c') k (u.el.map iv) ∧ TEl w' u A' k ∧ Below W.heap.size W w') := Lib.hid (fun A2 c2 W h => by
    have hd := tdecode_any A2 c2 l W h (by omega)
    rw [hu, her] at hd
    refine hd.mono ?_
    rintro e w' ⟨A', c', rfl, ho, hb⟩
    subst hk
    exact ⟨A', c', rfl, ho.own, ho.el (by omega), hb⟩)
  have HG : Hid (∀ (W : World), Reads W W.heap.size 1 A l.length (l.map bv) → Calls Try.prog 16 #[.slice A l.length c] W fun e w' => ∃ A' c', e = .returned (.tuple #[tv u A' k c', .int .i64 er]) ∧ TEl w' u A' k ∧ Below W.heap.size W w') := Lib.hid (fun W h => by
    have hd := r5decode_any A c l.length l W rfl h HCAP.out (by omega)
    rw [hu, her, hk] at hd
    exact hd)
  have HSM := Lib.hid (same_is (sameT_refl u))
  have HS : Hid (∀ (A2 : Option Addr) (c2 : Nat) (W : World), Reads W W.heap.size 1 A2 l.length (l.map bv) → Calls Try.prog 17 #[.slice A2 l.length c2] W fun e w' => e = .returned (.bool sd) ∧ Below W.heap.size W w') := Lib.hid (fun A2 c2 W h => snd_is hsd rfl (by omega) A2 c2 W h)
  have HGS : Hid (∀ (W : World), Reads W W.heap.size 1 A l.length (l.map bv) → Calls Try.prog 18 #[.slice A l.length c] W fun e w' => e = .returned (.bool sd) ∧ Below W.heap.size W w') := Lib.hid (fun W h => by
    have hd := r5sound_any A c l.length l W rfl h HCAP.out (by omega)
    rw [hsd] at hd
    exact hd)
  clear hu her hsd
  obtain ⟨f0, hf0⟩ : ∃ x, u.file = x := ⟨_, rfl⟩
  obtain ⟨f1, hf1⟩ : ∃ x, u.no = x := ⟨_, rfl⟩
  obtain ⟨f2, hf2⟩ : ∃ x, u.kind = x := ⟨_, rfl⟩
  unfold tv at HD HG HSM
  rw [hf0, hf1, hf2] at HD HG HSM
  have HK := Lib.hid hk
  have HTL := Lib.hid tl
  clear a hcap hf0 hf1 hf2 hk
  go_enter Try.func4, Try.ntmps4
  go_wp2_with (first
    | (at_builtin; refine wpList_append_any _ rfl _ _ 25 rfl w.heap.size 5 i0 (.int .u8 0) 1 1 Try.underlying25 hi hz0 hz1 hz2 rfl (by decide) _ 0 [] rfl (own_fresh _ _ (Nat.le_refl _)) _ A l.length c (l.map bv) rfl (HR.out.below ((Below.refl _ w).alloc (Nat.le_refl _) _)) (bv_one _) (by unfold maxLen; omega) (by omega) (by simp) ?_
       intro v1 w1 o1 g1 _; rw [Nat.zero_add, List.nil_append] at o1; obtain ⟨A1, c1, rfl⟩ := own_slice o1; have HB1 := Lib.hid (((Below.refl _ w).alloc (Nat.le_refl _) _).grown g1 (by simp) (fun k e => ((own_fresh _ _ (Nat.le_refl _)).lt k e).1)); clear g1; have P1 := Lib.hid o1; clear o1)
    | (at_builtin; refine wpList_append_any _ rfl _ _ 25 rfl w.heap.size 5 i0 (.int .u8 0) 1 1 Try.underlying25 hi hz0 hz1 hz2 rfl (by decide) _ l.length (l.map bv) rfl (P1.out.alloc _) _ _ 1 1 [bv 7] rfl (reads_mark w1 #[.int .u8 7] _ [7] 1 rfl rfl) (bv_one [7]) (by unfold maxLen; omega) (by omega) (by have := HB1.out.size; simp; omega) ?_
       intro v2 w2 o2 g2 _; obtain ⟨A2, c2, rfl⟩ := own_slice o2; have hcap2 : l.length ≤ c2 := by { have := (own_cap o2).1; omega }; have HB2 := Lib.hid ((HB1.out.alloc HB1.out.size _).grown g2 (by have := HB1.out.size; simp; omega) (fun k e => (P1.out.lt k e).1)); clear g2 P1; have P2 := Lib.hid o2; clear o2))
  have hm : (l.map bv ++ [bv 7]) = (l ++ [7]).map bv := by simp
  rw [hm] at P2
  have R2 : Hid (∀ W, Below w2.heap.size w2 W → Reads W W.heap.size 1 A2 l.length (l.map bv)) := Lib.hid (fun W hb => by
    have h := (Reads.of_own P2.out).front (k := l.length) (by omega)
    rw [List.take_left' rfl] at h
    exact (h.below hb).more hb.size)
  have RB : Hid (∀ W, Below w2.heap.size w2 W → Reads W W.heap.size 1 A l.length (l.map bv)) := Lib.hid (fun W hb => by
    have h : Below w.heap.size w W := HB2.out.trans (hb.mono HB2.out.size)
    exact (HR.out.below h).more h.size)
  clear hm
  have hee : (er != er) = false := by simp
  have hss : (sd != sd) = false := by simp
  go_wp2_with (first
    | (go_at_call 18; (have l0 := K6.out; clear l0); (with_reducible refine (HGS.out w6 (RB.out w6 K6.out)).mono ?_); rintro e w7 ⟨rfl, b7⟩; have K7 := Lib.hid (K6.out.trans (b7.mono K6.out.size)); have M7 := Lib.hid (M6.out.trans (b7.mono M6.out.size)); obtain ⟨x0, x1, x2, x3⟩ := HXX.out w7 M7.out; clear b7)
    | (go_at_call 17; (have l0 := K5.out; clear l0); (with_reducible refine (HS.out A2 c2 w5 (R2.out w5 K5.out)).mono ?_); rintro e w6 ⟨rfl, b6⟩; have K6 := Lib.hid (K5.out.trans (b6.mono K5.out.size)); have M6 := Lib.hid (M5.out.trans (b6.mono M5.out.size)); clear b6)
    | (go_at_call 14; (have l0 := K4.out; clear l0); (with_reducible refine (HSM.out A3 A4 k k c3 c4 (w4.alloc (.cells #[.int .i64 f0, .int .i64 f1, .int .i64 f2, .slice A4 k c4] 24)) ((T3.out.below M4.out).below ((Below.refl _ _).alloc (Nat.le_refl _) _)) (T4.out.below ((Below.refl _ _).alloc (Nat.le_refl _) _))).mono ?_); rintro e w5 ⟨rfl, b5⟩; have K5 := Lib.hid ((K4.out.alloc K4.out.size (.cells #[.int .i64 f0, .int .i64 f1, .int .i64 f2, .slice A4 k c4] 24)).trans (b5.mono (Nat.le_trans K4.out.size (by simp)))); have M5 := Lib.hid ((M4.out.alloc M4.out.size (.cells #[.int .i64 f0, .int .i64 f1, .int .i64 f2, .slice A4 k c4] 24)).trans (b5.mono (Nat.le_trans M4.out.size (by simp)))); clear b5)
    | (go_at_call 16; (have l0 := K3.out; clear l0); (with_reducible refine (HG.out (w3.alloc (.cells #[.int .i64 f0, .int .i64 f1, .int .i64 f2, .slice A3 k c3] 24)) (RB.out _ K3.out)).mono ?_); rintro e w4 ⟨A4, c4, rfl, t4, b4⟩; have K4 := Lib.hid (K3.out.trans (b4.mono K3.out.size)); have M4 := Lib.hid b4; have T4 := Lib.hid t4; obtain ⟨x0, x1, x2, x3⟩ := HXX.out (w4.alloc (.cells #[.int .i64 f0, .int .i64 f1, .int .i64 f2, .slice A4 k c4] 24)) (M4.out.alloc M4.out.size (.cells #[.int .i64 f0, .int .i64 f1, .int .i64 f2, .slice A4 k c4] 24)); clear t4 b4)
    | (go_at_call 15; (with_reducible refine (HD.out A2 c2 w2 (R2.out w2 (Below.refl _ _))).mono ?_); rintro e w3 ⟨A3, c3, rfl, o3, t3, b3⟩; have K3 := Lib.hid (b3.alloc b3.size (.cells #[.int .i64 f0, .int .i64 f1, .int .i64 f2, .slice A3 k c3] 24)); have HXX := Lib.hid (box_cells (w := w3) (.int .i64 f0) (.int .i64 f1) (.int .i64 f2) (.slice A3 k c3)); have O3 := Lib.hid o3; have T3 := Lib.hid (t3.below ((Below.refl _ _).alloc (Nat.le_refl _) (.cells #[.int .i64 f0, .int .i64 f1, .int .i64 f2, .slice A3 k c3] 24))); clear o3 t3 b3))
  have hB : Blk w7 w3.heap.size 24 #[.int .i64 f0, .int .i64 f1, .int .i64 f2, .slice A3 k c3] := (Blk.new w3 24 #[.int .i64 f0, .int .i64 f1, .int .i64 f2, .slice A3 k c3]).below M7.out (by simp)
  have hO : w7.ownsRow w2.heap.size 2 1 (.slice A3 k c3) k (u.el.map iv) := own_stay (O3.out.alloc _) M7.out
  have HGQ : Hid (∀ g, A3 = some ⟨g, 0, none⟩ → w2.heap.size ≤ g ∧ g < w3.heap.size) := Lib.hid (fun g e => by
    have := own_is O3.out g (by subst e; rfl)
    omega)
  obtain ⟨q, hq⟩ : ∃ q, w3.heap.size = q := ⟨_, rfl⟩
  rw [hq] at hB HGQ ⊢
  have hW := K7.out
  clear hq
  go_loopw [52] (fun i wr => ∃ (j : Nat) (L : List Int), j ≤ k ∧ i = .int .i64 ((j : Nat) : Int) ∧ L.length = k ∧ Blk wr q 24 #[.int .i64 f0, .int .i64 f1, .int .i64 f2, .slice A3 k c3] ∧ wr.ownsRow w2.heap.size 2 1 (.slice A3 k c3) k (L.map iv) ∧ Below w2.heap.size w2 wr) (fun i _ => k - (intOf i).toNat)
  case atStart => exact ⟨0, u.el, Nat.zero_le _, rfl, HK.out, hB, hO, hW⟩
  case round =>
    clear hB hO hW
    obtain ⟨j, L, hj, rfl, hL, hB, hO, hW⟩ := hrel
    by_cases hlt : j < k
    · obtain ⟨x, hx⟩ : ∃ x, L[j]? = some x := ⟨_, List.getElem?_eq_getElem (by omega)⟩
      obtain ⟨g, rfl⟩ : ∃ g, A3 = some ⟨g, 0, none⟩ := by
        rcases hO.2 with ⟨_, h0⟩ | ⟨g, cap, cur, e, _⟩
        · omega
        · injection e with e
          exact ⟨g, e⟩
      obtain ⟨y, hy⟩ : ∃ y, IntKind.i64.wrap (x + 1) = y := ⟨_, rfl⟩
      obtain ⟨h2, h3⟩ := HGQ.out g rfl
      obtain ⟨hx1, hx2⟩ := own_at hO hx
      obtain ⟨W10, hW10⟩ : ∃ W, wr.drew.setCell ⟨g, j, none⟩ (.int .i64 y) = W := ⟨_, rfl⟩
      have hB10 : Blk W10 q 24 #[.int .i64 f0, .int .i64 f1, .int .i64 f2, .slice (some ⟨g, 0, none⟩) k c3] := by
        rw [← hW10]
        exact Blk.far (w := wr.drew) hB (by show q ≠ g; omega) _
      have hO10 : W10.ownsRow w2.heap.size 2 1 (.slice (some ⟨g, 0, none⟩) k c3) k ((L.set j y).map iv) := by
        rw [← hW10, List.map_set]
        exact own_store (World.ownsRow.drew hO) _
      have hk10 : Below w2.heap.size w2 W10 := by
        rw [← hW10]
        exact hW.drew.setCell (p := ⟨g, j, none⟩) h2 _
      have HRB : Hid (∀ dn, (pickR wr.drew W10 10 dn).cell? ⟨q, 3, none⟩ = some (.slice (some ⟨g, 0, none⟩) k c3)) := Lib.hid (fun dn => by
        unfold pickR
        split
        · exact hB10.cell 3
        · exact hB.cell 3)
      have HJK : Hid (j < k) := Lib.hid hlt
      have HX : Hid (wr.drew.cell? ⟨g, j, none⟩ = some (.int .i64 x)) := Lib.hid hx1
      have HXF : Hid (wr.drew.cell? ⟨g, j, none⟩ = some (.int .i64 x) ∧ wr.drew.frozen? ⟨g, j, none⟩ = false) := Lib.hid ⟨hx1, hx2⟩
      have HY := Lib.hid hy
      have HW10 := Lib.hid hW10
      have HB10 := Lib.hid hB10
      have HO10 := Lib.hid hO10
      have HK10 := Lib.hid hk10
      have hLs : (L.set j y).length = k := by rw [List.length_set]; exact hL
      clear hx hy h2 h3 hx1 hx2 hW10 hB10 hO10 hk10 hB hO hW
      go_wp2
      refine wp_region_done_on (fun dn W => W = pickR wr.drew W10 10 dn) (fun dn i v _ => v = ([.pointer (some ⟨q, 3, none⟩), .slice (some ⟨g, 0, none⟩) k c3, .int .i64 (j : Int), .pointer (some ⟨q, 3, none⟩), .slice (some ⟨g, 0, none⟩) k c3, .int .i64 (j : Int), .pointer (some ⟨g, j, none⟩), .int .i64 x, .int .i64 y, .pointer (some ⟨g, j, none⟩)] : List Value).getD i undef ∧ (i = 99 → dn 99 = true)) (by kernel_rfl) 72 rfl (by kernel_rfl) (rfl) ?_ ?_
      · intro i hi
        have hi2 : i < 11 := hi
        clear hi
        rcases i with _ | i
        · refine done_value (fun _ _ h => h) (fun dn j u w h => ⟨h.1, fun e => by have := h.2 e; simp [upd, this]⟩) (.pointer (some ⟨q, 3, none⟩)) rfl ?_
          intro dn a8 w8 hS ho hn
          have o4 : a8.tmps[4]? = some _ := (ho 4 (by kernel_rfl)).trans rfl
          clear ho hn
          refine ⟨wanted_free rfl, ?_, rfl, fun e => absurd e (by decide)⟩
          go_simp
        rcases i with _ | i
        · refine done_read (fun _ _ h => h) (fun dn j u w h => ⟨h.1, fun e => by have := h.2 e; simp [upd, this]⟩) (.slice (some ⟨g, 0, none⟩) k c3) rfl ?_
          intro dn a8 w8 hS hx ho hn
          obtain ⟨_, n55, rfl, fa55⟩ := hn 0 55 (by kernel_rfl) rfl
          clear ho hn
          refine ⟨wanted_free rfl, ?_, rfl, fun e => absurd e (by decide)⟩
          have h1 := HRB.out dn
          have hS2 : w8 = pickR wr.drew W10 10 dn := hS
          subst hS2
          clear hS
          go_simp
        rcases i with _ | i
        · refine done_value (fun _ _ h => h) (fun dn j u w h => ⟨h.1, fun e => by have := h.2 e; simp [upd, this]⟩) (.int .i64 (j : Int)) rfl ?_
          intro dn a8 w8 hS ho hn
          have o8 : a8.tmps[8]? = some _ := (ho 8 (by kernel_rfl)).trans rfl
          clear ho hn
          refine ⟨wanted_free rfl, ?_, rfl, fun e => absurd e (by decide)⟩
          go_simp
        rcases i with _ | i
        · refine done_value (fun _ _ h => h) (fun dn j u w h => ⟨h.1, fun e => by have := h.2 e; simp [upd, this]⟩) (.pointer (some ⟨q, 3, none⟩)) rfl ?_
          intro dn a8 w8 hS ho hn
          have o4 : a8.tmps[4]? = some _ := (ho 4 (by kernel_rfl)).trans rfl
          clear ho hn
          refine ⟨wanted_free rfl, ?_, rfl, fun e => absurd e (by decide)⟩
          go_simp
        rcases i with _ | i
        · refine done_read (fun _ _ h => h) (fun dn j u w h => ⟨h.1, fun e => by have := h.2 e; simp [upd, this]⟩) (.slice (some ⟨g, 0, none⟩) k c3) rfl ?_
          intro dn a8 w8 hS hx ho hn
          obtain ⟨_, n58, rfl, fa58⟩ := hn 3 58 (by kernel_rfl) rfl
          clear ho hn
          refine ⟨wanted_free rfl, ?_, rfl, fun e => absurd e (by decide)⟩
          have h1 := HRB.out dn
          have hS2 : w8 = pickR wr.drew W10 10 dn := hS
          subst hS2
          clear hS
          go_simp
        rcases i with _ | i
        · refine done_value (fun _ _ h => h) (fun dn j u w h => ⟨h.1, fun e => by have := h.2 e; simp [upd, this]⟩) (.int .i64 (j : Int)) rfl ?_
          intro dn a8 w8 hS ho hn
          have o8 : a8.tmps[8]? = some _ := (ho 8 (by kernel_rfl)).trans rfl
          clear ho hn
          refine ⟨wanted_free rfl, ?_, rfl, fun e => absurd e (by decide)⟩
          go_simp
        rcases i with _ | i
        · refine done_value (fun _ _ h => h) (fun dn j u w h => ⟨h.1, fun e => by have := h.2 e; simp [upd, this]⟩) (.pointer (some ⟨g, j, none⟩)) rfl ?_
          intro dn a8 w8 hS ho hn
          obtain ⟨_, n59, rfl, fa59⟩ := hn 4 59 (by kernel_rfl) rfl
          obtain ⟨_, n60, rfl, fa60⟩ := hn 5 60 (by kernel_rfl) rfl
          clear ho hn
          refine ⟨wanted_free rfl, ?_, rfl, fun e => absurd e (by decide)⟩
          have h1 := HJK.out
          have h2 : ¬ (k : Int) ≤ (j : Int) := (by omega)
          have h3 : ¬ k ≤ j := (by omega)
          go_simp
        rcases i with _ | i
        · refine done_read (fun _ _ h => h) (fun dn j u w h => ⟨h.1, fun e => by have := h.2 e; simp [upd, this]⟩) (.int .i64 x) rfl ?_
          intro dn a8 w8 hS hx ho hn
          obtain ⟨_, n61, rfl, fa61⟩ := hn 6 61 (by kernel_rfl) rfl
          clear ho hn
          refine ⟨wanted_free rfl, ?_, rfl, fun e => absurd e (by decide)⟩
          have h10 : dn 10 = false := hx 10 (by kernel_rfl)
          have hS2 : w8 = wr.drew := by { have h : w8 = pickR wr.drew W10 10 dn := hS; unfold pickR at h; rw [h10] at h; exact h }
          subst hS2
          clear hS
          have h1 := HX.out
          go_simp
        rcases i with _ | i
        · refine done_value (fun _ _ h => h) (fun dn j u w h => ⟨h.1, fun e => by have := h.2 e; simp [upd, this]⟩) (.int .i64 y) rfl ?_
          intro dn a8 w8 hS ho hn
          obtain ⟨_, n62, rfl, fa62⟩ := hn 7 62 (by kernel_rfl) rfl
          clear ho hn
          refine ⟨wanted_free rfl, ?_, rfl, fun e => absurd e (by decide)⟩
          go_simp
          exact HY.out
        rcases i with _ | i
        · refine done_value (fun _ _ h => h) (fun dn j u w h => ⟨h.1, fun e => by have := h.2 e; simp [upd, this]⟩) (.pointer (some ⟨g, j, none⟩)) rfl ?_
          intro dn a8 w8 hS ho hn
          obtain ⟨_, n56, rfl, fa56⟩ := hn 1 56 (by kernel_rfl) rfl
          obtain ⟨_, n57, rfl, fa57⟩ := hn 2 57 (by kernel_rfl) rfl
          clear ho hn
          refine ⟨wanted_free rfl, ?_, rfl, fun e => absurd e (by decide)⟩
          have h1 := HJK.out
          have h2 : ¬ (k : Int) ≤ (j : Int) := (by omega)
          have h3 : ¬ k ≤ j := (by omega)
          go_simp
        rcases i with _ | i
        · refine done_store rfl rfl ?_
          intro dn a8 w8 hS hd hx ho hn
          obtain ⟨_, n64, rfl, fa64⟩ := hn 9 64 (by kernel_rfl) rfl
          obtain ⟨_, n63, rfl, fa63⟩ := hn 8 63 (by kernel_rfl) rfl
          clear ho hn
          refine ⟨wanted_free rfl, ?_⟩
          have h10 : dn 10 = false := hd
          have hS2 : w8 = wr.drew := by { have h : w8 = pickR wr.drew W10 10 dn := hS; unfold pickR at h; rw [h10] at h; exact h }
          subst hS2
          clear hS
          obtain ⟨h1, f1⟩ := HXF.out
          refine ⟨W10, (by rw [← HW10.out]; go_simp), (by show W10 = pickR wr.drew W10 10 (upd dn 10); unfold pickR; rw [show upd dn 10 10 = true from rfl]; rfl), ⟨rfl, fun e => absurd e (by decide)⟩, fun j u _ _ h => ⟨h.1, fun e => by have := h.2 e; simp [upd, this]⟩⟩
        omega
      · intro done fv w5 hS5 hR5 hall
        obtain rfl : w5 = W10 := by
          have h : w5 = pickR wr.drew W10 10 done := hS5
          unfold pickR at h
          rw [hall 10 (by decide)] at h
          exact h
        simp only [putAll, List.foldl_cons, List.foldl_nil, Act.put, List.setIfInBounds_toArray, List.set_cons_succ, List.set_cons_zero]
        clear hR5 hS5 hall
        go_wp2
        exact ⟨⟨j + 1, L.set j y, by omega, by go_num, hLs, HB10.out, HO10.out, HK10.out⟩, by simp [intOf]; omega⟩
    · obtain rfl : k = j := by omega
      have cv1 := conv_reads c2 (Reads.of_own (own_stay P2.out hW))
      have cv2 := conv_reads c (RB.out wr hW)
      have htl := HTL.out
      have HWW := Lib.hid hW
      clear hB hO hW
      go_wp2
      go_ret
      exact ⟨rfl, HB2.out.trans (HWW.out.mono HB2.out.size)⟩
end
/-- As the end calls it. -/
theorem call {W : World} (A : Option Addr) (c : Nat) (l : List UInt8) (a : Arg W A c l) (w : World) (hw : W = w := by rfl) :
    Calls Try.prog 4 #[.slice A l.length c] w fun e w' => e = .returned (.bool true) ∧ Below w.heap.size w w' := by
  subst hw
  by_cases h : 9000 < l.length
  · exact walk_big A c l W h (Nat.le_trans a.cap a.big)
  · exact walk_small A c l W a (by omega)
end Go.Proofs.Ytpededkfgjmhcaa.tileReads

/-
  The walk of the statement RootBack: a root is read from its sector as it was; what is read of any bytes has these as its sector; one whose numbers at head and tail are unlike is none's.
-/
import Derived.Test.YtoiopoghcjkgcaaRtTorn
namespace Go.Proofs.Ytoiopoghcjkgcaa.rootBack
open Go.RowKit Go.Proofs.Ytoiopoghcjkgcaa.crc Go.Proofs.Ytoiopoghcjkgcaa.root

theorem cand_body {r : RV} (hok : okR r = true) (hf : r.Fine) (z : List UInt8) : candR (bodyR r ++ z) = r := by
  obtain ⟨h1, h2, h3⟩ := okR_iff.1 hok
  have e : bodyR r ++ z = [81, 82, 1, 0] ++ (be 8 r.n ++ (be 4 r.len.toNat ++ (be 4 r.sm ++ (List.replicate 96 0 ++ (four (sum (bitsB (headR r))) ++ z))))) := by
    show (headR r ++ four _) ++ z = _
    conv => lhs; arg 1; arg 1; unfold headR
    simp only [List.append_assoc]
  have d4 : ∀ s : List UInt8, ([81, 82, 1, 0] ++ s).drop 4 = s := fun s => rfl
  unfold candR
  rw [e, d4, List.take_left' (be_length ..), List.drop_left' (be_length ..), List.take_left' (be_length ..), List.drop_left' (be_length ..), List.take_left' (be_length ..)]
  rw [num_be, num_be, num_be, Nat.mod_eq_of_lt (show r.n < 256 ^ 8 from hf.n), Nat.mod_eq_of_lt (show r.len.toNat < 256 ^ 4 by omega), Nat.mod_eq_of_lt (show r.sm < 256 ^ 4 from hf.sm), Int.toNat_of_nonneg h2]
theorem good_tailed {r : RV} (hok : okR r = true) (hf : r.Fine) (t : Nat) (ht : t < 18446744073709551616) : goodR (bodyR r ++ be 8 t) = decide (t = r.n) := by
  by_cases h : t = r.n
  · subst h
    rw [decide_eq_true rfl]
    exact (good_sect hok hf).1
  · rw [decide_eq_false h]
    cases hg : goodR (bodyR r ++ be 8 t)
    · rfl
    · exfalso
      have h1 := good_tail hg
      rw [cand_body hok hf, List.drop_left' (bodyR_length r)] at h1
      have h2 := congrArg num h1
      rw [num_be, num_be, Nat.mod_eq_of_lt (show t < 256 ^ 8 from ht), Nat.mod_eq_of_lt (show r.n < 256 ^ 8 from hf.n)] at h2
      exact h h2
/-- What the loop has written. -/
def tailed (r : RV) (t k : Nat) : List UInt8 := bodyR r ++ ((be 8 t).take k ++ (be 8 r.n).drop k)
theorem tailed_zero (r : RV) (t : Nat) : tailed r t 0 = sectR r := rfl
theorem tailed_all (r : RV) (t : Nat) : tailed r t 8 = bodyR r ++ be 8 t := by
  unfold tailed
  rw [List.take_of_length_le (by rw [be_length]; omega), List.drop_eq_nil_of_le (by rw [be_length]; omega), List.append_nil]
theorem tailed_length (r : RV) (t k : Nat) (h : k ≤ 8) : (tailed r t k).length = 128 := by
  unfold tailed
  rw [List.length_append, List.length_append, bodyR_length, List.length_take, List.length_drop, be_length, be_length]
  omega
theorem be_at (size n k : Nat) (h : k < size) : (be size n)[k]? = some (lowByte n (size - 1 - k)) := by
  unfold be
  rw [List.getElem?_map, List.getElem?_range h]
  rfl
theorem tailed_set (r : RV) (t k : Nat) (h : k < 8) : (tailed r t k).set (120 + k) (lowByte t (7 - k)) = tailed r t (k + 1) := by
  have hl := tailed_length r t k (by omega)
  have hl1 := tailed_length r t (k + 1) (by omega)
  have hb := bodyR_length r
  apply List.ext_getElem?
  intro j
  have ht : ∀ m, m ≤ 8 → ((be 8 t).take m).length = m := fun m hm => by rw [List.length_take, be_length]; omega
  rw [List.getElem?_set]
  by_cases hj : j < 120
  · rw [if_neg (by omega)]
    unfold tailed
    rw [List.getElem?_append_left (by omega), List.getElem?_append_left (by omega)]
  · by_cases hj2 : j < 128
    · obtain ⟨i, rfl⟩ : ∃ i, j = 120 + i := ⟨j - 120, by omega⟩
      have at_ : ∀ m, m ≤ 8 → (tailed r t m)[120 + i]? = if i < m then some (lowByte t (7 - i)) else some (lowByte r.n (7 - i)) := fun m hm => by
        unfold tailed
        rw [List.getElem?_append_right (by omega), hb, show 120 + i - 120 = i by omega]
        by_cases him : i < m
        · rw [List.getElem?_append_left (by rw [ht m hm]; exact him), List.getElem?_take_of_lt him, be_at 8 t i (by omega), if_pos him]
        · rw [List.getElem?_append_right (by rw [ht m hm]; omega), ht m hm, List.getElem?_drop, show m + (i - m) = i by omega, be_at 8 r.n i (by omega), if_neg him]
      rw [at_ k (by omega), at_ (k + 1) (by omega), hl]
      by_cases hik : k = i
      · subst hik
        rw [if_pos rfl, if_pos (by omega), if_pos (by omega)]
      · rw [if_neg (by omega)]
        by_cases h2 : i < k
        · rw [if_pos h2, if_pos (by omega)]
        · rw [if_neg h2, if_neg (by omega)]
    · rw [if_neg (by omega), List.getElem?_eq_none (by omega), List.getElem?_eq_none (by omega)]

theorem own_store {w : World} {base e g n c j : Nat} {xs : List Value} (h : w.ownsRow base e 1 (.slice (some ⟨g, 0, none⟩) n c) n xs) (u : Value) : (w.setCell ⟨g, j, none⟩ u).ownsRow base e 1 (.slice (some ⟨g, 0, none⟩) n c) n (xs.set j u) := own_put h u

section
variable (r : RV) (A : Option Addr) (n c : Nat) (l : List UInt8) (t : Nat) (w : World)

set_option maxRecDepth 100000 in
set_option maxHeartbeats 4000000 in
theorem walk_big (h : 500 < n) :
    Calls Try.prog 4 #[rtv r, .slice A n c, .int .u64 t] w fun e w' => e = .returned (.bool true) ∧ Below w.heap.size w w' := by
  have hd : decide ((500 : Int) < (n : Int)) = true := decide_eq_true (by omega)
  have hb : Below w.heap.size w (w.alloc (.cells #[.int .u64 r.n, .int .i64 r.len, .int .u32 r.sm] 25)) := (Below.refl _ _).alloc (Nat.le_refl _) _
  have HA := Lib.hid (ralive_any (w.alloc (.cells #[.int .u64 r.n, .int .i64 r.len, .int .u32 r.sm] 25)))
  have HB := Lib.hid hb
  clear hb
  unfold rtv
  go_enter Try.func4, Try.ntmps4
  go_wp2_with (go_at_call 12; refine HA.out.mono ?_; rintro e w1 ⟨rfl, b1⟩; have B1 := Lib.hid b1; clear b1)
  go_ret
  exact ⟨rfl, HB.out.trans (B1.out.mono HB.out.size)⟩

/-- The end, from b's Decode on: as a goal for any world behind w. -/
theorem dec_enc (hl : l.length = n) : decErrR l = (if goodR l = true then 0 else 60) ∧ (goodR l = true → okR (candR l) = true ∧ sectR (candR l) = l ∧ n = 128) := by
  refine ⟨rfl, fun h => ?_⟩
  obtain ⟨h1, h2, h3⟩ := good_of h
  exact ⟨h2, h3, by omega⟩

set_option maxRecDepth 100000 in
set_option maxHeartbeats 4000000 in
theorem walk_small (hf : r.Fine) (hl : l.length = n) (hr : Reads w w.heap.size 1 A n (l.map bv)) (ht : t < 18446744073709551616) (h : n ≤ 500) :
    Calls Try.prog 4 #[rtv r, .slice A n c, .int .u64 t] w fun e w' => e = .returned (.bool true) ∧ Below w.heap.size w w' := by
  have hd : decide ((500 : Int) < (n : Int)) = false := decide_eq_false (by omega)
  obtain ⟨w0, hw0⟩ : ∃ w0, w.alloc (.cells #[.int .u64 r.n, .int .i64 r.len, .int .u32 r.sm] 25) = w0 := ⟨_, rfl⟩
  have hx : Blk w0 w.heap.size 25 #[.int .u64 r.n, .int .i64 r.len, .int .u32 r.sm] := by rw [← hw0]; exact Blk.new w _ _
  have hb0 : Below w.heap.size w w0 := by rw [← hw0]; exact (Below.refl _ _).alloc (Nat.le_refl _) _
  have XC : Hid (∀ W, Below w0.heap.size w0 W → W.cell? ⟨w.heap.size, 0, none⟩ = some (.int .u64 r.n) ∧ W.cell? ⟨w.heap.size, 1, none⟩ = some (.int .i64 r.len) ∧ W.cell? ⟨w.heap.size, 2, none⟩ = some (.int .u32 r.sm)) := Lib.hid (fun W h => by
    have hb := hx.below h hx.lt
    exact ⟨hb.cell 0, hb.cell 1, hb.cell 2⟩)
  have HA := Lib.hid (ralive_any w0)
  have EN := Lib.hid (fun W => rencode_any r W hf)
  have RB := Lib.hid (fun W (h : Below w0.heap.size w0 W) => ((hr.below (hb0.trans (h.mono hb0.size))).more (hb0.trans (h.mono hb0.size)).size))
  have DB := Lib.hid (fun W (h : Below w0.heap.size w0 W) => rdecode_any A c n l W hl (RB.out W h))
  have HB0 := Lib.hid hb0
  have HF := Lib.hid hf
  clear hx hb0 hr
  have HL := Lib.hid hl
  cases hg : goodR l
  · have hdr : decR l = noR ∧ decErrR l = 60 := by unfold decR decErrR; rw [hg]; exact ⟨rfl, rfl⟩
    rw [hdr.1, hdr.2] at DB
    clear hg hdr hl
    cases hok : okR r
    · have herr : errR r = 60 ∧ outR r = [] := by unfold errR outR; rw [hok]; exact ⟨rfl, rfl⟩
      rw [herr.1, herr.2] at EN
      clear herr hok hf ht
      unfold rtv at *
      go_enter Try.func4, Try.ntmps4
      go_wp2_with (first
              | (go_at_call 12; refine HA.out.mono ?_; rintro e w1 ⟨rfl, b1⟩; clear hw0; have K1 := Lib.hid b1; obtain ⟨x0, x1, x2⟩ := XC.out w1 b1; clear b1)
              | (go_at_call 6; (have l0 := K1.out; clear l0); refine (EN.out w1).mono ?_; rintro e w2 ⟨v, rfl, g⟩; obtain ⟨A2, c2, rfl, o2, b2⟩ := gives_len g rfl; have KE := Lib.hid (K1.out.trans (b2.mono K1.out.size)); clear K1 g o2 b2)
              | (go_at_call 8; (have l0 := KE.out; clear l0); refine (DB.out _ KE.out).mono ?_; rintro e wY ⟨rfl, bY⟩; have KY := Lib.hid ((KE.out.trans (bY.mono KE.out.size)).alloc ((KE.out.trans (bY.mono KE.out.size)).size) (.cells #[.int .u64 0, .int .i64 0, .int .u32 0] 25)); clear bY))
      go_ret
      exact ⟨rfl, HB0.out.trans (KY.out.mono HB0.out.size)⟩
    · have herr : errR r = 0 ∧ outR r = sectR r := by unfold errR outR; rw [hok]; exact ⟨rfl, rfl⟩
      rw [herr.1, herr.2] at EN
      have SL := Lib.hid (sectR_length r)
      have DS := Lib.hid (fun A c W h => rdecode_any A c 128 (sectR r) W (sectR_length r) h)
      have hds := dec_sect hok hf
      rw [hds.1, hds.2] at DS
      have GT := Lib.hid (good_tailed hok hf t ht)
      have DT := Lib.hid (fun A c W h => rdecode_any A c 128 (tailed r t 8) W (tailed_length r t 8 (by omega)) h)
      have HT := Lib.hid ht
      clear herr hok hf ht hds
      unfold rtv at *
      go_enter Try.func4, Try.ntmps4
      go_wp2_with (first
              | (go_at_call 12; refine HA.out.mono ?_; rintro e w1 ⟨rfl, b1⟩; clear hw0; have K1 := Lib.hid b1; obtain ⟨x0, x1, x2⟩ := XC.out w1 b1; clear b1)
              | (go_at_call 6; (have l0 := K1.out; clear l0); refine (EN.out w1).mono ?_; rintro e w2 ⟨v, rfl, g⟩; obtain ⟨A2, c2, rfl, o2, b2⟩ := gives_len g SL.out; have K2 := Lib.hid (K1.out.trans (b2.mono K1.out.size)); have O2 := Lib.hid o2; have N1 : Hid (w0.heap.size ≤ w1.heap.size) := Lib.hid K1.out.size; clear K1 g o2 b2)
              | (go_at_call 8; (have l0 := K2.out; clear l0); refine (DS.out A2 c2 w2 (Reads.of_own O2.out)).mono ?_; rintro e w3 ⟨rfl, b3⟩
                 have b3a := b3.alloc b3.size (.cells #[.int .u64 r.n, .int .i64 r.len, .int .u32 r.sm] 25)
                 have K3 := Lib.hid (K2.out.trans (b3a.mono K2.out.size)); have O3 := Lib.hid (own_stay O2.out b3a); obtain ⟨x0, x1, x2⟩ := XC.out _ K3.out; clear K2 O2 b3 b3a))
      obtain ⟨g2, hA2, hg2⟩ : ∃ g, A2 = some ⟨g, 0, none⟩ ∧ w1.heap.size ≤ g := by
        rcases O3.out.2 with ⟨_, h0⟩ | ⟨g, cap, cur, e, hb, _⟩
        · omega
        · injection e with e
          exact ⟨g, e, hb⟩
      subst hA2
      obtain ⟨w4, hw4⟩ : ∃ w4, w3.alloc (.cells #[.int .u64 r.n, .int .i64 r.len, .int .u32 r.sm] 25) = w4 := ⟨_, rfl⟩
      rw [hw4] at K3 O3 ⊢
      have HG2 := Lib.hid hg2
      clear hw4 x0 x1 x2 hg2
      go_loopw [12] (fun i wr => ∃ k : Nat, k ≤ 8 ∧ i = .int .i64 (k : Int) ∧ wr.ownsRow w1.heap.size 5 1 (.slice (some ⟨g2, 0, none⟩) 128 c2) 128 ((tailed r t k).map bv) ∧ Below w0.heap.size w0 wr) (fun i _ => 8 - (intOf i).toNat)
      case atStart => exact ⟨0, by omega, rfl, O3.out, K3.out⟩
      case round =>
        obtain ⟨k, hk, rfl, hO, hB⟩ := hrel
        by_cases hlt : k < 8
        · have hst := tailed_set r t k hlt
          obtain ⟨M0, hM0⟩ : ∃ M, tailed r t k = M := ⟨_, rfl⟩
          obtain ⟨M1, hM1⟩ : ∃ M, tailed r t (k + 1) = M := ⟨_, rfl⟩
          rw [hM0, hM1] at hst
          rw [hM0] at hO
          have hMl : M0.length = 128 := by rw [← hM0]; exact tailed_length r t k hk
          obtain ⟨y, hy⟩ : ∃ y, M0[120 + k]? = some y := ⟨_, List.getElem?_eq_getElem (by omega)⟩
          have hc := own_at hO (j := 120 + k) (v := bv y) (by rw [List.getElem?_map, hy]; rfl)
          have hO2 := own_store hO (j := 120 + k) (bv (lowByte t (7 - k)))
          rw [← List.map_set, hst] at hO2
          obtain ⟨p, hp⟩ : ∃ p, 120 + k = p := ⟨_, rfl⟩
          rw [hp] at hc hO2
          obtain ⟨c0, f0⟩ := hc
          obtain ⟨sh, hsh⟩ : ∃ sh, 56 - 8 * k = sh := ⟨_, rfl⟩
          obtain ⟨lv, hlv⟩ : ∃ lv : Int, ((lowByte t (7 - k)).toNat : Int) = lv := ⟨_, rfl⟩
          have hlb : bv (lowByte t (7 - k)) = .int .u8 lv := by rw [← hlv]; rfl
          rw [hlb] at hO2
          have e1 : (120 : Int) + (k : Int) = (p : Int) := by omega
          have e2 : (56 : Int) - 8 * (k : Int) = (sh : Int) := by omega
          have e3 : IntKind.u64.wrap (sh : Int) = (sh : Int) := by rw [wrap_u64]; omega
          have e4 : IntKind.u8.wrap ((t : Int) / 2 ^ sh) = lv := by
            have h0 : (.int .u8 ((t : Int) / 256 ^ (7 - k) % 256) : Value) = .int .u8 lv := by rw [← bv_low]; exact hlb
            injection h0 with _ h0
            rw [← h0, ← hsh]
            have h8 : (2 : Int) ^ (56 - 8 * k) = 256 ^ (7 - k) := by
              rw [show 56 - 8 * k = 8 * (7 - k) by omega, Int.pow_mul]
              rfl
            rw [h8]
            unfold IntKind.wrap
            simp [IntKind.signed, IntKind.bits]
          have hp1 : 120 ≤ p ∧ p < 128 := by omega
          have HO2 := Lib.hid hO2
          have HB := Lib.hid hB
          have HM1 := Lib.hid hM1
          have hge : w0.heap.size ≤ g2 := Nat.le_trans N1.out HG2.out
          have HGE := Lib.hid hge
          have HLT := Lib.hid hlt
          have HP := Lib.hid hp
          clear hM0 hM1 hst hMl hy hO hO2 hB hp hsh hlb hlv hge hk
          go_wp2
          refine ⟨⟨k + 1, by have := HLT.out; omega, by go_num, by rw [HM1.out]; exact HO2.out, HB.out.setCell (by show w0.heap.size ≤ g2; exact HGE.out) _⟩, by have := HLT.out; simp [intOf]; omega⟩
        · obtain rfl : k = 8 := by omega
          have hgt := GT.out
          rw [← tailed_all] at hgt
          have HDT : Hid (Calls Try.prog 8 #[.slice (some ⟨g2, 0, none⟩) 128 c2] wr fun e w' => e = .returned (.tuple #[rtv (decR (tailed r t 8)), .int .i64 (if goodR (tailed r t 8) = true then 0 else 60)]) ∧ Below wr.heap.size wr w') := Lib.hid (DT.out (some ⟨g2, 0, none⟩) c2 wr (Reads.of_own hO))
          rw [hgt] at HDT
          obtain ⟨⟨un, ul, us⟩, hu⟩ : ∃ u, decR (tailed r t 8) = u := ⟨_, rfl⟩
          rw [hu] at HDT
          have KR := Lib.hid hB
          obtain ⟨x0, x1, x2⟩ := XC.out wr hB
          have hlt8 : ¬ ((8 : Nat) : Int) < 8 := by omega
          unfold rtv at HDT
          clear hgt hu hO hB hk hlt
          by_cases htn : t = r.n
          · have heq : ((t : Int) == (r.n : Int)) = true := by rw [beq_iff_eq]; omega
            rw [decide_eq_true htn] at HDT
            simp only [if_true] at HDT
            clear htn
            go_wp2_with (first
              | (go_at_call 8; (have l0 := KR.out; clear l0); refine HDT.out.mono ?_; rintro e w5 ⟨rfl, b5⟩; have k5 := (KR.out.trans (b5.mono KR.out.size)).alloc ((KR.out.trans (b5.mono KR.out.size)).size) (.cells #[.int .u64 un, .int .i64 ul, .int .u32 us] 25); obtain ⟨x0, x1, x2⟩ := XC.out _ k5; have KE := Lib.hid k5; clear KR b5 k5)
              | (go_at_call 8; (have l0 := KE.out; clear l0); refine (DB.out _ KE.out).mono ?_; rintro e wY ⟨rfl, bY⟩; have KY := Lib.hid ((KE.out.trans (bY.mono KE.out.size)).alloc ((KE.out.trans (bY.mono KE.out.size)).size) (.cells #[.int .u64 0, .int .i64 0, .int .u32 0] 25)); clear bY))
            go_ret
            exact ⟨rfl, HB0.out.trans (KY.out.mono HB0.out.size)⟩
          · have heq : ((t : Int) == (r.n : Int)) = false := by rw [beq_eq_false_iff_ne]; omega
            rw [decide_eq_false htn] at HDT
            simp only [Bool.false_eq_true, if_false] at HDT
            clear htn
            go_wp2_with (first
              | (go_at_call 8; (have l0 := KR.out; clear l0); refine HDT.out.mono ?_; rintro e w5 ⟨rfl, b5⟩; have k5 := (KR.out.trans (b5.mono KR.out.size)).alloc ((KR.out.trans (b5.mono KR.out.size)).size) (.cells #[.int .u64 un, .int .i64 ul, .int .u32 us] 25); obtain ⟨x0, x1, x2⟩ := XC.out _ k5; have KE := Lib.hid k5; clear KR b5 k5)
              | (go_at_call 8; (have l0 := KE.out; clear l0); refine (DB.out _ KE.out).mono ?_; rintro e wY ⟨rfl, bY⟩; have KY := Lib.hid ((KE.out.trans (bY.mono KE.out.size)).alloc ((KE.out.trans (bY.mono KE.out.size)).size) (.cells #[.int .u64 0, .int .i64 0, .int .u32 0] 25)); clear bY))
            go_ret
            exact ⟨rfl, HB0.out.trans (KY.out.mono HB0.out.size)⟩
  · obtain ⟨T, hT⟩ : ∃ T, candR l = T := ⟨_, rfl⟩
    have hdr : decR l = T ∧ decErrR l = 0 := by unfold decR decErrR; rw [hg, hT]; exact ⟨rfl, rfl⟩
    obtain ⟨q1, q2, q3⟩ := good_of hg
    have hTf := candR_fine l
    rw [hT] at q2 q3 hTf
    have ET : Hid (∀ W, Calls Try.prog 6 #[rtv T] W fun e w' => ∃ v, e = .returned (.tuple #[v, .int .i64 0]) ∧ Gives W w' v l) := Lib.hid (fun W => by
      have h := rencode_any T W hTf
      have he : errR T = 0 ∧ outR T = l := by unfold errR outR; rw [q2]; exact ⟨rfl, q3⟩
      rw [he.1, he.2] at h
      exact h)
    rw [hdr.1, hdr.2] at DB
    have ll : (l == l) = true := by simp
    clear hg hdr hl hT q1 q2 q3 hTf
    cases hok : okR r
    · have herr : errR r = 60 ∧ outR r = [] := by unfold errR outR; rw [hok]; exact ⟨rfl, rfl⟩
      rw [herr.1, herr.2] at EN
      clear herr hok hf ht
      unfold rtv at *
      go_enter Try.func4, Try.ntmps4
      go_wp2_with (first
              | (go_at_call 12; refine HA.out.mono ?_; rintro e w1 ⟨rfl, b1⟩; clear hw0; have K1 := Lib.hid b1; obtain ⟨x0, x1, x2⟩ := XC.out w1 b1; clear b1)
              | (go_at_call 6; (have l0 := K1.out; clear l0); refine (EN.out w1).mono ?_; rintro e w2 ⟨v, rfl, g⟩; obtain ⟨A2, c2, rfl, o2, b2⟩ := gives_len g rfl; have KE := Lib.hid (K1.out.trans (b2.mono K1.out.size)); clear K1 g o2 b2)
              | (go_at_call 8; (have l0 := KE.out; clear l0); refine (DB.out _ KE.out).mono ?_; rintro e wY ⟨rfl, bY⟩; have KY := Lib.hid ((KE.out.trans (bY.mono KE.out.size)).alloc ((KE.out.trans (bY.mono KE.out.size)).size) (.cells #[.int .u64 T.n, .int .i64 T.len, .int .u32 T.sm] 25)); clear KE bY)
              | (go_at_call 6; (have l0 := KY.out; clear l0); refine (ET.out _).mono ?_; rintro e wZ ⟨v, rfl, g⟩; obtain ⟨A9, c9, rfl, o9, b9⟩ := gives_len g HL.out; have kz := KY.out.trans (b9.mono KY.out.size); have KZ := Lib.hid kz; have cva := conv_reads c9 (Reads.of_own o9); have cvb := conv_reads c (RB.out _ kz); clear g o9 b9 kz))
      go_ret
      exact ⟨rfl, HB0.out.trans (KZ.out.mono HB0.out.size)⟩
    · have herr : errR r = 0 ∧ outR r = sectR r := by unfold errR outR; rw [hok]; exact ⟨rfl, rfl⟩
      rw [herr.1, herr.2] at EN
      have SL := Lib.hid (sectR_length r)
      have DS := Lib.hid (fun A c W h => rdecode_any A c 128 (sectR r) W (sectR_length r) h)
      have hds := dec_sect hok hf
      rw [hds.1, hds.2] at DS
      have GT := Lib.hid (good_tailed hok hf t ht)
      have DT := Lib.hid (fun A c W h => rdecode_any A c 128 (tailed r t 8) W (tailed_length r t 8 (by omega)) h)
      have HT := Lib.hid ht
      clear herr hok hf ht hds
      unfold rtv at *
      go_enter Try.func4, Try.ntmps4
      go_wp2_with (first
              | (go_at_call 12; refine HA.out.mono ?_; rintro e w1 ⟨rfl, b1⟩; clear hw0; have K1 := Lib.hid b1; obtain ⟨x0, x1, x2⟩ := XC.out w1 b1; clear b1)
              | (go_at_call 6; (have l0 := K1.out; clear l0); refine (EN.out w1).mono ?_; rintro e w2 ⟨v, rfl, g⟩; obtain ⟨A2, c2, rfl, o2, b2⟩ := gives_len g SL.out; have K2 := Lib.hid (K1.out.trans (b2.mono K1.out.size)); have O2 := Lib.hid o2; have N1 : Hid (w0.heap.size ≤ w1.heap.size) := Lib.hid K1.out.size; clear K1 g o2 b2)
              | (go_at_call 8; (have l0 := K2.out; clear l0); refine (DS.out A2 c2 w2 (Reads.of_own O2.out)).mono ?_; rintro e w3 ⟨rfl, b3⟩
                 have b3a := b3.alloc b3.size (.cells #[.int .u64 r.n, .int .i64 r.len, .int .u32 r.sm] 25)
                 have K3 := Lib.hid (K2.out.trans (b3a.mono K2.out.size)); have O3 := Lib.hid (own_stay O2.out b3a); obtain ⟨x0, x1, x2⟩ := XC.out _ K3.out; clear K2 O2 b3 b3a))
      obtain ⟨g2, hA2, hg2⟩ : ∃ g, A2 = some ⟨g, 0, none⟩ ∧ w1.heap.size ≤ g := by
        rcases O3.out.2 with ⟨_, h0⟩ | ⟨g, cap, cur, e, hb, _⟩
        · omega
        · injection e with e
          exact ⟨g, e, hb⟩
      subst hA2
      obtain ⟨w4, hw4⟩ : ∃ w4, w3.alloc (.cells #[.int .u64 r.n, .int .i64 r.len, .int .u32 r.sm] 25) = w4 := ⟨_, rfl⟩
      rw [hw4] at K3 O3 ⊢
      have HG2 := Lib.hid hg2
      clear hw4 x0 x1 x2 hg2
      go_loopw [12] (fun i wr => ∃ k : Nat, k ≤ 8 ∧ i = .int .i64 (k : Int) ∧ wr.ownsRow w1.heap.size 5 1 (.slice (some ⟨g2, 0, none⟩) 128 c2) 128 ((tailed r t k).map bv) ∧ Below w0.heap.size w0 wr) (fun i _ => 8 - (intOf i).toNat)
      case atStart => exact ⟨0, by omega, rfl, O3.out, K3.out⟩
      case round =>
        obtain ⟨k, hk, rfl, hO, hB⟩ := hrel
        by_cases hlt : k < 8
        · have hst := tailed_set r t k hlt
          obtain ⟨M0, hM0⟩ : ∃ M, tailed r t k = M := ⟨_, rfl⟩
          obtain ⟨M1, hM1⟩ : ∃ M, tailed r t (k + 1) = M := ⟨_, rfl⟩
          rw [hM0, hM1] at hst
          rw [hM0] at hO
          have hMl : M0.length = 128 := by rw [← hM0]; exact tailed_length r t k hk
          obtain ⟨y, hy⟩ : ∃ y, M0[120 + k]? = some y := ⟨_, List.getElem?_eq_getElem (by omega)⟩
          have hc := own_at hO (j := 120 + k) (v := bv y) (by rw [List.getElem?_map, hy]; rfl)
          have hO2 := own_store hO (j := 120 + k) (bv (lowByte t (7 - k)))
          rw [← List.map_set, hst] at hO2
          obtain ⟨p, hp⟩ : ∃ p, 120 + k = p := ⟨_, rfl⟩
          rw [hp] at hc hO2
          obtain ⟨c0, f0⟩ := hc
          obtain ⟨sh, hsh⟩ : ∃ sh, 56 - 8 * k = sh := ⟨_, rfl⟩
          obtain ⟨lv, hlv⟩ : ∃ lv : Int, ((lowByte t (7 - k)).toNat : Int) = lv := ⟨_, rfl⟩
          have hlb : bv (lowByte t (7 - k)) = .int .u8 lv := by rw [← hlv]; rfl
          rw [hlb] at hO2
          have e1 : (120 : Int) + (k : Int) = (p : Int) := by omega
          have e2 : (56 : Int) - 8 * (k : Int) = (sh : Int) := by omega
          have e3 : IntKind.u64.wrap (sh : Int) = (sh : Int) := by rw [wrap_u64]; omega
          have e4 : IntKind.u8.wrap ((t : Int) / 2 ^ sh) = lv := by
            have h0 : (.int .u8 ((t : Int) / 256 ^ (7 - k) % 256) : Value) = .int .u8 lv := by rw [← bv_low]; exact hlb
            injection h0 with _ h0
            rw [← h0, ← hsh]
            have h8 : (2 : Int) ^ (56 - 8 * k) = 256 ^ (7 - k) := by
              rw [show 56 - 8 * k = 8 * (7 - k) by omega, Int.pow_mul]
              rfl
            rw [h8]
            unfold IntKind.wrap
            simp [IntKind.signed, IntKind.bits]
          have hp1 : 120 ≤ p ∧ p < 128 := by omega
          have HO2 := Lib.hid hO2
          have HB := Lib.hid hB
          have HM1 := Lib.hid hM1
          have hge : w0.heap.size ≤ g2 := Nat.le_trans N1.out HG2.out
          have HGE := Lib.hid hge
          have HLT := Lib.hid hlt
          have HP := Lib.hid hp
          clear hM0 hM1 hst hMl hy hO hO2 hB hp hsh hlb hlv hge hk
          go_wp2
          refine ⟨⟨k + 1, by have := HLT.out; omega, by go_num, by rw [HM1.out]; exact HO2.out, HB.out.setCell (by show w0.heap.size ≤ g2; exact HGE.out) _⟩, by have := HLT.out; simp [intOf]; omega⟩
        · obtain rfl : k = 8 := by omega
          have hgt := GT.out
          rw [← tailed_all] at hgt
          have HDT : Hid (Calls Try.prog 8 #[.slice (some ⟨g2, 0, none⟩) 128 c2] wr fun e w' => e = .returned (.tuple #[rtv (decR (tailed r t 8)), .int .i64 (if goodR (tailed r t 8) = true then 0 else 60)]) ∧ Below wr.heap.size wr w') := Lib.hid (DT.out (some ⟨g2, 0, none⟩) c2 wr (Reads.of_own hO))
          rw [hgt] at HDT
          obtain ⟨⟨un, ul, us⟩, hu⟩ : ∃ u, decR (tailed r t 8) = u := ⟨_, rfl⟩
          rw [hu] at HDT
          have KR := Lib.hid hB
          obtain ⟨x0, x1, x2⟩ := XC.out wr hB
          have hlt8 : ¬ ((8 : Nat) : Int) < 8 := by omega
          unfold rtv at HDT
          clear hgt hu hO hB hk hlt
          by_cases htn : t = r.n
          · have heq : ((t : Int) == (r.n : Int)) = true := by rw [beq_iff_eq]; omega
            rw [decide_eq_true htn] at HDT
            simp only [if_true] at HDT
            clear htn
            go_wp2_with (first
              | (go_at_call 8; (have l0 := KR.out; clear l0); refine HDT.out.mono ?_; rintro e w5 ⟨rfl, b5⟩; have k5 := (KR.out.trans (b5.mono KR.out.size)).alloc ((KR.out.trans (b5.mono KR.out.size)).size) (.cells #[.int .u64 un, .int .i64 ul, .int .u32 us] 25); obtain ⟨x0, x1, x2⟩ := XC.out _ k5; have KE := Lib.hid k5; clear KR b5 k5)
              | (go_at_call 8; (have l0 := KE.out; clear l0); refine (DB.out _ KE.out).mono ?_; rintro e wY ⟨rfl, bY⟩; have KY := Lib.hid ((KE.out.trans (bY.mono KE.out.size)).alloc ((KE.out.trans (bY.mono KE.out.size)).size) (.cells #[.int .u64 T.n, .int .i64 T.len, .int .u32 T.sm] 25)); clear KE bY)
              | (go_at_call 6; (have l0 := KY.out; clear l0); refine (ET.out _).mono ?_; rintro e wZ ⟨v, rfl, g⟩; obtain ⟨A9, c9, rfl, o9, b9⟩ := gives_len g HL.out; have kz := KY.out.trans (b9.mono KY.out.size); have KZ := Lib.hid kz; have cva := conv_reads c9 (Reads.of_own o9); have cvb := conv_reads c (RB.out _ kz); clear g o9 b9 kz))
            go_ret
            exact ⟨rfl, HB0.out.trans (KZ.out.mono HB0.out.size)⟩
          · have heq : ((t : Int) == (r.n : Int)) = false := by rw [beq_eq_false_iff_ne]; omega
            rw [decide_eq_false htn] at HDT
            simp only [Bool.false_eq_true, if_false] at HDT
            clear htn
            go_wp2_with (first
              | (go_at_call 8; (have l0 := KR.out; clear l0); refine HDT.out.mono ?_; rintro e w5 ⟨rfl, b5⟩; have k5 := (KR.out.trans (b5.mono KR.out.size)).alloc ((KR.out.trans (b5.mono KR.out.size)).size) (.cells #[.int .u64 un, .int .i64 ul, .int .u32 us] 25); obtain ⟨x0, x1, x2⟩ := XC.out _ k5; have KE := Lib.hid k5; clear KR b5 k5)
              | (go_at_call 8; (have l0 := KE.out; clear l0); refine (DB.out _ KE.out).mono ?_; rintro e wY ⟨rfl, bY⟩; have KY := Lib.hid ((KE.out.trans (bY.mono KE.out.size)).alloc ((KE.out.trans (bY.mono KE.out.size)).size) (.cells #[.int .u64 T.n, .int .i64 T.len, .int .u32 T.sm] 25)); clear KE bY)
              | (go_at_call 6; (have l0 := KY.out; clear l0); refine (ET.out _).mono ?_; rintro e wZ ⟨v, rfl, g⟩; obtain ⟨A9, c9, rfl, o9, b9⟩ := gives_len g HL.out; have kz := KY.out.trans (b9.mono KY.out.size); have KZ := Lib.hid kz; have cva := conv_reads c9 (Reads.of_own o9); have cvb := conv_reads c (RB.out _ kz); clear g o9 b9 kz))
            go_ret
            exact ⟨rfl, HB0.out.trans (KZ.out.mono HB0.out.size)⟩
/-- As the end calls it. -/
theorem call {W : World} (r : RV) (hf : r.Fine) (A : Option Addr) (c : Nat) (l : List UInt8) (a : Arg W A c l) (t : Nat) (ht : t < 18446744073709551616) (w : World) (hw : W = w := by rfl) :
    Calls Try.prog 4 #[rtv r, .slice A l.length c, .int .u64 t] w fun e w' => e = .returned (.bool true) ∧ Below w.heap.size w w' := by
  subst hw
  by_cases h : 500 < l.length
  · exact walk_big r A _ c t W h
  · exact walk_small r A _ c l t W hf rfl a.reads ht (by omega)
end
end Go.Proofs.Ytoiopoghcjkgcaa.rootBack

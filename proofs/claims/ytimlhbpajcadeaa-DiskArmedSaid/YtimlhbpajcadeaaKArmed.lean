/-
  The statement DiskArmed: a disk that is armed beside one that is not.
-/
import Derived.Test.YtimlhbpajcadeaaKOrder
import Derived.Test.YtimlhbpajcadeaaKArm
namespace Go.Proofs.Ytimlhbpajcadeaa
open Go.RowKit Go.Maps

/-- A disk that is up: S stays, C waits, behind m writes; and one that is armed besides, r writes ahead. -/
def pl6 (S C : List (List UInt8)) (m : Int) : RSt := ⟨S, C, 0, [], 0, 0, m, false⟩
def ar6 (S C : List (List UInt8)) (m r : Int) (c : DCrash) : RSt := ⟨S, C, r, c.keep, c.torn, c.at_, m, false⟩
theorem pl6_new : newSt 6 = pl6 (List.replicate 6 (List.replicate 128 0)) (List.replicate 6 []) 0 := rfl
theorem ar6_new (c : DCrash) (h : ¬ c.write < 1) : armSt3 (newSt 6) c = ar6 (List.replicate 6 (List.replicate 128 0)) (List.replicate 6 []) 0 c.write c := by
  unfold armSt3
  rw [if_neg h]
  rfl
theorem flush6 (S C : List (List UInt8)) (m r : Int) (c : DCrash) : ∃ S' C', flushK (pl6 S C m) = pl6 S' C' m ∧ flushK (ar6 S C m r c) = ar6 S' C' m r c ∧ S'.length = S.length :=
  ⟨mixL (pl6 S C m) (fun _ => true) (fun k => C.getD k []), List.replicate S.length [], rfl, rfl, mixL_length _ _ _⟩
theorem write_pair (S C : List (List UInt8)) (m r a : Int) (c : DCrash) (l : List UInt8) (n0 : Int) (hr : 1 ≤ r) :
    (writeErr (pl6 S C m) a l = 30 ∧ writeErr (ar6 S C m r c) a l = 30 ∧ writeK (pl6 S C m) a l = pl6 S C m ∧ writeK (ar6 S C m r c) a l = ar6 S C m r c) ∨
    (∃ C', writeErr (pl6 S C m) a l = 0 ∧ writeK (pl6 S C m) a l = pl6 S C' (m + 1) ∧
      ((2 ≤ r ∧ writeErr (ar6 S C m r c) a l = 0 ∧ writeK (ar6 S C m r c) a l = ar6 S C' (m + 1) (r - 1) c) ∨
       (r = 1 ∧ writeErr (ar6 S C m r c) a l = 31 ∧ writeK (ar6 S C m r c) a l = downK (pl6 S C' (m + 1)) ⟨n0, c.keep, c.torn, c.at_⟩))) := by
  by_cases h : takes3 (pl6 S C m) a l.length = true
  · have h2 : takes3 (ar6 S C m r c) a l.length = true := h
    refine .inr ⟨C.set a.toNat l, ?_, ?_, ?_⟩
    · unfold writeErr
      rw [if_neg (by simp [pl6]), if_pos h, if_neg (by simp [pl6])]
    · unfold writeK
      rw [if_neg (by simp [pl6]), if_pos h, if_pos (by simp [pl6])]
      rfl
    · by_cases h1 : r = 1
      · subst h1
        refine .inr ⟨rfl, ?_, ?_⟩
        · unfold writeErr
          rw [if_neg (by simp [ar6]), if_pos h2, if_pos (by simp [ar6])]
        · unfold writeK
          rw [if_neg (by simp [ar6]), if_pos h2, if_neg (by simp [ar6]), if_pos (by simp [ar6])]
          rfl
      · refine .inl ⟨by omega, ?_, ?_⟩
        · unfold writeErr
          rw [if_neg (by simp [ar6]), if_pos h2, if_neg (by simpa [ar6] using h1)]
        · unfold writeK
          rw [if_neg (by simp [ar6]), if_pos h2, if_neg (by show ¬ r = 0; omega), if_neg (by simpa [ar6] using h1)]
          rfl
  · have h2 : ¬ takes3 (ar6 S C m r c) a l.length = true := h
    refine .inl ⟨?_, ?_, ?_, ?_⟩
    · unfold writeErr
      rw [if_neg (by simp [pl6]), if_neg h]
    · unfold writeErr
      rw [if_neg (by simp [ar6]), if_neg h2]
    · unfold writeK
      rw [if_neg (by simp [pl6]), if_neg h]
    · unfold writeK
      rw [if_neg (by simp [ar6]), if_neg h2]

/-- Two disks that none can tell apart, but for what is armed. -/
structure Same (sa sb : RSt) (up : Bool) : Prop where
  a : (!sa.down) = up
  b : (!sb.down) = up
  many : sa.many = sb.many
  waits : waits3 sa = waits3 sb
  few : (waits3 sa).length ≤ 6
  ea : ∀ k : Nat, k < 6 → readErr3 (bootSt sa) (k : Int) = 0
  eb : ∀ k : Nat, k < 6 → readErr3 (bootSt sb) (k : Int) = 0
  out : ∀ k : Int, readOut3 (bootSt sa) k = readOut3 (bootSt sb) k
theorem boot_err {s : RSt} {k : Nat} (hs : s.stays.length = 6) (hk : k < 6) : readErr3 (bootSt s) (k : Int) = 0 := by
  have h : has3 (bootSt s) (k : Int) = true := by
    unfold has3
    have : (bootSt s).stays.length = 6 := hs
    rw [this]
    simpa using by omega
  unfold readErr3
  rw [if_neg (by simp [bootSt]), if_pos h]
theorem waits_few {s : RSt} (hs : s.stays.length = 6) : (waits3 s).length ≤ 6 := by
  unfold waits3
  rw [hs]
  exact waitsTo_length s 6
theorem waitsTo_same (sa sb : RSt) (h : sa.cache = sb.cache) : ∀ k, waitsTo sa k = waitsTo sb k
  | 0 => rfl
  | k + 1 => by
    unfold waitsTo
    rw [waitsTo_same sa sb h k, h]
theorem same_up (S C : List (List UInt8)) (m r : Int) (c : DCrash) (hS : S.length = 6) : Same (ar6 S C m r c) (pl6 S C m) true :=
  ⟨rfl, rfl, rfl, waitsTo_same (ar6 S C m r c) (pl6 S C m) rfl _, waits_few hS, fun _ hk => boot_err hS hk, fun _ hk => boot_err hS hk, fun _ => rfl⟩
theorem same_down (S C : List (List UInt8)) (m : Int) (c : DCrash) (hS : S.length = 6) : Same (downK (pl6 S C m) c) (downK (pl6 S C m) c) false := by
  have hl : (downK (pl6 S C m) c).stays.length = 6 := by
    show (mixL _ _ _).length = 6
    rw [mixL_length]
    exact hS
  exact ⟨rfl, rfl, rfl, rfl, waits_few hl, fun _ hk => boot_err hl hk, fun _ hk => boot_err hl hk, fun _ => rfl⟩

/-- The two disks, and the crash in its box. -/
structure AI (W : World) (dA dB : DAt) (wr : World) (X : Array Value) (sa sb : RSt) : Prop where
  la : Lives W.heap.size W wr dA sa
  lb : Lives W.heap.size W wr dB sb
  box : Blk wr W.heap.size 36 X
structure Apart2 (W : World) (dA dB : DAt) : Prop where
  d : ∀ k, dA.foot k → ¬ dB.foot k
  a : ¬ dA.foot W.heap.size
  b : ¬ dB.foot W.heap.size

section
variable {W wr w' : World} {dA dB : DAt} {X : Array Value} {sa sb s' : RSt}
theorem AI.next (h : AI W dA dB wr X sa sb) (hb : Below wr.heap.size wr w') : AI W dA dB w' X sa sb :=
  ⟨h.la.next h.la.lt hb, h.lb.next h.lb.lt hb, h.box.below hb h.box.lt⟩
theorem AI.callA (h : AI W dA dB wr X sa sb) (P : Apart2 W dA dB) (hk : Keep dA.foot wr w') (hl : Lives W.heap.size W w' dA s') : AI W dA dB w' X s' sb :=
  ⟨hl, h.lb.other h.la (fun k h1 h2 => P.d k h2 h1) hk (fun _ h => h), hk.blk h.box P.a⟩
theorem AI.callB (h : AI W dA dB wr X sa sb) (P : Apart2 W dA dB) (hk : Keep dB.foot wr w') (hl : Lives W.heap.size W w' dB s') : AI W dA dB w' X sa s' :=
  ⟨h.la.other h.lb P.d hk (fun _ h => h), hl, hk.blk h.box P.b⟩
end

set_option maxRecDepth 100000 in
set_option maxHeartbeats 4000000 in
theorem armed_walk (A : Option Addr) (n c : Nat) (l : List DOp) (wn : Nat) (hwn : wn < 256) (cr : DCrash) (KA : Option Addr) (Kc : Nat) (W : World) (H : DOps W W.heap.size A n l) (hn : n ≤ 9223372036854775807) (hf : cr.Fine) (hk : Sl W W.heap.size KA Kc (cr.keep.map iv)) :
    Calls Try.prog 7 #[.slice A n c, .int .u8 (wn : Int), .agg #[.int .i64 cr.write, .slice KA cr.keep.length Kc, .int .i64 cr.torn, .int .i64 cr.at_]] W fun e w' => e = .returned (.bool true) ∧ Below W.heap.size W w' := by
  obtain ⟨X, hX⟩ : ∃ X, (#[.int .i64 cr.write, .slice KA cr.keep.length Kc, .int .i64 cr.torn, .int .i64 cr.at_] : Array Value) = X := ⟨_, rfl⟩
  obtain ⟨W1, hW1⟩ : ∃ W1, W.alloc (.cells X 36) = W1 := ⟨_, rfl⟩
  have hB1 : Below W.heap.size W W1 := by rw [← hW1]; exact (Below.refl _ W).alloc (Nat.le_refl _) _
  have hN1 : Blk W1 W.heap.size 36 X := by rw [← hW1]; exact Blk.new W _ _
  rw [hX]
  have HB1 := Lib.hid hB1
  have HN1 := Lib.hid hN1
  have HX := Lib.hid hX
  have HH := Lib.hid H
  have HK := Lib.hid hk
  have HF := Lib.hid hf
  have hal := alive_any W1
  have HGA : Hid (∀ w', Below W.heap.size W w' → Calls Try.prog 8 #[.slice A n c] w' fun e w2 => e = .returned (.bool (dgreat l)) ∧ w' = w2) := Lib.hid (fun w' hb => dgreat_any A c n l w' ((H.below hb).more hb.size) hn)
  have HAL := Lib.hid hal
  clear hal H hk hB1 hN1 hX hf
  generalize hkl : cr.keep.length = kl at *
  by_cases hg : dgreat l = true
  · rw [hg] at HGA
    clear hg
    go_enter Try.func7, Try.ntmps7
    go_wp2_with (first
      | (go_at_call 27; refine HAL.out.mono ?_; rintro e w1 ⟨rfl, b0⟩; have HB := Lib.hid (HB1.out.trans (b0.mono HB1.out.size)); clear b0)
      | (go_at_call 8; refine (HGA.out w1 HB.out).mono ?_; rintro e _ ⟨rfl, rfl⟩))
    go_ret
    exact ⟨rfl, HB.out⟩
  · have hg' : dgreat l = false := by simpa using hg
    rw [hg'] at HGA
    have hn200 : n ≤ 200 := by
      unfold dgreat at hg'
      rw [Bool.or_eq_false_iff, decide_eq_false_iff_not] at hg'
      have := HH.out.1
      omega
    clear hg hg'
    have HL1 : Hid (∀ w1, Below W1.heap.size W1 w1 → w1.cell? ⟨W.heap.size, 1, none⟩ = some (.slice KA kl Kc)) := Lib.hid (fun w1 b0 => ((HN1.out.below b0 HN1.out.lt).cell 1).trans (by rw [← HX.out]; rfl))
    by_cases h100 : 100 < kl
    · go_enter Try.func7, Try.ntmps7
      go_wp2_with (first
        | (go_at_call 27; refine HAL.out.mono ?_; rintro e w1 ⟨rfl, b0⟩; have HB := Lib.hid (HB1.out.trans (b0.mono HB1.out.size)); have c1 := HL1.out w1 b0; clear b0)
        | (go_at_call 8; refine (HGA.out w1 HB.out).mono ?_; rintro e _ ⟨rfl, rfl⟩))
      go_ret
      exact ⟨rfl, HB.out⟩
    · have L0 : Hid True := Lib.hid trivial
      have hXX := HX.out
      subst hXX
      obtain ⟨nn, hnn, hn1, hn40⟩ : ∃ nn : Nat, (1 : Int) + (wn : Int) % 40 = (nn : Int) ∧ 1 ≤ nn ∧ nn ≤ 40 := ⟨1 + wn % 40, by omega, by omega, by omega⟩
      have hfi : Hid ((⟨(nn : Int), cr.keep, cr.torn, cr.at_⟩ : DCrash).Fine) := Lib.hid ⟨⟨by show (-9223372036854775808 : Int) ≤ (nn : Int); omega, by show (nn : Int) ≤ 9223372036854775807; omega⟩, HF.out.t, HF.out.a, HF.out.k⟩
      have hae : Hid (armErr3 ⟨(nn : Int), cr.keep, cr.torn, cr.at_⟩ = 0) := Lib.hid (by unfold armErr3; rw [if_neg (by show ¬ (nn : Int) < 1; omega)])
      have has : Hid (armSt3 (newSt 6) ⟨(nn : Int), cr.keep, cr.torn, cr.at_⟩ = ar6 (List.replicate 6 (List.replicate 128 0)) (List.replicate 6 []) 0 (nn : Int) ⟨(nn : Int), cr.keep, cr.torn, cr.at_⟩) := Lib.hid (ar6_new _ (by show ¬ (nn : Int) < 1; omega))
      go_enter Try.func7, Try.ntmps7
      go_wp2_with (first
        | (go_at_call 27; refine HAL.out.mono ?_; rintro e w1 ⟨rfl, b0⟩; have HB := Lib.hid (HB1.out.trans (b0.mono HB1.out.size)); have c1 := HL1.out w1 b0; have HBX := Lib.hid (HN1.out.below b0 HN1.out.lt); clear b0)
        | (go_at_call 8; refine (HGA.out w1 HB.out).mono ?_; rintro e _ ⟨rfl, rfl⟩)
        | (go_at_call 9; have l0 := L0.out; clear l0; refine (lnew (N := W.heap.size) (w0 := W) 6 HB.out.size HB.out (by omega) (by omega) rfl).mono ?_; rintro e w2 ⟨dA, rfl, la, ba, fa⟩; have LA := Lib.hid la; have BA := Lib.hid ba; have HFA : Hid (¬ dA.foot W.heap.size) := Lib.hid (fun h => by have := fa _ h; have := HBX.out.lt; omega); have HBX2 := Lib.hid (HBX.out.below ba HBX.out.lt); clear la ba fa c1 L0)
        | (go_at_call 9; have l0 := LA.out; clear l0; refine (lnew (N := W.heap.size) (w0 := W) 6 LA.out.lt LA.out.below (by omega) (by omega) rfl).mono ?_; rintro e w3 ⟨dB, rfl, lb, bb, fb⟩; have HFB : Hid (¬ dB.foot W.heap.size) := Lib.hid (fun h => by have := fb _ h; have := HBX2.out.lt; omega); have HBX3 := Lib.hid (HBX2.out.below bb HBX2.out.lt); have LB := Lib.hid lb; have LA2 := Lib.hid (LA.out.next LA.out.lt bb); have HD : Hid (∀ k, dA.foot k → ¬ dB.foot k) := Lib.hid (fun k h1 h2 => by have := LA.out.all_lt k h1; have := fb k h2; omega); clear lb bb fb LA BA; have hb3 := HBX3.out; have d0 := hb3.cell 0; have d1 := hb3.cell 1; have d2 := hb3.cell 2; have d3 := hb3.cell 3; have f0 := hb3.frozen 0; have hk3 : Keep (fun k => k = W.heap.size) w3 (w3.setCell ⟨W.heap.size, 0, none⟩ (.int .i64 (nn : Int))) := (Keep.refl _ _).setCell _ _ (fun _ => rfl); have hty : ∀ k, k = W.heap.size → ¬ Typ w3 k 3 := (fun k e => by subst e; exact fun e => absurd (hb3.typ.ne e) (by decide)); have LA4 := Lib.hid (LA2.out.aside hk3 (fun k e => ⟨by omega, by rw [e]; exact HFA.out, hty k e⟩)); have LB4 := Lib.hid (LB.out.aside hk3 (fun k e => ⟨by omega, by rw [e]; exact HFB.out, hty k e⟩)); have HBX4 : Hid (Blk (w3.setCell ⟨W.heap.size, 0, none⟩ (.int .i64 (nn : Int))) W.heap.size 36 #[.int .i64 (nn : Int), .slice KA kl Kc, .int .i64 cr.torn, .int .i64 cr.at_]) := Lib.hid (hb3.set_ 0 (.int .i64 (nn : Int))); clear hb3 hk3 hty LA2 LB)
        | (go_at_call 15; have l0 := LA4.out; clear l0; refine (larm_free ⟨(nn : Int), cr.keep, cr.torn, cr.at_⟩ KA kl Kc hfi.out LA4.out hkl (HK.out.below LA4.out.below) (by show cr.keep.length ≤ _; omega) hae.out has.out).mono ?_; rintro e w5 ⟨rfl, l5, k5⟩; have HP : Hid (Apart2 W dA dB) := Lib.hid ⟨HD.out, HFA.out, HFB.out⟩; have HAI := Lib.hid ((AI.mk (sa := newSt 6) LA4.out LB4.out HBX4.out).callA HP.out k5 l5); clear l5 k5 LA4 LB4 HBX4 d0 d1 d2 d3 f0))
      clear HGA HAL HL1 HN1 HB1 HB HBX HBX2 HBX3 hfi hae has hW1 HF
      go_loopw [8, 63] (fun ct i wr => ∃ (k : Nat) (S C : List (List UInt8)) (m r : Nat), k ≤ n ∧ i = .int .i64 ((k : Nat) : Int) ∧ ct = .int .i64 (r : Int) ∧ 1 ≤ r ∧ r ≤ 40 ∧ m ≤ k ∧ S.length = 6 ∧ AI W dA dB wr #[.int .i64 (nn : Int), .slice KA kl Kc, .int .i64 cr.torn, .int .i64 cr.at_] (ar6 S C (m : Int) (r : Int) ⟨(nn : Int), cr.keep, cr.torn, cr.at_⟩) (pl6 S C (m : Int))) (fun _ i _ => n - (intOf i).toNat)
      case atStart => exact ⟨0, _, _, 0, nn, Nat.zero_le _, rfl, rfl, hn1, hn40, Nat.le_refl _, rfl, HAI.out⟩
      case round =>
        obtain ⟨k, S, C, m, r, hkn, rfl, rfl, hr1, hr40, hmk, hS6, hO⟩ := hrel
        clear HAI
        by_cases hlt : k < n
        · have hBw : Below W.heap.size W wr := hO.la.below
          obtain ⟨ad, BA, Bc, KA2, Kc2, rfl, hadb, dc⟩ := (HH.out.below hBw).at_ hlt
          have hkl' : k < l.length := by have := HH.out.1; omega
          generalize l[k]'(by have := HH.out.1; omega) = o at dc
          obtain ⟨kd, at_, bb, cw⟩ := o
          have x0 := dc.kind
          have x1 := dc.at_
          have x2 := dc.b
          have x3 := dc.write
          have x4 := dc.keep
          have x5 := dc.torn
          have x6 := dc.cat
          have hbs : Reads wr W.heap.size 1 BA bb.length (bb.map bv) := by have := dc.bs.reads; rwa [List.length_map] at this
          simp only at x0 x1 x2 x3 x4 x5 x6
          obtain ⟨cww, cwk, cwt, cwa⟩ := cw
          simp only at x3 x4 x5 x6
          clear dc
          generalize hbl : bb.length = bl at *
          generalize cwk.length = kl2 at *
          have hbx : Below wr.heap.size wr (wr.alloc (.cells #[.int .i64 kd, .int .i64 at_, .slice BA bl Bc, .int .i64 cww, .slice KA2 kl2 Kc2, .int .i64 cwt, .int .i64 cwa] 38)) := (Below.refl _ _).alloc (Nat.le_refl _) _
          have hx := Blk.new wr 38 #[.int .i64 kd, .int .i64 at_, .slice BA bl Bc, .int .i64 cww, .slice KA2 kl2 Kc2, .int .i64 cwt, .int .i64 cwa]
          have hO2 := hO.next hbx
          have hrw : Reads (wr.alloc (.cells #[.int .i64 kd, .int .i64 at_, .slice BA bl Bc, .int .i64 cww, .slice KA2 kl2 Kc2, .int .i64 cwt, .int .i64 cwa] 38)) W.heap.size 1 BA bl (bb.map bv) := hbs.below (hbx.mono hBw.size)
          have HXA : Hid (¬ dA.foot wr.heap.size) := Lib.hid (fun h => by have := hO.la.all_lt _ h; omega)
          have HXB : Hid (¬ dB.foot wr.heap.size) := Lib.hid (fun h => by have := hO.lb.all_lt _ h; omega)
          have HO2 := Lib.hid hO2
          have HHX := Lib.hid hx
          have HRW := Lib.hid hrw
          clear hO2 hx hrw hbs hbx hBw hO
          by_cases k1 : kd = 1
          · subst k1
            obtain ⟨S', C', hfb, hfa, hSl⟩ := flush6 S C (m : Int) (r : Int) ⟨(nn : Int), cr.keep, cr.torn, cr.at_⟩
            have HFBt := Lib.hid hfb
            have HFAt := Lib.hid hfa
            clear hfa hfb
            go_wp2_with (first
              | (go_at_call 19; have l0 := HO2.out; clear l0; refine (lflush HO2.out.la rfl HFAt.out).mono ?_; rintro e w8 ⟨rfl, l8, k8⟩; have HO3 := Lib.hid (HO2.out.callA HP.out k8 l8); clear l8 k8 HO2)
              | (go_at_call 19; have l0 := HO3.out; clear l0; refine (lflush HO3.out.lb rfl HFBt.out).mono ?_; rintro e w9 ⟨rfl, l8, k8⟩; have HO4 := Lib.hid (HO3.out.callB HP.out k8 l8); clear l8 k8 HO3))
            exact ⟨⟨k + 1, S', C', m, r, by omega, by go_num, rfl, hr1, hr40, by omega, by omega, HO4.out⟩, by simp [intOf]; omega⟩
          · by_cases k0 : kd = 0
            · subst k0
              have hpair := write_pair S C (m : Int) (r : Int) at_ ⟨(nn : Int), cr.keep, cr.torn, cr.at_⟩ bb (nn : Int) (by omega)
              have HFA2 : Hid (Few (ar6 S C (m : Int) (r : Int) ⟨(nn : Int), cr.keep, cr.torn, cr.at_⟩)) := Lib.hid ⟨by show (m : Int) < _; omega⟩
              have HFB2 : Hid (Few (pl6 S C (m : Int))) := Lib.hid ⟨by show (m : Int) < _; omega⟩
              obtain ⟨sa, hsa⟩ : ∃ sa, ar6 S C (m : Int) (r : Int) ⟨(nn : Int), cr.keep, cr.torn, cr.at_⟩ = sa := ⟨_, rfl⟩
              obtain ⟨sb, hsb⟩ : ∃ sb, pl6 S C (m : Int) = sb := ⟨_, rfl⟩
              rw [hsa] at HFA2 HO2
              rw [hsb] at HFB2 HO2
              rw [hsa, hsb] at hpair
              obtain ⟨ea, hea⟩ : ∃ ea, writeErr sa at_ bb = ea := ⟨_, rfl⟩
              obtain ⟨eb, heb⟩ : ∃ eb, writeErr sb at_ bb = eb := ⟨_, rfl⟩
              obtain ⟨sa', hwa⟩ : ∃ s', writeK sa at_ bb = s' := ⟨_, rfl⟩
              obtain ⟨sb', hwb⟩ : ∃ s', writeK sb at_ bb = s' := ⟨_, rfl⟩
              rw [hea, heb, hwa, hwb] at hpair
              have HEA := Lib.hid hea
              have HEB := Lib.hid heb
              have HWA := Lib.hid hwa
              have HWB := Lib.hid hwb
              have HPAIR := Lib.hid hpair
              have HSA := Lib.hid hsa
              have HSB := Lib.hid hsb
              clear hea heb hwa hwb hpair hsa hsb
              go_wp2
              obtain ⟨xb, hxb⟩ : ∃ xb, wr.heap.size = xb := ⟨_, rfl⟩
              rw [hxb] at HXA HXB HHX ⊢
              obtain ⟨wx, hwx⟩ : ∃ wx, wr.alloc (.cells #[.int .i64 0, .int .i64 at_, .slice BA bl Bc, .int .i64 cww, .slice KA2 kl2 Kc2, .int .i64 cwt, .int .i64 cwa] 38) = wx := ⟨_, rfl⟩
              rw [hwx] at HHX HO2 HRW ⊢
              clear hwx hxb x0 x1 x2 x3 x4 x5 x6
              refine wp_region_done_on (fun dn w' => AI W dA dB w' #[.int .i64 (nn : Int), .slice KA kl Kc, .int .i64 cr.torn, .int .i64 cr.at_] (if dn 5 = true then sa' else sa) (if dn 11 = true then sb' else sb) ∧ Blk w' xb 38 #[.int .i64 0, .int .i64 at_, .slice BA bl Bc, .int .i64 cww, .slice KA2 kl2 Kc2, .int .i64 cwt, .int .i64 cwa] ∧ Below W.heap.size wx w')
                (fun _ i v _ => v = ([.pointer (some ⟨dA.b, 0, none⟩), .pointer (some ⟨xb, 1, none⟩), .int .i64 at_, .pointer (some ⟨xb, 2, none⟩), .slice BA bl Bc, .int .i64 ea, .pointer (some ⟨dB.b, 0, none⟩), .pointer (some ⟨xb, 1, none⟩), .int .i64 at_, .pointer (some ⟨xb, 2, none⟩), .slice BA bl Bc, .int .i64 eb, .int .i64 ea, .int .i64 eb] : List Value).getD i undef) (by kernel_rfl) 150 rfl (by kernel_rfl) ⟨HO2.out.next (Below.refl _ _).drew, HHX.out.drew, (Below.refl _ _).drew⟩ ?_ ?_
              · intro i hi
                have hi2 : i < 14 := hi
                clear hi
                rcases i with _ | i
                · refine done_value (fun _ _ h => h) (fun _ _ _ _ h => h) (.pointer (some ⟨dA.b, 0, none⟩)) rfl ?_
                  intro dn a8 w8 hS ho hn
                  have o9 : a8.tmps[9]? = some _ := (ho 9 (by kernel_rfl)).trans rfl
                  clear ho hn
                  refine ⟨wanted_free rfl, ?_, rfl⟩
                  go_simp
                rcases i with _ | i
                · refine done_value (fun _ _ h => h) (fun _ _ _ _ h => h) (.pointer (some ⟨xb, 1, none⟩)) rfl ?_
                  intro dn a8 w8 hS ho hn
                  have o14 : a8.tmps[14]? = some _ := (ho 14 (by kernel_rfl)).trans rfl
                  clear ho hn
                  refine ⟨wanted_free rfl, ?_, rfl⟩
                  go_simp
                rcases i with _ | i
                · refine done_value (fun _ _ h => h) (fun _ _ _ _ h => h) (.int .i64 at_) rfl ?_
                  intro dn a8 w8 hS ho hn
                  obtain ⟨_, n79, rfl⟩ := hn 1 79 (by kernel_rfl) rfl
                  clear ho hn
                  refine ⟨wanted_free rfl, ?_, rfl⟩
                  have d1 := hS.2.1.cell 1
                  go_simp
                rcases i with _ | i
                · refine done_value (fun _ _ h => h) (fun _ _ _ _ h => h) (.pointer (some ⟨xb, 2, none⟩)) rfl ?_
                  intro dn a8 w8 hS ho hn
                  have o14 : a8.tmps[14]? = some _ := (ho 14 (by kernel_rfl)).trans rfl
                  clear ho hn
                  refine ⟨wanted_free rfl, ?_, rfl⟩
                  go_simp
                rcases i with _ | i
                · refine done_value (fun _ _ h => h) (fun _ _ _ _ h => h) (.slice BA bl Bc) rfl ?_
                  intro dn a8 w8 hS ho hn
                  obtain ⟨_, n81, rfl⟩ := hn 3 81 (by kernel_rfl) rfl
                  clear ho hn
                  refine ⟨wanted_free rfl, ?_, rfl⟩
                  have d2 := hS.2.1.cell 2
                  go_simp
                rcases i with _ | i
                · refine done_call 16 #[.pointer (some ⟨dA.b, 0, none⟩), .int .i64 at_, .slice BA bl Bc] rfl ?_
                  intro dn a8 w8 hS hd hx ho hn
                  obtain ⟨_, n78, rfl⟩ := hn 0 78 (by kernel_rfl) rfl
                  obtain ⟨_, n80, rfl⟩ := hn 2 80 (by kernel_rfl) rfl
                  obtain ⟨_, n82, rfl⟩ := hn 4 82 (by kernel_rfl) rfl
                  clear ho hn
                  refine ⟨wanted_free rfl, by go_simp, ?_⟩
                  have hS1 : Lives W.heap.size W w8 dA sa := by { have h := hS.1.la; have hd2 : dn 5 = false := hd; simpa only [hd2, Bool.false_eq_true, if_false] using h }
                  refine (lwrite at_ BA bl Bc bb hS1 hbl ((HRW.out.below hS.2.2).more hS1.lt) HFA2.out HEA.out HWA.out).mono ?_
                  rintro e w9 ⟨rfl, l9, k9⟩
                  exact ⟨_, rfl, ⟨hS.1.callA HP.out k9 l9, k9.blk hS.2.1 HXA.out, hS.2.2.trans (k9.far hS1.lt hS1.foot)⟩, rfl, fun j u _ _ hR => hR⟩
                rcases i with _ | i
                · refine done_value (fun _ _ h => h) (fun _ _ _ _ h => h) (.pointer (some ⟨dB.b, 0, none⟩)) rfl ?_
                  intro dn a8 w8 hS ho hn
                  have o11 : a8.tmps[11]? = some _ := (ho 11 (by kernel_rfl)).trans rfl
                  clear ho hn
                  refine ⟨wanted_free rfl, ?_, rfl⟩
                  go_simp
                rcases i with _ | i
                · refine done_value (fun _ _ h => h) (fun _ _ _ _ h => h) (.pointer (some ⟨xb, 1, none⟩)) rfl ?_
                  intro dn a8 w8 hS ho hn
                  have o14 : a8.tmps[14]? = some _ := (ho 14 (by kernel_rfl)).trans rfl
                  clear ho hn
                  refine ⟨wanted_free rfl, ?_, rfl⟩
                  go_simp
                rcases i with _ | i
                · refine done_value (fun _ _ h => h) (fun _ _ _ _ h => h) (.int .i64 at_) rfl ?_
                  intro dn a8 w8 hS ho hn
                  obtain ⟨_, n85, rfl⟩ := hn 7 85 (by kernel_rfl) rfl
                  clear ho hn
                  refine ⟨wanted_free rfl, ?_, rfl⟩
                  have d1 := hS.2.1.cell 1
                  go_simp
                rcases i with _ | i
                · refine done_value (fun _ _ h => h) (fun _ _ _ _ h => h) (.pointer (some ⟨xb, 2, none⟩)) rfl ?_
                  intro dn a8 w8 hS ho hn
                  have o14 : a8.tmps[14]? = some _ := (ho 14 (by kernel_rfl)).trans rfl
                  clear ho hn
                  refine ⟨wanted_free rfl, ?_, rfl⟩
                  go_simp
                rcases i with _ | i
                · refine done_value (fun _ _ h => h) (fun _ _ _ _ h => h) (.slice BA bl Bc) rfl ?_
                  intro dn a8 w8 hS ho hn
                  obtain ⟨_, n87, rfl⟩ := hn 9 87 (by kernel_rfl) rfl
                  clear ho hn
                  refine ⟨wanted_free rfl, ?_, rfl⟩
                  have d2 := hS.2.1.cell 2
                  go_simp
                rcases i with _ | i
                · refine done_call 16 #[.pointer (some ⟨dB.b, 0, none⟩), .int .i64 at_, .slice BA bl Bc] rfl ?_
                  intro dn a8 w8 hS hd hx ho hn
                  obtain ⟨_, n84, rfl⟩ := hn 6 84 (by kernel_rfl) rfl
                  obtain ⟨_, n86, rfl⟩ := hn 8 86 (by kernel_rfl) rfl
                  obtain ⟨_, n88, rfl⟩ := hn 10 88 (by kernel_rfl) rfl
                  clear ho hn
                  refine ⟨wanted_free rfl, by go_simp, ?_⟩
                  have hS1 : Lives W.heap.size W w8 dB sb := by { have h := hS.1.lb; have hd2 : dn 11 = false := hd; simpa only [hd2, Bool.false_eq_true, if_false] using h }
                  refine (lwrite at_ BA bl Bc bb hS1 hbl ((HRW.out.below hS.2.2).more hS1.lt) HFB2.out HEB.out HWB.out).mono ?_
                  rintro e w9 ⟨rfl, l9, k9⟩
                  exact ⟨_, rfl, ⟨hS.1.callB HP.out k9 l9, k9.blk hS.2.1 HXB.out, hS.2.2.trans (k9.far hS1.lt hS1.foot)⟩, rfl, fun j u _ _ hR => hR⟩
                rcases i with _ | i
                · refine done_value (fun _ _ h => h) (fun _ _ _ _ h => h) (.int .i64 ea) rfl ?_
                  intro dn a8 w8 hS ho hn
                  obtain ⟨_, n83, rfl⟩ := hn 5 83 (by kernel_rfl) rfl
                  clear ho hn
                  refine ⟨wanted_free rfl, ?_, rfl⟩
                  go_simp
                rcases i with _ | i
                · refine done_value (fun _ _ h => h) (fun _ _ _ _ h => h) (.int .i64 eb) rfl ?_
                  intro dn a8 w8 hS ho hn
                  obtain ⟨_, n89, rfl⟩ := hn 11 89 (by kernel_rfl) rfl
                  clear ho hn
                  refine ⟨wanted_free rfl, ?_, rfl⟩
                  go_simp
                omega
              · intro done f w8 hS hR hall
                have e15 : f 15 = .int .i64 ea := hR 12 15 rfl
                have e16 : f 16 = .int .i64 eb := hR 13 16 rfl
                have HO8 : Hid (AI W dA dB w8 #[.int .i64 (nn : Int), .slice KA kl Kc, .int .i64 cr.torn, .int .i64 cr.at_] sa' sb') := Lib.hid (by have h := hS.1; rwa [if_pos (hall 5 (by decide)), if_pos (hall 11 (by decide))] at h)
                clear hR hS hall HO2 HHX HRW HEA HEB HWA HWB
                simp only [putAll, List.foldl_cons, List.foldl_nil, Act.put, List.setIfInBounds_toArray, List.set_cons_succ, List.set_cons_zero]
                rw [e15, e16]
                clear e15 e16
                rcases HPAIR.out with ⟨rfl, rfl, rfl, rfl⟩ | ⟨C', rfl, rfl, ⟨hr2, rfl, rfl⟩ | ⟨hr2, rfl, rfl⟩⟩
                · go_wp2
                  exact ⟨⟨k + 1, S, C, m, r, by omega, by go_num, rfl, hr1, hr40, by omega, hS6, by rw [HSA.out, HSB.out]; exact HO8.out⟩, by simp [intOf]; omega⟩
                · obtain ⟨r', rfl⟩ : ∃ r', r = r' + 1 := ⟨r - 1, by omega⟩
                  have hrr : ((r' + 1 : Nat) : Int) - 1 = (r' : Int) := by omega
                  rw [hrr] at HO8
                  go_wp2
                  exact ⟨⟨k + 1, S, C', m + 1, r', by omega, by go_num, by go_num, by omega, by omega, by omega, hS6, by rw [Int.natCast_add]; exact HO8.out⟩, by simp [intOf]; omega⟩
                · obtain rfl : r = 1 := by omega
                  have HS := Lib.hid (same_down S C' ((m : Int) + 1) ⟨(nn : Int), cr.keep, cr.torn, cr.at_⟩ hS6)
                  obtain ⟨F, hF⟩ : ∃ F, downK (pl6 S C' ((m : Int) + 1)) ⟨(nn : Int), cr.keep, cr.torn, cr.at_⟩ = F := ⟨_, rfl⟩
                  rw [hF] at HO8 HS
                  have HFE := Lib.hid hF
                  have hb8 := HO8.out.box
                  have d0 := hb8.cell 0
                  have d1 := hb8.cell 1
                  have d2 := hb8.cell 2
                  have d3 := hb8.cell 3
                  clear hF hb8 HPAIR HSA HSB HFA2 HFB2
                  have R0 : Hid True := Lib.hid trivial
                  go_wp2_with (first
                    | (go_at_call 20; have l0 := HO8.out; clear l0; refine (ldown ⟨(nn : Int), cr.keep, cr.torn, cr.at_⟩ KA kl Kc HO8.out.lb hkl ((HK.out.below HO8.out.lb.below).more HO8.out.lb.lt) rfl HFE.out).mono ?_; rintro e w9 ⟨rfl, l8, k8⟩; have HA := Lib.hid (HO8.out.callB HP.out k8 l8); clear l8 k8 HO8 d0 d1 d2 d3)
                    | (go_at_call 18; have l0 := R0.out; clear l0; refine (lup HA.out.la HS.out.a).mono ?_; rintro e _ ⟨rfl, rfl⟩; have R1 := R0; clear R0)
                    | (go_at_call 18; have l0 := R1.out; clear l0; refine (lup HA.out.lb HS.out.b).mono ?_; rintro e _ ⟨rfl, rfl⟩; have R2 := R1; clear R1)
                    | (go_at_call 23; have l0 := R2.out; clear l0; refine (lwrites HA.out.la rfl).mono ?_; rintro e _ ⟨rfl, rfl⟩; have R3 := R2; clear R2)
                    | (go_at_call 23; have l0 := R3.out; clear l0; refine (lwrites HA.out.lb HS.out.many.symm).mono ?_; rintro e _ ⟨rfl, rfl⟩; have R4 := R3; clear R3)
                    | (go_at_call 25; have l0 := R4.out; clear l0; refine (lwaits HA.out.la rfl rfl).mono ?_; rintro e w5 ⟨A5, c5, rfl, r5, b5, -⟩; have R5 := Lib.hid r5; have HA2 := Lib.hid (HA.out.next b5); clear r5 b5 R4 HA)
                    | (go_at_call 25; have l0 := HA2.out; clear l0; refine (lwaits HA2.out.lb HS.out.waits.symm rfl).mono ?_; rintro e w6 ⟨A6, c6, rfl, r6, b6, -⟩; have R6 := Lib.hid r6; replace R5 := Lib.hid ((R5.out.below b6).more b6.size); have HA3 := Lib.hid (HA2.out.next b6); clear r6 b6 HA2)
                    | (go_at_call 30; have l0 := HA3.out; clear l0; have hint := ints_any A5 A6 c5 c6 (waits3 F).length (waits3 F).length (waits3 F) (waits3 F) w6 rfl rfl R5.out R6.out (by have := HS.out.few; omega) (by have := HS.out.few; omega); rw [decide_eq_true rfl] at hint; refine hint.mono ?_; clear hint; rintro e w7 ⟨rfl, b7⟩; have HA4 := Lib.hid (HA3.out.next b7); clear b7 HA3 R5 R6)
                    | (go_at_call 12; have l0 := HA4.out; clear l0; refine (lboot HA4.out.la rfl).mono ?_; rintro e w9 ⟨rfl, l9, k9⟩; have HA5 := Lib.hid (HA4.out.callA HP.out k9 l9); clear l9 k9 HA4)
                    | (go_at_call 12; have l0 := HA5.out; clear l0; refine (lboot HA5.out.lb rfl).mono ?_; rintro e w10 ⟨rfl, l9, k9⟩; have HA6 := Lib.hid (HA5.out.callB HP.out k9 l9); clear l9 k9 HA5))
                  have hro := HS.out.out
                  have hea := HS.out.ea
                  have heb := HS.out.eb
                  clear HS
                  generalize bootSt F = sA at *
                  obtain ⟨sB, hsB⟩ : ∃ sB, sA = sB := ⟨_, rfl⟩
                  clear hsB
                  have HRO := Lib.hid hro
                  have HEA9 := Lib.hid hea
                  have HEB9 := Lib.hid heb
                  clear hro hea heb
                  go_loopw [18] (fun i wr => ∃ k : Nat, k ≤ 6 ∧ i = .int .i64 (k : Int) ∧ Lives W.heap.size W wr dA sA ∧ Lives W.heap.size W wr dB sA) (fun i _ => 6 - (intOf i).toNat)
                  case atStart => exact ⟨0, by omega, rfl, HA6.out.la, HA6.out.lb⟩
                  case round =>
                    obtain ⟨q, hq, rfl, la, lb⟩ := hrel
                    by_cases hq6 : q < 6
                    · obtain ⟨x, hx⟩ : ∃ x, readOut3 sA (q : Int) = x := ⟨_, rfl⟩
                      have HR := Lib.hid (lread (q : Int) lb (HEB9.out q hq6) hx)
                      have hdec : decide (readErr3 sA (q : Int) = 0 ∧ readOut3 sA (q : Int) = x) = true := decide_eq_true ⟨HEA9.out q hq6, (HRO.out q).trans hx⟩
                      have HLA := Lib.hid la
                      have HDE := Lib.hid hdec
                      clear la lb hdec hx
                      go_wp2_with (first
                        | (go_at_call 13; have l0 := HR.out; clear l0; refine HR.out.mono ?_; rintro e w11 ⟨v, rfl, ro, lb⟩; obtain ⟨Ar, cr2, rfl, rr⟩ := ro.reads; have cv := conv_reads cr2 rr; have HLB := Lib.hid lb; have HLA2 := Lib.hid (HLA.out.next HLA.out.lt ro.1); clear ro rr lb HR HLA)
                        | (go_at_call 22; refine (reads_any (q : Int) x true HLA2.out HDE.out).mono ?_; rintro e w12 ⟨rfl, b9⟩; have HLA3 := Lib.hid (HLA2.out.next HLA2.out.lt b9); have HLB3 := Lib.hid (HLB.out.next HLB.out.lt b9); clear b9 HLA2 HLB))
                      exact ⟨⟨q + 1, by omega, by go_num, HLA3.out, HLB3.out⟩, by simp [intOf]; omega⟩
                    · obtain rfl : q = 6 := by omega
                      have HFF := Lib.hid la.below
                      clear la lb
                      go_wp2
                      go_ret
                      exact ⟨rfl, HFF.out⟩
            · go_wp2
              exact ⟨⟨k + 1, S, C, m, r, by omega, by go_num, rfl, hr1, hr40, by omega, hS6, HO2.out⟩, by simp [intOf]; omega⟩
        · obtain rfl : k = n := by omega
          have HS := Lib.hid (same_up S C (m : Int) (r : Int) ⟨(nn : Int), cr.keep, cr.torn, cr.at_⟩ hS6)
          have HA := Lib.hid hO
          clear hO
          generalize ar6 S C (m : Int) (r : Int) ⟨(nn : Int), cr.keep, cr.torn, cr.at_⟩ = sa at *
          generalize pl6 S C (m : Int) = sb at *
          have R0 : Hid True := Lib.hid trivial
          go_wp2_with (first
            | (go_at_call 18; have l0 := R0.out; clear l0; refine (lup HA.out.la HS.out.a).mono ?_; rintro e _ ⟨rfl, rfl⟩; have R1 := R0; clear R0)
            | (go_at_call 18; have l0 := R1.out; clear l0; refine (lup HA.out.lb HS.out.b).mono ?_; rintro e _ ⟨rfl, rfl⟩; have R2 := R1; clear R1)
            | (go_at_call 23; have l0 := R2.out; clear l0; refine (lwrites HA.out.la rfl).mono ?_; rintro e _ ⟨rfl, rfl⟩; have R3 := R2; clear R2)
            | (go_at_call 23; have l0 := R3.out; clear l0; refine (lwrites HA.out.lb HS.out.many.symm).mono ?_; rintro e _ ⟨rfl, rfl⟩; have R4 := R3; clear R3)
            | (go_at_call 25; have l0 := R4.out; clear l0; refine (lwaits HA.out.la rfl rfl).mono ?_; rintro e w5 ⟨A5, c5, rfl, r5, b5, -⟩; have R5 := Lib.hid r5; have HA2 := Lib.hid (HA.out.next b5); clear r5 b5 R4 HA)
            | (go_at_call 25; have l0 := HA2.out; clear l0; refine (lwaits HA2.out.lb HS.out.waits.symm rfl).mono ?_; rintro e w6 ⟨A6, c6, rfl, r6, b6, -⟩; have R6 := Lib.hid r6; replace R5 := Lib.hid ((R5.out.below b6).more b6.size); have HA3 := Lib.hid (HA2.out.next b6); clear r6 b6 HA2)
            | (go_at_call 30; have l0 := HA3.out; clear l0; have hint := ints_any A5 A6 c5 c6 (waits3 sa).length (waits3 sa).length (waits3 sa) (waits3 sa) w6 rfl rfl R5.out R6.out (by have := HS.out.few; omega) (by have := HS.out.few; omega); rw [decide_eq_true rfl] at hint; refine hint.mono ?_; clear hint; rintro e w7 ⟨rfl, b7⟩; have HA4 := Lib.hid (HA3.out.next b7); clear b7 HA3 R5 R6)
            | (go_at_call 12; have l0 := HA4.out; clear l0; refine (lboot HA4.out.la rfl).mono ?_; rintro e w9 ⟨rfl, l9, k9⟩; have HA5 := Lib.hid (HA4.out.callA HP.out k9 l9); clear l9 k9 HA4)
            | (go_at_call 12; have l0 := HA5.out; clear l0; refine (lboot HA5.out.lb rfl).mono ?_; rintro e w10 ⟨rfl, l9, k9⟩; have HA6 := Lib.hid (HA5.out.callB HP.out k9 l9); clear l9 k9 HA5))
          have hro := HS.out.out
          have hea := HS.out.ea
          have heb := HS.out.eb
          clear HS
          generalize bootSt sa = sA at *
          generalize bootSt sb = sB at *
          have HRO := Lib.hid hro
          have HEA9 := Lib.hid hea
          have HEB9 := Lib.hid heb
          clear hro hea heb
          go_loopw [18] (fun i wr => ∃ k : Nat, k ≤ 6 ∧ i = .int .i64 (k : Int) ∧ Lives W.heap.size W wr dA sA ∧ Lives W.heap.size W wr dB sB) (fun i _ => 6 - (intOf i).toNat)
          case atStart => exact ⟨0, by omega, rfl, HA6.out.la, HA6.out.lb⟩
          case round =>
            obtain ⟨q, hq, rfl, la, lb⟩ := hrel
            by_cases hq6 : q < 6
            · obtain ⟨x, hx⟩ : ∃ x, readOut3 sB (q : Int) = x := ⟨_, rfl⟩
              have HR := Lib.hid (lread (q : Int) lb (HEB9.out q hq6) hx)
              have hdec : decide (readErr3 sA (q : Int) = 0 ∧ readOut3 sA (q : Int) = x) = true := decide_eq_true ⟨HEA9.out q hq6, (HRO.out q).trans hx⟩
              have HLA := Lib.hid la
              have HDE := Lib.hid hdec
              clear la lb hdec hx
              go_wp2_with (first
                | (go_at_call 13; have l0 := HR.out; clear l0; refine HR.out.mono ?_; rintro e w11 ⟨v, rfl, ro, lb⟩; obtain ⟨Ar, cr2, rfl, rr⟩ := ro.reads; have cv := conv_reads cr2 rr; have HLB := Lib.hid lb; have HLA2 := Lib.hid (HLA.out.next HLA.out.lt ro.1); clear ro rr lb HR HLA)
                | (go_at_call 22; refine (reads_any (q : Int) x true HLA2.out HDE.out).mono ?_; rintro e w12 ⟨rfl, b9⟩; have HLA3 := Lib.hid (HLA2.out.next HLA2.out.lt b9); have HLB3 := Lib.hid (HLB.out.next HLB.out.lt b9); clear b9 HLA2 HLB))
              exact ⟨⟨q + 1, by omega, by go_num, HLA3.out, HLB3.out⟩, by simp [intOf]; omega⟩
            · obtain rfl : q = 6 := by omega
              have HFF := Lib.hid la.below
              clear la lb
              go_wp2
              go_ret
              exact ⟨rfl, HFF.out⟩
end Go.Proofs.Ytimlhbpajcadeaa

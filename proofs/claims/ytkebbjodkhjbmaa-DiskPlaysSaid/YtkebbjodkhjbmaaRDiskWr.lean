/-
  The given disk of layer 3: Write.
-/
import Derived.Test.YtkebbjodkhjbmaaRDiskOut
namespace Go.Proofs.Ytkebbjodkhjbmaa
open Go.RowKit

def takenR (s : RSt) (a : Int) (l : List UInt8) : RSt := { s with cache := s.cache.set a.toNat l, many := s.many + 1 }
def writeErr3 (s : RSt) (a : Int) (l : List UInt8) : Int := if s.down then 31 else if has3 s a && l.length == 128 then (if s.write = 1 then 31 else 0) else 30
def writeSt3 (s : RSt) (a : Int) (l : List UInt8) : RSt := if s.down then s else if has3 s a && l.length == 128 then (if s.write = 0 then takenR s a l else if s.write = 1 then fallSt { takenR s a l with write := 0 } ⟨0, s.keep, s.torn, s.at_⟩ else { takenR s a l with write := s.write - 1 }) else s

section
variable {b gS gC cS cC : Nat} {kv : Value} {vs ws : List Value} {s : RSt} {w : World}

theorem RD.count [Aside] (h : RD w b gS gC cS cC kv vs ws s) (m : Int) : RD (w.setCell ⟨b, 6, none⟩ (.int .i64 m)) b gS gC cS cC kv vs ws { s with many := m } ∧ Keep (rfoot b gS gC) w (w.setCell ⟨b, 6, none⟩ (.int .i64 m)) := by
  have hk := (Keep.refl (fun i => i = b) w).setCell ⟨b, 6, none⟩ (.int .i64 m) (fun _ => rfl)
  exact ⟨h.self (s' := { s with many := m }) hk rfl rfl (h.blk.set_ 6 _) (h.kHead.keep hk (fun i e => by subst e; exact (h.foot i (.inl rfl)).2.1)) h.far.2.2, hk.more (fun i _ e => by subst e; exact .inl rfl)⟩
theorem RD.left [Aside] (h : RD w b gS gC cS cC kv vs ws s) (m : Int) : RD (w.setCell ⟨b, 2, none⟩ (.int .i64 m)) b gS gC cS cC kv vs ws { s with write := m } ∧ Keep (rfoot b gS gC) w (w.setCell ⟨b, 2, none⟩ (.int .i64 m)) := by
  have hk := (Keep.refl (fun i => i = b) w).setCell ⟨b, 2, none⟩ (.int .i64 m) (fun _ => rfl)
  exact ⟨h.self (s' := { s with write := m }) hk rfl rfl (h.blk.set_ 2 _) (h.kHead.keep hk (fun i e => by subst e; exact (h.foot i (.inl rfl)).2.1)) h.far.2.2, hk.more (fun i _ e => by subst e; exact .inl rfl)⟩

set_option maxRecDepth 100000 in
set_option maxHeartbeats 2000000 in
theorem rwrite_any [Aside] (a : Int) (h1 : -9223372036854775808 ≤ a) (h2 : a ≤ 9223372036854775807) (h : RD w b gS gC cS cC kv vs ws s) (hmany : s.many < 9223372036854775807) (hmin : 0 ≤ s.many) (hw : 0 ≤ s.write) (hwx : s.write ≤ 9223372036854775807) (hf : (⟨0, s.keep, s.torn, s.at_⟩ : DCrash).Fine) (A : Option Addr) (c : Nat) (l : List UInt8) (hr : Reads w w.heap.size 1 A l.length (l.map bv)) (hl : l.length ≤ 140737488355000) :
    Calls Try.prog 13 #[.pointer (some ⟨b, 0, none⟩), .int .i64 a, .slice A l.length c] w fun e w' => e = .returned (.int .i64 (writeErr3 s a l)) ∧ (∃ kv' vs' ws', RD w' b gS gC cS cC kv' vs' ws' (writeSt3 s a l)) ∧ Keep (rfoot b gS gC) w w' := by
  obtain ⟨KA, Kc, hkv⟩ : ∃ KA Kc, kv = .slice KA s.keep.length Kc := by
    obtain ⟨KA, Kc, e, _⟩ := h.kHead
    rw [List.length_map] at e
    exact ⟨KA, Kc, e⟩
  subst hkv
  have HH := Lib.hid (rhas_any b gS gC cS cC _ vs ws s a w h)
  have c7 : w.cell? ⟨b, 7, none⟩ = some (.bool s.down) := h.blk.cell 7
  have HRD := Lib.hid h
  cases hd : s.down
  · by_cases hok : (has3 s a && l.length == 128) = true
    · have hst : writeSt3 s a l = (if s.write = 0 then takenR s a l else if s.write = 1 then fallSt { takenR s a l with write := 0 } ⟨0, s.keep, s.torn, s.at_⟩ else { takenR s a l with write := s.write - 1 }) := by unfold writeSt3; rw [hd, hok]; rfl
      have he : writeErr3 s a l = (if s.write = 1 then 31 else 0) := by unfold writeErr3; rw [hd, hok]; rfl
      have HST := Lib.hid hst
      have HE := Lib.hid he
      obtain ⟨er, her⟩ : ∃ er, writeErr3 s a l = er := ⟨_, rfl⟩
      obtain ⟨st, hstt⟩ : ∃ st, writeSt3 s a l = st := ⟨_, rfl⟩
      rw [her, hstt]
      rw [her] at HE
      rw [hstt] at HST
      rw [Bool.and_eq_true, beq_iff_eq] at hok
      obtain ⟨hh, hl128⟩ := hok
      have hin : 0 ≤ a ∧ a < (s.stays.length : Int) := of_decide_eq_true hh
      obtain ⟨k, rfl⟩ := Int.eq_ofNat_of_zero_le hin.1
      have hk : k < s.stays.length := by omega
      rw [hh] at HH
      have HTK : Hid (takenR s (k : Int) l = { s with cache := s.cache.set k l, many := s.many + 1 }) := Lib.hid (by unfold takenR; rw [Int.toNat_natCast])
      have HT := Lib.hid (fun w' (hb : Below w.heap.size w w') => twin_any A c l.length l w' ((hr.below hb).more hb.size) hl)
      obtain ⟨_, ⟨v, sv, sf, _⟩⟩ := h.sector hk
      have hlt := (h.foot gC (.inr (.inr rfl))).2.2
      have hbl := (h.foot b (.inl rfl)).2.2
      have CK := Lib.hid (fun w' (hb : Below w.heap.size w w') => (show w'.cell? ⟨gC, k, none⟩ = some v ∧ w'.frozen? ⟨gC, k, none⟩ = false from by
        have hbk := hb.block gC hlt
        refine ⟨(World.cell?_of_block (a := ⟨gC, k, none⟩) hbk).trans sv, ?_⟩
        unfold World.frozen? at sf ⊢
        rw [show w'.heap[(⟨gC, k, none⟩ : Addr).block]? = w.heap[(⟨gC, k, none⟩ : Addr).block]? from hbk]
        exact sf))
      have CX := Lib.hid (show ∀ w', Below w.heap.size w w' → w'.cell? ⟨b, 1, none⟩ = some (.slice (some ⟨gC, 0, none⟩) s.stays.length cC) from fun w' hb => (hb.cell (p := ⟨b, 1, none⟩) hbl).trans (h.blk.cell 1))
      have FIN := Lib.hid (fun w' A' c' (hb : Below w.heap.size w w') (ho : w'.ownsRow w.heap.size 5 1 (.slice A' 128 c') 128 (l.map bv)) =>
        (show (∃ ws', RD (w'.setCell ⟨gC, k, none⟩ (.slice A' 128 c')) b gS gC cS cC (.slice KA s.keep.length Kc) vs ws' { s with cache := s.cache.set k l }) ∧ Keep (rfoot b gS gC) w (w'.setCell ⟨gC, k, none⟩ (.slice A' 128 c')) from
          ⟨⟨_, (h.below hb).putC (.inr hl128) (Head.own ho) (Far.own h.lim ho)⟩, (Keep.of_below hb).setCell _ _ (fun _ => .inr (.inr rfl))⟩))
      have HKN := Lib.hid hk
      rw [hl128] at HT
      rw [hd] at c7
      have HL128 := Lib.hid hl128
      have HD0 := Lib.hid hd
      generalize hn : s.stays.length = n at *
      have HN := Lib.hid hn
      clear hh hin he hst hr sv sf her hstt hd h hn
      rw [hl128]
      clear hl128
      go_enter Try.func13, Try.ntmps13
      go_wp2_with (go_at_call 32; refine HH.out.mono ?_; rintro e _ ⟨rfl, rfl⟩)
      refine wp_region_done_on (fun dn w' => (dn 8 = false → Below w.heap.size w w') ∧ (dn 8 = true → (∃ ws', RD w' b gS gC cS cC (.slice KA s.keep.length Kc) vs ws' { s with cache := s.cache.set k l }) ∧ Keep (rfoot b gS gC) w w')) (putR w.heap.size l ([.pointer (some ⟨b, 0, none⟩), .pointer (some ⟨b, 0, none⟩), .pointer (some ⟨b, 1, none⟩), .slice (some ⟨gC, 0, none⟩) n cC, .int .i64 k, .slice A 128 c, undef, .pointer (some ⟨gC, k, none⟩), undef])) (by kernel_rfl) 64 rfl (by kernel_rfl) ⟨fun _ => (Below.refl _ _).drew, fun e => by cases e⟩ ?_ ?_
      · intro i hi
        have hi2 : i < 9 := hi
        clear hi
        rcases i with _ | i
        · refine done_value (fun dn w' h => ⟨fun e => h.1 (upd_false e), fun e => h.2 (upd_ne e (by decide))⟩) (fun _ => putR_mono) (.pointer (some ⟨b, 0, none⟩)) rfl ?_
          intro dn a8 w8 hS ho hn
          have o0 : a8.tmps[0]? = some _ := (ho 0 (by kernel_rfl)).trans rfl
          clear ho hn
          refine ⟨wanted_free rfl, ?_, rfl⟩
          go_simp
        rcases i with _ | i
        · refine done_value (fun dn w' h => ⟨fun e => h.1 (upd_false e), fun e => h.2 (upd_ne e (by decide))⟩) (fun _ => putR_mono) (.pointer (some ⟨b, 0, none⟩)) rfl ?_
          intro dn a8 w8 hS ho hn
          obtain ⟨_, n18, rfl⟩ := hn 0 22 (by kernel_rfl) rfl
          clear ho hn
          refine ⟨wanted_free rfl, ?_, rfl⟩
          go_simp
        rcases i with _ | i
        · refine done_value (fun dn w' h => ⟨fun e => h.1 (upd_false e), fun e => h.2 (upd_ne e (by decide))⟩) (fun _ => putR_mono) (.pointer (some ⟨b, 1, none⟩)) rfl ?_
          intro dn a8 w8 hS ho hn
          obtain ⟨_, n19, rfl⟩ := hn 1 23 (by kernel_rfl) rfl
          clear ho hn
          refine ⟨wanted_free rfl, ?_, rfl⟩
          go_simp
        rcases i with _ | i
        · refine done_read (fun dn w' h => ⟨fun e => h.1 (upd_false e), fun e => h.2 (upd_ne e (by decide))⟩) (fun _ => putR_mono) (.slice (some ⟨gC, 0, none⟩) n cC) rfl ?_
          intro dn a8 w8 hS hx ho hn
          obtain ⟨_, n20, rfl⟩ := hn 2 24 (by kernel_rfl) rfl
          clear ho hn
          refine ⟨wanted_free rfl, ?_, rfl⟩
          have hc := CX.out w8 (hS.1 (hx 8 (by kernel_rfl)))
          go_simp
        rcases i with _ | i
        · refine done_value (fun dn w' h => ⟨fun e => h.1 (upd_false e), fun e => h.2 (upd_ne e (by decide))⟩) (fun _ => putR_mono) (.int .i64 k) rfl ?_
          intro dn a8 w8 hS ho hn
          have o1 : a8.tmps[1]? = some _ := (ho 1 (by kernel_rfl)).trans rfl
          clear ho hn
          refine ⟨wanted_free rfl, ?_, rfl⟩
          go_simp
        rcases i with _ | i
        · refine done_value (fun dn w' h => ⟨fun e => h.1 (upd_false e), fun e => h.2 (upd_ne e (by decide))⟩) (fun _ => putR_mono) (.slice A 128 c) rfl ?_
          intro dn a8 w8 hS ho hn
          have o2 : a8.tmps[2]? = some _ := (ho 2 (by kernel_rfl)).trans rfl
          clear ho hn
          refine ⟨wanted_free rfl, ?_, rfl⟩
          go_simp
        rcases i with _ | i
        · refine done_call 11 #[.slice A 128 c] rfl ?_
          intro dn a8 w8 hS hd hx ho hn
          obtain ⟨_, n23, rfl⟩ := hn 5 27 (by kernel_rfl) rfl
          clear ho hn
          refine ⟨wanted_free rfl, by go_simp, ?_⟩
          have hb := hS.1 (hx 8 (by kernel_rfl))
          refine (HT.out w8 hb).mono ?_
          rintro e w9 ⟨A', c', rfl, ho, hb9⟩
          exact ⟨_, rfl, ⟨fun _ => hb.trans (hb9.mono hb.size), fun e => absurd (hx 8 (by kernel_rfl)) (by rw [upd_ne e (by decide)]; decide)⟩, ⟨A', c', rfl, fun _ => own_mono3 ho hb.size⟩, fun j u hj hdj hR => putR_other hj hR⟩
        rcases i with _ | i
        · refine done_value (fun dn w' h => ⟨fun e => h.1 (upd_false e), fun e => h.2 (upd_ne e (by decide))⟩) (fun _ => putR_mono) (.pointer (some ⟨gC, k, none⟩)) rfl ?_
          intro dn a8 w8 hS ho hn
          obtain ⟨_, n21, rfl⟩ := hn 3 25 (by kernel_rfl) rfl
          obtain ⟨_, n22, rfl⟩ := hn 4 26 (by kernel_rfl) rfl
          clear ho hn
          refine ⟨wanted_free rfl, ?_, rfl⟩
          have hl := HKN.out
          go_simp
        rcases i with _ | i
        · refine done_store rfl rfl ?_
          intro dn a8 w8 hS hd hx ho hn
          obtain ⟨_, n25, rfl⟩ := hn 7 29 (by kernel_rfl) rfl
          obtain ⟨_, n24, hR24⟩ := hn 6 28 (by kernel_rfl) rfl
          clear ho hn
          refine ⟨wanted_free rfl, ?_⟩
          obtain ⟨A', c', rfl, ho⟩ := hR24
          obtain ⟨hcell, hfz⟩ := CK.out w8 (hS.1 hd)
          refine ⟨w8.setCell ⟨gC, k, none⟩ (.slice A' 128 c'), by go_simp, ⟨fun e => absurd e (by rw [upd_self]; decide), fun _ => FIN.out w8 A' c' (hS.1 hd) (ho hd)⟩, rfl, fun j u hj hdj hR => putR_store hR⟩
        omega
      · intro done f w8 hS hR hD
        have hfin := hS.2 (hD 8 (by decide))
        obtain ⟨⟨ws', hrd⟩, hkp⟩ := hfin
        have HR8 := Lib.hid hrd
        have HKP := Lib.hid hkp
        have c6 : w8.cell? ⟨b, 6, none⟩ = some (.int .i64 s.many) := hrd.blk.cell 6
        have c2 : w8.cell? ⟨b, 2, none⟩ = some (.int .i64 s.write) := hrd.blk.cell 2
        have f6 := hrd.blk.frozen 6
        have f2 := hrd.blk.frozen 2
        clear hR hD hS hkp hrd
        simp only [putAll, List.foldl_cons, List.foldl_nil, Act.put, List.setIfInBounds_toArray, List.set_cons_succ, List.set_cons_zero]
        have c3 : w8.cell? ⟨b, 3, none⟩ = some (.slice KA s.keep.length Kc) := HR8.out.blk.cell 3
        have c4 : w8.cell? ⟨b, 4, none⟩ = some (.int .i64 s.torn) := HR8.out.blk.cell 4
        have c5 : w8.cell? ⟨b, 5, none⟩ = some (.int .i64 s.at_) := HR8.out.blk.cell 5
        obtain ⟨r6, k6⟩ := HR8.out.count (s.many + 1)
        by_cases hw0 : s.write = 0
        · have h1 := HST.out
          have h2 := HE.out
          rw [if_pos hw0, HTK.out] at h1
          rw [if_neg (by omega)] at h2
          rw [hw0] at c2
          subst h1 h2
          have R6 := Lib.hid r6
          have K6 := Lib.hid (HKP.out.trans k6 (fun _ _ h => h))
          clear hw0 r6 k6
          go_wp2
          go_ret
          exact ⟨rfl, ⟨_, _, _, R6.out⟩, K6.out⟩
        · by_cases hw1 : s.write = 1
          · have h1 := HST.out
            have h2 := HE.out
            rw [if_neg hw0, if_pos hw1, HTK.out] at h1
            rw [if_pos hw1] at h2
            rw [hw1] at c2
            subst h1 h2
            obtain ⟨r2, k2⟩ := r6.left 0
            have HF := Lib.hid (rfall_any ⟨0, s.keep, s.torn, s.at_⟩ hf KA Kc (r2.kHead.f r2) r2)
            have K2 := Lib.hid ((HKP.out.trans k6 (fun _ _ h => h)).trans k2 (fun _ _ h => h))
            clear hw0 hw1 r6 k6 r2 k2 hf
            go_wp2_with (go_at_call 36; (have l0 := HF.out; clear l0); (with_reducible refine HF.out.mono ?_); rintro e w9 ⟨⟨v9, rfl⟩, hr9, hk9⟩; have HR9 := Lib.hid hr9; have HK9 := Lib.hid hk9; clear hr9 hk9)
            go_ret
            obtain ⟨vs9, ws9, hr9⟩ := HR9.out
            exact ⟨rfl, ⟨_, vs9, ws9, hr9⟩, K2.out.trans HK9.out (fun _ _ h => h)⟩
          · have h1 := HST.out
            have h2 := HE.out
            rw [if_neg hw0, if_neg hw1, HTK.out] at h1
            rw [if_neg hw1] at h2
            subst h1 h2
            obtain ⟨y, hy⟩ : ∃ y, s.write - 1 = y := ⟨_, rfl⟩
            obtain ⟨r2, k2⟩ := r6.left y
            have hyp : 0 < y := by omega
            have hwn : ¬ s.write = 0 := hw0
            have R2 := Lib.hid r2
            have K2 := Lib.hid ((HKP.out.trans k6 (fun _ _ h => h)).trans k2 (fun _ _ h => h))
            clear hw0 hw1 r6 k6 r2 k2
            go_wp2
            go_ret
            subst hy
            exact ⟨rfl, ⟨_, _, _, R2.out⟩, K2.out⟩
    · have he : writeErr3 s a l = 30 := by unfold writeErr3; rw [hd, if_neg (by decide), if_neg hok]
      have hst : writeSt3 s a l = s := by unfold writeSt3; rw [hd, if_neg (by decide), if_neg hok]
      rw [he, hst]
      rw [hd] at c7
      clear he hst hr h hf
      cases hh : has3 s a
      · rw [hh] at HH
        clear hok hh hd
        go_enter Try.func13, Try.ntmps13
        go_wp2_with (go_at_call 32; refine HH.out.mono ?_; rintro e _ ⟨rfl, rfl⟩)
        go_ret
        exact ⟨rfl, ⟨_, _, _, HRD.out⟩, Keep.refl _ _⟩
      · rw [hh] at HH
        have hne : ((l.length : Int) != 128) = true := by
          rw [bne_iff_ne]
          intro e
          apply hok
          rw [hh]
          simp
          omega
        generalize l.length = m at *
        clear hok hh hd
        go_enter Try.func13, Try.ntmps13
        go_wp2_with (go_at_call 32; refine HH.out.mono ?_; rintro e _ ⟨rfl, rfl⟩)
        go_ret
        exact ⟨rfl, ⟨_, _, _, HRD.out⟩, Keep.refl _ _⟩
  · have he : writeErr3 s a l = 31 := by unfold writeErr3; rw [hd, if_pos rfl]
    have hst : writeSt3 s a l = s := by unfold writeSt3; rw [hd, if_pos rfl]
    rw [he, hst]
    rw [hd] at c7
    clear he hst hr h hf hd
    generalize l.length = m at *
    go_enter Try.func13, Try.ntmps13
    go_wp2
    go_ret
    exact ⟨rfl, ⟨_, _, _, HRD.out⟩, Keep.refl _ _⟩
end
end Go.Proofs.Ytkebbjodkhjbmaa

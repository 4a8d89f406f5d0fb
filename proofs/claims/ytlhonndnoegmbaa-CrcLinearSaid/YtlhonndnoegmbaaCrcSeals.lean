/-
  The statement CrcSeals is proved: what is sealed, and what is opened, or the error, are the document's; bytes stay, and what is answered is new memory; for any bytes, without a condition.
-/
import Derived.Test.YtlhonndnoegmbaaCrcJoins
namespace Go.Proofs.Ytlhonndnoegmbaa.crcSeals
open Go.ChangeShapes Go.WideShapes Go.ChangeAt Go.RowKit Go.Proofs.Ytlhonndnoegmbaa.crc Go.Proofs.Ytlhonndnoegmbaa.crcJoins

theorem gives_conv {w w1 : World} {v : Value} {L : List UInt8} (h : Gives w w1 v L) : ∃ A c, v = .slice A L.length c ∧ w1.ownsRow w.heap.size 5 1 (.slice A L.length c) L.length (L.map bv) ∧ Below w.heap.size w w1 ∧
    ∀ w', Below w1.heap.size w1 w' → (convert 22 9 (.slice A L.length c)).run Try.prog w' = .ok (.string ⟨L.toArray⟩) w' := by
  obtain ⟨A, c, rfl, ho, hb⟩ := h
  exact ⟨A, c, rfl, ho, hb, fun w' h => conv_reads c ((Reads.of_own ho).below h)⟩

theorem own_cap {w : World} {base e n c : Nat} {A : Option Addr} {xs : List Value} (h : w.ownsRow base e 1 (.slice A n c) n xs) : n ≤ c ∧ c ≤ 9223372036854775807 := by
  rcases h.2 with ⟨e, h0⟩ | ⟨g, cap, cur, e, _, _, hc, hm, _⟩
  · injection e with _ _ e3
    omega
  · injection e with _ _ e3
    unfold maxLen at hm
    omega

section
variable (A : Option Addr) (c : Nat) (l : List UInt8) (w : World)

theorem walk_big (h : 10000 < l.length) (h1 : l.length ≤ 140737488355328) :
    Calls Try.prog 3 #[.slice A l.length c] w fun e w' => e = .returned (.bool true) ∧ Below w.heap.size w w' := by
  go_enter Try.func3, Try.ntmps3
  go_wp2
  go_ret
  exact ⟨rfl, Below.refl _ _⟩

set_option maxRecDepth 100000 in
set_option maxHeartbeats 4000000 in
theorem walk_small (a : Arg w A c l) (h1 : l.length ≤ 10000) :
    Calls Try.prog 3 #[.slice A l.length c] w fun e w' => e = .returned (.bool true) ∧ Below w.heap.size w w' := by
  obtain ⟨i0, hi, hz0, hz1, hz2⟩ := info_parts infoU8
  have HR := Lib.hid a.reads
  obtain ⟨SA, hSA⟩ : ∃ SA, l ++ four (sum (bitsB l)) = SA := ⟨_, rfl⟩
  obtain ⟨SO, hSO⟩ : ∃ SO, openOut l = SO := ⟨_, rfl⟩
  obtain ⟨er, her⟩ : ∃ er, openErr l = er := ⟨_, rfl⟩
  have hSA4 : 4 ≤ SA.length := by rw [← hSA, List.length_append, four_length]; omega
  have hSAl : SA.length ≤ 10004 := by rw [← hSA, List.length_append, four_length]; omega
  have hSOl : SO.length ≤ 10000 := by
    rw [← hSO]
    unfold openOut
    split
    · rw [List.length_take]; omega
    · simp
  have sl := fun A c W h => cseal_any A c l W h (by omega)
  have rs := fun A c W h => r2seal_any A c l W h (by omega)
  have op := fun A c W h => copen_any A c l W h (by omega)
  have ro := fun A c W h => r2open_any A c l W h (by omega)
  simp only [hSA, hSO, her] at sl rs op ro
  have SL := Lib.hid sl
  have RS := Lib.hid rs
  have OP := Lib.hid op
  have RO := Lib.hid ro
  have HCAP := Lib.hid a.cap
  clear sl rs op ro hSA hSO her
  clear a
  go_enter Try.func3, Try.ntmps3
  go_wp2_with (first
    | (at_builtin; refine wpList_append_any _ rfl _ _ 22 rfl w.heap.size 5 i0 (.int .u8 0) 1 1 Try.underlying22 hi hz0 hz1 hz2 rfl (by decide) _ 0 [] rfl (own_fresh _ _ (Nat.le_refl _)) _ A l.length c (l.map bv) rfl (HR.out.below ((Below.refl _ w).alloc (Nat.le_refl _) _)) (bv_one _) (by unfold maxLen; omega) (by omega) (by simp) ?_
       intro v1 w1 o1 g1 _; rw [Nat.zero_add, List.nil_append] at o1; obtain ⟨A1, c1, rfl⟩ := own_slice o1; have HB1 := Lib.hid (((Below.refl _ w).alloc (Nat.le_refl _) _).grown g1 (by simp) (fun k e => ((own_fresh _ _ (Nat.le_refl _)).lt k e).1)); clear g1; have P1 := Lib.hid o1; clear o1)
    | (at_builtin; refine wpList_append_any _ rfl _ _ 22 rfl w.heap.size 5 i0 (.int .u8 0) 1 1 Try.underlying22 hi hz0 hz1 hz2 rfl (by decide) _ l.length (l.map bv) rfl (P1.out.alloc _) _ _ 1 1 [bv 7] rfl (reads_mark w1 #[.int .u8 7] _ [7] 1 rfl rfl) (bv_one [7]) (by unfold maxLen; omega) (by omega) (by have := HB1.out.size; simp; omega) ?_
       intro v2 w2 o2 g2 _; obtain ⟨A2, c2, rfl⟩ := own_slice o2; have hcap2 : l.length ≤ c2 := by { have := (own_cap o2).1; omega }; have HB2 := Lib.hid ((HB1.out.alloc HB1.out.size _).grown g2 (by have := HB1.out.size; simp; omega) (fun k e => (P1.out.lt k e).1)); clear g2 P1; have P2 := Lib.hid o2; clear o2))
  have hm : (l.map bv ++ [bv 7]) = (l ++ [7]).map bv := by simp
  rw [hm] at P2
  have R2 : Hid (Reads w2 w2.heap.size 1 A2 l.length (l.map bv)) := Lib.hid (by
    have h := (Reads.of_own P2.out).front (k := l.length) (by omega)
    rw [List.take_left' rfl] at h
    exact h)
  clear hm
  go_wp2_with (first
    | (go_at_call 8; with_reducible refine (SL.out A2 c2 w2 R2.out).mono ?_; rintro e w3 ⟨v, rfl, g3⟩; obtain ⟨A3, c3, rfl, o3, b3, cv3⟩ := gives_conv g3; have HB3 := Lib.hid b3; have CV3 := Lib.hid cv3; have O3 := Lib.hid o3; clear g3 o3 b3 cv3)
    | (go_at_call 9; with_reducible refine (OP.out A2 c2 w3 ((R2.out.below HB3.out).more HB3.out.size)).mono ?_; rintro e w4 ⟨v, rfl, g4⟩; obtain ⟨A4, c4, rfl, o4, b4, cv4⟩ := gives_conv g4; have HB4 := Lib.hid b4; have CV4 := Lib.hid cv4; have O4 := Lib.hid o4; clear g4 o4 b4 cv4)
    | (go_at_call 10; with_reducible refine (RO.out A c w4 ((HR.out.below (HB2.out.trans ((HB3.out.trans (HB4.out.mono HB3.out.size)).mono HB2.out.size))).more (Nat.le_trans HB2.out.size (Nat.le_trans HB3.out.size HB4.out.size))) HCAP.out).mono ?_; rintro e w5 ⟨v, rfl, g5⟩; obtain ⟨A6, c6, rfl, o5, b5, cv5⟩ := gives_conv g5; have HB5 := Lib.hid b5; have CV5 := Lib.hid cv5; clear g5 o5 b5 cv5))
  have hk35 : Below w3.heap.size w3 w5 := HB4.out.trans (HB5.out.mono HB4.out.size)
  have hk25 : Below w2.heap.size w2 w5 := HB3.out.trans (hk35.mono HB3.out.size)
  have hk5 : Below w.heap.size w w5 := HB2.out.trans (hk25.mono HB2.out.size)
  have CVA := Lib.hid (fun w' (h : Below w5.heap.size w5 w') => CV3.out w' (hk35.trans (h.mono hk35.size)))
  have CVC := Lib.hid (fun w' (h : Below w5.heap.size w5 w') => CV4.out w' (HB5.out.trans (h.mono HB5.out.size)))
  have CVD := Lib.hid (fun w' (h : Below w5.heap.size w5 w') => CV5.out w' h)
  have hrs : ∀ w', Below w5.heap.size w5 w' → Calls Try.prog 11 #[.slice A l.length c] w' fun e w9 => ∃ A5 c5, e = .returned (.slice A5 SA.length c5) ∧ (convert 22 9 (.slice A5 SA.length c5)).run Try.prog w9 = .ok (.string ⟨SA.toArray⟩) w9 ∧ Below w'.heap.size w' w9 := fun w' h => by
    have hb : Below w.heap.size w w' := hk5.trans (h.mono hk5.size)
    refine (RS.out A c w' ((HR.out.below hb).more hb.size)).mono ?_
    rintro e w9 ⟨v, rfl, g⟩
    obtain ⟨A5, c5, rfl, _, b5, cv5⟩ := gives_conv g
    exact ⟨A5, c5, rfl, cv5 w9 (Below.refl _ _), b5⟩
  have HRS := Lib.hid hrs
  have K25 := Lib.hid hk25
  have K35 := Lib.hid hk35
  have K5 := Lib.hid hk5
  obtain ⟨g3, hA3, hg3, hg3'⟩ : ∃ g, A3 = some ⟨g, 0, none⟩ ∧ w2.heap.size ≤ g ∧ g < w3.heap.size := by
    rcases O3.out.2 with ⟨_, h0⟩ | ⟨g, cap, cur, e, hb, hh, _⟩
    · omega
    · injection e with e
      exact ⟨g, e, hb, (Array.getElem?_eq_some_iff.1 hh).1⟩
  subst hA3
  have HG3 := Lib.hid hg3
  have HG3' := Lib.hid hg3'
  clear hg3 hg3' hSA4
  clear hk35 hk25 hk5 hrs
  refine wp_region_steps_on (fun w' => Below w5.heap.size w5 w') (fun i v w' => match i with | 3 => ∃ A5 c5, v = .slice A5 SA.length c5 ∧ (convert 22 9 (.slice A5 SA.length c5)).run Try.prog w' = .ok (.string ⟨SA.toArray⟩) w' | i => v = ([.slice (some ⟨g3, 0, none⟩) SA.length c3, .string ⟨SA.toArray⟩, .slice A l.length c, undef, .string ⟨SA.toArray⟩, .bool false, .bool false, .slice A4 SO.length c4, .string ⟨SO.toArray⟩, .slice A6 SO.length c6, .string ⟨SO.toArray⟩, .bool false, .bool false, .bool false, .int .i64 er, .int .i64 er, .bool false, .bool false] : List Value).getD i undef) (by kernel_rfl) 85 rfl (by kernel_rfl) (Below.refl _ _).drew ?_ ?_
  · intro i hi
    have hi2 : i < 18 := hi
    clear hi
    rcases i with _ | i
    · refine step_value (.slice (some ⟨g3, 0, none⟩) SA.length c3) rfl ?_
      intro a8 w8 hS ho hn
      have o4 : a8.tmps[4]? = some _ := (ho 4 (by kernel_rfl)).trans rfl
      clear ho hn
      refine ⟨wanted_free rfl, ?_, rfl⟩
      go_simp
    rcases i with _ | i
    · refine step_value (.string ⟨SA.toArray⟩) rfl ?_
      intro a8 w8 hS ho hn
      obtain ⟨_, n37, rfl⟩ := hn 0 37 (by kernel_rfl) rfl
      clear ho hn
      refine ⟨wanted_free rfl, ?_, rfl⟩
      have cv := CVA.out w8 hS
      go_simp
    rcases i with _ | i
    · refine step_value (.slice A l.length c) rfl ?_
      intro a8 w8 hS ho hn
      have o0 : a8.tmps[0]? = some _ := (ho 0 (by kernel_rfl)).trans rfl
      clear ho hn
      refine ⟨wanted_free rfl, ?_, rfl⟩
      go_simp
    rcases i with _ | i
    · refine step_call 11 #[.slice A l.length c] rfl ?_
      intro a8 w8 hS ho hn
      obtain ⟨_, n39, rfl⟩ := hn 2 39 (by kernel_rfl) rfl
      clear ho hn
      refine ⟨wanted_free rfl, by go_simp, ?_⟩
      refine (HRS.out w8 hS).mono ?_
      rintro e w9 ⟨A5, c5, rfl, cv5, k5⟩
      exact ⟨_, rfl, hS.trans (k5.mono hS.size), ⟨A5, c5, rfl, cv5⟩, fun j u hj hR => by rcases j with _ | _ | _ | _ | j <;> first | exact absurd rfl hj | exact hR⟩
    rcases i with _ | i
    · refine step_value (.string ⟨SA.toArray⟩) rfl ?_
      intro a8 w8 hS ho hn
      obtain ⟨_, n40, hR40⟩ := hn 3 40 (by kernel_rfl) rfl
      clear ho hn
      refine ⟨wanted_free rfl, ?_, rfl⟩
      obtain ⟨A5, c5, rfl, cv5⟩ := hR40
      go_simp
    rcases i with _ | i
    · refine step_value (.bool false) rfl ?_
      intro a8 w8 hS ho hn
      obtain ⟨_, n38, rfl⟩ := hn 1 38 (by kernel_rfl) rfl
      obtain ⟨_, n41, rfl⟩ := hn 4 41 (by kernel_rfl) rfl
      clear ho hn
      refine ⟨wanted_free rfl, ?_, rfl⟩
      go_simp
    rcases i with _ | i
    · refine step_value (.bool false) rfl ?_
      intro a8 w8 hS ho hn
      obtain ⟨_, n42, rfl⟩ := hn 5 42 (by kernel_rfl) rfl
      clear ho hn
      refine ⟨wanted_free rfl, ?_, rfl⟩
      go_simp
    rcases i with _ | i
    · refine step_value (.slice A4 SO.length c4) rfl ?_
      intro a8 w8 hS ho hn
      have o5 : a8.tmps[5]? = some _ := (ho 5 (by kernel_rfl)).trans rfl
      obtain ⟨_, n43, rfl⟩ := hn 6 43 (by kernel_rfl) rfl
      clear ho hn
      refine ⟨wanted_of 6 43 rfl rfl n43, ?_, rfl⟩
      go_simp
    rcases i with _ | i
    · refine step_value (.string ⟨SO.toArray⟩) rfl ?_
      intro a8 w8 hS ho hn
      obtain ⟨_, n44, rfl⟩ := hn 7 44 (by kernel_rfl) rfl
      obtain ⟨_, n43, rfl⟩ := hn 6 43 (by kernel_rfl) rfl
      clear ho hn
      refine ⟨wanted_of 6 43 rfl rfl n43, ?_, rfl⟩
      have cv := CVC.out w8 hS
      go_simp
    rcases i with _ | i
    · refine step_value (.slice A6 SO.length c6) rfl ?_
      intro a8 w8 hS ho hn
      have o7 : a8.tmps[7]? = some _ := (ho 7 (by kernel_rfl)).trans rfl
      obtain ⟨_, n43, rfl⟩ := hn 6 43 (by kernel_rfl) rfl
      clear ho hn
      refine ⟨wanted_of 6 43 rfl rfl n43, ?_, rfl⟩
      go_simp
    rcases i with _ | i
    · refine step_value (.string ⟨SO.toArray⟩) rfl ?_
      intro a8 w8 hS ho hn
      obtain ⟨_, n46, rfl⟩ := hn 9 46 (by kernel_rfl) rfl
      obtain ⟨_, n43, rfl⟩ := hn 6 43 (by kernel_rfl) rfl
      clear ho hn
      refine ⟨wanted_of 6 43 rfl rfl n43, ?_, rfl⟩
      have cv := CVD.out w8 hS
      go_simp
    rcases i with _ | i
    · refine step_value (.bool false) rfl ?_
      intro a8 w8 hS ho hn
      obtain ⟨_, n45, rfl⟩ := hn 8 45 (by kernel_rfl) rfl
      obtain ⟨_, n47, rfl⟩ := hn 10 47 (by kernel_rfl) rfl
      obtain ⟨_, n43, rfl⟩ := hn 6 43 (by kernel_rfl) rfl
      clear ho hn
      refine ⟨wanted_of 6 43 rfl rfl n43, ?_, rfl⟩
      go_simp
    rcases i with _ | i
    · refine step_value (.bool false) rfl ?_
      intro a8 w8 hS ho hn
      obtain ⟨_, n43, rfl⟩ := hn 6 43 (by kernel_rfl) rfl
      obtain ⟨_, n48, rfl⟩ := hn 11 48 (by kernel_rfl) rfl
      clear ho hn
      refine ⟨wanted_free rfl, ?_, rfl⟩
      go_simp
    rcases i with _ | i
    · refine step_value (.bool false) rfl ?_
      intro a8 w8 hS ho hn
      obtain ⟨_, n49, rfl⟩ := hn 12 49 (by kernel_rfl) rfl
      clear ho hn
      refine ⟨wanted_free rfl, ?_, rfl⟩
      go_simp
    rcases i with _ | i
    · refine step_value (.int .i64 er) rfl ?_
      intro a8 w8 hS ho hn
      have o6 : a8.tmps[6]? = some _ := (ho 6 (by kernel_rfl)).trans rfl
      obtain ⟨_, n50, rfl⟩ := hn 13 50 (by kernel_rfl) rfl
      clear ho hn
      refine ⟨wanted_of 13 50 rfl rfl n50, ?_, rfl⟩
      go_simp
    rcases i with _ | i
    · refine step_value (.int .i64 er) rfl ?_
      intro a8 w8 hS ho hn
      have o8 : a8.tmps[8]? = some _ := (ho 8 (by kernel_rfl)).trans rfl
      obtain ⟨_, n50, rfl⟩ := hn 13 50 (by kernel_rfl) rfl
      clear ho hn
      refine ⟨wanted_of 13 50 rfl rfl n50, ?_, rfl⟩
      go_simp
    rcases i with _ | i
    · refine step_value (.bool false) rfl ?_
      intro a8 w8 hS ho hn
      obtain ⟨_, n51, rfl⟩ := hn 14 51 (by kernel_rfl) rfl
      obtain ⟨_, n52, rfl⟩ := hn 15 52 (by kernel_rfl) rfl
      obtain ⟨_, n50, rfl⟩ := hn 13 50 (by kernel_rfl) rfl
      clear ho hn
      refine ⟨wanted_of 13 50 rfl rfl n50, ?_, rfl⟩
      go_simp
    rcases i with _ | i
    · refine step_value (.bool false) rfl ?_
      intro a8 w8 hS ho hn
      obtain ⟨_, n50, rfl⟩ := hn 13 50 (by kernel_rfl) rfl
      obtain ⟨_, n53, rfl⟩ := hn 16 53 (by kernel_rfl) rfl
      clear ho hn
      refine ⟨wanted_free rfl, ?_, rfl⟩
      go_simp
    omega
  · intro f w8 hS hR
    have e54 : f 54 = .bool false := hR 17 54 rfl
    clear hR
    simp only [putAll, List.foldl_cons, List.foldl_nil, Act.put, List.setIfInBounds_toArray, List.set_cons_succ, List.set_cons_zero]
    rw [e54]
    have HS := Lib.hid hS
    clear hS e54
    have by3 : Bys w8 g3 SA.length := (own_bys O3.out).keep (Keep.of_below (S := fun _ => False) (K35.out.trans (HS.out.mono K35.out.size))) (fun h => h) HG3'.out
    have by4 : ∀ g, A4 = some ⟨g, 0, none⟩ → Bys w8 g SO.length := fun g e => by
      subst e
      exact (own_bys O4.out).keep (Keep.of_below (S := fun _ => False) (HB5.out.trans (HS.out.mono HB5.out.size))) (fun h => h) (O4.out.lt g rfl).2
    have hlt8 : w3.heap.size ≤ w8.heap.size := Nat.le_trans K35.out.size HS.out.size
    have HLT8 := Lib.hid hlt8
    have BY3 := Lib.hid by3
    have BY4 := Lib.hid by4
    clear by3 by4 hlt8
    go_wp2
    go_loopw [57] (fun i wi => ∃ j, j ≤ SA.length ∧ i = .int .i64 j ∧ Keep (fun k => k = g3) w8 wi ∧ Bys wi g3 SA.length) (fun i _ => SA.length - (intOf i).toNat)
    case atStart => exact ⟨0, Nat.zero_le _, rfl, Keep.refl _ _, BY3.out⟩
    case round =>
      obtain ⟨j, hj, rfl, hkp, hbi⟩ := hrel
      have HBI := Lib.hid hbi
      have HKP := Lib.hid hkp
      clear hbi hkp
      by_cases hjl : j < SA.length
      · obtain ⟨x, cx, fx⟩ := HBI.out j hjl
        go_wp2
        exact ⟨⟨j + 1, by omega, by go_num, HKP.out.setCell ⟨g3, j, none⟩ _ (fun _ => rfl), HBI.out.set_ hjl⟩, by simp [intOf]; omega⟩
      · obtain ⟨wo, hwo⟩ : ∃ wo, wo = wr := ⟨_, rfl⟩
        have hk1 : Below w2.heap.size w2 wo := by
          rw [hwo]
          have h8 : Below w2.heap.size w2 w8 := K25.out.trans (HS.out.mono K25.out.size)
          exact h8.trans (HKP.out.below h8.size (fun k hk e => by have := HG3.out; omega))
        have by4 : ∀ g, A4 = some ⟨g, 0, none⟩ → Bys wo g SO.length ∧ w3.heap.size ≤ g := fun g e => by
          rw [hwo]
          have hg4 : w3.heap.size ≤ g := by subst e; exact (O4.out.lt g rfl).1
          refine ⟨(BY4.out g e).keep HKP.out (fun e' => by have := HG3'.out; omega) ?_, hg4⟩
          subst e
          exact Nat.lt_of_lt_of_le (O4.out.lt g rfl).2 (Nat.le_trans HB5.out.size HS.out.size)
        rw [← hwo]
        have HK1 := Lib.hid hk1
        have HY4 := Lib.hid by4
        clear hk1 by4 hwo HKP HBI
        go_wp2
        go_loopw [69] (fun i wi => ∃ j, j ≤ SO.length ∧ i = .int .i64 j ∧ Below w2.heap.size wo wi ∧ ∀ g, A4 = some ⟨g, 0, none⟩ → Bys wi g SO.length) (fun i _ => SO.length - (intOf i).toNat)
        case atStart => exact ⟨0, Nat.zero_le _, rfl, Below.refl _ _, fun g e => (HY4.out g e).1⟩
        case round =>
          obtain ⟨j, hj, rfl, hkp, hbi⟩ := hrel
          have HBI := Lib.hid hbi
          have HKP := Lib.hid hkp
          clear hbi hkp
          by_cases hjl : j < SO.length
          · obtain ⟨g4, hg4⟩ : ∃ g, A4 = some ⟨g, 0, none⟩ := by
              rcases O4.out.2 with ⟨_, h0⟩ | ⟨g, cap, cur, e, _⟩
              · omega
              · injection e with e
                exact ⟨g, e⟩
            obtain ⟨x, cx, fx⟩ := HBI.out g4 hg4 j hjl
            have hgb := (HY4.out g4 hg4).2
            have HGB := Lib.hid hgb
            subst hg4
            clear hgb
            go_wp2
            refine ⟨⟨j + 1, by omega, by go_num, HKP.out.setCell (p := ⟨g4, j, none⟩) (by have := HGB.out; have := HB3.out.size; simp; omega) _, fun g e => ?_⟩, by simp [intOf]; omega⟩
            cases e
            exact (HBI.out g4 rfl).set_ hjl
          · have hend : Below w2.heap.size w2 wr := HK1.out.trans (HKP.out.mono (Nat.le_refl _))
            have hfin : Below w.heap.size w wr := HB2.out.trans (hend.mono HB2.out.size)
            have cvo := conv_reads c2 ((Reads.of_own P2.out).below hend)
            have cvb := conv_reads c (HR.out.below hfin)
            have HF := Lib.hid hfin
            clear hend hfin HKP HBI
            have hcat : ((⟨l.toArray⟩ : ByteArray) ++ (⟨#[7]⟩ : ByteArray)) = ⟨(l ++ [7]).toArray⟩ := by
              apply ByteArray.ext
              simp
            go_wp2
            go_ret
            exact ⟨by simp, HF.out⟩

theorem walk (a : Arg w A c l) : Calls Try.prog 3 #[.slice A l.length c] w fun e w' => e = .returned (.bool true) ∧ Below w.heap.size w w' := by
  by_cases h : 10000 < l.length
  · exact walk_big A c l w h (Nat.le_trans a.cap a.big)
  · exact walk_small A c l w a (by omega)
end

theorem own : ownKnob Try.prog.godebug = none := by kernel_rfl
theorem laidOut : laidOutB Try.prog = true := by kernel_rfl

set_option maxRecDepth 100000 in
theorem lifted (os : Os) (started : os.Started) (H : Type) (enc : TypeId × Value → H) :
    ReturnsInHanded {} Try.checked os 3 .any (Rows.crcSealsSpec.pre6 enc Try.prog Try.f3 Rows.crcSealsRow.domain false) (Rows.crcSealsSpec.post enc Try.prog Try.f3 false true false false) := by
  refine returnsInHanded_of_change_sized (C := Try.checked) own started (by kernel_rfl) Try.func3
    (ChangeSpec.witness6 (enc := enc) (C := Try.checked) false ⟨#[], #[.slice none 0 0], []⟩ 8 (by kernel_rfl) (by kernel_rfl) (by kernel_rfl) (by kernel_rfl)) ?_
  intro W base args ds gs before hval0 hW _ hsz0 _
  have hval : ∀ (j : Nat) t v, Try.f3.params[j]? = some t → args[j]? = some v → Value.okWide Try.prog W .any base t v := hval0
  have hsz : (DataW.weightsEach Try.prog (Try.f3.params.toList ++ Rows.crcSealsSpec.plain.varTypes Try.prog) (ds ++ gs)).all (· ≤ reachBytes) = true := hsz0
  have hW' := hW
  obtain ⟨p, q, hA0, hV, rfl, _, _⟩ := hW
  have hA : DataW.TrodAll enc Try.prog W 0 (fun _ => true) true Try.f3.params.toList args.toList ds p := hA0
  have hA2 := hA
  rw [Try.params3] at hA hval hsz
  obtain ⟨v0, vs0, d0, ds0, p0, q0, hargs, rfl, rfl, h0, r0⟩ := trodAll_cons hA
  obtain ⟨rfl, rfl, rfl⟩ := trodAll_nil r0
  obtain rfl : args = #[v0] := by cases args; simp_all
  obtain ⟨rfl, rfl⟩ := trodVars_none hV
  clear hA0 hval0 hsz0
  simp only [List.append_nil] at hW' hA2
  have hlt : ∀ x ∈ p0, x.block < W.heap.size := fun x hx => by simpa using hW'.lt x (by simpa using hx)
  obtain ⟨A0, c0, L0, rfl, hb0⟩ := open_bytes (hval 0 22 v0 rfl rfl) h0 (fun n hn => by
    have := List.all_eq_true.1 hsz n (DataW.weights_mem_each (j := 0) rfl rfl n hn)
    simpa using this)
  refine (walk A0 c0 L0 W hb0).mono fun e W' ⟨he, hbw⟩ => ?_
  subst he
  exact ⟨_, rfl, _, _, _, [], _, [], hW', trodAll_cons_mk (shut_bool Try.underlying4 _) trodAll_mk0, below_trodAll laidOut hbw (by
    rw [Try.params3]
    intro t ht
    simp at ht
    subst ht
    exact ⟨by kernel_rfl, of_decide_eq_true (by kernel_rfl)⟩) hA2 hlt, rfl, hbw.frame _, fun h => by cases h⟩

/-- The statement. -/
theorem proved : Rows.CrcSealsSaid :=
  OpenClaim.holds_of_wide 3 Try.f3 rfl rfl rfl rfl rfl rfl rfl ⟨rfl, rfl, rfl, rfl, rfl⟩ rfl rfl rfl rfl rfl (by kernel_rfl) Try.func3 (by kernel_rfl)
    (of_decide_eq_true (by kernel_rfl)) (by unfold Func.isWrapper; first | (rw [if_pos (by decide +kernel)]; kernel_rfl) | (rw [if_neg (by decide +kernel)]; exact ⟨rfl, rfl⟩))
    (fun os started H enc _ => lifted os started H enc)

#print axioms proved
end Go.Proofs.Ytlhonndnoegmbaa.crcSeals

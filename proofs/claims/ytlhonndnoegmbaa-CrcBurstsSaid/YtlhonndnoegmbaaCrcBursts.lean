/-
  The statement CrcBursts is proved: what is sealed is opened as it was; with bits turned that all stand within 32 that follow one another, at least one of them, sealed bytes are not sealed any more; for any bytes, place and bits, without a condition.
-/
import Derived.Test.YtlhonndnoegmbaaTail
import Derived.Test.YtlhonndnoegmbaaCrcB
namespace Go.Proofs.Ytlhonndnoegmbaa.crcBursts
open Go.ChangeShapes Go.WideShapes Go.ChangeAt Go.RowKit Go.Proofs.Ytlhonndnoegmbaa.crc Go.Proofs.Ytlhonndnoegmbaa.crcJoins Go.Proofs.Ytlhonndnoegmbaa.crcSeals

theorem own_store {w : World} {base e g n c j : Nat} {xs : List Value} (h : w.ownsRow base e 1 (.slice (some ⟨g, 0, none⟩) n c) n xs) (u : Value) : (w.setCell ⟨g, j, none⟩ u).ownsRow base e 1 (.slice (some ⟨g, 0, none⟩) n c) n (xs.set j u) := by
  refine ⟨by rw [List.length_set]; exact h.1, ?_⟩
  rcases h.2 with ⟨e1, _⟩ | ⟨g1, cap, cur, e1, hb, hh, hc, hm, hs, ht⟩
  · cases e1
  · have e2 := e1
    injection e2 with e2 _ e3
    injection e2 with e2
    injection e2 with e2 _ _
    subst e2 e3
    refine .inr ⟨g, c, cur.setIfInBounds j u, rfl, hb, (show Blk w g e cur from hh).set_ j u, hc, hm, by simpa using hs, ?_⟩
    rw [Array.toList_setIfInBounds, ← ht, Nat.mul_one, List.take_set]

theorem last_cells {w w' : World} {ad : Addr} {n n4 : Nat} {S M : List UInt8} {q0 q1 q2 q3 : UInt8} (hr : Reads w w.heap.size 1 (some ad) n4 (S.map bv)) (hs : S = M ++ [q0, q1, q2, q3]) (hM : M.length = n) (h4 : n + 4 = n4) (hb : Below w.heap.size w w') :
    w'.cell? (ad.add n) = some (.int .u8 (q0.toNat : Int)) ∧ w'.cell? (ad.add (n + 1)) = some (.int .u8 (q1.toNat : Int)) ∧ w'.cell? (ad.add (n + 2)) = some (.int .u8 (q2.toNat : Int)) ∧ w'.cell? (ad.add (n + 3)) = some (.int .u8 (q3.toNat : Int)) := by
  obtain ⟨ad', e, _, hc⟩ := (hr.below hb).2 (by omega)
  injection e with e
  subst e
  subst hs hM
  have g : ∀ (j : Nat) (x : UInt8), ([q0, q1, q2, q3] : List UInt8)[j]? = some x → w'.cell? (ad.add (M.length + j)) = some (.int .u8 (x.toNat : Int)) := fun j x hx => hc (M.length + j) (bv x) (by
    rw [List.getElem?_map, List.getElem?_append_right (by omega), Nat.add_sub_cancel_left, hx]
    rfl)
  exact ⟨g 0 q0 rfl, g 1 q1 rfl, g 2 q2 rfl, g 3 q3 rfl⟩

section
variable (A : Option Addr) (c : Nat) (l : List UInt8) (w : World)

set_option maxRecDepth 100000 in
set_option maxHeartbeats 1000000 in
theorem walk_big (a t : Nat) (h : 2000 < l.length) (h1 : l.length ≤ 140737488355328) :
    Calls Try.prog 6 #[.slice A l.length c, .int .u16 a, .int .u32 t] w fun e w' => e = .returned (.bool true) ∧ Below w.heap.size w w' := by
  generalize l.length = n at *
  go_enter Try.func6, Try.ntmps6
  go_wp2_with (go_at_call 15; with_reducible refine (calive_any _).mono ?_; rintro e w1 ⟨rfl, hb⟩)
  go_ret
  exact ⟨rfl, hb⟩

set_option maxRecDepth 100000 in
set_option maxHeartbeats 4000000 in
theorem walk_small (ar : Arg w A c l) (h1 : l.length ≤ 2000) (a t : Nat) (ha : a < 65536) (ht : t < 4294967296) :
    Calls Try.prog 6 #[.slice A l.length c, .int .u16 a, .int .u32 t] w fun e w' => e = .returned (.bool true) ∧ Below w.heap.size w w' := by
  obtain ⟨SA, hSA⟩ : ∃ SA, l ++ four (sum (bitsB l)) = SA := ⟨_, rfl⟩
  have hee := openErr_seal l
  have heo := openOut_seal l
  have hSAl : SA.length = l.length + 4 := by rw [← hSA, List.length_append, four_length]
  rw [hSA] at hee heo
  have sl := fun W h => cseal_any A c l W h (by omega)
  rw [hSA] at sl
  have op := fun A' c' W h => copen_any A' c' SA W h (by omega)
  rw [hee, heo] at op
  obtain ⟨p0, p1, p2, p3, h4, _⟩ := four_split (sum (bitsB l))
  have hSA2 : SA = l ++ [p3, p2, p1, p0] := by rw [← hSA, h4]
  have hX0 : l ++ (four (sum (bitsB l))).reverse = l ++ [p0, p1, p2, p3] := by rw [h4]; rfl
  have hburst := sealed_burst l
  rw [hX0] at hburst
  have SL := Lib.hid sl
  have OP := Lib.hid op
  have HSAL := Lib.hid hSAl
  have HSA2 := Lib.hid hSA2
  have HBU := Lib.hid hburst
  have HR := Lib.hid ar.reads
  clear sl op hee heo hSAl hSA hSA2 hX0 hburst h4 ar
  go_enter Try.func6, Try.ntmps6
  go_wp2_with (first
    | (go_at_call 15; with_reducible refine (calive_any _).mono ?_; rintro e w1 ⟨rfl, hb⟩; have HB1 := Lib.hid hb; clear hb)
    | (go_at_call 8; with_reducible refine (SL.out w1 ((HR.out.below HB1.out).more HB1.out.size)).mono ?_; rintro e w2 ⟨v, rfl, g2⟩; obtain ⟨AS, cS, rfl, o2, b2, cv2⟩ := gives_conv g2; have HB2 := Lib.hid b2; have O2 := Lib.hid o2; clear g2 o2 b2 cv2)
    | (go_at_call 9; with_reducible refine (OP.out AS cS w2 (Reads.of_own O2.out)).mono ?_; rintro e w3 ⟨v, rfl, g3⟩; obtain ⟨A3, c3, rfl, o3, b3, cv3⟩ := gives_conv g3; have HB3 := Lib.hid b3; have cvx := cv3 w3 (Below.refl _ _); have cvb := conv_reads c (HR.out.below (HB1.out.trans ((HB2.out.trans (HB3.out.mono HB2.out.size)).mono HB1.out.size))); have hSAl := HSAL.out; clear g3 o3 b3 cv3))
  clear hSAl cvx cvb
  obtain ⟨adS, rfl⟩ : ∃ ad, AS = some ad := by
    rcases O2.out.2 with ⟨_, h0⟩ | ⟨g, cap, cur, e, _⟩
    · have := HSAL.out; omega
    · injection e with e
      exact ⟨_, e⟩
  have HSC := Lib.hid (own_cap O2.out).1
  have HRS := Lib.hid (((Reads.of_own O2.out).below HB3.out).more HB3.out.size)
  have HW3 := Lib.hid (HB1.out.trans ((HB2.out.trans (HB3.out.mono HB2.out.size)).mono HB1.out.size))
  rw [HSAL.out] at HSC HRS
  have HRM := Lib.hid (HRS.out.front (k := l.length) (by omega))
  have htk : SA.take l.length = l := by rw [HSA2.out, List.take_left' rfl]
  rw [htk] at HRM
  clear htk HR
  generalize hln : l.length = n at *
  generalize hn4 : n + 4 = n4 at *
  obtain ⟨wb, hwb⟩ : ∃ wb, wb = w3 := ⟨_, rfl⟩
  rw [← hwb] at HRS HRM HW3 ⊢
  have HM1 := Lib.hid (bv_one l)
  have CL := fun w' (h : Below wb.heap.size wb w') => last_cells (n := n) (n4 := n4) HRS.out HSA2.out hln hn4 h
  obtain ⟨n1, e1⟩ : ∃ n1, n + 1 = n1 := ⟨_, rfl⟩
  obtain ⟨n2, e2⟩ : ∃ n2, n + 2 = n2 := ⟨_, rfl⟩
  obtain ⟨n3, e3⟩ : ∃ n3, n + 3 = n3 := ⟨_, rfl⟩
  have N1 := Lib.hid (show (n : Int) + 1 = (n1 : Int) by omega)
  have N2 := Lib.hid (show (n : Int) + 2 = (n2 : Int) by omega)
  have N3 := Lib.hid (show (n : Int) + 3 = (n3 : Int) by omega)
  have W1 := Lib.hid (show IntKind.i64.wrap (n1 : Int) = (n1 : Int) by rw [IntKind.wrap_i64]; omega)
  have W2 := Lib.hid (show IntKind.i64.wrap (n2 : Int) = (n2 : Int) by rw [IntKind.wrap_i64]; omega)
  have W3 := Lib.hid (show IntKind.i64.wrap (n3 : Int) = (n3 : Int) by rw [IntKind.wrap_i64]; omega)
  have L0 := Lib.hid (show n < n4 by omega)
  have L1 := Lib.hid (show n1 < n4 by omega)
  have L2 := Lib.hid (show n2 < n4 by omega)
  have L3 := Lib.hid (show n3 < n4 by omega)
  have HNC := Lib.hid (show n ≤ cS by have := HSC.out; omega)
  rw [e1, e2, e3] at CL
  generalize hb0 : p3.toNat = b0 at CL
  generalize hb1 : p2.toNat = b1 at CL
  generalize hb2 : p1.toNat = b2 at CL
  generalize hb3 : p0.toNat = b3 at CL
  have CA := Lib.hid (fun w' h => (CL w' h).1)
  have CB := Lib.hid (fun w' h => (CL w' h).2.1)
  have CC := Lib.hid (fun w' h => (CL w' h).2.2.1)
  have CD := Lib.hid (fun w' h => (CL w' h).2.2.2)
  have hxs : ([p0, p1, p2, p3] : List UInt8).map bv = [.int .u8 (b3 : Int), .int .u8 (b2 : Int), .int .u8 (b1 : Int), .int .u8 (b0 : Int)] := by
    rw [← hb0, ← hb1, ← hb2, ← hb3]
    rfl
  have HXS := Lib.hid hxs
  have hx1 := bv_one [p0, p1, p2, p3]
  rw [hxs] at hx1
  have HX1 := Lib.hid hx1
  have HX4 := Lib.hid (show ([.int .u8 (b3 : Int), .int .u8 (b2 : Int), .int .u8 (b1 : Int), .int .u8 (b0 : Int)] : List Value).length = 4 from rfl)
  clear CL e1 e2 e3 hb0 hb1 hb2 hb3 hxs hx1
  have HLN := Lib.hid hln
  have HN4 := Lib.hid hn4
  clear hln
  refine wp_region_done_on (fun _ w' => Below wb.heap.size wb w') (tailR wb.heap.size n (l.map bv) [.int .u8 (b3 : Int), .int .u8 (b2 : Int), .int .u8 (b1 : Int), .int .u8 (b0 : Int)] ([undef, .slice (some adS) n4 cS, .int .i64 n, .slice (some adS) n cS, undef, .slice (some adS) n4 cS, .int .i64 n, .int .i64 n3, .pointer (some (adS.add n3)), .int .u8 (b3 : Int), .slice (some adS) n4 cS, .int .i64 n, .int .i64 n2, .pointer (some (adS.add n2)), .int .u8 (b2 : Int), .slice (some adS) n4 cS, .int .i64 n, .int .i64 n1, .pointer (some (adS.add n1)), .int .u8 (b1 : Int), .slice (some adS) n4 cS, .int .i64 n, .pointer (some (adS.add n)), .int .u8 (b0 : Int), undef, undef, undef])) (by kernel_rfl) 156 rfl (by kernel_rfl) (Below.refl _ _).drew ?_ ?_
  · intro i hi
    have hi2 : i < 27 := hi
    clear hi
    rcases i with _ | i
    · refine done_make rfl ?_
      intro dn a8 w8 hS hd hx ho hn
      clear ho hn
      refine ⟨wanted_free rfl, ?_⟩
      refine ⟨.slice (some ⟨w8.heap.size, 0, none⟩) 0 0, w8.alloc (.cells #[] 5), by go_simp, hS.alloc hS.size _, ⟨w8.heap.size, rfl, fun _ _ => own_fresh w8 _ hS.size⟩, fun j u _ _ hR => tailR_alloc _ j u w8 hR⟩
    rcases i with _ | i
    · refine done_value (fun _ _ h => h) (fun _ => tailR_mono) (.slice (some adS) n4 cS) rfl ?_
      intro dn a8 w8 hS ho hn
      have o8 : a8.tmps[8]? = some _ := (ho 8 (by kernel_rfl)).trans rfl
      clear ho hn
      refine ⟨wanted_free rfl, ?_, rfl⟩
      go_simp
    rcases i with _ | i
    · refine done_value (fun _ _ h => h) (fun _ => tailR_mono) (.int .i64 n) rfl ?_
      intro dn a8 w8 hS ho hn
      have o11 : a8.tmps[11]? = some _ := (ho 11 (by kernel_rfl)).trans rfl
      clear ho hn
      refine ⟨wanted_free rfl, ?_, rfl⟩
      go_simp
    rcases i with _ | i
    · refine done_value (fun _ _ h => h) (fun _ => tailR_mono) (.slice (some adS) n cS) rfl ?_
      intro dn a8 w8 hS ho hn
      obtain ⟨_, n55, rfl⟩ := hn 1 55 (by kernel_rfl) rfl
      obtain ⟨_, n56, rfl⟩ := hn 2 56 (by kernel_rfl) rfl
      clear ho hn
      refine ⟨wanted_free rfl, ?_, rfl⟩
      have hc := HNC.out
      go_simp
    rcases i with _ | i
    · refine done_make rfl ?_
      intro dn a8 w8 hS hd hx ho hn
      obtain ⟨_, n54, hR54⟩ := hn 0 54 (by kernel_rfl) rfl
      obtain ⟨_, n57, rfl⟩ := hn 3 57 (by kernel_rfl) rfl
      clear ho hn
      refine ⟨wanted_free rfl, ?_⟩
      obtain ⟨g, rfl, h⟩ := hR54
      obtain ⟨A', c', w', hrun, h2, h3⟩ := app_run (c := cS) (h (hx 25 (by kernel_rfl)) hd) ((HRM.out.below hS).more hS.size) HM1.out (by omega) hS.size
      rw [Nat.zero_add, List.nil_append] at h2
      rw [Nat.zero_add] at hrun
      exact ⟨.slice A' n c', w', exec_append _ _ 22 rfl (eval_of n54) (eval_of n57) hrun, hS.grown h3 hS.size (fun kk e => ((h (hx 25 (by kernel_rfl)) hd).lt kk e).1), ⟨A', c', rfl, fun _ => h2⟩, fun j u hj hdj hR => tailR_first HX4.out (hx 25 (by kernel_rfl)) (hx 26 (by kernel_rfl)) (h (hx 25 (by kernel_rfl)) hd) h3 j u hj hdj hR⟩
    rcases i with _ | i
    · refine done_value (fun _ _ h => h) (fun _ => tailR_mono) (.slice (some adS) n4 cS) rfl ?_
      intro dn a8 w8 hS ho hn
      have o8 : a8.tmps[8]? = some _ := (ho 8 (by kernel_rfl)).trans rfl
      clear ho hn
      refine ⟨wanted_free rfl, ?_, rfl⟩
      go_simp
    rcases i with _ | i
    · refine done_value (fun _ _ h => h) (fun _ => tailR_mono) (.int .i64 n) rfl ?_
      intro dn a8 w8 hS ho hn
      have o11 : a8.tmps[11]? = some _ := (ho 11 (by kernel_rfl)).trans rfl
      clear ho hn
      refine ⟨wanted_free rfl, ?_, rfl⟩
      go_simp
    rcases i with _ | i
    · refine done_value (fun _ _ h => h) (fun _ => tailR_mono) (.int .i64 n3) rfl ?_
      intro dn a8 w8 hS ho hn
      obtain ⟨_, n60, rfl⟩ := hn 6 60 (by kernel_rfl) rfl
      clear ho hn
      refine ⟨wanted_free rfl, ?_, rfl⟩
      have hq := N3.out
      have hw := W3.out
      go_simp
    rcases i with _ | i
    · refine done_value (fun _ _ h => h) (fun _ => tailR_mono) (.pointer (some (adS.add n3))) rfl ?_
      intro dn a8 w8 hS ho hn
      obtain ⟨_, n59, rfl⟩ := hn 5 59 (by kernel_rfl) rfl
      obtain ⟨_, n61, rfl⟩ := hn 7 61 (by kernel_rfl) rfl
      clear ho hn
      refine ⟨wanted_free rfl, ?_, rfl⟩
      have hl := L3.out
      go_simp
    rcases i with _ | i
    · refine done_value (fun _ _ h => h) (fun _ => tailR_mono) (.int .u8 (b3 : Int)) rfl ?_
      intro dn a8 w8 hS ho hn
      obtain ⟨_, n62, rfl⟩ := hn 8 62 (by kernel_rfl) rfl
      clear ho hn
      refine ⟨wanted_free rfl, ?_, rfl⟩
      have cc := CD.out w8 hS
      go_simp
    rcases i with _ | i
    · refine done_value (fun _ _ h => h) (fun _ => tailR_mono) (.slice (some adS) n4 cS) rfl ?_
      intro dn a8 w8 hS ho hn
      have o8 : a8.tmps[8]? = some _ := (ho 8 (by kernel_rfl)).trans rfl
      clear ho hn
      refine ⟨wanted_free rfl, ?_, rfl⟩
      go_simp
    rcases i with _ | i
    · refine done_value (fun _ _ h => h) (fun _ => tailR_mono) (.int .i64 n) rfl ?_
      intro dn a8 w8 hS ho hn
      have o11 : a8.tmps[11]? = some _ := (ho 11 (by kernel_rfl)).trans rfl
      clear ho hn
      refine ⟨wanted_free rfl, ?_, rfl⟩
      go_simp
    rcases i with _ | i
    · refine done_value (fun _ _ h => h) (fun _ => tailR_mono) (.int .i64 n2) rfl ?_
      intro dn a8 w8 hS ho hn
      obtain ⟨_, n65, rfl⟩ := hn 11 65 (by kernel_rfl) rfl
      clear ho hn
      refine ⟨wanted_free rfl, ?_, rfl⟩
      have hq := N2.out
      have hw := W2.out
      go_simp
    rcases i with _ | i
    · refine done_value (fun _ _ h => h) (fun _ => tailR_mono) (.pointer (some (adS.add n2))) rfl ?_
      intro dn a8 w8 hS ho hn
      obtain ⟨_, n64, rfl⟩ := hn 10 64 (by kernel_rfl) rfl
      obtain ⟨_, n66, rfl⟩ := hn 12 66 (by kernel_rfl) rfl
      clear ho hn
      refine ⟨wanted_free rfl, ?_, rfl⟩
      have hl := L2.out
      go_simp
    rcases i with _ | i
    · refine done_value (fun _ _ h => h) (fun _ => tailR_mono) (.int .u8 (b2 : Int)) rfl ?_
      intro dn a8 w8 hS ho hn
      obtain ⟨_, n67, rfl⟩ := hn 13 67 (by kernel_rfl) rfl
      clear ho hn
      refine ⟨wanted_free rfl, ?_, rfl⟩
      have cc := CC.out w8 hS
      go_simp
    rcases i with _ | i
    · refine done_value (fun _ _ h => h) (fun _ => tailR_mono) (.slice (some adS) n4 cS) rfl ?_
      intro dn a8 w8 hS ho hn
      have o8 : a8.tmps[8]? = some _ := (ho 8 (by kernel_rfl)).trans rfl
      clear ho hn
      refine ⟨wanted_free rfl, ?_, rfl⟩
      go_simp
    rcases i with _ | i
    · refine done_value (fun _ _ h => h) (fun _ => tailR_mono) (.int .i64 n) rfl ?_
      intro dn a8 w8 hS ho hn
      have o11 : a8.tmps[11]? = some _ := (ho 11 (by kernel_rfl)).trans rfl
      clear ho hn
      refine ⟨wanted_free rfl, ?_, rfl⟩
      go_simp
    rcases i with _ | i
    · refine done_value (fun _ _ h => h) (fun _ => tailR_mono) (.int .i64 n1) rfl ?_
      intro dn a8 w8 hS ho hn
      obtain ⟨_, n70, rfl⟩ := hn 16 70 (by kernel_rfl) rfl
      clear ho hn
      refine ⟨wanted_free rfl, ?_, rfl⟩
      have hq := N1.out
      have hw := W1.out
      go_simp
    rcases i with _ | i
    · refine done_value (fun _ _ h => h) (fun _ => tailR_mono) (.pointer (some (adS.add n1))) rfl ?_
      intro dn a8 w8 hS ho hn
      obtain ⟨_, n69, rfl⟩ := hn 15 69 (by kernel_rfl) rfl
      obtain ⟨_, n71, rfl⟩ := hn 17 71 (by kernel_rfl) rfl
      clear ho hn
      refine ⟨wanted_free rfl, ?_, rfl⟩
      have hl := L1.out
      go_simp
    rcases i with _ | i
    · refine done_value (fun _ _ h => h) (fun _ => tailR_mono) (.int .u8 (b1 : Int)) rfl ?_
      intro dn a8 w8 hS ho hn
      obtain ⟨_, n72, rfl⟩ := hn 18 72 (by kernel_rfl) rfl
      clear ho hn
      refine ⟨wanted_free rfl, ?_, rfl⟩
      have cc := CB.out w8 hS
      go_simp
    rcases i with _ | i
    · refine done_value (fun _ _ h => h) (fun _ => tailR_mono) (.slice (some adS) n4 cS) rfl ?_
      intro dn a8 w8 hS ho hn
      have o8 : a8.tmps[8]? = some _ := (ho 8 (by kernel_rfl)).trans rfl
      clear ho hn
      refine ⟨wanted_free rfl, ?_, rfl⟩
      go_simp
    rcases i with _ | i
    · refine done_value (fun _ _ h => h) (fun _ => tailR_mono) (.int .i64 n) rfl ?_
      intro dn a8 w8 hS ho hn
      have o11 : a8.tmps[11]? = some _ := (ho 11 (by kernel_rfl)).trans rfl
      clear ho hn
      refine ⟨wanted_free rfl, ?_, rfl⟩
      go_simp
    rcases i with _ | i
    · refine done_value (fun _ _ h => h) (fun _ => tailR_mono) (.pointer (some (adS.add n))) rfl ?_
      intro dn a8 w8 hS ho hn
      obtain ⟨_, n74, rfl⟩ := hn 20 74 (by kernel_rfl) rfl
      obtain ⟨_, n75, rfl⟩ := hn 21 75 (by kernel_rfl) rfl
      clear ho hn
      refine ⟨wanted_free rfl, ?_, rfl⟩
      have hl := L0.out
      go_simp
    rcases i with _ | i
    · refine done_value (fun _ _ h => h) (fun _ => tailR_mono) (.int .u8 (b0 : Int)) rfl ?_
      intro dn a8 w8 hS ho hn
      obtain ⟨_, n76, rfl⟩ := hn 22 76 (by kernel_rfl) rfl
      clear ho hn
      refine ⟨wanted_free rfl, ?_, rfl⟩
      have cc := CA.out w8 hS
      go_simp
    rcases i with _ | i
    · refine done_make rfl ?_
      intro dn a8 w8 hS hd hx ho hn
      obtain ⟨_, n63, rfl⟩ := hn 9 63 (by kernel_rfl) rfl
      obtain ⟨_, n68, rfl⟩ := hn 14 68 (by kernel_rfl) rfl
      obtain ⟨_, n73, rfl⟩ := hn 19 73 (by kernel_rfl) rfl
      obtain ⟨_, n77, rfl⟩ := hn 23 77 (by kernel_rfl) rfl
      clear ho hn
      refine ⟨wanted_free rfl, ?_⟩
      refine ⟨.slice (some ⟨w8.heap.size, 0, none⟩) 4 4, w8.alloc (.cells #[.int .u8 (b3 : Int), .int .u8 (b2 : Int), .int .u8 (b1 : Int), .int .u8 (b0 : Int)] 5), by go_simp, hS.alloc hS.size _, ⟨w8.heap.size, rfl, fun _ => Blk.new w8 _ _⟩, fun j u _ _ hR => tailR_alloc _ j u w8 hR⟩
    rcases i with _ | i
    · refine done_make rfl ?_
      intro dn a8 w8 hS hd hx ho hn
      obtain ⟨_, n58, hR58⟩ := hn 4 58 (by kernel_rfl) rfl
      obtain ⟨_, n78, hR78⟩ := hn 24 78 (by kernel_rfl) rfl
      clear ho hn
      refine ⟨wanted_free rfl, ?_⟩
      obtain ⟨A5, c5, rfl, h5⟩ := hR58
      obtain ⟨g, rfl, hb⟩ := hR78
      obtain ⟨A', c', w', hrun, h2, h3⟩ := app_run (c := 4) (m := 4) (h5 hd) (reads_blk (hb hd)) HX1.out (by omega) hS.size
      exact ⟨.slice A' (n + 4) c', w', exec_append _ _ 22 rfl (eval_of n58) (eval_of n78) hrun, hS.grown h3 hS.size (fun kk e => ((h5 hd).lt kk e).1), ⟨A', c', rfl, h2⟩, fun j u hj hdj hR => tailR_second (hx 26 (by kernel_rfl)) j u hj hdj hR⟩
    rcases i with _ | i
    · refine done_make rfl ?_
      intro dn a8 w8 hS hd hx ho hn
      obtain ⟨_, n79, hR79⟩ := hn 25 79 (by kernel_rfl) rfl
      clear ho hn
      refine ⟨wanted_free rfl, ?_⟩
      obtain ⟨A5, c5, rfl, h5⟩ := hR79
      exact ⟨_, w8, by go_simp, hS, ⟨A5, c5, rfl, h5⟩, fun j u _ _ hR => tailR_mono j u w8 hR⟩
    omega
  · intro done f w8 hS hR _
    obtain ⟨AX, cX, e12, hX⟩ := hR 26 12 rfl
    clear hR
    simp only [putAll, List.foldl_cons, List.foldl_nil, Act.put, List.setIfInBounds_toArray, List.set_cons_succ, List.set_cons_zero]
    rw [e12]
    rw [← HXS.out, ← List.map_append] at hX
    rw [HN4.out] at hX ⊢
    obtain ⟨gX, rfl⟩ : ∃ g, AX = some ⟨g, 0, none⟩ := by
      rcases hX.2 with ⟨_, h0⟩ | ⟨g, cap, cur, e, _⟩
      · omega
      · injection e with e
        exact ⟨_, e⟩
    have hXl : (l ++ [p0, p1, p2, p3]).length = n4 := by rw [List.length_append, HLN.out]; exact hn4
    have hburst := HBU.out
    generalize l ++ [p0, p1, p2, p3] = X at hX hXl hburst
    have HBX := Lib.hid hburst
    have HXL := Lib.hid hXl
    clear hburst hXl HBU
    have HX := Lib.hid hX
    have HS := Lib.hid hS
    have hQ : (8 : Int) * (n4 : Int) - 31 = ((8 * n + 1 : Nat) : Int) := by omega
    obtain ⟨Q, hQ1⟩ : ∃ Q, 8 * n + 1 = Q := ⟨_, rfl⟩
    rw [hQ1] at hQ
    have hfr : (a : Int) % (Q : Int) = ((a % Q : Nat) : Int) := rfl
    have hfq : a % Q < Q := Nat.mod_lt _ (by omega)
    generalize a % Q = fr at hfr hfq
    clear hX hS e12
    go_wp2
    rw [hfr]
    have HQ1 := Lib.hid hQ1
    have HFQ := Lib.hid hfq
    clear hQ hfr hQ1 hfq
    go_loopw [14] (fun i wr => ∃ k, k ≤ 32 ∧ i = .int .i64 ((k : Nat) : Int) ∧ wr.ownsRow wb.heap.size 5 1 (.slice (some ⟨gX, 0, none⟩) n4 cX) n4 ((turned X fr t k).map bv) ∧ Below wb.heap.size wb wr) (fun i _ => 32 - (intOf i).toNat)
    case atStart => exact ⟨0, by omega, rfl, HX.out, HS.out⟩
    case round =>
      obtain ⟨k, hk, rfl, hown, hB⟩ := hrel
      by_cases hlt : k < 32
      · have hm : bits .and .u32 ((t : Int) / 2 ^ k) 1 = (((t.testBit k).toNat : Nat) : Int) := by
          rw [Nat.testBit_eq_decide_div_mod_eq]
          have h0 : ((t : Int) / 2 ^ k) = ((t / 2 ^ k : Nat) : Int) := by simp
          have hq : t / 2 ^ k < 4294967296 := Nat.lt_of_le_of_lt (Nat.div_le_self _ _) ht
          rw [h0]
          generalize t / 2 ^ k = q at hq
          have h := u32_and_nat q 1 (by omega) (by omega)
          rw [Nat.and_one_is_mod] at h
          refine h.trans ?_
          rcases Nat.mod_two_eq_zero_or_one q with h | h <;> simp [h]
        cases htb : t.testBit k
        · rw [htb] at hm
          have hnext : turned X fr t (k + 1) = turned X fr t k := by
            show (if t.testBit k = true then _ else _) = _
            rw [htb]
            rfl
          have HN := Lib.hid hnext
          have HO := Lib.hid hown
          have HB := Lib.hid hB
          clear hnext hown hB htb
          go_wp2
          exact ⟨⟨k + 1, by omega, by go_num, by rw [HN.out]; exact HO.out, HB.out⟩, by simp [intOf]; omega⟩
        · rw [htb] at hm
          have hnext : turned X fr t (k + 1) = crc.flip (turned X fr t k) (fr + k) := by
            show (if t.testBit k = true then _ else _) = _
            rw [htb]
            rfl
          have hlen := turned_length X fr t k
          rw [HXL.out] at hlen
          generalize turned X fr t k = Y at *
          obtain ⟨Y', hY'⟩ : ∃ Y', turned X fr t (k + 1) = Y' := ⟨_, rfl⟩
          have HYN := Lib.hid hY'
          rw [hY'] at hnext
          clear hY'
          have hq8 : (fr + k) / 8 < n4 := by have := HFQ.out; have := HQ1.out; omega
          obtain ⟨x, hx⟩ : ∃ x, Y[(fr + k) / 8]? = some x := ⟨_, List.getElem?_eq_getElem (by omega)⟩
          have hi1 : ((fr : Int) + (k : Int)) / 8 = (((fr + k) / 8 : Nat) : Int) := rfl
          have hi2 : ((fr : Int) + (k : Int)) % 8 = (((fr + k) % 8 : Nat) : Int) := rfl
          have hcell : wr.cell? ⟨gX, (fr + k) / 8, none⟩ = some (.int .u8 (x.toNat : Int)) := by
            have h := hown.cells (g := gX) rfl ((fr + k) / 8) (bv x) (by rw [List.getElem?_map, hx]; rfl)
            have hp : (⟨gX, 0, none⟩ : Addr).add ((fr + k) / 8) = ⟨gX, (fr + k) / 8, none⟩ := by unfold Addr.add; split <;> simp_all
            rw [hp] at h
            exact h
          have hfz : wr.frozen? ⟨gX, (fr + k) / 8, none⟩ = false := by
            obtain ⟨_, _, hf⟩ := own_bys hown ((fr + k) / 8) hq8
            exact hf
          have hfl : Y' = Y.set ((fr + k) / 8) (x ^^^ UInt8.ofNat (2 ^ ((fr + k) % 8))) := by
            rw [hnext]
            unfold crc.flip
            rw [hx]
            rfl
          have hr8 : (fr + k) % 8 < 8 := Nat.mod_lt _ (by omega)
          generalize (fr + k) / 8 = q at *
          generalize (fr + k) % 8 = r at *
          have HO := Lib.hid hown
          have HB := Lib.hid hB
          have HFL := Lib.hid hfl
          have hp256 : (2 : Int) ^ r % 256 = ((2 ^ r % 256 : Nat) : Int) := by simp
          have hxv : bits .xor .u8 (x.toNat : Int) ((2 : Int) ^ r % 256) = (((x ^^^ UInt8.ofNat (2 ^ r)).toNat : Nat) : Int) := by
            rw [hp256, u8_xor_nat _ _ x.toNat_lt (Nat.mod_lt _ (by omega)), UInt8.toNat_xor, UInt8.toNat_ofNat']
          have HXV := Lib.hid hxv
          clear hown hB htb hnext hx hfl hp256 hxv
          go_wp2
          rw [HXV.out]
          refine ⟨⟨k + 1, by omega, by go_num, ?_, HB.out.setCell (p := ⟨gX, q, none⟩) (HO.out.lt gX rfl).1 _⟩, by simp [intOf]; omega⟩
          have h := own_store HO.out (j := q) (.int .u8 (((x ^^^ UInt8.ofNat (2 ^ r)).toNat : Nat) : Int))
          have hmap : Y'.map bv = (Y.map bv).set q (.int .u8 (((x ^^^ UInt8.ofNat (2 ^ r)).toNat : Nat) : Int)) := by
            rw [HFL.out, List.map_set]
            rfl
          rw [HYN.out, hmap]
          exact h
      · obtain rfl : k = 32 := by omega
        have hTl := turned_length X fr t 32
        rw [HXL.out] at hTl
        obtain ⟨T, hT⟩ : ∃ T, turned X fr t 32 = T := ⟨_, rfl⟩
        rw [hT] at hown hTl
        have hMl : (T.take n).length = n := by rw [List.length_take]; omega
        have hdl : (T.drop n).length = 4 := by rw [List.length_drop]; omega
        obtain ⟨q0, q1, q2, q3, hd4⟩ : ∃ q0 q1 q2 q3, T.drop n = [q0, q1, q2, q3] := by
          match T.drop n, hdl with
          | [q0, q1, q2, q3], _ => exact ⟨q0, q1, q2, q3, rfl⟩
        have hTs : T = T.take n ++ [q0, q1, q2, q3] := by rw [← hd4, List.take_append_drop]
        have hsealed := HBX.out fr t (by have := HFQ.out; have := HQ1.out; omega) ht (T.take n) q0 q1 q2 q3 (hT.trans hTs)
        obtain ⟨M, hMd⟩ : ∃ M, T.take n = M := ⟨_, rfl⟩
        rw [hMd] at hMl hTs hsealed
        have HSE := Lib.hid hsealed
        have HMD := Lib.hid hMd
        have HTS := Lib.hid hTs
        have HML := Lib.hid hMl
        clear hsealed hMd hTs hd4 hdl hMl hT hTl
        clear N1 N2 N3 W1 W2 W3 L0 L1 L2 L3 HNC CA CB CC CD HXS HX1 HX4 HM1 HRM
        obtain ⟨wc, hwc⟩ : ∃ wc, wc = wr := ⟨_, rfl⟩
        obtain ⟨adT, hadT⟩ : ∃ ad : Addr, ad = ⟨gX, 0, none⟩ := ⟨_, rfl⟩
        have HSC2 := Lib.hid (own_cap hown).1
        have HRS2 := Lib.hid (Reads.of_own hown)
        rw [← hadT] at HRS2 ⊢
        rw [← hwc] at HRS2 hB ⊢
        have HRM := Lib.hid (HRS2.out.front (k := n) (by omega))
        rw [HMD.out] at HRM
        have HM1 := Lib.hid (bv_one M)
        have HBC := Lib.hid hB
        clear hown hB hwc hadT
        have CL := fun w' (h : Below wc.heap.size wc w') => last_cells (n := n) (n4 := n4) HRS2.out HTS.out HML.out hn4 h
        obtain ⟨n1, e1⟩ : ∃ n1, n + 1 = n1 := ⟨_, rfl⟩
        obtain ⟨n2, e2⟩ : ∃ n2, n + 2 = n2 := ⟨_, rfl⟩
        obtain ⟨n3, e3⟩ : ∃ n3, n + 3 = n3 := ⟨_, rfl⟩
        have N1 := Lib.hid (show (n : Int) + 1 = (n1 : Int) by omega)
        have N2 := Lib.hid (show (n : Int) + 2 = (n2 : Int) by omega)
        have N3 := Lib.hid (show (n : Int) + 3 = (n3 : Int) by omega)
        have W1 := Lib.hid (show IntKind.i64.wrap (n1 : Int) = (n1 : Int) by rw [IntKind.wrap_i64]; omega)
        have W2 := Lib.hid (show IntKind.i64.wrap (n2 : Int) = (n2 : Int) by rw [IntKind.wrap_i64]; omega)
        have W3 := Lib.hid (show IntKind.i64.wrap (n3 : Int) = (n3 : Int) by rw [IntKind.wrap_i64]; omega)
        have L0 := Lib.hid (show n < n4 by omega)
        have L1 := Lib.hid (show n1 < n4 by omega)
        have L2 := Lib.hid (show n2 < n4 by omega)
        have L3 := Lib.hid (show n3 < n4 by omega)
        have HNC := Lib.hid (show n ≤ cX by have := HSC2.out; omega)
        rw [e1, e2, e3] at CL
        generalize hb0 : q0.toNat = b0 at CL
        generalize hb1 : q1.toNat = b1 at CL
        generalize hb2 : q2.toNat = b2 at CL
        generalize hb3 : q3.toNat = b3 at CL
        have CA := Lib.hid (fun w' h => (CL w' h).1)
        have CB := Lib.hid (fun w' h => (CL w' h).2.1)
        have CC := Lib.hid (fun w' h => (CL w' h).2.2.1)
        have CD := Lib.hid (fun w' h => (CL w' h).2.2.2)
        have hxs : ([q3, q2, q1, q0] : List UInt8).map bv = [.int .u8 (b3 : Int), .int .u8 (b2 : Int), .int .u8 (b1 : Int), .int .u8 (b0 : Int)] := by
          rw [← hb0, ← hb1, ← hb2, ← hb3]
          rfl
        have HXS := Lib.hid hxs
        have hx1 := bv_one [q3, q2, q1, q0]
        rw [hxs] at hx1
        have HX1 := Lib.hid hx1
        have HX4 := Lib.hid (show ([.int .u8 (b3 : Int), .int .u8 (b2 : Int), .int .u8 (b1 : Int), .int .u8 (b0 : Int)] : List Value).length = 4 from rfl)
        clear CL e1 e2 e3 hb0 hb1 hb2 hb3 hxs hx1
        go_wp2
        refine wp_region_done_on (fun _ w' => Below wc.heap.size wc w') (tailR wc.heap.size n (M.map bv) [.int .u8 (b3 : Int), .int .u8 (b2 : Int), .int .u8 (b1 : Int), .int .u8 (b0 : Int)] ([undef, .slice (some adT) n4 cX, .int .i64 n, .slice (some adT) n cX, undef, .slice (some adT) n4 cX, .int .i64 n, .int .i64 n3, .pointer (some (adT.add n3)), .int .u8 (b3 : Int), .slice (some adT) n4 cX, .int .i64 n, .int .i64 n2, .pointer (some (adT.add n2)), .int .u8 (b2 : Int), .slice (some adT) n4 cX, .int .i64 n, .int .i64 n1, .pointer (some (adT.add n1)), .int .u8 (b1 : Int), .slice (some adT) n4 cX, .int .i64 n, .pointer (some (adT.add n)), .int .u8 (b0 : Int), undef, undef, undef])) (by kernel_rfl) 156 rfl (by kernel_rfl) (Below.refl _ _).drew ?_ ?_
        · intro i hi
          have hi2 : i < 27 := hi
          clear hi
          rcases i with _ | i
          · refine done_make rfl ?_
            intro dn a8 w8 hS hd hx ho hn
            clear ho hn
            refine ⟨wanted_free rfl, ?_⟩
            refine ⟨.slice (some ⟨w8.heap.size, 0, none⟩) 0 0, w8.alloc (.cells #[] 5), by go_simp, hS.alloc hS.size _, ⟨w8.heap.size, rfl, fun _ _ => own_fresh w8 _ hS.size⟩, fun j u _ _ hR => tailR_alloc _ j u w8 hR⟩
          rcases i with _ | i
          · refine done_value (fun _ _ h => h) (fun _ => tailR_mono) (.slice (some adT) n4 cX) rfl ?_
            intro dn a8 w8 hS ho hn
            have o12 : a8.tmps[12]? = some _ := (ho 12 (by kernel_rfl)).trans rfl
            clear ho hn
            refine ⟨wanted_free rfl, ?_, rfl⟩
            go_simp
          rcases i with _ | i
          · refine done_value (fun _ _ h => h) (fun _ => tailR_mono) (.int .i64 n) rfl ?_
            intro dn a8 w8 hS ho hn
            have o11 : a8.tmps[11]? = some _ := (ho 11 (by kernel_rfl)).trans rfl
            clear ho hn
            refine ⟨wanted_free rfl, ?_, rfl⟩
            go_simp
          rcases i with _ | i
          · refine done_value (fun _ _ h => h) (fun _ => tailR_mono) (.slice (some adT) n cX) rfl ?_
            intro dn a8 w8 hS ho hn
            obtain ⟨_, n118, rfl⟩ := hn 1 118 (by kernel_rfl) rfl
            obtain ⟨_, n119, rfl⟩ := hn 2 119 (by kernel_rfl) rfl
            clear ho hn
            refine ⟨wanted_free rfl, ?_, rfl⟩
            have hc := HNC.out
            go_simp
          rcases i with _ | i
          · refine done_make rfl ?_
            intro dn a8 w8 hS hd hx ho hn
            obtain ⟨_, n117, hR117⟩ := hn 0 117 (by kernel_rfl) rfl
            obtain ⟨_, n120, rfl⟩ := hn 3 120 (by kernel_rfl) rfl
            clear ho hn
            refine ⟨wanted_free rfl, ?_⟩
            obtain ⟨g, rfl, h⟩ := hR117
            obtain ⟨A', c', w', hrun, h2, h3⟩ := app_run (c := cX) (h (hx 25 (by kernel_rfl)) hd) ((HRM.out.below hS).more hS.size) HM1.out (by omega) hS.size
            rw [Nat.zero_add, List.nil_append] at h2
            rw [Nat.zero_add] at hrun
            exact ⟨.slice A' n c', w', exec_append _ _ 22 rfl (eval_of n117) (eval_of n120) hrun, hS.grown h3 hS.size (fun kk e => ((h (hx 25 (by kernel_rfl)) hd).lt kk e).1), ⟨A', c', rfl, fun _ => h2⟩, fun j u hj hdj hR => tailR_first HX4.out (hx 25 (by kernel_rfl)) (hx 26 (by kernel_rfl)) (h (hx 25 (by kernel_rfl)) hd) h3 j u hj hdj hR⟩
          rcases i with _ | i
          · refine done_value (fun _ _ h => h) (fun _ => tailR_mono) (.slice (some adT) n4 cX) rfl ?_
            intro dn a8 w8 hS ho hn
            have o12 : a8.tmps[12]? = some _ := (ho 12 (by kernel_rfl)).trans rfl
            clear ho hn
            refine ⟨wanted_free rfl, ?_, rfl⟩
            go_simp
          rcases i with _ | i
          · refine done_value (fun _ _ h => h) (fun _ => tailR_mono) (.int .i64 n) rfl ?_
            intro dn a8 w8 hS ho hn
            have o11 : a8.tmps[11]? = some _ := (ho 11 (by kernel_rfl)).trans rfl
            clear ho hn
            refine ⟨wanted_free rfl, ?_, rfl⟩
            go_simp
          rcases i with _ | i
          · refine done_value (fun _ _ h => h) (fun _ => tailR_mono) (.int .i64 n3) rfl ?_
            intro dn a8 w8 hS ho hn
            obtain ⟨_, n123, rfl⟩ := hn 6 123 (by kernel_rfl) rfl
            clear ho hn
            refine ⟨wanted_free rfl, ?_, rfl⟩
            have hq := N3.out
            have hw := W3.out
            go_simp
          rcases i with _ | i
          · refine done_value (fun _ _ h => h) (fun _ => tailR_mono) (.pointer (some (adT.add n3))) rfl ?_
            intro dn a8 w8 hS ho hn
            obtain ⟨_, n122, rfl⟩ := hn 5 122 (by kernel_rfl) rfl
            obtain ⟨_, n124, rfl⟩ := hn 7 124 (by kernel_rfl) rfl
            clear ho hn
            refine ⟨wanted_free rfl, ?_, rfl⟩
            have hl := L3.out
            go_simp
          rcases i with _ | i
          · refine done_value (fun _ _ h => h) (fun _ => tailR_mono) (.int .u8 (b3 : Int)) rfl ?_
            intro dn a8 w8 hS ho hn
            obtain ⟨_, n125, rfl⟩ := hn 8 125 (by kernel_rfl) rfl
            clear ho hn
            refine ⟨wanted_free rfl, ?_, rfl⟩
            have cc := CD.out w8 hS
            go_simp
          rcases i with _ | i
          · refine done_value (fun _ _ h => h) (fun _ => tailR_mono) (.slice (some adT) n4 cX) rfl ?_
            intro dn a8 w8 hS ho hn
            have o12 : a8.tmps[12]? = some _ := (ho 12 (by kernel_rfl)).trans rfl
            clear ho hn
            refine ⟨wanted_free rfl, ?_, rfl⟩
            go_simp
          rcases i with _ | i
          · refine done_value (fun _ _ h => h) (fun _ => tailR_mono) (.int .i64 n) rfl ?_
            intro dn a8 w8 hS ho hn
            have o11 : a8.tmps[11]? = some _ := (ho 11 (by kernel_rfl)).trans rfl
            clear ho hn
            refine ⟨wanted_free rfl, ?_, rfl⟩
            go_simp
          rcases i with _ | i
          · refine done_value (fun _ _ h => h) (fun _ => tailR_mono) (.int .i64 n2) rfl ?_
            intro dn a8 w8 hS ho hn
            obtain ⟨_, n128, rfl⟩ := hn 11 128 (by kernel_rfl) rfl
            clear ho hn
            refine ⟨wanted_free rfl, ?_, rfl⟩
            have hq := N2.out
            have hw := W2.out
            go_simp
          rcases i with _ | i
          · refine done_value (fun _ _ h => h) (fun _ => tailR_mono) (.pointer (some (adT.add n2))) rfl ?_
            intro dn a8 w8 hS ho hn
            obtain ⟨_, n127, rfl⟩ := hn 10 127 (by kernel_rfl) rfl
            obtain ⟨_, n129, rfl⟩ := hn 12 129 (by kernel_rfl) rfl
            clear ho hn
            refine ⟨wanted_free rfl, ?_, rfl⟩
            have hl := L2.out
            go_simp
          rcases i with _ | i
          · refine done_value (fun _ _ h => h) (fun _ => tailR_mono) (.int .u8 (b2 : Int)) rfl ?_
            intro dn a8 w8 hS ho hn
            obtain ⟨_, n130, rfl⟩ := hn 13 130 (by kernel_rfl) rfl
            clear ho hn
            refine ⟨wanted_free rfl, ?_, rfl⟩
            have cc := CC.out w8 hS
            go_simp
          rcases i with _ | i
          · refine done_value (fun _ _ h => h) (fun _ => tailR_mono) (.slice (some adT) n4 cX) rfl ?_
            intro dn a8 w8 hS ho hn
            have o12 : a8.tmps[12]? = some _ := (ho 12 (by kernel_rfl)).trans rfl
            clear ho hn
            refine ⟨wanted_free rfl, ?_, rfl⟩
            go_simp
          rcases i with _ | i
          · refine done_value (fun _ _ h => h) (fun _ => tailR_mono) (.int .i64 n) rfl ?_
            intro dn a8 w8 hS ho hn
            have o11 : a8.tmps[11]? = some _ := (ho 11 (by kernel_rfl)).trans rfl
            clear ho hn
            refine ⟨wanted_free rfl, ?_, rfl⟩
            go_simp
          rcases i with _ | i
          · refine done_value (fun _ _ h => h) (fun _ => tailR_mono) (.int .i64 n1) rfl ?_
            intro dn a8 w8 hS ho hn
            obtain ⟨_, n133, rfl⟩ := hn 16 133 (by kernel_rfl) rfl
            clear ho hn
            refine ⟨wanted_free rfl, ?_, rfl⟩
            have hq := N1.out
            have hw := W1.out
            go_simp
          rcases i with _ | i
          · refine done_value (fun _ _ h => h) (fun _ => tailR_mono) (.pointer (some (adT.add n1))) rfl ?_
            intro dn a8 w8 hS ho hn
            obtain ⟨_, n132, rfl⟩ := hn 15 132 (by kernel_rfl) rfl
            obtain ⟨_, n134, rfl⟩ := hn 17 134 (by kernel_rfl) rfl
            clear ho hn
            refine ⟨wanted_free rfl, ?_, rfl⟩
            have hl := L1.out
            go_simp
          rcases i with _ | i
          · refine done_value (fun _ _ h => h) (fun _ => tailR_mono) (.int .u8 (b1 : Int)) rfl ?_
            intro dn a8 w8 hS ho hn
            obtain ⟨_, n135, rfl⟩ := hn 18 135 (by kernel_rfl) rfl
            clear ho hn
            refine ⟨wanted_free rfl, ?_, rfl⟩
            have cc := CB.out w8 hS
            go_simp
          rcases i with _ | i
          · refine done_value (fun _ _ h => h) (fun _ => tailR_mono) (.slice (some adT) n4 cX) rfl ?_
            intro dn a8 w8 hS ho hn
            have o12 : a8.tmps[12]? = some _ := (ho 12 (by kernel_rfl)).trans rfl
            clear ho hn
            refine ⟨wanted_free rfl, ?_, rfl⟩
            go_simp
          rcases i with _ | i
          · refine done_value (fun _ _ h => h) (fun _ => tailR_mono) (.int .i64 n) rfl ?_
            intro dn a8 w8 hS ho hn
            have o11 : a8.tmps[11]? = some _ := (ho 11 (by kernel_rfl)).trans rfl
            clear ho hn
            refine ⟨wanted_free rfl, ?_, rfl⟩
            go_simp
          rcases i with _ | i
          · refine done_value (fun _ _ h => h) (fun _ => tailR_mono) (.pointer (some (adT.add n))) rfl ?_
            intro dn a8 w8 hS ho hn
            obtain ⟨_, n137, rfl⟩ := hn 20 137 (by kernel_rfl) rfl
            obtain ⟨_, n138, rfl⟩ := hn 21 138 (by kernel_rfl) rfl
            clear ho hn
            refine ⟨wanted_free rfl, ?_, rfl⟩
            have hl := L0.out
            go_simp
          rcases i with _ | i
          · refine done_value (fun _ _ h => h) (fun _ => tailR_mono) (.int .u8 (b0 : Int)) rfl ?_
            intro dn a8 w8 hS ho hn
            obtain ⟨_, n139, rfl⟩ := hn 22 139 (by kernel_rfl) rfl
            clear ho hn
            refine ⟨wanted_free rfl, ?_, rfl⟩
            have cc := CA.out w8 hS
            go_simp
          rcases i with _ | i
          · refine done_make rfl ?_
            intro dn a8 w8 hS hd hx ho hn
            obtain ⟨_, n126, rfl⟩ := hn 9 126 (by kernel_rfl) rfl
            obtain ⟨_, n131, rfl⟩ := hn 14 131 (by kernel_rfl) rfl
            obtain ⟨_, n136, rfl⟩ := hn 19 136 (by kernel_rfl) rfl
            obtain ⟨_, n140, rfl⟩ := hn 23 140 (by kernel_rfl) rfl
            clear ho hn
            refine ⟨wanted_free rfl, ?_⟩
            refine ⟨.slice (some ⟨w8.heap.size, 0, none⟩) 4 4, w8.alloc (.cells #[.int .u8 (b3 : Int), .int .u8 (b2 : Int), .int .u8 (b1 : Int), .int .u8 (b0 : Int)] 5), by go_simp, hS.alloc hS.size _, ⟨w8.heap.size, rfl, fun _ => Blk.new w8 _ _⟩, fun j u _ _ hR => tailR_alloc _ j u w8 hR⟩
          rcases i with _ | i
          · refine done_make rfl ?_
            intro dn a8 w8 hS hd hx ho hn
            obtain ⟨_, n121, hR121⟩ := hn 4 121 (by kernel_rfl) rfl
            obtain ⟨_, n141, hR141⟩ := hn 24 141 (by kernel_rfl) rfl
            clear ho hn
            refine ⟨wanted_free rfl, ?_⟩
            obtain ⟨A5, c5, rfl, h5⟩ := hR121
            obtain ⟨g, rfl, hb⟩ := hR141
            obtain ⟨A', c', w', hrun, h2, h3⟩ := app_run (c := 4) (m := 4) (h5 hd) (reads_blk (hb hd)) HX1.out (by omega) hS.size
            exact ⟨.slice A' (n + 4) c', w', exec_append _ _ 22 rfl (eval_of n121) (eval_of n141) hrun, hS.grown h3 hS.size (fun kk e => ((h5 hd).lt kk e).1), ⟨A', c', rfl, h2⟩, fun j u hj hdj hR => tailR_second (hx 26 (by kernel_rfl)) j u hj hdj hR⟩
          rcases i with _ | i
          · refine done_make rfl ?_
            intro dn a8 w8 hS hd hx ho hn
            obtain ⟨_, n142, hR142⟩ := hn 25 142 (by kernel_rfl) rfl
            clear ho hn
            refine ⟨wanted_free rfl, ?_⟩
            obtain ⟨A5, c5, rfl, h5⟩ := hR142
            exact ⟨_, w8, by go_simp, hS, ⟨A5, c5, rfl, h5⟩, fun j u _ _ hR => tailR_mono j u w8 hR⟩
          omega
        · intro done f w8 hS hR _
          obtain ⟨AY, cY, e15, hY⟩ := hR 26 15 rfl
          clear hR
          simp only [putAll, List.foldl_cons, List.foldl_nil, Act.put, List.setIfInBounds_toArray, List.set_cons_succ, List.set_cons_zero]
          rw [e15]
          rw [← HXS.out, ← List.map_append] at hY
          rw [HN4.out] at hY ⊢
          have hbl : (M ++ [q3, q2, q1, q0]).length = n4 := by rw [List.length_append, HML.out]; exact hn4
          have hop := copen_any AY cY (M ++ [q3, q2, q1, q0]) w8 (by rw [hbl]; exact Reads.of_own hY) (by rw [hbl]; omega)
          rw [hbl] at hop
          have herr : openErr (M ++ [q3, q2, q1, q0]) = if t = 0 then 0 else 20 := by
            unfold openErr
            rw [HSE.out]
            by_cases h0 : t = 0 <;> simp [h0]
          rw [herr] at hop
          have HOP := Lib.hid hop
          have HB8 := Lib.hid (HW3.out.trans ((HBC.out.trans (hS.mono HBC.out.size)).mono HW3.out.size))
          clear hop herr hbl hY hS e15
          by_cases h0 : t = 0
          · subst h0
            rw [if_pos rfl] at HOP
            go_wp2_with (go_at_call 9; with_reducible refine HOP.out.mono ?_; rintro e w9 ⟨v, rfl, g9⟩; obtain ⟨A9, c9, rfl, o9, b9, cv9⟩ := gives_conv g9; have HB9 := Lib.hid b9; clear g9 o9 b9 cv9)
            go_ret
            exact ⟨rfl, HB8.out.trans (HB9.out.mono HB8.out.size)⟩
          · rw [if_neg h0] at HOP
            have ht0 : ((t : Int) == 0) = false := by rw [beq_eq_false_iff_ne]; omega
            go_wp2_with (go_at_call 9; with_reducible refine HOP.out.mono ?_; rintro e w9 ⟨v, rfl, g9⟩; obtain ⟨A9, c9, rfl, o9, b9, cv9⟩ := gives_conv g9; have HB9 := Lib.hid b9; clear g9 o9 b9 cv9)
            go_ret
            exact ⟨rfl, HB8.out.trans (HB9.out.mono HB8.out.size)⟩
theorem walk (ar : Arg w A c l) (a t : Nat) (ha : a < 65536) (ht : t < 4294967296) :
    Calls Try.prog 6 #[.slice A l.length c, .int .u16 a, .int .u32 t] w fun e w' => e = .returned (.bool true) ∧ Below w.heap.size w w' := by
  by_cases h : 2000 < l.length
  · exact walk_big A c l w a t h (Nat.le_trans ar.cap ar.big)
  · exact walk_small A c l w ar (by omega) a t ha ht
end

theorem own : ownKnob Try.prog.godebug = none := by kernel_rfl
theorem laidOut : laidOutB Try.prog = true := by kernel_rfl

set_option maxRecDepth 100000 in
theorem lifted (os : Os) (started : os.Started) (H : Type) (enc : TypeId × Value → H) :
    ReturnsInHanded {} Try.checked os 6 .any (Rows.crcBurstsSpec.pre6 enc Try.prog Try.f6 Rows.crcBurstsRow.domain false) (Rows.crcBurstsSpec.post enc Try.prog Try.f6 false true false false) := by
  refine returnsInHanded_of_change_sized (C := Try.checked) own started (by kernel_rfl) Try.func6
    (ChangeSpec.witness6 (enc := enc) (C := Try.checked) false ⟨#[], #[.slice none 0 0, .int .u16 0, .int .u32 0], []⟩ 8 (by kernel_rfl) (by kernel_rfl) (by kernel_rfl) (by kernel_rfl)) ?_
  intro W base args ds gs before hval0 hW _ hsz0 _
  have hval : ∀ (j : Nat) t v, Try.f6.params[j]? = some t → args[j]? = some v → Value.okWide Try.prog W .any base t v := hval0
  have hsz : (DataW.weightsEach Try.prog (Try.f6.params.toList ++ Rows.crcBurstsSpec.plain.varTypes Try.prog) (ds ++ gs)).all (· ≤ reachBytes) = true := hsz0
  have hW' := hW
  obtain ⟨p, q, hA0, hV, rfl, _, _⟩ := hW
  have hA : DataW.TrodAll enc Try.prog W 0 (fun _ => true) true Try.f6.params.toList args.toList ds p := hA0
  have hA2 := hA
  rw [Try.params6] at hA hval hsz
  obtain ⟨v0, vs0, d0, ds0, p0, q0, hargs, rfl, rfl, h0, r0⟩ := trodAll_cons hA
  obtain ⟨v1, vs1, d1, ds1, p1, q1, rfl, rfl, rfl, h1, r1⟩ := trodAll_cons r0
  obtain ⟨v2, vs2, d2, ds2, p2, q2, rfl, rfl, rfl, h2, r2⟩ := trodAll_cons r1
  obtain ⟨rfl, rfl, rfl⟩ := trodAll_nil r2
  obtain rfl : args = #[v0, v1, v2] := by cases args; simp_all
  obtain ⟨rfl, rfl⟩ := trodVars_none hV
  clear hA0 hval0 hsz0
  simp only [List.append_nil] at hW' hA2
  have hlt : ∀ x ∈ p0 ++ (p1 ++ p2), x.block < W.heap.size := fun x hx => by simpa using hW'.lt x (by simpa using hx)
  obtain ⟨A0, c0, L0, rfl, hb0⟩ := open_bytes (hval 0 22 v0 rfl rfl) h0 (fun n hn => by
    have := List.all_eq_true.1 hsz n (DataW.weights_mem_each (j := 0) rfl rfl n hn)
    simpa using this)
  obtain ⟨a1, rfl, _, _, w1⟩ := open_int Try.underlying37 (hval 1 37 v1 rfl rfl) h1
  obtain ⟨a2, rfl, _, _, w2⟩ := open_int Try.underlying30 (hval 2 30 v2 rfl rfl) h2
  have m1 : IntKind.u16.min = 0 := rfl
  have m2 : IntKind.u16.max = 65535 := rfl
  have m3 : IntKind.u32.min = 0 := rfl
  have m4 : IntKind.u32.max = 4294967295 := rfl
  simp only [Lit.wf, Bool.and_eq_true, decide_eq_true_eq] at w1 w2
  obtain ⟨a, rfl⟩ := Int.eq_ofNat_of_zero_le (a := a1) (by omega)
  obtain ⟨t, rfl⟩ := Int.eq_ofNat_of_zero_le (a := a2) (by omega)
  refine (walk A0 c0 L0 W hb0 a t (by omega) (by omega)).mono fun e W' ⟨he, hbw⟩ => ?_
  subst he
  exact ⟨_, rfl, _, _, _, [], _, [], hW', trodAll_cons_mk (shut_bool Try.underlying4 _) trodAll_mk0, below_trodAll laidOut hbw (by
    rw [Try.params6]
    intro t ht
    simp at ht
    rcases ht with rfl | rfl | rfl
    · exact ⟨by kernel_rfl, of_decide_eq_true (by kernel_rfl)⟩
    · exact ⟨by kernel_rfl, of_decide_eq_true (by kernel_rfl)⟩
    · exact ⟨by kernel_rfl, of_decide_eq_true (by kernel_rfl)⟩) hA2 hlt, rfl, hbw.frame _, fun h => by cases h⟩

/-- The statement. -/
theorem proved : Rows.CrcBurstsSaid :=
  OpenClaim.holds_of_wide 6 Try.f6 rfl rfl rfl rfl rfl rfl rfl ⟨rfl, rfl, rfl, rfl, rfl⟩ rfl rfl rfl rfl rfl (by kernel_rfl) Try.func6 (by kernel_rfl)
    (of_decide_eq_true (by kernel_rfl)) (by unfold Func.isWrapper; first | (rw [if_pos (by decide +kernel)]; kernel_rfl) | (rw [if_neg (by decide +kernel)]; exact ⟨rfl, rfl⟩))
    (fun os started H enc _ => lifted os started H enc)

#print axioms proved
end Go.Proofs.Ytlhonndnoegmbaa.crcBursts

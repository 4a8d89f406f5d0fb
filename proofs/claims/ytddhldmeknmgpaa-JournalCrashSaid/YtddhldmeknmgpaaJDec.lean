/-
  Layer 8 without any program: a record, when it may be, its sector, the record of bytes. And the program's own head, Encode, candidate, Decode.
-/
import Derived.Test.YtddhldmeknmgpaaRtDec
namespace Go.Proofs.Ytddhldmeknmgpaa.journal
open Go.RowKit Go.Proofs.Ytddhldmeknmgpaa.crc Go.Proofs.Ytddhldmeknmgpaa.root

structure JV where
  ep : Nat
  n : Nat
  pl : List UInt8

structure JV.Fine (r : JV) : Prop where
  ep : r.ep < 18446744073709551616
  n : r.n < 18446744073709551616

def okJ (r : JV) : Bool := decide (1 ≤ r.n) && decide (r.pl.length ≤ 64)
def errJ (r : JV) : Int := if okJ r = true then 0 else 80
def headJ (r : JV) : List UInt8 := [81, 74, 1] ++ be 1 r.pl.length ++ be 8 r.ep ++ be 8 r.n ++ r.pl ++ List.replicate (88 - r.pl.length) 0
def bodyJ (r : JV) : List UInt8 := headJ r ++ four (sum (bitsB (headJ r)))
def sectJ (r : JV) : List UInt8 := bodyJ r ++ be 8 r.ep ++ be 8 r.n
def outJ (r : JV) : List UInt8 := if okJ r = true then sectJ r else []
def lenJ (l : List UInt8) : Nat := num ((l.drop 3).take 1)
def candJ (l : List UInt8) : JV := ⟨num (((l.drop 3).drop 1).take 8), num ((((l.drop 3).drop 1).drop 8).take 8), if lenJ l ≤ 108 then ((((l.drop 3).drop 1).drop 8).drop 8).take (lenJ l) else []⟩
def noJ : JV := ⟨0, 0, []⟩
def goodJ (l : List UInt8) : Bool := decide (l.length = 128) && (okJ (candJ l) && (sectJ (candJ l) == l))
def decJ (l : List UInt8) : JV := if goodJ l = true then candJ l else noJ
def decErrJ (l : List UInt8) : Int := if goodJ l = true then 0 else 80

theorem okJ_iff {r : JV} : okJ r = true ↔ 1 ≤ r.n ∧ r.pl.length ≤ 64 := by simp [okJ]
theorem headJ_length {r : JV} (h : r.pl.length ≤ 64) : (headJ r).length = 108 := by simp [headJ, be_length]; omega
theorem bodyJ_length {r : JV} (h : r.pl.length ≤ 64) : (bodyJ r).length = 112 := by unfold bodyJ; rw [List.length_append, headJ_length h, four_length]
theorem sectJ_length {r : JV} (h : r.pl.length ≤ 64) : (sectJ r).length = 128 := by unfold sectJ; rw [List.length_append, List.length_append, bodyJ_length h, be_length, be_length]
theorem outJ_length (r : JV) : (outJ r).length ≤ 128 := by
  unfold outJ
  split
  · rename_i h
    rw [sectJ_length (okJ_iff.1 h).2]; omega
  · simp
theorem noJ_fine : noJ.Fine := ⟨by decide, by decide⟩
theorem candJ_fine (l : List UInt8) : (candJ l).Fine := ⟨num_take_lt _ 8, num_take_lt _ 8⟩
theorem decJ_fine (l : List UInt8) : (decJ l).Fine := by
  unfold decJ
  split
  · exact candJ_fine l
  · exact noJ_fine
theorem lenJ_lt (l : List UInt8) : lenJ l < 256 := num_take_lt _ 1
theorem candJ_pl {l : List UInt8} (h : l.length = 128) : (candJ l).pl.length = if lenJ l ≤ 108 then lenJ l else 0 := by
  unfold candJ
  simp only
  split
  · rw [List.length_take, List.length_drop, List.length_drop, List.length_drop, List.length_drop]; omega
  · rfl

theorem candJ_sect {r : JV} (hok : okJ r = true) (hf : r.Fine) : candJ (sectJ r) = r := by
  obtain ⟨h1, h2⟩ := okJ_iff.1 hok
  have e : sectJ r = [81, 74, 1] ++ (be 1 r.pl.length ++ (be 8 r.ep ++ (be 8 r.n ++ (r.pl ++ (List.replicate (88 - r.pl.length) 0 ++ (four (sum (bitsB (headJ r))) ++ (be 8 r.ep ++ be 8 r.n))))))) := by
    show ((headJ r ++ four _) ++ be 8 r.ep) ++ be 8 r.n = _
    conv => lhs; arg 1; arg 1; arg 1; unfold headJ
    simp only [List.append_assoc]
  have d3 : ∀ s : List UInt8, ([81, 74, 1] ++ s).drop 3 = s := fun s => rfl
  have hl : lenJ (sectJ r) = r.pl.length := by
    unfold lenJ
    rw [e, d3, List.take_left' (be_length ..), num_be, Nat.mod_eq_of_lt (show r.pl.length < 256 ^ 1 by omega)]
  unfold candJ
  rw [hl, e, d3, List.drop_left' (be_length ..), List.take_left' (be_length ..), List.drop_left' (be_length ..), List.take_left' (be_length ..), List.drop_left' (be_length ..), List.take_left' rfl]
  rw [num_be, num_be, Nat.mod_eq_of_lt (show r.ep < 256 ^ 8 from hf.ep), Nat.mod_eq_of_lt (show r.n < 256 ^ 8 from hf.n), if_pos (by omega)]
theorem goodJ_sect {r : JV} (hok : okJ r = true) (hf : r.Fine) : goodJ (sectJ r) = true ∧ candJ (sectJ r) = r := by
  have hc := candJ_sect hok hf
  refine ⟨?_, hc⟩
  unfold goodJ
  rw [hc, sectJ_length (okJ_iff.1 hok).2, hok]
  simp
theorem goodJ_of {l : List UInt8} (h : goodJ l = true) : l.length = 128 ∧ okJ (candJ l) = true ∧ sectJ (candJ l) = l := by
  unfold goodJ at h
  simp only [Bool.and_eq_true, decide_eq_true_eq, beq_iff_eq] at h
  exact h
theorem decJ_sect {r : JV} (hok : okJ r = true) (hf : r.Fine) : decJ (sectJ r) = r ∧ decErrJ (sectJ r) = 0 := by
  obtain ⟨h1, h2⟩ := goodJ_sect hok hf
  unfold decJ decErrJ
  rw [if_pos h1, if_pos h1]
  exact ⟨h2, rfl⟩
theorem decJ_pl (l : List UInt8) : (decJ l).pl.length ≤ 64 := by
  unfold decJ
  split
  · rename_i h
    exact (okJ_iff.1 (goodJ_of h).2.1).2
  · decide

/-! ### The program's head and Encode -/
theorem results_four {fn : Func} {a b c d : Tmp} {tmps : Array Value} {w : World} {x y z v : Value} (h : fn.results = #[.tmp a, .tmp b, .tmp c, .tmp d]) (h1 : tmps.getD a undef = x) (h2 : tmps.getD b undef = y) (h3 : tmps.getD c undef = z) (h4 : tmps.getD d undef = v) : (results fn tmps).run Try.prog w = .ok (.tuple #[x, y, z, v]) w := by
  subst h1 h2 h3 h4
  simp [results, h]

set_option maxRecDepth 100000 in
set_option maxHeartbeats 4000000 in
theorem jhead_any (ep no : Nat) (A : Option Addr) (c n : Nat) (l : List UInt8) (w : World) (he : ep < 18446744073709551616) (hno : no < 18446744073709551616) (hl : l.length = n) (h64 : n ≤ 64) (hr : Reads w w.heap.size 1 A n (l.map bv)) :
    Calls Try.prog 28 #[.int .u64 ep, .int .u64 no, .slice A n c] w fun e w' => ∃ v, e = .returned v ∧ Gives w w' v (headJ ⟨ep, no, l⟩) := by
  obtain ⟨L0, hL0⟩ : ∃ L, headJ ⟨ep, no, l⟩ = L := ⟨_, rfl⟩
  obtain ⟨m, hm⟩ : ∃ m, m = 88 - n := ⟨_, rfl⟩
  have hL : [] ++ [81, 74, 1] ++ be 1 n ++ be 8 ep ++ be 8 no ++ l ++ List.replicate m 0 = L0 := by rw [← hL0, hm, ← hl]; rfl
  have hLl : L0.length = 108 := by rw [← hL0]; exact headJ_length (by simpa only [hl] using h64)
  rw [hL0]
  have hmn : n + m = 88 := by omega
  clear hm
  have k1 : IntKind.u64.wrap (n : Int) = (n : Int) := by rw [wrap_u64]; omega
  have f1 : fitsB 1 n = true := by simp [fitsB]; omega
  have f2 : fitsB 8 ep = true := by simp [fitsB]; omega
  have f3 : fitsB 8 no = true := by simp [fitsB]; omega
  obtain ⟨C, hC⟩ := zeros_made (m := m) (by omega) (m : Int) rfl
  have hmk := fun W => (hC W).1
  have HRZ := Lib.hid (fun W => (hC W).2)
  have HZ := Lib.hid (WrN.made w)
  have cv := conv_lit (w.alloc (.cells #[.slice none 0 0, .pointer none] 61)) #[.int .u8 81, .int .u8 74, .int .u8 1] 3 3
  have hrm := reads_mark (w.alloc (.cells #[.slice none 0 0, .pointer none] 61)) #[.int .u8 81, .int .u8 74, .int .u8 1] (3, 4) [81, 74, 1] 3 rfl rfl
  simp only [World.size_alloc] at cv hrm
  have HRM := Lib.hid hrm
  have HL := Lib.hid hL
  have HLL := Lib.hid hLl
  have HR := Lib.hid hr
  have HSEP := Lib.hid (reads_sep hr)
  have HLN := Lib.hid hl
  clear hL0 hL hLl hC hrm hr
  go_enter Try.func28, Try.ntmps28
  go_wp2_with (first
    | (go_at_call 26; (have l0 := G4.out; clear l0); refine (G4.out.raw A n c l ((HR.out.below G4.out.frame).more G4.out.frame.size) HSEP.out (by simp [be_length]; omega)).mono ?_; rintro e w6 ⟨rfl, g6⟩; have G5 := Lib.hid g6; clear g6)
    | (go_at_call 29; (have l0 := G3.out; clear l0); ((with_reducible refine (wrn_num G3.out 8 no 8 rfl (by omega) f3 (by omega) (by simp [be_length])).mono ?_)); rintro e w5 ⟨rfl, g5⟩; have G4 := Lib.hid g5; clear g5)
    | (go_at_call 29; (have l0 := G2.out; clear l0); ((with_reducible refine (wrn_num G2.out 8 ep 8 rfl (by omega) f2 (by omega) (by simp [be_length])).mono ?_)); rintro e w4 ⟨rfl, g4⟩; have G3 := Lib.hid g4; clear g4)
    | (go_at_call 29; (have l0 := G1.out; clear l0); ((with_reducible refine (wrn_num G1.out 1 n 1 rfl (by omega) f1 (by omega) (by simp)).mono ?_)); rintro e w3 ⟨rfl, g3⟩; have G2 := Lib.hid g3; clear g3)
    | (go_at_call 26; (have l0 := HRM.out; clear l0); refine ((HZ.out.below (((Below.refl _ _).alloc (Nat.le_refl _) _))).raw (some ⟨w.heap.size + 1, 0, none⟩) 3 3 [81, 74, 1] (by simpa only [World.size_alloc] using HRM.out) (fun _ ad e => by injection e with e; subst e; simp) (by simp)).mono ?_; rintro e w2 ⟨rfl, g2⟩; clear HRM cv; have G1 := Lib.hid g2; clear g2))
  obtain ⟨y, hy⟩ : ∃ y : Int, (20 + n : Nat) = y := ⟨_, rfl⟩
  have hsub : (108 : Int) - y = (m : Int) := by omega
  have HLE := Lib.hid (wrn_len G5.out)
  have e20 : (([] ++ [81, 74, 1] ++ be 1 n ++ be 8 ep ++ be 8 no ++ l : List UInt8).length : Int) = y := by rw [← hy]; simp [be_length, HLN.out]; omega
  rw [e20] at HLE
  have HN : Hid (w6.heap.size ≠ w.heap.size) := Lib.hid (by have := wrn_lt G5.out; omega)
  have hy0 : 0 ≤ y := by omega
  have hy1 : y ≤ 84 := by omega
  have hm88 : m ≤ 88 := by omega
  clear e20 hy hmn
  go_wp2_with (first
    | (go_at_call 49; refine HLE.out.mono ?_; rintro e _ ⟨rfl, rfl⟩)
    | (go_at_call 26; refine ((G5.out.below ((Below.refl _ _).alloc (Nat.le_refl _) _)).raw (some ⟨w6.heap.size, 0, none⟩) m m (List.replicate m 0) (Reads.of_own (HRZ.out w6)) (fun _ ad e => by injection e with e; subst e; exact HN.out) (by simp [be_length, HLN.out]; omega)).mono ?_; rintro e w7 ⟨rfl, g7⟩; rw [HL.out] at g7; have G6 := Lib.hid g7; clear g7)
    | (go_at_call 30; refine (G6.out.bytes (by rw [HLL.out]; omega)).mono ?_; rintro e w8 ⟨v, rfl, g8⟩; have G7 := Lib.hid g8; clear g8))
  go_ret
  exact ⟨_, rfl, G7.out⟩

set_option maxRecDepth 100000 in
set_option maxHeartbeats 4000000 in
theorem jencode_ok (ep no : Nat) (A : Option Addr) (c n : Nat) (l : List UInt8) (w : World) (he : ep < 18446744073709551616) (hno : no < 18446744073709551616) (hl : l.length = n) (hr : Reads w w.heap.size 1 A n (l.map bv)) (hok : okJ ⟨ep, no, l⟩ = true) :
    Calls Try.prog 9 #[.int .u64 ep, .int .u64 no, .slice A n c] w fun e w' => ∃ v, e = .returned (.tuple #[v, .int .i64 0]) ∧ Gives w w' v (sectJ ⟨ep, no, l⟩) := by
  obtain ⟨h1, h64⟩ := okJ_iff.1 hok
  have h2 : l.length ≤ 64 := h64
  rw [hl] at h2
  obtain ⟨H0, hH0⟩ : ∃ H, headJ ⟨ep, no, l⟩ = H := ⟨_, rfl⟩
  obtain ⟨B0, hB0⟩ : ∃ B, H0 ++ four (sum (bitsB H0)) = B := ⟨_, rfl⟩
  have hH : H0.length = 108 := by rw [← hH0]; exact headJ_length h64
  have hB : B0.length = 112 := by rw [← hB0, List.length_append, hH, four_length]
  have hS : B0 ++ be 8 ep ++ be 8 no = sectJ ⟨ep, no, l⟩ := by rw [← hB0, ← hH0]; rfl
  obtain ⟨S0, hS0⟩ : ∃ S, sectJ ⟨ep, no, l⟩ = S := ⟨_, rfl⟩
  rw [hS0] at hS ⊢
  have hSl : S0.length = 128 := by rw [← hS0]; exact sectJ_length h64
  have HH := Lib.hid (fun W hrr => jhead_any ep no A c n l W he hno hl h2 hrr)
  have HSL := Lib.hid (fun A c W h => cseal_any A c H0 W h (by omega))
  rw [hH0] at HH
  rw [hB0, hH] at HSL
  have hz := WrN.made w
  have Z1 := Lib.hid hz
  have k2 := hz.frame
  have K2 := Lib.hid k2
  have HHL := Lib.hid hH
  have HBL := Lib.hid hB
  have HS := Lib.hid hS
  have HSS := Lib.hid hSl
  have HR := Lib.hid hr
  have f8 : fitsB 8 ep = true := by simp [fitsB]; omega
  have f9 : fitsB 8 no = true := by simp [fitsB]; omega
  have d0 : ((no : Int) == 0) = false := by rw [beq_eq_false_iff_ne]; have : 1 ≤ no := h1; omega
  have d1 : ¬ (64 : Int) < (n : Int) := by omega
  clear hH0 hB0 hH hB hS hS0 hSl hok h1 h64 h2 hr hz k2
  go_enter Try.func9, Try.ntmps9
  go_wp2_with (first
    | (go_at_call 28; refine (HH.out _ ((HR.out.below K2.out).more K2.out.size)).mono ?_; rintro e w3 ⟨v, rfl, g⟩; obtain ⟨A3, c3, rfl, o3, b3⟩ := gives_len g HHL.out; have K3 := Lib.hid (K2.out.trans (b3.mono K2.out.size)); have O3 := Lib.hid o3; have Z3 := Lib.hid (Z1.out.below b3); clear g o3 b3)
    | (go_at_call 27; refine (HSL.out A3 c3 w3 (Reads.of_own O3.out)).mono ?_; rintro e w4 ⟨v, rfl, g⟩; obtain ⟨A4, c4, rfl, o4, b4⟩ := gives_len g HBL.out; have K4 := Lib.hid (K3.out.trans (b4.mono K3.out.size)); have O4 := Lib.hid o4; have Z4 := Lib.hid (Z3.out.below b4); have N4 : Hid (w.heap.size < w3.heap.size) := Lib.hid (wrn_lt Z3.out); clear g o4 b4)
    | (go_at_call 26; refine (Z4.out.raw A4 112 c4 B0 (Reads.of_own O4.out) (fun _ ad e => by subst e; have := N4.out; have := own_at_block O4.out; omega) (by simp)).mono ?_; rintro e w5 ⟨rfl, g5⟩; have G5 := Lib.hid g5; clear g5)
    | (go_at_call 29; (have l0 := G6.out; clear l0); ((with_reducible refine (wrn_num G6.out 8 no 8 rfl (by omega) f9 hno (by rw [List.nil_append, List.length_append, HBL.out, be_length]; omega)).mono ?_); rintro e w7 ⟨rfl, g7⟩; rw [List.nil_append, HS.out] at g7; have G7 := Lib.hid g7; clear g7))
    | (go_at_call 29; (have l0 := G5.out; clear l0); ((with_reducible refine (wrn_num G5.out 8 ep 8 rfl (by omega) f8 he (by rw [List.nil_append, HBL.out]; omega)).mono ?_); rintro e w6 ⟨rfl, g6⟩; have G6 := Lib.hid g6; clear g6))
    | (go_at_call 30; refine (G7.out.bytes (by rw [HSS.out]; omega)).mono ?_; rintro e w8 ⟨v, rfl, g8⟩; have G8 := Lib.hid g8; clear g8))
  go_ret2
  exact ⟨_, rfl, G8.out⟩

theorem jencode_bad (ep no : Nat) (A : Option Addr) (c n : Nat) (l : List UInt8) (w : World) (hl : l.length = n) (hok : okJ ⟨ep, no, l⟩ = false) :
    Calls Try.prog 9 #[.int .u64 ep, .int .u64 no, .slice A n c] w fun e w' => e = .returned (.tuple #[.slice none 0 0, .int .i64 80]) ∧ w = w' := by
  by_cases h0 : no = 0
  · subst h0
    clear hok
    go_enter Try.func9, Try.ntmps9
    go_wp2
    go_ret2
    exact ⟨rfl, rfl⟩
  · have d0 : ((no : Int) == 0) = false := by rw [beq_eq_false_iff_ne]; omega
    have h2 : (64 : Int) < (n : Int) := by
      unfold okJ at hok
      simp only [hl] at hok
      rw [decide_eq_true (show 1 ≤ no by omega), Bool.true_and] at hok
      have := of_decide_eq_false hok
      omega
    clear hok h0
    go_enter Try.func9, Try.ntmps9
    go_wp2
    go_ret2
    exact ⟨rfl, rfl⟩

theorem jencode_any (r : JV) (A : Option Addr) (c n : Nat) (w : World) (hf : r.Fine) (hl : r.pl.length = n) (hr : Reads w w.heap.size 1 A n (r.pl.map bv)) :
    Calls Try.prog 9 #[.int .u64 r.ep, .int .u64 r.n, .slice A n c] w fun e w' => ∃ v, e = .returned (.tuple #[v, .int .i64 (errJ r)]) ∧ Gives w w' v (outJ r) := by
  unfold errJ outJ
  cases hok : okJ r
  · rw [if_neg (by decide), if_neg (by decide)]
    refine (jencode_bad r.ep r.n A c n r.pl w hl hok).mono ?_
    rintro e w' ⟨rfl, rfl⟩
    exact ⟨_, rfl, Gives.nil w⟩
  · rw [if_pos rfl, if_pos rfl]
    exact jencode_ok r.ep r.n A c n r.pl w hf.ep hf.n hl hr hok

end Go.Proofs.Ytddhldmeknmgpaa.journal

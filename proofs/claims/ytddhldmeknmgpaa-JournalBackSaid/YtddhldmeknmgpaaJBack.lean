/-
  The walk of the statement JournalBack: a record is read from its sector as it was; what is read of any bytes has these as its sector.
-/
import Derived.Test.YtddhldmeknmgpaaJAlive
namespace Go.Proofs.Ytddhldmeknmgpaa.journalBack
open Go.RowKit Go.Proofs.Ytddhldmeknmgpaa.crc Go.Proofs.Ytddhldmeknmgpaa.root Go.Proofs.Ytddhldmeknmgpaa.journal

section
variable (ep no : Nat) (A B : Option Addr) (n m c d : Nat) (p l : List UInt8) (w : World)

theorem walk_big (h : 200 < n ∨ 500 < m) :
    Calls Try.prog 7 #[.int .u64 ep, .int .u64 no, .slice A n c, .slice B m d] w fun e w' => e = .returned (.bool true) ∧ Below w.heap.size w w' := by
  by_cases h1 : 200 < n
  · have hd : (200 : Int) < (n : Int) := by omega
    clear h
    go_enter Try.func7, Try.ntmps7
    go_wp2_with (go_at_call 19; refine (jalive_any w).mono ?_; rintro e w1 ⟨rfl, b1⟩; have K1 := Lib.hid b1; clear b1)
    go_ret
    exact ⟨rfl, K1.out⟩
  · have hd : ¬ (200 : Int) < (n : Int) := by omega
    have he : (500 : Int) < (m : Int) := by omega
    clear h h1
    go_enter Try.func7, Try.ntmps7
    go_wp2_with (go_at_call 19; refine (jalive_any w).mono ?_; rintro e w1 ⟨rfl, b1⟩; have K1 := Lib.hid b1; clear b1)
    go_ret
    exact ⟨rfl, K1.out⟩

set_option maxRecDepth 100000 in
set_option maxHeartbeats 4000000 in
theorem walk_sg (he : ep < 18446744073709551616) (hno : no < 18446744073709551616) (hp : p.length = n) (hrp : Reads w w.heap.size 1 A n (p.map bv)) (hl : l.length = m) (hrl : Reads w w.heap.size 1 B m (l.map bv)) (h1 : n ≤ 200) (h2 : m ≤ 500) (hok : okJ ⟨ep, no, p⟩ = true) (hg : goodJ l = true) :
    Calls Try.prog 7 #[.int .u64 ep, .int .u64 no, .slice A n c, .slice B m d] w fun e w' => e = .returned (.bool true) ∧ Below w.heap.size w w' := by
  have d1 : ¬ (200 : Int) < (n : Int) := by omega
  have d2 : ¬ (500 : Int) < (m : Int) := by omega
  have hf : (⟨ep, no, p⟩ : JV).Fine := ⟨he, hno⟩
  have RP := Lib.hid (fun W (h : Below w.heap.size w W) => (hrp.below h).more h.size)
  have RL := Lib.hid (fun W (h : Below w.heap.size w W) => (hrl.below h).more h.size)
  obtain ⟨O, hO⟩ : ∃ x, outJ ⟨ep, no, p⟩ = x := ⟨_, rfl⟩
  obtain ⟨k, hk⟩ : ∃ x, O.length = x := ⟨_, rfl⟩
  have EN := Lib.hid (fun A c W h => jencode_any ⟨ep, no, p⟩ A c n W hf hp h)
  rw [hO] at EN
  unfold errJ at EN
  rw [hok] at EN
  simp only [if_true] at EN
  have DE := Lib.hid (fun A c W h => jdecode_any A c m l W hl h)
  have HK := Lib.hid hk
  have HPN := Lib.hid hp
  have ll : (l == l) = true := by simp
  have pp : (p == p) = true := by simp
  have hO2 : sectJ ⟨ep, no, p⟩ = O := by rw [← hO]; unfold outJ; rw [hok]; rfl
  have hk2 : k = 128 := by rw [← hk, ← hO2]; exact sectJ_length (okJ_iff.1 hok).2
  obtain ⟨hds, hde⟩ := decJ_sect hok hf
  rw [hO2] at hds hde
  have DS := Lib.hid (fun A c W h => jdecode_any A c k O W hk h)
  rw [hds, hde] at DS
  simp only at DS
  subst hk2
  clear hO2 hds hde
  obtain ⟨g1, g2, g3⟩ := goodJ_of hg
  have EB := Lib.hid (fun A c W h => jencode_any (candJ l) A c _ W (candJ_fine l) rfl h)
  unfold errJ outJ at EB
  rw [g2, g3] at EB
  simp only [if_true] at EB
  unfold decJ decErrJ at DE
  rw [hg] at DE
  simp only [if_true] at DE
  obtain ⟨⟨x, y, Q⟩, hx⟩ : ∃ x, candJ l = x := ⟨_, rfl⟩
  rw [hx] at DE EB
  simp only at DE EB
  obtain ⟨qn, hqn⟩ : ∃ q, Q.length = q := ⟨_, rfl⟩
  rw [hqn] at EB
  have HQN := Lib.hid hqn
  have HBL := Lib.hid hl
  clear hx hqn g1 g2 g3
  clear hrp hrl hO hk hf hok hg hp hl
  go_enter Try.func7, Try.ntmps7
  go_wp2_with (first
    | (go_at_call 19; refine (jalive_any w).mono ?_; rintro e w1 ⟨rfl, b1⟩; have K1 := Lib.hid b1; clear b1)
    | (go_at_call 11; (have l0 := DS.out; clear l0); refine (DS.out A2 c2 w2 (Reads.of_own O2.out)).mono ?_; rintro e w3 ⟨v, rfl, g⟩; obtain ⟨A3, c3, rfl, o3, b3⟩ := gives_len g HPN.out; have K3 := Lib.hid (K2.out.trans (b3.mono K2.out.size)); have cv1 := conv_reads c3 (Reads.of_own o3); have cv2 := conv_reads c (RP.out w3 K3.out); clear DS g o3 b3)
    | (go_at_call 11; refine (DE.out B d w3 (RL.out w3 K3.out)).mono ?_; rintro e w4 ⟨v, rfl, g⟩; obtain ⟨A4, c4, rfl, o4, b4⟩ := gives_len g HQN.out; have K4 := Lib.hid (K3.out.trans (b4.mono K3.out.size)); have O4 := Lib.hid o4; clear DE g o4 b4)
    | (go_at_call 9; refine (EB.out A4 c4 w4 (Reads.of_own O4.out)).mono ?_; rintro e w5 ⟨v, rfl, g⟩; obtain ⟨A5, c5, rfl, o5, b5⟩ := gives_len g HBL.out; have K5 := Lib.hid (K4.out.trans (b5.mono K4.out.size)); have cv3 := conv_reads c5 (Reads.of_own o5); have cv4 := conv_reads d (RL.out w5 K5.out); clear g o5 b5)
    | (go_at_call 9; (have l0 := EN.out; clear l0); refine (EN.out A c w1 (RP.out w1 K1.out)).mono ?_; rintro e w2 ⟨v, rfl, g⟩; obtain ⟨A2, c2, rfl, o2, b2⟩ := gives_len g HK.out; have K2 := Lib.hid (K1.out.trans (b2.mono K1.out.size)); have O2 := Lib.hid o2; clear EN g o2 b2))
  go_ret
  exact ⟨rfl, K5.out⟩

set_option maxRecDepth 100000 in
set_option maxHeartbeats 4000000 in
theorem walk_sb (he : ep < 18446744073709551616) (hno : no < 18446744073709551616) (hp : p.length = n) (hrp : Reads w w.heap.size 1 A n (p.map bv)) (hl : l.length = m) (hrl : Reads w w.heap.size 1 B m (l.map bv)) (h1 : n ≤ 200) (h2 : m ≤ 500) (hok : okJ ⟨ep, no, p⟩ = true) (hg : goodJ l = false) :
    Calls Try.prog 7 #[.int .u64 ep, .int .u64 no, .slice A n c, .slice B m d] w fun e w' => e = .returned (.bool true) ∧ Below w.heap.size w w' := by
  have d1 : ¬ (200 : Int) < (n : Int) := by omega
  have d2 : ¬ (500 : Int) < (m : Int) := by omega
  have hf : (⟨ep, no, p⟩ : JV).Fine := ⟨he, hno⟩
  have RP := Lib.hid (fun W (h : Below w.heap.size w W) => (hrp.below h).more h.size)
  have RL := Lib.hid (fun W (h : Below w.heap.size w W) => (hrl.below h).more h.size)
  obtain ⟨O, hO⟩ : ∃ x, outJ ⟨ep, no, p⟩ = x := ⟨_, rfl⟩
  obtain ⟨k, hk⟩ : ∃ x, O.length = x := ⟨_, rfl⟩
  have EN := Lib.hid (fun A c W h => jencode_any ⟨ep, no, p⟩ A c n W hf hp h)
  rw [hO] at EN
  unfold errJ at EN
  rw [hok] at EN
  simp only [if_true] at EN
  have DE := Lib.hid (fun A c W h => jdecode_any A c m l W hl h)
  have HK := Lib.hid hk
  have HPN := Lib.hid hp
  have ll : (l == l) = true := by simp
  have pp : (p == p) = true := by simp
  have hO2 : sectJ ⟨ep, no, p⟩ = O := by rw [← hO]; unfold outJ; rw [hok]; rfl
  have hk2 : k = 128 := by rw [← hk, ← hO2]; exact sectJ_length (okJ_iff.1 hok).2
  obtain ⟨hds, hde⟩ := decJ_sect hok hf
  rw [hO2] at hds hde
  have DS := Lib.hid (fun A c W h => jdecode_any A c k O W hk h)
  rw [hds, hde] at DS
  simp only at DS
  subst hk2
  clear hO2 hds hde
  unfold decJ decErrJ at DE
  rw [hg] at DE
  simp only [Bool.false_eq_true, if_false, noJ] at DE
  have HQN : Hid (([] : List UInt8).length = 0) := Lib.hid rfl
  clear hrp hrl hO hk hf hok hg hp hl
  go_enter Try.func7, Try.ntmps7
  go_wp2_with (first
    | (go_at_call 19; refine (jalive_any w).mono ?_; rintro e w1 ⟨rfl, b1⟩; have K1 := Lib.hid b1; clear b1)
    | (go_at_call 11; (have l0 := DS.out; clear l0); refine (DS.out A2 c2 w2 (Reads.of_own O2.out)).mono ?_; rintro e w3 ⟨v, rfl, g⟩; obtain ⟨A3, c3, rfl, o3, b3⟩ := gives_len g HPN.out; have K3 := Lib.hid (K2.out.trans (b3.mono K2.out.size)); have cv1 := conv_reads c3 (Reads.of_own o3); have cv2 := conv_reads c (RP.out w3 K3.out); clear DS g o3 b3)
    | (go_at_call 11; refine (DE.out B d w3 (RL.out w3 K3.out)).mono ?_; rintro e w4 ⟨v, rfl, g⟩; obtain ⟨A4, c4, rfl, o4, b4⟩ := gives_len g HQN.out; have K4 := Lib.hid (K3.out.trans (b4.mono K3.out.size)); have O4 := Lib.hid o4; clear DE g o4 b4)
    | (go_at_call 9; (have l0 := EN.out; clear l0); refine (EN.out A c w1 (RP.out w1 K1.out)).mono ?_; rintro e w2 ⟨v, rfl, g⟩; obtain ⟨A2, c2, rfl, o2, b2⟩ := gives_len g HK.out; have K2 := Lib.hid (K1.out.trans (b2.mono K1.out.size)); have O2 := Lib.hid o2; clear EN g o2 b2))
  go_ret
  exact ⟨rfl, K4.out⟩

set_option maxRecDepth 100000 in
set_option maxHeartbeats 4000000 in
theorem walk_ng (he : ep < 18446744073709551616) (hno : no < 18446744073709551616) (hp : p.length = n) (hrp : Reads w w.heap.size 1 A n (p.map bv)) (hl : l.length = m) (hrl : Reads w w.heap.size 1 B m (l.map bv)) (h1 : n ≤ 200) (h2 : m ≤ 500) (hok : okJ ⟨ep, no, p⟩ = false) (hg : goodJ l = true) :
    Calls Try.prog 7 #[.int .u64 ep, .int .u64 no, .slice A n c, .slice B m d] w fun e w' => e = .returned (.bool true) ∧ Below w.heap.size w w' := by
  have d1 : ¬ (200 : Int) < (n : Int) := by omega
  have d2 : ¬ (500 : Int) < (m : Int) := by omega
  have hf : (⟨ep, no, p⟩ : JV).Fine := ⟨he, hno⟩
  have RP := Lib.hid (fun W (h : Below w.heap.size w W) => (hrp.below h).more h.size)
  have RL := Lib.hid (fun W (h : Below w.heap.size w W) => (hrl.below h).more h.size)
  obtain ⟨O, hO⟩ : ∃ x, outJ ⟨ep, no, p⟩ = x := ⟨_, rfl⟩
  obtain ⟨k, hk⟩ : ∃ x, O.length = x := ⟨_, rfl⟩
  have EN := Lib.hid (fun A c W h => jencode_any ⟨ep, no, p⟩ A c n W hf hp h)
  rw [hO] at EN
  unfold errJ at EN
  rw [hok] at EN
  simp only [Bool.false_eq_true, if_false] at EN
  have DE := Lib.hid (fun A c W h => jdecode_any A c m l W hl h)
  have HK := Lib.hid hk
  have HPN := Lib.hid hp
  have ll : (l == l) = true := by simp
  have pp : (p == p) = true := by simp
  obtain ⟨g1, g2, g3⟩ := goodJ_of hg
  have EB := Lib.hid (fun A c W h => jencode_any (candJ l) A c _ W (candJ_fine l) rfl h)
  unfold errJ outJ at EB
  rw [g2, g3] at EB
  simp only [if_true] at EB
  unfold decJ decErrJ at DE
  rw [hg] at DE
  simp only [if_true] at DE
  obtain ⟨⟨x, y, Q⟩, hx⟩ : ∃ x, candJ l = x := ⟨_, rfl⟩
  rw [hx] at DE EB
  simp only at DE EB
  obtain ⟨qn, hqn⟩ : ∃ q, Q.length = q := ⟨_, rfl⟩
  rw [hqn] at EB
  have HQN := Lib.hid hqn
  have HBL := Lib.hid hl
  clear hx hqn g1 g2 g3
  clear hrp hrl hO hk hf hok hg hp hl
  go_enter Try.func7, Try.ntmps7
  go_wp2_with (first
    | (go_at_call 19; refine (jalive_any w).mono ?_; rintro e w1 ⟨rfl, b1⟩; have K1 := Lib.hid b1; clear b1)
    | (go_at_call 11; refine (DE.out B d w2 (RL.out w2 K2.out)).mono ?_; rintro e w4 ⟨v, rfl, g⟩; obtain ⟨A4, c4, rfl, o4, b4⟩ := gives_len g HQN.out; have K4 := Lib.hid (K2.out.trans (b4.mono K2.out.size)); have O4 := Lib.hid o4; clear DE g o4 b4)
    | (go_at_call 9; refine (EB.out A4 c4 w4 (Reads.of_own O4.out)).mono ?_; rintro e w5 ⟨v, rfl, g⟩; obtain ⟨A5, c5, rfl, o5, b5⟩ := gives_len g HBL.out; have K5 := Lib.hid (K4.out.trans (b5.mono K4.out.size)); have cv3 := conv_reads c5 (Reads.of_own o5); have cv4 := conv_reads d (RL.out w5 K5.out); clear g o5 b5)
    | (go_at_call 9; (have l0 := EN.out; clear l0); refine (EN.out A c w1 (RP.out w1 K1.out)).mono ?_; rintro e w2 ⟨v, rfl, g⟩; obtain ⟨A2, c2, rfl, o2, b2⟩ := gives_len g HK.out; have K2 := Lib.hid (K1.out.trans (b2.mono K1.out.size)); have O2 := Lib.hid o2; clear EN g o2 b2))
  go_ret
  exact ⟨rfl, K5.out⟩

set_option maxRecDepth 100000 in
set_option maxHeartbeats 4000000 in
theorem walk_nb (he : ep < 18446744073709551616) (hno : no < 18446744073709551616) (hp : p.length = n) (hrp : Reads w w.heap.size 1 A n (p.map bv)) (hl : l.length = m) (hrl : Reads w w.heap.size 1 B m (l.map bv)) (h1 : n ≤ 200) (h2 : m ≤ 500) (hok : okJ ⟨ep, no, p⟩ = false) (hg : goodJ l = false) :
    Calls Try.prog 7 #[.int .u64 ep, .int .u64 no, .slice A n c, .slice B m d] w fun e w' => e = .returned (.bool true) ∧ Below w.heap.size w w' := by
  have d1 : ¬ (200 : Int) < (n : Int) := by omega
  have d2 : ¬ (500 : Int) < (m : Int) := by omega
  have hf : (⟨ep, no, p⟩ : JV).Fine := ⟨he, hno⟩
  have RP := Lib.hid (fun W (h : Below w.heap.size w W) => (hrp.below h).more h.size)
  have RL := Lib.hid (fun W (h : Below w.heap.size w W) => (hrl.below h).more h.size)
  obtain ⟨O, hO⟩ : ∃ x, outJ ⟨ep, no, p⟩ = x := ⟨_, rfl⟩
  obtain ⟨k, hk⟩ : ∃ x, O.length = x := ⟨_, rfl⟩
  have EN := Lib.hid (fun A c W h => jencode_any ⟨ep, no, p⟩ A c n W hf hp h)
  rw [hO] at EN
  unfold errJ at EN
  rw [hok] at EN
  simp only [Bool.false_eq_true, if_false] at EN
  have DE := Lib.hid (fun A c W h => jdecode_any A c m l W hl h)
  have HK := Lib.hid hk
  have HPN := Lib.hid hp
  have ll : (l == l) = true := by simp
  have pp : (p == p) = true := by simp
  unfold decJ decErrJ at DE
  rw [hg] at DE
  simp only [Bool.false_eq_true, if_false, noJ] at DE
  have HQN : Hid (([] : List UInt8).length = 0) := Lib.hid rfl
  clear hrp hrl hO hk hf hok hg hp hl
  go_enter Try.func7, Try.ntmps7
  go_wp2_with (first
    | (go_at_call 19; refine (jalive_any w).mono ?_; rintro e w1 ⟨rfl, b1⟩; have K1 := Lib.hid b1; clear b1)
    | (go_at_call 11; refine (DE.out B d w2 (RL.out w2 K2.out)).mono ?_; rintro e w4 ⟨v, rfl, g⟩; obtain ⟨A4, c4, rfl, o4, b4⟩ := gives_len g HQN.out; have K4 := Lib.hid (K2.out.trans (b4.mono K2.out.size)); have O4 := Lib.hid o4; clear DE g o4 b4)
    | (go_at_call 9; (have l0 := EN.out; clear l0); refine (EN.out A c w1 (RP.out w1 K1.out)).mono ?_; rintro e w2 ⟨v, rfl, g⟩; obtain ⟨A2, c2, rfl, o2, b2⟩ := gives_len g HK.out; have K2 := Lib.hid (K1.out.trans (b2.mono K1.out.size)); have O2 := Lib.hid o2; clear EN g o2 b2))
  go_ret
  exact ⟨rfl, K4.out⟩


/-- As the end calls it. -/
theorem call {W : World} (ep : Nat) (he : ep < 18446744073709551616) (no : Nat) (hno : no < 18446744073709551616) (A : Option Addr) (c : Nat) (p : List UInt8) (a : Arg W A c p) (B : Option Addr) (d : Nat) (l : List UInt8) (b : Arg W B d l) (w : World) (hw : W = w := by rfl) :
    Calls Try.prog 7 #[.int .u64 ep, .int .u64 no, .slice A p.length c, .slice B l.length d] w fun e w' => e = .returned (.bool true) ∧ Below w.heap.size w w' := by
  subst hw
  by_cases h : 200 < p.length ∨ 500 < l.length
  · exact walk_big ep no A B _ _ c d W h
  · cases hok : okJ ⟨ep, no, p⟩ <;> cases hg : goodJ l
    · exact walk_nb ep no A B _ _ c d p l W he hno rfl a.reads rfl b.reads (by omega) (by omega) hok hg
    · exact walk_ng ep no A B _ _ c d p l W he hno rfl a.reads rfl b.reads (by omega) (by omega) hok hg
    · exact walk_sb ep no A B _ _ c d p l W he hno rfl a.reads rfl b.reads (by omega) (by omega) hok hg
    · exact walk_sg ep no A B _ _ c d p l W he hno rfl a.reads rfl b.reads (by omega) (by omega) hok hg
end
end Go.Proofs.Ytddhldmeknmgpaa.journalBack

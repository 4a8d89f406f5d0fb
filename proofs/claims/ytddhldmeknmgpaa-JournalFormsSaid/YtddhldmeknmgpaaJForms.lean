/-
  The walk of the statement JournalForms: the sector of any record, and the record of any bytes, or the error, are the document's; what is handed in stays, and what is answered is new memory.
-/
import Derived.Test.YtddhldmeknmgpaaJRef
namespace Go.Proofs.Ytddhldmeknmgpaa.journalForms
open Go.RowKit Go.Proofs.Ytddhldmeknmgpaa.crc Go.Proofs.Ytddhldmeknmgpaa.root Go.Proofs.Ytddhldmeknmgpaa.journal

section
variable (ep no : Nat) (A B : Option Addr) (n m c d : Nat) (p l : List UInt8) (w : World)

theorem walk_big (h : 200 < n ∨ 500 < m) :
    Calls Try.prog 3 #[.int .u64 ep, .int .u64 no, .slice A n c, .slice B m d] w fun e w' => e = .returned (.bool true) ∧ Below w.heap.size w w' := by
  by_cases h1 : 200 < n
  · have hd : (200 : Int) < (n : Int) := by omega
    go_enter Try.func3, Try.ntmps3
    go_wp2
    go_ret
    exact ⟨rfl, Below.refl _ _⟩
  · have hd : ¬ (200 : Int) < (n : Int) := by omega
    have he : (500 : Int) < (m : Int) := by omega
    clear h h1
    go_enter Try.func3, Try.ntmps3
    go_wp2
    go_ret
    exact ⟨rfl, Below.refl _ _⟩

set_option maxRecDepth 100000 in
set_option maxHeartbeats 4000000 in
theorem walk_small (he : ep < 18446744073709551616) (hno : no < 18446744073709551616) (hp : p.length = n) (hrp : Reads w w.heap.size 1 A n (p.map bv)) (hl : l.length = m) (hrl : Reads w w.heap.size 1 B m (l.map bv)) (hc : m ≤ d) (hd : d ≤ 9223372036854775807) (h1 : n ≤ 200) (h2 : m ≤ 500) :
    Calls Try.prog 3 #[.int .u64 ep, .int .u64 no, .slice A n c, .slice B m d] w fun e w' => e = .returned (.bool true) ∧ Below w.heap.size w w' := by
  have d1 : ¬ (200 : Int) < (n : Int) := by omega
  have d2 : ¬ (500 : Int) < (m : Int) := by omega
  have HTP := Lib.hid (twin_any A c n p w hrp (by omega))
  have HTL := Lib.hid (fun W h => twin_any B d m l W h (by omega))
  have hf : (⟨ep, no, p⟩ : JV).Fine := ⟨he, hno⟩
  obtain ⟨er, her⟩ : ∃ x, errJ ⟨ep, no, p⟩ = x := ⟨_, rfl⟩
  obtain ⟨O, hO⟩ : ∃ x, outJ ⟨ep, no, p⟩ = x := ⟨_, rfl⟩
  obtain ⟨k, hk⟩ : ∃ x, O.length = x := ⟨_, rfl⟩
  have EN := Lib.hid (fun A c W h => jencode_any ⟨ep, no, p⟩ A c n W hf hp h)
  have RE := Lib.hid (fun A c W h => r8encode_any ⟨ep, no, p⟩ A c n W hf hp h)
  rw [her, hO] at EN RE
  simp only at EN RE
  have DE := Lib.hid (fun A c W h => jdecode_any A c m l W hl h)
  have RD := Lib.hid (fun W h => r8decode_any B d m l W hl h hc hd)
  generalize decErrJ l = de at *
  obtain ⟨⟨dn, dl, Q⟩, hdr⟩ : ∃ x, decJ l = x := ⟨_, rfl⟩
  obtain ⟨qn, hqn⟩ : ∃ x, Q.length = x := ⟨_, rfl⟩
  have hq64 : qn ≤ 64 := by
    have := decJ_pl l
    rw [hdr] at this
    rw [← hqn]
    exact this
  rw [hdr] at DE RD
  simp only at DE RD
  have HK := Lib.hid hk
  have HQN := Lib.hid hqn
  have RP := Lib.hid (fun W (h : Below w.heap.size w W) => (hrp.below h).more h.size)
  have RL := Lib.hid (fun W (h : Below w.heap.size w W) => (hrl.below h).more h.size)
  have pp : (p == p) = true := by simp
  have ll : (l == l) = true := by simp
  have oo : (O == O) = true := by simp
  have qq : (Q == Q) = true := by simp
  clear hrp hrl her hO hk hdr hqn hf
  go_enter Try.func3, Try.ntmps3
  go_wp2_with (first
    | (go_at_call 8; (have l0 := K1.out; clear l0); (with_reducible refine (HTL.out w1 (RL.out w1 K1.out)).mono ?_); rintro e w2 ⟨A2, c2, rfl, o2, b2⟩; have K2 := Lib.hid (K1.out.trans (b2.mono K1.out.size)); have O2 := Lib.hid (own_mono o2 K1.out.size); have P2 := Lib.hid (own_stay O1.out b2); clear o2 b2)
    | (go_at_call 8; (with_reducible refine HTP.out.mono ?_); rintro e w1 ⟨A1, c1, rfl, o1, b1⟩; have K1 := Lib.hid b1; have O1 := Lib.hid o1; clear o1 b1)
    | (go_at_call 9; refine (EN.out A1 c1 w2 (Reads.of_own P2.out)).mono ?_; rintro e w3 ⟨v, rfl, g⟩; obtain ⟨A3, c3, rfl, o3, b3⟩ := gives_len g HK.out; have B3 := Lib.hid b3; have K3 := Lib.hid (K2.out.trans (b3.mono K2.out.size)); have O3 := Lib.hid o3; clear g o3 b3)
    | (go_at_call 10; refine (RE.out A c w3 (RP.out w3 K3.out)).mono ?_; rintro e w4 ⟨v, rfl, g⟩; obtain ⟨A4, c4, rfl, o4, b4⟩ := gives_len g HK.out; have B4 := Lib.hid b4; have K4 := Lib.hid (K3.out.trans (b4.mono K3.out.size)); have O4 := Lib.hid o4; have B24 := Lib.hid (B3.out.trans (b4.mono B3.out.size)); clear g o4 b4)
    | (go_at_call 11; refine (DE.out A2 c2 w4 (Reads.of_own (own_stay O2.out B24.out))).mono ?_; rintro e w5 ⟨v, rfl, g⟩; obtain ⟨A5, c5, rfl, o5, b5⟩ := gives_len g HQN.out; have B5 := Lib.hid b5; have K5 := Lib.hid (K4.out.trans (b5.mono K4.out.size)); have O5 := Lib.hid o5; clear g o5 b5)
    | (go_at_call 12; refine (RD.out w5 (RL.out w5 K5.out)).mono ?_; rintro e w6 ⟨v, rfl, g⟩; obtain ⟨A6, c6, rfl, o6, b6⟩ := gives_len g HQN.out
       have b46 : Below w4.heap.size w4 w6 := B5.out.trans (b6.mono B5.out.size)
       have cva := conv_reads c3 (Reads.of_own (own_stay O3.out (B4.out.trans (b46.mono B4.out.size))))
       have cvb := conv_reads c4 (Reads.of_own (own_stay O4.out b46))
       have o5' := own_stay O5.out b6
       have cvc := conv_reads c5 (Reads.of_own o5')
       have cvd := conv_reads c6 (Reads.of_own o6)
       have B46 := Lib.hid b46; have Q5 := Lib.hid o5'
       clear g o6 b6 b46 o5'))
  have BY0 : Hid (∀ g, A5 = some ⟨g, 0, none⟩ → Bys w6 g qn ∧ w4.heap.size ≤ g) := Lib.hid (fun g e => by subst e; exact ⟨own_bys Q5.out, (own_is Q5.out g rfl).1⟩)
  have HA5 : Hid (0 < qn → ∃ g, A5 = some ⟨g, 0, none⟩) := Lib.hid (fun h0 => by
    rcases Q5.out.2 with ⟨_, e0⟩ | ⟨g, cap, cur, e, _⟩
    · omega
    · injection e with e
      exact ⟨g, e⟩)
  clear cva cvb cvc cvd
  go_loopw [98] (fun i wi => ∃ j, j ≤ qn ∧ i = .int .i64 (j : Nat) ∧ Below w4.heap.size w4 wi ∧ ∀ g, A5 = some ⟨g, 0, none⟩ → Bys wi g qn ∧ w4.heap.size ≤ g) (fun i _ => qn - (RowKit.intOf i).toNat)
  case atStart => exact ⟨0, Nat.zero_le _, rfl, B46.out, BY0.out⟩
  case round =>
    obtain ⟨j, hj, rfl, hkp, hbi⟩ := hrel
    by_cases hjl : j < qn
    · obtain ⟨g, hg⟩ := HA5.out (by omega)
      obtain ⟨hb5, hgw⟩ := hbi g hg
      obtain ⟨x, cx, fx⟩ := hb5 j hjl
      have HB5 := Lib.hid hb5
      have HGW := Lib.hid hgw
      have HKP := Lib.hid hkp
      have hl9 : (j : Int) < (qn : Int) := by omega
      subst hg
      clear hb5 hgw hkp hbi
      go_wp2
      refine ⟨⟨j + 1, by omega, by go_num, HKP.out.setCell (p := ⟨g, j, none⟩) (by have := HGW.out; simp; omega) _, fun g' e => ?_⟩, by simp [RowKit.intOf]; omega⟩
      cases e
      exact ⟨HB5.out.set_ hjl, HGW.out⟩
    · have hl9 : ¬ (j : Int) < (qn : Int) := by omega
      have hk6 : Below w.heap.size w wr := K4.out.trans (hkp.mono K4.out.size)
      have hb2 : Below w2.heap.size w2 wr := B24.out.trans (hkp.mono B24.out.size)
      have cva := conv_reads c1 (Reads.of_own (own_stay P2.out hb2))
      have cvb := conv_reads c (RP.out wr hk6)
      have cvc := conv_reads c2 (Reads.of_own (own_stay O2.out hb2))
      have cvd := conv_reads d (RL.out wr hk6)
      have HK6 := Lib.hid hk6
      clear hkp hbi hk6 hb2
      go_wp2
      go_ret
      exact ⟨rfl, HK6.out⟩

/-- As the end calls it. -/
theorem call {W : World} (ep : Nat) (he : ep < 18446744073709551616) (no : Nat) (hno : no < 18446744073709551616) (A : Option Addr) (c : Nat) (p : List UInt8) (a : Arg W A c p) (B : Option Addr) (d : Nat) (l : List UInt8) (b : Arg W B d l) (w : World) (hw : W = w := by rfl) :
    Calls Try.prog 3 #[.int .u64 ep, .int .u64 no, .slice A p.length c, .slice B l.length d] w fun e w' => e = .returned (.bool true) ∧ Below w.heap.size w w' := by
  subst hw
  by_cases h : 200 < p.length ∨ 500 < l.length
  · exact walk_big ep no A B _ _ c d W h
  · exact walk_small ep no A B _ _ c d p l W he hno rfl a.reads rfl b.reads b.cap (by have := b.big; omega) (by omega) (by omega)
end
end Go.Proofs.Ytddhldmeknmgpaa.journalForms

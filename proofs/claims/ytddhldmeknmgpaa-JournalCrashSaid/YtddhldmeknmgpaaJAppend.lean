/-
  The journal of layer 8: Append.
-/
import Derived.Test.YtddhldmeknmgpaaJAppA
namespace Go.Proofs.Ytddhldmeknmgpaa.journal
open Go.RowKit Go.Proofs.Ytddhldmeknmgpaa.crc Go.Proofs.Ytddhldmeknmgpaa.root

set_option maxRecDepth 100000 in
set_option maxHeartbeats 4000000 in
theorem japp_long {N b n c M ep : Nat} {wr : World} {d : DAt} {pv : Value} {vs : List Value} {at_ : Int} {ls : List (List UInt8)} {A : Option Addr} {l : List UInt8} (J : JAt N wr b (some ⟨d.b, 0, none⟩) pv vs ⟨at_, M, ep, ls⟩) (hf : (⟨at_, M, ep, ls⟩ : JS).Fit) (hl : l.length = n) (hr : Reads wr wr.heap.size 1 A n (l.map bv)) (h64 : 64 < n) :
    Calls Try.prog 15 #[.pointer (some ⟨b, 0, none⟩), .slice A n c] wr fun e w' => e = .returned (.int .i64 80) ∧ Below wr.heap.size wr w' := by
  obtain ⟨k, hk⟩ : ∃ k, ls.length = k := ⟨_, rfl⟩
  obtain ⟨k1, hk1⟩ : ∃ k1, k + 1 = k1 := ⟨_, rfl⟩
  have hft := hf.top
  have hfa := hf.at_
  have hfl := hf.ls
  simp only at hft hfa hfl
  rw [hk] at hfl
  have hfm : M ≤ 4096 := by omega
  have HV := Lib.hid (jvalid_any J)
  have HLN : Hid (∀ W, Below wr.heap.size wr W → Calls Try.prog 16 #[.pointer (some ⟨b, 0, none⟩)] W fun e w' => e = .returned (.int .i64 (k : Int)) ∧ W = w') := Lib.hid (fun W hb => by
    have := jlen_any (J.below hb)
    simp only [hk] at this
    exact this)
  have HX4 : Hid (∀ W, Below wr.heap.size wr W → W.cell? ⟨b, 4, none⟩ = some (.int .u64 (ep : Int))) := Lib.hid (fun W hb => (J.below hb).blk.cell 4)
  have HK9 : Hid (IntKind.u64.wrap (k : Int) = (k : Int)) := Lib.hid (by rw [wrap_u64]; omega)
  have HK8 : Hid ((k : Int) + 1 = (k1 : Int) ∧ IntKind.u64.wrap (k1 : Int) = (k1 : Int)) := Lib.hid ⟨by omega, by rw [wrap_u64]; omega⟩
  have hrf : (⟨ep, k1, l⟩ : JV).Fine := ⟨hf.ep, by show k1 < _; omega⟩
  obtain ⟨E3, hE3⟩ : ∃ E, errJ ⟨ep, k1, l⟩ = E := ⟨_, rfl⟩
  obtain ⟨O, hO⟩ : ∃ O, outJ ⟨ep, k1, l⟩ = O := ⟨_, rfl⟩
  obtain ⟨m, hm⟩ : ∃ m, O.length = m := ⟨_, rfl⟩
  have HEN : Hid (∀ W, Below wr.heap.size wr W → Calls Try.prog 9 #[.int .u64 (ep : Int), .int .u64 (k1 : Int), .slice A n c] W fun e w' => ∃ X cx, e = .returned (.tuple #[.slice X m cx, .int .i64 E3]) ∧ Reads w' w'.heap.size 1 X m (O.map bv) ∧ Below W.heap.size W w') := Lib.hid (fun W hb => by
    have h := jencode_any ⟨ep, k1, l⟩ A c n W hrf hl ((hr.below hb).more hb.size)
    rw [hE3, hO] at h
    refine h.mono ?_
    rintro e w' ⟨v, rfl, g⟩
    obtain ⟨X, cx, rfl, ho, hb'⟩ := gives_len g hm
    exact ⟨X, cx, rfl, Reads.of_own ho, hb'⟩)
  have hok : okJ ⟨ep, k1, l⟩ = false := by
    cases h : okJ ⟨ep, k1, l⟩
    · rfl
    · have h2 := (okJ_iff.1 h).2
      simp only at h2
      omega
  obtain rfl : E3 = 80 := by rw [← hE3]; unfold errJ; rw [hok]; rfl
  clear hE3 hO hm hok hk hk1 hrf hf J hr hl hft hfa hfl
  go_enter Try.func15, Try.ntmps15
  go_wp2_with (go_at_call 37; refine HV.out.mono ?_; rintro e _ ⟨rfl, rfl⟩)
  refine wp_region_done_on (fun _ W => Below wr.heap.size wr W) (fun _ i v W => RdW m O 80 [.pointer (some ⟨b, 0, none⟩), .pointer (some ⟨b, 0, none⟩), .pointer (some ⟨b, 4, none⟩), .int .u64 (ep : Int), .pointer (some ⟨b, 0, none⟩), .int .i64 (k : Int), .int .u64 (k : Int), .int .u64 (k1 : Int), .slice A n c] i v W) (by kernel_rfl) 66 rfl (by kernel_rfl) ((Below.refl _ wr).drew) ?_ ?_
  · intro i hi
    have hi2 : i < 15 := hi
    clear hi
    rcases i with _ | i
    · refine done_value (fun _ _ h => h) (fun _ _ _ _ h => h) (.pointer (some ⟨b, 0, none⟩)) rfl ?_
      intro dn a8 w8 hS ho hn
      have o0 : a8.tmps[0]? = some _ := (ho 0 (by kernel_rfl)).trans rfl
      clear ho hn
      refine ⟨wanted_free rfl, ?_, ⟨fun _ => rfl, fun h => by omega, fun h => by omega, fun h => by omega⟩⟩
      go_simp
    rcases i with _ | i
    · refine done_value (fun _ _ h => h) (fun _ _ _ _ h => h) (.pointer (some ⟨b, 0, none⟩)) rfl ?_
      intro dn a8 w8 hS ho hn
      obtain ⟨_, n13, h13⟩ := hn 0 13 (by kernel_rfl) rfl
      obtain rfl := h13.1 (by decide)
      clear ho hn
      refine ⟨wanted_free rfl, ?_, ⟨fun _ => rfl, fun h => by omega, fun h => by omega, fun h => by omega⟩⟩
      go_simp
    rcases i with _ | i
    · refine done_value (fun _ _ h => h) (fun _ _ _ _ h => h) (.pointer (some ⟨b, 4, none⟩)) rfl ?_
      intro dn a8 w8 hS ho hn
      obtain ⟨_, n14, h14⟩ := hn 1 14 (by kernel_rfl) rfl
      obtain rfl := h14.1 (by decide)
      clear ho hn
      refine ⟨wanted_free rfl, ?_, ⟨fun _ => rfl, fun h => by omega, fun h => by omega, fun h => by omega⟩⟩
      go_simp
    rcases i with _ | i
    · refine done_value (fun _ _ h => h) (fun _ _ _ _ h => h) (.int .u64 (ep : Int)) rfl ?_
      intro dn a8 w8 hS ho hn
      obtain ⟨_, n15, h15⟩ := hn 2 15 (by kernel_rfl) rfl
      obtain rfl := h15.1 (by decide)
      clear ho hn
      refine ⟨wanted_free rfl, ?_, ⟨fun _ => rfl, fun h => by omega, fun h => by omega, fun h => by omega⟩⟩
      have x4 := HX4.out w8 hS
      go_simp
    rcases i with _ | i
    · refine done_value (fun _ _ h => h) (fun _ _ _ _ h => h) (.pointer (some ⟨b, 0, none⟩)) rfl ?_
      intro dn a8 w8 hS ho hn
      have o0 : a8.tmps[0]? = some _ := (ho 0 (by kernel_rfl)).trans rfl
      clear ho hn
      refine ⟨wanted_free rfl, ?_, ⟨fun _ => rfl, fun h => by omega, fun h => by omega, fun h => by omega⟩⟩
      go_simp
    rcases i with _ | i
    · refine done_call 16 #[.pointer (some ⟨b, 0, none⟩)] rfl ?_
      intro dn a8 w8 hS hd hx ho hn
      obtain ⟨_, n17, h17⟩ := hn 4 17 (by kernel_rfl) rfl
      obtain rfl := h17.1 (by decide)
      clear ho hn
      refine ⟨wanted_free rfl, by go_simp, ?_⟩
      refine (HLN.out w8 hS).mono ?_
      rintro e w9 ⟨rfl, rfl⟩
      exact ⟨_, rfl, hS, ⟨fun _ => rfl, fun h => by omega, fun h => by omega, fun h => by omega⟩, fun j u _ _ h => h⟩
    rcases i with _ | i
    · refine done_value (fun _ _ h => h) (fun _ _ _ _ h => h) (.int .u64 (k : Int)) rfl ?_
      intro dn a8 w8 hS ho hn
      obtain ⟨_, n18, h18⟩ := hn 5 18 (by kernel_rfl) rfl
      obtain rfl := h18.1 (by decide)
      clear ho hn
      refine ⟨wanted_free rfl, ?_, ⟨fun _ => rfl, fun h => by omega, fun h => by omega, fun h => by omega⟩⟩
      have k9 := HK9.out
      go_simp
    rcases i with _ | i
    · refine done_value (fun _ _ h => h) (fun _ _ _ _ h => h) (.int .u64 (k1 : Int)) rfl ?_
      intro dn a8 w8 hS ho hn
      obtain ⟨_, n19, h19⟩ := hn 6 19 (by kernel_rfl) rfl
      obtain rfl := h19.1 (by decide)
      clear ho hn
      refine ⟨wanted_free rfl, ?_, ⟨fun _ => rfl, fun h => by omega, fun h => by omega, fun h => by omega⟩⟩
      obtain ⟨k8, k8b⟩ := HK8.out
      go_simp
    rcases i with _ | i
    · refine done_value (fun _ _ h => h) (fun _ _ _ _ h => h) (.slice A n c) rfl ?_
      intro dn a8 w8 hS ho hn
      have o1 : a8.tmps[1]? = some _ := (ho 1 (by kernel_rfl)).trans rfl
      clear ho hn
      refine ⟨wanted_free rfl, ?_, ⟨fun _ => rfl, fun h => by omega, fun h => by omega, fun h => by omega⟩⟩
      go_simp
    rcases i with _ | i
    · refine done_call 9 #[.int .u64 (ep : Int), .int .u64 (k1 : Int), .slice A n c] rfl ?_
      intro dn a8 w8 hS hd hx ho hn
      obtain ⟨_, n16, h16⟩ := hn 3 16 (by kernel_rfl) rfl
      obtain rfl := h16.1 (by decide)
      obtain ⟨_, n20, h20⟩ := hn 7 20 (by kernel_rfl) rfl
      obtain rfl := h20.1 (by decide)
      obtain ⟨_, n21, h21⟩ := hn 8 21 (by kernel_rfl) rfl
      obtain rfl := h21.1 (by decide)
      clear ho hn
      refine ⟨wanted_free rfl, by go_simp, ?_⟩
      refine (HEN.out w8 hS).mono ?_
      rintro e w9 ⟨X, cx, rfl, hrx, hbx⟩
      exact ⟨_, rfl, (show Below wr.heap.size wr w8 from hS).trans (hbx.mono (show Below wr.heap.size wr w8 from hS).size), ⟨fun h => by omega, fun _ => ⟨X, cx, rfl, hrx⟩, fun h => by omega, fun h => by omega⟩, fun j u _ _ h => h.below hbx⟩
    rcases i with _ | i
    · refine done_any (fun _ _ h => h) (fun _ _ _ _ h => h) rfl ?_
      intro dn a8 w8 hS hd ho hn
      obtain ⟨_, n22, h22⟩ := hn 9 22 (by kernel_rfl) rfl
      obtain ⟨X, cx, rfl, hrx⟩ := h22.2.1 (.inl rfl)
      clear ho hn
      refine ⟨wanted_free rfl, .tuple #[.slice X m cx, .int .i64 80], ?_, ⟨fun h => by omega, fun _ => ⟨X, cx, rfl, hrx⟩, fun h => by omega, fun h => by omega⟩⟩
      go_simp
    rcases i with _ | i
    · refine done_any (fun _ _ h => h) (fun _ _ _ _ h => h) rfl ?_
      intro dn a8 w8 hS hd ho hn
      obtain ⟨_, n12, h12⟩ := hn 10 12 (by kernel_rfl) rfl
      obtain ⟨X, cx, rfl, hrx⟩ := h12.2.1 (.inr rfl)
      clear ho hn
      refine ⟨wanted_free rfl, .slice X m cx, ?_, ⟨fun h => by omega, fun h => by omega, fun _ => ⟨X, cx, rfl, hrx⟩, fun h => by omega⟩⟩
      go_simp
    rcases i with _ | i
    · refine done_any (fun _ _ h => h) (fun _ _ _ _ h => h) rfl ?_
      intro dn a8 w8 hS hd ho hn
      obtain ⟨_, n12, h12⟩ := hn 10 12 (by kernel_rfl) rfl
      obtain ⟨X, cx, rfl, hrx⟩ := h12.2.1 (.inr rfl)
      clear ho hn
      refine ⟨wanted_free rfl, .int .i64 80, ?_, ⟨fun h => by omega, fun h => by omega, fun h => by omega, fun _ => rfl⟩⟩
      go_simp
    rcases i with _ | i
    · refine done_any (fun _ _ h => h) (fun _ _ _ _ h => h) rfl ?_
      intro dn a8 w8 hS hd ho hn
      obtain ⟨_, n23, h23⟩ := hn 11 23 (by kernel_rfl) rfl
      obtain ⟨X, cx, rfl, hrx⟩ := h23.2.2.1 (.inl rfl)
      clear ho hn
      refine ⟨wanted_free rfl, .slice X m cx, ?_, ⟨fun h => by omega, fun h => by omega, fun _ => ⟨X, cx, rfl, hrx⟩, fun h => by omega⟩⟩
      go_simp
    rcases i with _ | i
    · refine done_any (fun _ _ h => h) (fun _ _ _ _ h => h) rfl ?_
      intro dn a8 w8 hS hd ho hn
      obtain ⟨_, n24, h24⟩ := hn 12 24 (by kernel_rfl) rfl
      obtain rfl := h24.2.2.2 (.inl rfl)
      clear ho hn
      refine ⟨wanted_free rfl, .int .i64 80, ?_, ⟨fun h => by omega, fun h => by omega, fun h => by omega, fun _ => rfl⟩⟩
      go_simp
    omega
  · intro done fv w5 hS5 hR5 hall
    obtain ⟨A5, c5, hv5, hr5⟩ := (hR5 13 5 rfl).2.2.1 (.inr rfl)
    have hv6 := (hR5 14 6 rfl).2.2.2 (.inr rfl)
    have hb5 : Below wr.heap.size wr w5 := hS5
    clear hR5 hS5 hall
    simp only [putAll, List.foldl_cons, List.foldl_nil, Act.put, List.setIfInBounds_toArray, List.set_cons_succ, List.set_cons_zero, hv5, hv6]
    have HB5 := Lib.hid hb5
    clear hr5 hb5
    go_wp2
    go_ret
    exact ⟨rfl, HB5.out⟩

set_option maxRecDepth 100000 in
set_option maxHeartbeats 4000000 in
theorem japp_full {N b n c M ep : Nat} {wr : World} {d : DAt} {pv : Value} {vs : List Value} {at_ : Int} {ls : List (List UInt8)} {A : Option Addr} {l : List UInt8} (J : JAt N wr b (some ⟨d.b, 0, none⟩) pv vs ⟨at_, M, ep, ls⟩) (hf : (⟨at_, M, ep, ls⟩ : JS).Fit) (hl : l.length = n) (hr : Reads wr wr.heap.size 1 A n (l.map bv)) (h64 : n ≤ 64) (hfull : ls.length = M) :
    Calls Try.prog 15 #[.pointer (some ⟨b, 0, none⟩), .slice A n c] wr fun e w' => e = .returned (.int .i64 41) ∧ Below wr.heap.size wr w' := by
  obtain ⟨k, hk⟩ : ∃ k, ls.length = k := ⟨_, rfl⟩
  obtain ⟨k1, hk1⟩ : ∃ k1, k + 1 = k1 := ⟨_, rfl⟩
  have hft := hf.top
  have hfa := hf.at_
  have hfl := hf.ls
  simp only at hft hfa hfl
  rw [hk] at hfl
  have hfm : M ≤ 4096 := by omega
  have HV := Lib.hid (jvalid_any J)
  have HLN : Hid (∀ W, Below wr.heap.size wr W → Calls Try.prog 16 #[.pointer (some ⟨b, 0, none⟩)] W fun e w' => e = .returned (.int .i64 (k : Int)) ∧ W = w') := Lib.hid (fun W hb => by
    have := jlen_any (J.below hb)
    simp only [hk] at this
    exact this)
  have HX4 : Hid (∀ W, Below wr.heap.size wr W → W.cell? ⟨b, 4, none⟩ = some (.int .u64 (ep : Int))) := Lib.hid (fun W hb => (J.below hb).blk.cell 4)
  have HK9 : Hid (IntKind.u64.wrap (k : Int) = (k : Int)) := Lib.hid (by rw [wrap_u64]; omega)
  have HK8 : Hid ((k : Int) + 1 = (k1 : Int) ∧ IntKind.u64.wrap (k1 : Int) = (k1 : Int)) := Lib.hid ⟨by omega, by rw [wrap_u64]; omega⟩
  have hrf : (⟨ep, k1, l⟩ : JV).Fine := ⟨hf.ep, by show k1 < _; omega⟩
  obtain ⟨E3, hE3⟩ : ∃ E, errJ ⟨ep, k1, l⟩ = E := ⟨_, rfl⟩
  obtain ⟨O, hO⟩ : ∃ O, outJ ⟨ep, k1, l⟩ = O := ⟨_, rfl⟩
  obtain ⟨m, hm⟩ : ∃ m, O.length = m := ⟨_, rfl⟩
  have HEN : Hid (∀ W, Below wr.heap.size wr W → Calls Try.prog 9 #[.int .u64 (ep : Int), .int .u64 (k1 : Int), .slice A n c] W fun e w' => ∃ X cx, e = .returned (.tuple #[.slice X m cx, .int .i64 E3]) ∧ Reads w' w'.heap.size 1 X m (O.map bv) ∧ Below W.heap.size W w') := Lib.hid (fun W hb => by
    have h := jencode_any ⟨ep, k1, l⟩ A c n W hrf hl ((hr.below hb).more hb.size)
    rw [hE3, hO] at h
    refine h.mono ?_
    rintro e w' ⟨v, rfl, g⟩
    obtain ⟨X, cx, rfl, ho, hb'⟩ := gives_len g hm
    exact ⟨X, cx, rfl, Reads.of_own ho, hb'⟩)
  have hok : okJ ⟨ep, k1, l⟩ = true := okJ_iff.2 ⟨by show 1 ≤ k1; omega, by show l.length ≤ 64; omega⟩
  obtain rfl : E3 = 0 := by rw [← hE3]; unfold errJ; rw [hok]; rfl
  have hO2 : sectJ ⟨ep, k1, l⟩ = O := by rw [← hO]; unfold outJ; rw [hok]; rfl
  obtain rfl : m = 128 := by rw [← hm, ← hO2]; exact sectJ_length (okJ_iff.1 hok).2
  have HLFT : Hid (∀ W, Below wr.heap.size wr W → Calls Try.prog 17 #[.pointer (some ⟨b, 0, none⟩)] W fun e w' => e = .returned (.int .i64 0) ∧ ∃ n, w' = W.drewN n) := Lib.hid (fun W hb => jleft_any (k := 0) (J.below hb) hf (by show M = ls.length + 0; omega))
  clear hE3 hO hO2 hm hok hk hk1 hrf hf J hr hl hft hfa hfl hfull
  go_enter Try.func15, Try.ntmps15
  go_wp2_with (go_at_call 37; refine HV.out.mono ?_; rintro e _ ⟨rfl, rfl⟩)
  refine wp_region_done_on (fun _ W => Below wr.heap.size wr W) (fun _ i v W => RdW 128 O 0 [.pointer (some ⟨b, 0, none⟩), .pointer (some ⟨b, 0, none⟩), .pointer (some ⟨b, 4, none⟩), .int .u64 (ep : Int), .pointer (some ⟨b, 0, none⟩), .int .i64 (k : Int), .int .u64 (k : Int), .int .u64 (k1 : Int), .slice A n c] i v W) (by kernel_rfl) 66 rfl (by kernel_rfl) ((Below.refl _ wr).drew) ?_ ?_
  · intro i hi
    have hi2 : i < 15 := hi
    clear hi
    rcases i with _ | i
    · refine done_value (fun _ _ h => h) (fun _ _ _ _ h => h) (.pointer (some ⟨b, 0, none⟩)) rfl ?_
      intro dn a8 w8 hS ho hn
      have o0 : a8.tmps[0]? = some _ := (ho 0 (by kernel_rfl)).trans rfl
      clear ho hn
      refine ⟨wanted_free rfl, ?_, ⟨fun _ => rfl, fun h => by omega, fun h => by omega, fun h => by omega⟩⟩
      go_simp
    rcases i with _ | i
    · refine done_value (fun _ _ h => h) (fun _ _ _ _ h => h) (.pointer (some ⟨b, 0, none⟩)) rfl ?_
      intro dn a8 w8 hS ho hn
      obtain ⟨_, n13, h13⟩ := hn 0 13 (by kernel_rfl) rfl
      obtain rfl := h13.1 (by decide)
      clear ho hn
      refine ⟨wanted_free rfl, ?_, ⟨fun _ => rfl, fun h => by omega, fun h => by omega, fun h => by omega⟩⟩
      go_simp
    rcases i with _ | i
    · refine done_value (fun _ _ h => h) (fun _ _ _ _ h => h) (.pointer (some ⟨b, 4, none⟩)) rfl ?_
      intro dn a8 w8 hS ho hn
      obtain ⟨_, n14, h14⟩ := hn 1 14 (by kernel_rfl) rfl
      obtain rfl := h14.1 (by decide)
      clear ho hn
      refine ⟨wanted_free rfl, ?_, ⟨fun _ => rfl, fun h => by omega, fun h => by omega, fun h => by omega⟩⟩
      go_simp
    rcases i with _ | i
    · refine done_value (fun _ _ h => h) (fun _ _ _ _ h => h) (.int .u64 (ep : Int)) rfl ?_
      intro dn a8 w8 hS ho hn
      obtain ⟨_, n15, h15⟩ := hn 2 15 (by kernel_rfl) rfl
      obtain rfl := h15.1 (by decide)
      clear ho hn
      refine ⟨wanted_free rfl, ?_, ⟨fun _ => rfl, fun h => by omega, fun h => by omega, fun h => by omega⟩⟩
      have x4 := HX4.out w8 hS
      go_simp
    rcases i with _ | i
    · refine done_value (fun _ _ h => h) (fun _ _ _ _ h => h) (.pointer (some ⟨b, 0, none⟩)) rfl ?_
      intro dn a8 w8 hS ho hn
      have o0 : a8.tmps[0]? = some _ := (ho 0 (by kernel_rfl)).trans rfl
      clear ho hn
      refine ⟨wanted_free rfl, ?_, ⟨fun _ => rfl, fun h => by omega, fun h => by omega, fun h => by omega⟩⟩
      go_simp
    rcases i with _ | i
    · refine done_call 16 #[.pointer (some ⟨b, 0, none⟩)] rfl ?_
      intro dn a8 w8 hS hd hx ho hn
      obtain ⟨_, n17, h17⟩ := hn 4 17 (by kernel_rfl) rfl
      obtain rfl := h17.1 (by decide)
      clear ho hn
      refine ⟨wanted_free rfl, by go_simp, ?_⟩
      refine (HLN.out w8 hS).mono ?_
      rintro e w9 ⟨rfl, rfl⟩
      exact ⟨_, rfl, hS, ⟨fun _ => rfl, fun h => by omega, fun h => by omega, fun h => by omega⟩, fun j u _ _ h => h⟩
    rcases i with _ | i
    · refine done_value (fun _ _ h => h) (fun _ _ _ _ h => h) (.int .u64 (k : Int)) rfl ?_
      intro dn a8 w8 hS ho hn
      obtain ⟨_, n18, h18⟩ := hn 5 18 (by kernel_rfl) rfl
      obtain rfl := h18.1 (by decide)
      clear ho hn
      refine ⟨wanted_free rfl, ?_, ⟨fun _ => rfl, fun h => by omega, fun h => by omega, fun h => by omega⟩⟩
      have k9 := HK9.out
      go_simp
    rcases i with _ | i
    · refine done_value (fun _ _ h => h) (fun _ _ _ _ h => h) (.int .u64 (k1 : Int)) rfl ?_
      intro dn a8 w8 hS ho hn
      obtain ⟨_, n19, h19⟩ := hn 6 19 (by kernel_rfl) rfl
      obtain rfl := h19.1 (by decide)
      clear ho hn
      refine ⟨wanted_free rfl, ?_, ⟨fun _ => rfl, fun h => by omega, fun h => by omega, fun h => by omega⟩⟩
      obtain ⟨k8, k8b⟩ := HK8.out
      go_simp
    rcases i with _ | i
    · refine done_value (fun _ _ h => h) (fun _ _ _ _ h => h) (.slice A n c) rfl ?_
      intro dn a8 w8 hS ho hn
      have o1 : a8.tmps[1]? = some _ := (ho 1 (by kernel_rfl)).trans rfl
      clear ho hn
      refine ⟨wanted_free rfl, ?_, ⟨fun _ => rfl, fun h => by omega, fun h => by omega, fun h => by omega⟩⟩
      go_simp
    rcases i with _ | i
    · refine done_call 9 #[.int .u64 (ep : Int), .int .u64 (k1 : Int), .slice A n c] rfl ?_
      intro dn a8 w8 hS hd hx ho hn
      obtain ⟨_, n16, h16⟩ := hn 3 16 (by kernel_rfl) rfl
      obtain rfl := h16.1 (by decide)
      obtain ⟨_, n20, h20⟩ := hn 7 20 (by kernel_rfl) rfl
      obtain rfl := h20.1 (by decide)
      obtain ⟨_, n21, h21⟩ := hn 8 21 (by kernel_rfl) rfl
      obtain rfl := h21.1 (by decide)
      clear ho hn
      refine ⟨wanted_free rfl, by go_simp, ?_⟩
      refine (HEN.out w8 hS).mono ?_
      rintro e w9 ⟨X, cx, rfl, hrx, hbx⟩
      exact ⟨_, rfl, (show Below wr.heap.size wr w8 from hS).trans (hbx.mono (show Below wr.heap.size wr w8 from hS).size), ⟨fun h => by omega, fun _ => ⟨X, cx, rfl, hrx⟩, fun h => by omega, fun h => by omega⟩, fun j u _ _ h => h.below hbx⟩
    rcases i with _ | i
    · refine done_any (fun _ _ h => h) (fun _ _ _ _ h => h) rfl ?_
      intro dn a8 w8 hS hd ho hn
      obtain ⟨_, n22, h22⟩ := hn 9 22 (by kernel_rfl) rfl
      obtain ⟨X, cx, rfl, hrx⟩ := h22.2.1 (.inl rfl)
      clear ho hn
      refine ⟨wanted_free rfl, .tuple #[.slice X 128 cx, .int .i64 0], ?_, ⟨fun h => by omega, fun _ => ⟨X, cx, rfl, hrx⟩, fun h => by omega, fun h => by omega⟩⟩
      go_simp
    rcases i with _ | i
    · refine done_any (fun _ _ h => h) (fun _ _ _ _ h => h) rfl ?_
      intro dn a8 w8 hS hd ho hn
      obtain ⟨_, n12, h12⟩ := hn 10 12 (by kernel_rfl) rfl
      obtain ⟨X, cx, rfl, hrx⟩ := h12.2.1 (.inr rfl)
      clear ho hn
      refine ⟨wanted_free rfl, .slice X 128 cx, ?_, ⟨fun h => by omega, fun h => by omega, fun _ => ⟨X, cx, rfl, hrx⟩, fun h => by omega⟩⟩
      go_simp
    rcases i with _ | i
    · refine done_any (fun _ _ h => h) (fun _ _ _ _ h => h) rfl ?_
      intro dn a8 w8 hS hd ho hn
      obtain ⟨_, n12, h12⟩ := hn 10 12 (by kernel_rfl) rfl
      obtain ⟨X, cx, rfl, hrx⟩ := h12.2.1 (.inr rfl)
      clear ho hn
      refine ⟨wanted_free rfl, .int .i64 0, ?_, ⟨fun h => by omega, fun h => by omega, fun h => by omega, fun _ => rfl⟩⟩
      go_simp
    rcases i with _ | i
    · refine done_any (fun _ _ h => h) (fun _ _ _ _ h => h) rfl ?_
      intro dn a8 w8 hS hd ho hn
      obtain ⟨_, n23, h23⟩ := hn 11 23 (by kernel_rfl) rfl
      obtain ⟨X, cx, rfl, hrx⟩ := h23.2.2.1 (.inl rfl)
      clear ho hn
      refine ⟨wanted_free rfl, .slice X 128 cx, ?_, ⟨fun h => by omega, fun h => by omega, fun _ => ⟨X, cx, rfl, hrx⟩, fun h => by omega⟩⟩
      go_simp
    rcases i with _ | i
    · refine done_any (fun _ _ h => h) (fun _ _ _ _ h => h) rfl ?_
      intro dn a8 w8 hS hd ho hn
      obtain ⟨_, n24, h24⟩ := hn 12 24 (by kernel_rfl) rfl
      obtain rfl := h24.2.2.2 (.inl rfl)
      clear ho hn
      refine ⟨wanted_free rfl, .int .i64 0, ?_, ⟨fun h => by omega, fun h => by omega, fun h => by omega, fun _ => rfl⟩⟩
      go_simp
    omega
  · intro done fv w5 hS5 hR5 hall
    obtain ⟨A5, c5, hv5, hr5⟩ := (hR5 13 5 rfl).2.2.1 (.inr rfl)
    have hv6 := (hR5 14 6 rfl).2.2.2 (.inr rfl)
    have hb5 : Below wr.heap.size wr w5 := hS5
    clear hR5 hS5 hall
    simp only [putAll, List.foldl_cons, List.foldl_nil, Act.put, List.setIfInBounds_toArray, List.set_cons_succ, List.set_cons_zero, hv5, hv6]
    have HLF := Lib.hid (HLFT.out w5 hb5)
    have HB5 := Lib.hid hb5
    clear hr5 hb5
    go_wp2_with (go_at_call 17; refine HLF.out.mono ?_; rintro e _ ⟨rfl, nz, rfl⟩)
    go_ret
    exact ⟨rfl, HB5.out.trans ((below_drewN (Below.refl _ _) nz).mono HB5.out.size)⟩

set_option maxRecDepth 100000 in
set_option maxHeartbeats 4000000 in
theorem japp_no {N b n c M ep : Nat} {w0 wr : World} {d : DAt} {s : RSt} {pv : Value} {vs : List Value} {at_ : Int} {ls : List (List UInt8)} {A : Option Addr} {l : List UInt8} {s1 : RSt} {E : Int} (L : Lives N w0 wr d s) (J : JAt N wr b (some ⟨d.b, 0, none⟩) pv vs ⟨at_, M, ep, ls⟩) (hf : (⟨at_, M, ep, ls⟩ : JS).Fit) (hl : l.length = n) (hr : Reads wr wr.heap.size 1 A n (l.map bv)) (h64 : n ≤ 64) (hlt : ls.length < M) (hfew : Few s) (hwe : writeErr s (at_ + (ls.length : Int)) (sectJ ⟨ep, ls.length + 1, l⟩) = E) (hws : writeK s (at_ + (ls.length : Int)) (sectJ ⟨ep, ls.length + 1, l⟩) = s1) (h0 : E ≠ 0) :
    Calls Try.prog 15 #[.pointer (some ⟨b, 0, none⟩), .slice A n c] wr fun e w' => e = .returned (.int .i64 E) ∧ Lives N w0 w' d s1 ∧ JAt N w' b (some ⟨d.b, 0, none⟩) pv vs ⟨at_, M, ep, ls⟩ ∧ Keep d.foot wr w' := by
  obtain ⟨k, hk⟩ : ∃ k, ls.length = k := ⟨_, rfl⟩
  obtain ⟨k1, hk1⟩ : ∃ k1, k + 1 = k1 := ⟨_, rfl⟩
  have hft := hf.top
  have hfa := hf.at_
  have hfl := hf.ls
  simp only at hft hfa hfl
  rw [hk] at hfl
  have hfm : M ≤ 4096 := by omega
  have HV := Lib.hid (jvalid_any J)
  have HLN : Hid (∀ W, Below wr.heap.size wr W → Calls Try.prog 16 #[.pointer (some ⟨b, 0, none⟩)] W fun e w' => e = .returned (.int .i64 (k : Int)) ∧ W = w') := Lib.hid (fun W hb => by
    have := jlen_any (J.below hb)
    simp only [hk] at this
    exact this)
  have HX4 : Hid (∀ W, Below wr.heap.size wr W → W.cell? ⟨b, 4, none⟩ = some (.int .u64 (ep : Int))) := Lib.hid (fun W hb => (J.below hb).blk.cell 4)
  have HK9 : Hid (IntKind.u64.wrap (k : Int) = (k : Int)) := Lib.hid (by rw [wrap_u64]; omega)
  have HK8 : Hid ((k : Int) + 1 = (k1 : Int) ∧ IntKind.u64.wrap (k1 : Int) = (k1 : Int)) := Lib.hid ⟨by omega, by rw [wrap_u64]; omega⟩
  have hrf : (⟨ep, k1, l⟩ : JV).Fine := ⟨hf.ep, by show k1 < _; omega⟩
  obtain ⟨E3, hE3⟩ : ∃ E, errJ ⟨ep, k1, l⟩ = E := ⟨_, rfl⟩
  obtain ⟨O, hO⟩ : ∃ O, outJ ⟨ep, k1, l⟩ = O := ⟨_, rfl⟩
  obtain ⟨m, hm⟩ : ∃ m, O.length = m := ⟨_, rfl⟩
  have HEN : Hid (∀ W, Below wr.heap.size wr W → Calls Try.prog 9 #[.int .u64 (ep : Int), .int .u64 (k1 : Int), .slice A n c] W fun e w' => ∃ X cx, e = .returned (.tuple #[.slice X m cx, .int .i64 E3]) ∧ Reads w' w'.heap.size 1 X m (O.map bv) ∧ Below W.heap.size W w') := Lib.hid (fun W hb => by
    have h := jencode_any ⟨ep, k1, l⟩ A c n W hrf hl ((hr.below hb).more hb.size)
    rw [hE3, hO] at h
    refine h.mono ?_
    rintro e w' ⟨v, rfl, g⟩
    obtain ⟨X, cx, rfl, ho, hb'⟩ := gives_len g hm
    exact ⟨X, cx, rfl, Reads.of_own ho, hb'⟩)
  have hok : okJ ⟨ep, k1, l⟩ = true := okJ_iff.2 ⟨by show 1 ≤ k1; omega, by show l.length ≤ 64; omega⟩
  obtain rfl : E3 = 0 := by rw [← hE3]; unfold errJ; rw [hok]; rfl
  have hO2 : sectJ ⟨ep, k1, l⟩ = O := by rw [← hO]; unfold outJ; rw [hok]; rfl
  obtain rfl : m = 128 := by rw [← hm, ← hO2]; exact sectJ_length (okJ_iff.1 hok).2
  obtain ⟨kk, hkk⟩ : ∃ kk, M = k + kk := ⟨M - k, by omega⟩
  have hkk0 : kk ≠ 0 := by omega
  have hd0 : ((kk : Int) == 0) = false := by rw [beq_eq_false_iff_ne]; omega
  have HLFT : Hid (∀ W, Below wr.heap.size wr W → Calls Try.prog 17 #[.pointer (some ⟨b, 0, none⟩)] W fun e w' => e = .returned (.int .i64 (kk : Int)) ∧ ∃ n, w' = W.drewN n) := Lib.hid (fun W hb => jleft_any (k := kk) (J.below hb) hf (by show M = ls.length + kk; omega))
  obtain ⟨a, ha⟩ : ∃ a, at_ + (k : Int) = a := ⟨_, rfl⟩
  have HAK : Hid (at_ + (k : Int) = a ∧ IntKind.i64.wrap a = a) := Lib.hid ⟨ha, IntWalk.i64_in _ (by omega)⟩
  have HKL := Lib.hid hk
  have HOL := Lib.hid hm
  have HFEW := Lib.hid hfew
  have HJ := Lib.hid J
  have HL := Lib.hid L
  rw [hk, hk1, hO2, ha] at hwe hws
  have HWE := Lib.hid hwe
  have HWS := Lib.hid hws
  have hE0 : (E != 0) = true := by rw [bne_iff_ne]; exact h0
  clear hE3 hO hO2 hm hok hk hk1 hrf hf J L hr hl hft hfa hfl hlt ha hwe hws hfew hkk h0
  go_enter Try.func15, Try.ntmps15
  go_wp2_with (go_at_call 37; refine HV.out.mono ?_; rintro e _ ⟨rfl, rfl⟩)
  refine wp_region_done_on (fun _ W => Below wr.heap.size wr W) (fun _ i v W => RdW 128 O 0 [.pointer (some ⟨b, 0, none⟩), .pointer (some ⟨b, 0, none⟩), .pointer (some ⟨b, 4, none⟩), .int .u64 (ep : Int), .pointer (some ⟨b, 0, none⟩), .int .i64 (k : Int), .int .u64 (k : Int), .int .u64 (k1 : Int), .slice A n c] i v W) (by kernel_rfl) 66 rfl (by kernel_rfl) ((Below.refl _ wr).drew) ?_ ?_
  · intro i hi
    have hi2 : i < 15 := hi
    clear hi
    rcases i with _ | i
    · refine done_value (fun _ _ h => h) (fun _ _ _ _ h => h) (.pointer (some ⟨b, 0, none⟩)) rfl ?_
      intro dn a8 w8 hS ho hn
      have o0 : a8.tmps[0]? = some _ := (ho 0 (by kernel_rfl)).trans rfl
      clear ho hn
      refine ⟨wanted_free rfl, ?_, ⟨fun _ => rfl, fun h => by omega, fun h => by omega, fun h => by omega⟩⟩
      go_simp
    rcases i with _ | i
    · refine done_value (fun _ _ h => h) (fun _ _ _ _ h => h) (.pointer (some ⟨b, 0, none⟩)) rfl ?_
      intro dn a8 w8 hS ho hn
      obtain ⟨_, n13, h13⟩ := hn 0 13 (by kernel_rfl) rfl
      obtain rfl := h13.1 (by decide)
      clear ho hn
      refine ⟨wanted_free rfl, ?_, ⟨fun _ => rfl, fun h => by omega, fun h => by omega, fun h => by omega⟩⟩
      go_simp
    rcases i with _ | i
    · refine done_value (fun _ _ h => h) (fun _ _ _ _ h => h) (.pointer (some ⟨b, 4, none⟩)) rfl ?_
      intro dn a8 w8 hS ho hn
      obtain ⟨_, n14, h14⟩ := hn 1 14 (by kernel_rfl) rfl
      obtain rfl := h14.1 (by decide)
      clear ho hn
      refine ⟨wanted_free rfl, ?_, ⟨fun _ => rfl, fun h => by omega, fun h => by omega, fun h => by omega⟩⟩
      go_simp
    rcases i with _ | i
    · refine done_value (fun _ _ h => h) (fun _ _ _ _ h => h) (.int .u64 (ep : Int)) rfl ?_
      intro dn a8 w8 hS ho hn
      obtain ⟨_, n15, h15⟩ := hn 2 15 (by kernel_rfl) rfl
      obtain rfl := h15.1 (by decide)
      clear ho hn
      refine ⟨wanted_free rfl, ?_, ⟨fun _ => rfl, fun h => by omega, fun h => by omega, fun h => by omega⟩⟩
      have x4 := HX4.out w8 hS
      go_simp
    rcases i with _ | i
    · refine done_value (fun _ _ h => h) (fun _ _ _ _ h => h) (.pointer (some ⟨b, 0, none⟩)) rfl ?_
      intro dn a8 w8 hS ho hn
      have o0 : a8.tmps[0]? = some _ := (ho 0 (by kernel_rfl)).trans rfl
      clear ho hn
      refine ⟨wanted_free rfl, ?_, ⟨fun _ => rfl, fun h => by omega, fun h => by omega, fun h => by omega⟩⟩
      go_simp
    rcases i with _ | i
    · refine done_call 16 #[.pointer (some ⟨b, 0, none⟩)] rfl ?_
      intro dn a8 w8 hS hd hx ho hn
      obtain ⟨_, n17, h17⟩ := hn 4 17 (by kernel_rfl) rfl
      obtain rfl := h17.1 (by decide)
      clear ho hn
      refine ⟨wanted_free rfl, by go_simp, ?_⟩
      refine (HLN.out w8 hS).mono ?_
      rintro e w9 ⟨rfl, rfl⟩
      exact ⟨_, rfl, hS, ⟨fun _ => rfl, fun h => by omega, fun h => by omega, fun h => by omega⟩, fun j u _ _ h => h⟩
    rcases i with _ | i
    · refine done_value (fun _ _ h => h) (fun _ _ _ _ h => h) (.int .u64 (k : Int)) rfl ?_
      intro dn a8 w8 hS ho hn
      obtain ⟨_, n18, h18⟩ := hn 5 18 (by kernel_rfl) rfl
      obtain rfl := h18.1 (by decide)
      clear ho hn
      refine ⟨wanted_free rfl, ?_, ⟨fun _ => rfl, fun h => by omega, fun h => by omega, fun h => by omega⟩⟩
      have k9 := HK9.out
      go_simp
    rcases i with _ | i
    · refine done_value (fun _ _ h => h) (fun _ _ _ _ h => h) (.int .u64 (k1 : Int)) rfl ?_
      intro dn a8 w8 hS ho hn
      obtain ⟨_, n19, h19⟩ := hn 6 19 (by kernel_rfl) rfl
      obtain rfl := h19.1 (by decide)
      clear ho hn
      refine ⟨wanted_free rfl, ?_, ⟨fun _ => rfl, fun h => by omega, fun h => by omega, fun h => by omega⟩⟩
      obtain ⟨k8, k8b⟩ := HK8.out
      go_simp
    rcases i with _ | i
    · refine done_value (fun _ _ h => h) (fun _ _ _ _ h => h) (.slice A n c) rfl ?_
      intro dn a8 w8 hS ho hn
      have o1 : a8.tmps[1]? = some _ := (ho 1 (by kernel_rfl)).trans rfl
      clear ho hn
      refine ⟨wanted_free rfl, ?_, ⟨fun _ => rfl, fun h => by omega, fun h => by omega, fun h => by omega⟩⟩
      go_simp
    rcases i with _ | i
    · refine done_call 9 #[.int .u64 (ep : Int), .int .u64 (k1 : Int), .slice A n c] rfl ?_
      intro dn a8 w8 hS hd hx ho hn
      obtain ⟨_, n16, h16⟩ := hn 3 16 (by kernel_rfl) rfl
      obtain rfl := h16.1 (by decide)
      obtain ⟨_, n20, h20⟩ := hn 7 20 (by kernel_rfl) rfl
      obtain rfl := h20.1 (by decide)
      obtain ⟨_, n21, h21⟩ := hn 8 21 (by kernel_rfl) rfl
      obtain rfl := h21.1 (by decide)
      clear ho hn
      refine ⟨wanted_free rfl, by go_simp, ?_⟩
      refine (HEN.out w8 hS).mono ?_
      rintro e w9 ⟨X, cx, rfl, hrx, hbx⟩
      exact ⟨_, rfl, (show Below wr.heap.size wr w8 from hS).trans (hbx.mono (show Below wr.heap.size wr w8 from hS).size), ⟨fun h => by omega, fun _ => ⟨X, cx, rfl, hrx⟩, fun h => by omega, fun h => by omega⟩, fun j u _ _ h => h.below hbx⟩
    rcases i with _ | i
    · refine done_any (fun _ _ h => h) (fun _ _ _ _ h => h) rfl ?_
      intro dn a8 w8 hS hd ho hn
      obtain ⟨_, n22, h22⟩ := hn 9 22 (by kernel_rfl) rfl
      obtain ⟨X, cx, rfl, hrx⟩ := h22.2.1 (.inl rfl)
      clear ho hn
      refine ⟨wanted_free rfl, .tuple #[.slice X 128 cx, .int .i64 0], ?_, ⟨fun h => by omega, fun _ => ⟨X, cx, rfl, hrx⟩, fun h => by omega, fun h => by omega⟩⟩
      go_simp
    rcases i with _ | i
    · refine done_any (fun _ _ h => h) (fun _ _ _ _ h => h) rfl ?_
      intro dn a8 w8 hS hd ho hn
      obtain ⟨_, n12, h12⟩ := hn 10 12 (by kernel_rfl) rfl
      obtain ⟨X, cx, rfl, hrx⟩ := h12.2.1 (.inr rfl)
      clear ho hn
      refine ⟨wanted_free rfl, .slice X 128 cx, ?_, ⟨fun h => by omega, fun h => by omega, fun _ => ⟨X, cx, rfl, hrx⟩, fun h => by omega⟩⟩
      go_simp
    rcases i with _ | i
    · refine done_any (fun _ _ h => h) (fun _ _ _ _ h => h) rfl ?_
      intro dn a8 w8 hS hd ho hn
      obtain ⟨_, n12, h12⟩ := hn 10 12 (by kernel_rfl) rfl
      obtain ⟨X, cx, rfl, hrx⟩ := h12.2.1 (.inr rfl)
      clear ho hn
      refine ⟨wanted_free rfl, .int .i64 0, ?_, ⟨fun h => by omega, fun h => by omega, fun h => by omega, fun _ => rfl⟩⟩
      go_simp
    rcases i with _ | i
    · refine done_any (fun _ _ h => h) (fun _ _ _ _ h => h) rfl ?_
      intro dn a8 w8 hS hd ho hn
      obtain ⟨_, n23, h23⟩ := hn 11 23 (by kernel_rfl) rfl
      obtain ⟨X, cx, rfl, hrx⟩ := h23.2.2.1 (.inl rfl)
      clear ho hn
      refine ⟨wanted_free rfl, .slice X 128 cx, ?_, ⟨fun h => by omega, fun h => by omega, fun _ => ⟨X, cx, rfl, hrx⟩, fun h => by omega⟩⟩
      go_simp
    rcases i with _ | i
    · refine done_any (fun _ _ h => h) (fun _ _ _ _ h => h) rfl ?_
      intro dn a8 w8 hS hd ho hn
      obtain ⟨_, n24, h24⟩ := hn 12 24 (by kernel_rfl) rfl
      obtain rfl := h24.2.2.2 (.inl rfl)
      clear ho hn
      refine ⟨wanted_free rfl, .int .i64 0, ?_, ⟨fun h => by omega, fun h => by omega, fun h => by omega, fun _ => rfl⟩⟩
      go_simp
    omega
  · intro done fv w5 hS5 hR5 hall
    obtain ⟨A5, c5, hv5, hr5⟩ := (hR5 13 5 rfl).2.2.1 (.inr rfl)
    have hv6 := (hR5 14 6 rfl).2.2.2 (.inr rfl)
    have hb5 : Below wr.heap.size wr w5 := hS5
    clear hR5 hS5 hall
    simp only [putAll, List.foldl_cons, List.foldl_nil, Act.put, List.setIfInBounds_toArray, List.set_cons_succ, List.set_cons_zero, hv5, hv6]
    go_wp2_with (go_at_call 17; refine (HLFT.out w5 hb5).mono ?_; rintro e _ ⟨rfl, nz, rfl⟩)
    have hb6 : Below wr.heap.size wr (w5.drewN nz) := hb5.trans ((below_drewN (Below.refl _ _) nz).mono hb5.size)
    have hr6 := hr5.drewN nz
    obtain ⟨w6, hw6⟩ : ∃ w6, w5.drewN nz = w6 := ⟨_, rfl⟩
    have hsz6 : w6.heap.size = w5.heap.size := by rw [← hw6]; rfl
    rw [hw6] at hb6 hr6 ⊢
    rw [← hsz6] at hr6
    have HST8 : Hid (JAt N w6.drew b (some ⟨d.b, 0, none⟩) pv vs ⟨at_, M, ep, ls⟩ ∧ Keep d.foot w6 w6.drew ∧ ((fun _ : Nat => false) 12 = false → Lives N w0 w6.drew d s ∧ Reads w6.drew w6.drew.heap.size 1 A5 128 (O.map bv)) ∧ ((fun _ : Nat => false) 12 = true → Lives N w0 w6.drew d s1)) := Lib.hid ⟨(HJ.out.below hb6).below (Below.refl _ _).drew, Keep.of_below (Below.refl _ _).drew, fun _ => ⟨(HL.out.next HL.out.lt hb6).drew', hr6⟩, fun e => Bool.noConfusion e⟩
    have HB6 := Lib.hid hb6
    clear hr5 hr6 hb5 hb6 hw6 hsz6
    refine wp_region_done_on (fun dn W => JAt N W b (some ⟨d.b, 0, none⟩) pv vs ⟨at_, M, ep, ls⟩ ∧ Keep d.foot w6 W ∧ (dn 12 = false → Lives N w0 W d s ∧ Reads W W.heap.size 1 A5 128 (O.map bv)) ∧ (dn 12 = true → Lives N w0 W d s1)) (fun _ i v _ => v = (([.pointer (some ⟨b, 0, none⟩), .pointer (some ⟨b, 0, none⟩), .pointer (some ⟨b, 1, none⟩), .pointer (some ⟨d.b, 0, none⟩), .pointer (some ⟨b, 0, none⟩), .pointer (some ⟨b, 0, none⟩), .pointer (some ⟨b, 2, none⟩), .int .i64 at_, .pointer (some ⟨b, 0, none⟩), .int .i64 (k : Int), .int .i64 a, .slice A5 128 c5, .int .i64 E, .int .i64 E] : List Value).getD i undef)) (by kernel_rfl) 66 rfl (by kernel_rfl) HST8.out ?_ ?_
    · intro i hi
      have hi2 : i < 14 := hi
      clear hi
      rcases i with _ | i
      · refine done_value (fun _ _ h => ⟨h.1, h.2.1, h.2.2.1, h.2.2.2⟩) (fun _ _ _ _ h => h) (.pointer (some ⟨b, 0, none⟩)) rfl ?_
        intro dn a8 w8 hS ho hn
        have o0 : a8.tmps[0]? = some _ := (ho 0 (by kernel_rfl)).trans rfl
        clear ho hn
        refine ⟨wanted_free rfl, ?_, rfl⟩
        go_simp
      rcases i with _ | i
      · refine done_value (fun _ _ h => ⟨h.1, h.2.1, h.2.2.1, h.2.2.2⟩) (fun _ _ _ _ h => h) (.pointer (some ⟨b, 0, none⟩)) rfl ?_
        intro dn a8 w8 hS ho hn
        obtain ⟨_, n31, h31⟩ := hn 0 31 (by kernel_rfl) rfl
        obtain rfl := h31
        clear ho hn
        refine ⟨wanted_free rfl, ?_, rfl⟩
        go_simp
      rcases i with _ | i
      · refine done_value (fun _ _ h => ⟨h.1, h.2.1, h.2.2.1, h.2.2.2⟩) (fun _ _ _ _ h => h) (.pointer (some ⟨b, 1, none⟩)) rfl ?_
        intro dn a8 w8 hS ho hn
        obtain ⟨_, n32, h32⟩ := hn 1 32 (by kernel_rfl) rfl
        obtain rfl := h32
        clear ho hn
        refine ⟨wanted_free rfl, ?_, rfl⟩
        go_simp
      rcases i with _ | i
      · refine done_value (fun _ _ h => ⟨h.1, h.2.1, h.2.2.1, h.2.2.2⟩) (fun _ _ _ _ h => h) (.pointer (some ⟨d.b, 0, none⟩)) rfl ?_
        intro dn a8 w8 hS ho hn
        obtain ⟨_, n33, h33⟩ := hn 2 33 (by kernel_rfl) rfl
        obtain rfl := h33
        clear ho hn
        refine ⟨wanted_free rfl, ?_, rfl⟩
        have x1 := hS.1.blk.cell 1
        go_simp
      rcases i with _ | i
      · refine done_value (fun _ _ h => ⟨h.1, h.2.1, h.2.2.1, h.2.2.2⟩) (fun _ _ _ _ h => h) (.pointer (some ⟨b, 0, none⟩)) rfl ?_
        intro dn a8 w8 hS ho hn
        have o0 : a8.tmps[0]? = some _ := (ho 0 (by kernel_rfl)).trans rfl
        clear ho hn
        refine ⟨wanted_free rfl, ?_, rfl⟩
        go_simp
      rcases i with _ | i
      · refine done_value (fun _ _ h => ⟨h.1, h.2.1, h.2.2.1, h.2.2.2⟩) (fun _ _ _ _ h => h) (.pointer (some ⟨b, 0, none⟩)) rfl ?_
        intro dn a8 w8 hS ho hn
        obtain ⟨_, n35, h35⟩ := hn 4 35 (by kernel_rfl) rfl
        obtain rfl := h35
        clear ho hn
        refine ⟨wanted_free rfl, ?_, rfl⟩
        go_simp
      rcases i with _ | i
      · refine done_value (fun _ _ h => ⟨h.1, h.2.1, h.2.2.1, h.2.2.2⟩) (fun _ _ _ _ h => h) (.pointer (some ⟨b, 2, none⟩)) rfl ?_
        intro dn a8 w8 hS ho hn
        obtain ⟨_, n36, h36⟩ := hn 5 36 (by kernel_rfl) rfl
        obtain rfl := h36
        clear ho hn
        refine ⟨wanted_free rfl, ?_, rfl⟩
        go_simp
      rcases i with _ | i
      · refine done_value (fun _ _ h => ⟨h.1, h.2.1, h.2.2.1, h.2.2.2⟩) (fun _ _ _ _ h => h) (.int .i64 at_) rfl ?_
        intro dn a8 w8 hS ho hn
        obtain ⟨_, n37, h37⟩ := hn 6 37 (by kernel_rfl) rfl
        obtain rfl := h37
        clear ho hn
        refine ⟨wanted_free rfl, ?_, rfl⟩
        have x2 := hS.1.blk.cell 2
        go_simp
      rcases i with _ | i
      · refine done_value (fun _ _ h => ⟨h.1, h.2.1, h.2.2.1, h.2.2.2⟩) (fun _ _ _ _ h => h) (.pointer (some ⟨b, 0, none⟩)) rfl ?_
        intro dn a8 w8 hS ho hn
        have o0 : a8.tmps[0]? = some _ := (ho 0 (by kernel_rfl)).trans rfl
        clear ho hn
        refine ⟨wanted_free rfl, ?_, rfl⟩
        go_simp
      rcases i with _ | i
      · refine done_call 16 #[.pointer (some ⟨b, 0, none⟩)] rfl ?_
        intro dn a8 w8 hS hd hx ho hn
        obtain ⟨_, n39, rfl⟩ := hn 8 39 (by kernel_rfl) rfl
        clear ho hn
        refine ⟨wanted_free rfl, by go_simp, ?_⟩
        refine (jlen_any hS.1).mono ?_
        rintro e w9 ⟨rfl, rfl⟩
        exact ⟨_, rfl, ⟨hS.1, hS.2.1, hS.2.2.1, hS.2.2.2⟩, by show Value.int .i64 (ls.length : Int) = _; rw [HKL.out]; rfl, fun j u _ _ h => h⟩
      rcases i with _ | i
      · refine done_value (fun _ _ h => ⟨h.1, h.2.1, h.2.2.1, h.2.2.2⟩) (fun _ _ _ _ h => h) (.int .i64 a) rfl ?_
        intro dn a8 w8 hS ho hn
        obtain ⟨_, n38, h38⟩ := hn 7 38 (by kernel_rfl) rfl
        obtain rfl := h38
        obtain ⟨_, n40, h40⟩ := hn 9 40 (by kernel_rfl) rfl
        obtain rfl := h40
        clear ho hn
        refine ⟨wanted_free rfl, ?_, rfl⟩
        obtain ⟨hak, hakb⟩ := HAK.out
        go_simp
      rcases i with _ | i
      · refine done_value (fun _ _ h => ⟨h.1, h.2.1, h.2.2.1, h.2.2.2⟩) (fun _ _ _ _ h => h) (.slice A5 128 c5) rfl ?_
        intro dn a8 w8 hS ho hn
        have o5 : a8.tmps[5]? = some _ := (ho 5 (by kernel_rfl)).trans rfl
        clear ho hn
        refine ⟨wanted_free rfl, ?_, rfl⟩
        go_simp
      rcases i with _ | i
      · refine done_call 38 #[.pointer (some ⟨d.b, 0, none⟩), .int .i64 a, .slice A5 128 c5] rfl ?_
        intro dn a8 w8 hS hd hx ho hn
        obtain ⟨_, n34, rfl⟩ := hn 3 34 (by kernel_rfl) rfl
        obtain ⟨_, n41, rfl⟩ := hn 10 41 (by kernel_rfl) rfl
        obtain ⟨_, n42, rfl⟩ := hn 11 42 (by kernel_rfl) rfl
        clear ho hn
        refine ⟨wanted_free rfl, by go_simp, ?_⟩
        obtain ⟨hL8, hR8⟩ := hS.2.2.1 hd
        refine (lwrite a A5 128 c5 O hL8 HOL.out hR8 HFEW.out HWE.out HWS.out).mono ?_
        rintro e w9 ⟨rfl, hL9, hk9⟩
        obtain ⟨kv, hdk⟩ := hL8.dk
        exact ⟨_, rfl, ⟨hS.1.disk hdk hk9, hS.2.1.trans hk9 (fun _ _ e => e), fun e => Bool.noConfusion e, fun _ => hL9⟩, rfl, fun j u _ _ h => h⟩
      rcases i with _ | i
      · refine done_value (fun _ _ h => ⟨h.1, h.2.1, h.2.2.1, h.2.2.2⟩) (fun _ _ _ _ h => h) (.int .i64 E) rfl ?_
        intro dn a8 w8 hS ho hn
        obtain ⟨_, n43, h43⟩ := hn 12 43 (by kernel_rfl) rfl
        obtain rfl := h43
        clear ho hn
        refine ⟨wanted_free rfl, ?_, rfl⟩
        go_simp
      omega
    · intro done2 fv2 w7 hS7 hR7 hall2
      have hv7 : fv2 7 = .int .i64 E := hR7 13 7 rfl
      have HF := Lib.hid (And.intro (hS7.2.2.2 (hall2 12 (by decide))) (And.intro hS7.1 ((Keep.of_below (S := d.foot) HB6.out).trans hS7.2.1 (fun _ _ e => e))))
      clear hR7 hS7 hall2 HST8
      simp only [putAll, List.foldl_cons, List.foldl_nil, Act.put, List.setIfInBounds_toArray, List.set_cons_succ, List.set_cons_zero, hv7]
      go_wp2
      go_ret
      exact ⟨rfl, HF.out.1, HF.out.2.1, HF.out.2.2⟩

set_option maxRecDepth 100000 in
set_option maxHeartbeats 4000000 in
theorem japp_ok {N b n c M ep : Nat} {w0 wr : World} {d : DAt} {s : RSt} {pv : Value} {vs : List Value} {at_ : Int} {ls : List (List UInt8)} {A : Option Addr} {l : List UInt8} {s1 s2 : RSt} (L : Lives N w0 wr d s) (J : JAt N wr b (some ⟨d.b, 0, none⟩) pv vs ⟨at_, M, ep, ls⟩) (hf : (⟨at_, M, ep, ls⟩ : JS).Fit) (hl : l.length = n) (hr : Reads wr wr.heap.size 1 A n (l.map bv)) (hsep : 0 < n → ∀ ad, A = some ad → ¬ d.foot ad.block) (h64 : n ≤ 64) (hlt : ls.length < M) (hfew : Few s) (hwe : writeErr s (at_ + (ls.length : Int)) (sectJ ⟨ep, ls.length + 1, l⟩) = 0) (hws : writeK s (at_ + (ls.length : Int)) (sectJ ⟨ep, ls.length + 1, l⟩) = s1) (hfs : flushK s1 = s2) :
    Calls Try.prog 15 #[.pointer (some ⟨b, 0, none⟩), .slice A n c] wr fun e w' => e = .returned (.int .i64 0) ∧ Lives N w0 w' d s2 ∧ (∃ pv' vs', JAt N w' b (some ⟨d.b, 0, none⟩) pv' vs' ⟨at_, M, ep, ls ++ [l]⟩) ∧ Keep (fun i => d.foot i ∨ i = b ∨ pv.ownBlock = some i) wr w' := by
  have hup : s1.down = false := by rw [← hws]; exact wrote_up hwe
  obtain ⟨k, hk⟩ : ∃ k, ls.length = k := ⟨_, rfl⟩
  obtain ⟨k1, hk1⟩ : ∃ k1, k + 1 = k1 := ⟨_, rfl⟩
  have hft := hf.top
  have hfa := hf.at_
  have hfl := hf.ls
  simp only at hft hfa hfl
  rw [hk] at hfl
  have hfm : M ≤ 4096 := by omega
  have HV := Lib.hid (jvalid_any J)
  have HLN : Hid (∀ W, Below wr.heap.size wr W → Calls Try.prog 16 #[.pointer (some ⟨b, 0, none⟩)] W fun e w' => e = .returned (.int .i64 (k : Int)) ∧ W = w') := Lib.hid (fun W hb => by
    have := jlen_any (J.below hb)
    simp only [hk] at this
    exact this)
  have HX4 : Hid (∀ W, Below wr.heap.size wr W → W.cell? ⟨b, 4, none⟩ = some (.int .u64 (ep : Int))) := Lib.hid (fun W hb => (J.below hb).blk.cell 4)
  have HK9 : Hid (IntKind.u64.wrap (k : Int) = (k : Int)) := Lib.hid (by rw [wrap_u64]; omega)
  have HK8 : Hid ((k : Int) + 1 = (k1 : Int) ∧ IntKind.u64.wrap (k1 : Int) = (k1 : Int)) := Lib.hid ⟨by omega, by rw [wrap_u64]; omega⟩
  have hrf : (⟨ep, k1, l⟩ : JV).Fine := ⟨hf.ep, by show k1 < _; omega⟩
  obtain ⟨E3, hE3⟩ : ∃ E, errJ ⟨ep, k1, l⟩ = E := ⟨_, rfl⟩
  obtain ⟨O, hO⟩ : ∃ O, outJ ⟨ep, k1, l⟩ = O := ⟨_, rfl⟩
  obtain ⟨m, hm⟩ : ∃ m, O.length = m := ⟨_, rfl⟩
  have HEN : Hid (∀ W, Below wr.heap.size wr W → Calls Try.prog 9 #[.int .u64 (ep : Int), .int .u64 (k1 : Int), .slice A n c] W fun e w' => ∃ X cx, e = .returned (.tuple #[.slice X m cx, .int .i64 E3]) ∧ Reads w' w'.heap.size 1 X m (O.map bv) ∧ Below W.heap.size W w') := Lib.hid (fun W hb => by
    have h := jencode_any ⟨ep, k1, l⟩ A c n W hrf hl ((hr.below hb).more hb.size)
    rw [hE3, hO] at h
    refine h.mono ?_
    rintro e w' ⟨v, rfl, g⟩
    obtain ⟨X, cx, rfl, ho, hb'⟩ := gives_len g hm
    exact ⟨X, cx, rfl, Reads.of_own ho, hb'⟩)
  have hok : okJ ⟨ep, k1, l⟩ = true := okJ_iff.2 ⟨by show 1 ≤ k1; omega, by show l.length ≤ 64; omega⟩
  obtain rfl : E3 = 0 := by rw [← hE3]; unfold errJ; rw [hok]; rfl
  have hO2 : sectJ ⟨ep, k1, l⟩ = O := by rw [← hO]; unfold outJ; rw [hok]; rfl
  obtain rfl : m = 128 := by rw [← hm, ← hO2]; exact sectJ_length (okJ_iff.1 hok).2
  obtain ⟨kk, hkk⟩ : ∃ kk, M = k + kk := ⟨M - k, by omega⟩
  have hkk0 : kk ≠ 0 := by omega
  have hd0 : ((kk : Int) == 0) = false := by rw [beq_eq_false_iff_ne]; omega
  have HLFT : Hid (∀ W, Below wr.heap.size wr W → Calls Try.prog 17 #[.pointer (some ⟨b, 0, none⟩)] W fun e w' => e = .returned (.int .i64 (kk : Int)) ∧ ∃ n, w' = W.drewN n) := Lib.hid (fun W hb => jleft_any (k := kk) (J.below hb) hf (by show M = ls.length + kk; omega))
  obtain ⟨a, ha⟩ : ∃ a, at_ + (k : Int) = a := ⟨_, rfl⟩
  have HAK : Hid (at_ + (k : Int) = a ∧ IntKind.i64.wrap a = a) := Lib.hid ⟨ha, IntWalk.i64_in _ (by omega)⟩
  have HKL := Lib.hid hk
  have HOL := Lib.hid hm
  have HFEW := Lib.hid hfew
  have HJ := Lib.hid J
  have HL := Lib.hid L
  rw [hk, hk1, hO2, ha] at hwe hws
  have HWE := Lib.hid hwe
  have HWS := Lib.hid hws
  have HR := Lib.hid hr
  have HSEP := Lib.hid hsep
  have HLEN := Lib.hid hl
  have HLT : Hid (ls.length < 4096) := Lib.hid (by omega)
  obtain ⟨A1, c1, hpv⟩ := own_slice3 J.own
  simp only at hpv
  rw [hk] at hpv
  subst hpv
  have HFS := Lib.hid hfs
  have HUP := Lib.hid hup
  clear hE3 hO hO2 hm hok hk hk1 hrf hf J L hr hl hft hfa hfl hlt ha hwe hws hfew hkk hsep hfs hup
  go_enter Try.func15, Try.ntmps15
  go_wp2_with (go_at_call 37; refine HV.out.mono ?_; rintro e _ ⟨rfl, rfl⟩)
  refine wp_region_done_on (fun _ W => Below wr.heap.size wr W) (fun _ i v W => RdW 128 O 0 [.pointer (some ⟨b, 0, none⟩), .pointer (some ⟨b, 0, none⟩), .pointer (some ⟨b, 4, none⟩), .int .u64 (ep : Int), .pointer (some ⟨b, 0, none⟩), .int .i64 (k : Int), .int .u64 (k : Int), .int .u64 (k1 : Int), .slice A n c] i v W) (by kernel_rfl) 66 rfl (by kernel_rfl) ((Below.refl _ wr).drew) ?_ ?_
  · intro i hi
    have hi2 : i < 15 := hi
    clear hi
    rcases i with _ | i
    · refine done_value (fun _ _ h => h) (fun _ _ _ _ h => h) (.pointer (some ⟨b, 0, none⟩)) rfl ?_
      intro dn a8 w8 hS ho hn
      have o0 : a8.tmps[0]? = some _ := (ho 0 (by kernel_rfl)).trans rfl
      clear ho hn
      refine ⟨wanted_free rfl, ?_, ⟨fun _ => rfl, fun h => by omega, fun h => by omega, fun h => by omega⟩⟩
      go_simp
    rcases i with _ | i
    · refine done_value (fun _ _ h => h) (fun _ _ _ _ h => h) (.pointer (some ⟨b, 0, none⟩)) rfl ?_
      intro dn a8 w8 hS ho hn
      obtain ⟨_, n13, h13⟩ := hn 0 13 (by kernel_rfl) rfl
      obtain rfl := h13.1 (by decide)
      clear ho hn
      refine ⟨wanted_free rfl, ?_, ⟨fun _ => rfl, fun h => by omega, fun h => by omega, fun h => by omega⟩⟩
      go_simp
    rcases i with _ | i
    · refine done_value (fun _ _ h => h) (fun _ _ _ _ h => h) (.pointer (some ⟨b, 4, none⟩)) rfl ?_
      intro dn a8 w8 hS ho hn
      obtain ⟨_, n14, h14⟩ := hn 1 14 (by kernel_rfl) rfl
      obtain rfl := h14.1 (by decide)
      clear ho hn
      refine ⟨wanted_free rfl, ?_, ⟨fun _ => rfl, fun h => by omega, fun h => by omega, fun h => by omega⟩⟩
      go_simp
    rcases i with _ | i
    · refine done_value (fun _ _ h => h) (fun _ _ _ _ h => h) (.int .u64 (ep : Int)) rfl ?_
      intro dn a8 w8 hS ho hn
      obtain ⟨_, n15, h15⟩ := hn 2 15 (by kernel_rfl) rfl
      obtain rfl := h15.1 (by decide)
      clear ho hn
      refine ⟨wanted_free rfl, ?_, ⟨fun _ => rfl, fun h => by omega, fun h => by omega, fun h => by omega⟩⟩
      have x4 := HX4.out w8 hS
      go_simp
    rcases i with _ | i
    · refine done_value (fun _ _ h => h) (fun _ _ _ _ h => h) (.pointer (some ⟨b, 0, none⟩)) rfl ?_
      intro dn a8 w8 hS ho hn
      have o0 : a8.tmps[0]? = some _ := (ho 0 (by kernel_rfl)).trans rfl
      clear ho hn
      refine ⟨wanted_free rfl, ?_, ⟨fun _ => rfl, fun h => by omega, fun h => by omega, fun h => by omega⟩⟩
      go_simp
    rcases i with _ | i
    · refine done_call 16 #[.pointer (some ⟨b, 0, none⟩)] rfl ?_
      intro dn a8 w8 hS hd hx ho hn
      obtain ⟨_, n17, h17⟩ := hn 4 17 (by kernel_rfl) rfl
      obtain rfl := h17.1 (by decide)
      clear ho hn
      refine ⟨wanted_free rfl, by go_simp, ?_⟩
      refine (HLN.out w8 hS).mono ?_
      rintro e w9 ⟨rfl, rfl⟩
      exact ⟨_, rfl, hS, ⟨fun _ => rfl, fun h => by omega, fun h => by omega, fun h => by omega⟩, fun j u _ _ h => h⟩
    rcases i with _ | i
    · refine done_value (fun _ _ h => h) (fun _ _ _ _ h => h) (.int .u64 (k : Int)) rfl ?_
      intro dn a8 w8 hS ho hn
      obtain ⟨_, n18, h18⟩ := hn 5 18 (by kernel_rfl) rfl
      obtain rfl := h18.1 (by decide)
      clear ho hn
      refine ⟨wanted_free rfl, ?_, ⟨fun _ => rfl, fun h => by omega, fun h => by omega, fun h => by omega⟩⟩
      have k9 := HK9.out
      go_simp
    rcases i with _ | i
    · refine done_value (fun _ _ h => h) (fun _ _ _ _ h => h) (.int .u64 (k1 : Int)) rfl ?_
      intro dn a8 w8 hS ho hn
      obtain ⟨_, n19, h19⟩ := hn 6 19 (by kernel_rfl) rfl
      obtain rfl := h19.1 (by decide)
      clear ho hn
      refine ⟨wanted_free rfl, ?_, ⟨fun _ => rfl, fun h => by omega, fun h => by omega, fun h => by omega⟩⟩
      obtain ⟨k8, k8b⟩ := HK8.out
      go_simp
    rcases i with _ | i
    · refine done_value (fun _ _ h => h) (fun _ _ _ _ h => h) (.slice A n c) rfl ?_
      intro dn a8 w8 hS ho hn
      have o1 : a8.tmps[1]? = some _ := (ho 1 (by kernel_rfl)).trans rfl
      clear ho hn
      refine ⟨wanted_free rfl, ?_, ⟨fun _ => rfl, fun h => by omega, fun h => by omega, fun h => by omega⟩⟩
      go_simp
    rcases i with _ | i
    · refine done_call 9 #[.int .u64 (ep : Int), .int .u64 (k1 : Int), .slice A n c] rfl ?_
      intro dn a8 w8 hS hd hx ho hn
      obtain ⟨_, n16, h16⟩ := hn 3 16 (by kernel_rfl) rfl
      obtain rfl := h16.1 (by decide)
      obtain ⟨_, n20, h20⟩ := hn 7 20 (by kernel_rfl) rfl
      obtain rfl := h20.1 (by decide)
      obtain ⟨_, n21, h21⟩ := hn 8 21 (by kernel_rfl) rfl
      obtain rfl := h21.1 (by decide)
      clear ho hn
      refine ⟨wanted_free rfl, by go_simp, ?_⟩
      refine (HEN.out w8 hS).mono ?_
      rintro e w9 ⟨X, cx, rfl, hrx, hbx⟩
      exact ⟨_, rfl, (show Below wr.heap.size wr w8 from hS).trans (hbx.mono (show Below wr.heap.size wr w8 from hS).size), ⟨fun h => by omega, fun _ => ⟨X, cx, rfl, hrx⟩, fun h => by omega, fun h => by omega⟩, fun j u _ _ h => h.below hbx⟩
    rcases i with _ | i
    · refine done_any (fun _ _ h => h) (fun _ _ _ _ h => h) rfl ?_
      intro dn a8 w8 hS hd ho hn
      obtain ⟨_, n22, h22⟩ := hn 9 22 (by kernel_rfl) rfl
      obtain ⟨X, cx, rfl, hrx⟩ := h22.2.1 (.inl rfl)
      clear ho hn
      refine ⟨wanted_free rfl, .tuple #[.slice X 128 cx, .int .i64 0], ?_, ⟨fun h => by omega, fun _ => ⟨X, cx, rfl, hrx⟩, fun h => by omega, fun h => by omega⟩⟩
      go_simp
    rcases i with _ | i
    · refine done_any (fun _ _ h => h) (fun _ _ _ _ h => h) rfl ?_
      intro dn a8 w8 hS hd ho hn
      obtain ⟨_, n12, h12⟩ := hn 10 12 (by kernel_rfl) rfl
      obtain ⟨X, cx, rfl, hrx⟩ := h12.2.1 (.inr rfl)
      clear ho hn
      refine ⟨wanted_free rfl, .slice X 128 cx, ?_, ⟨fun h => by omega, fun h => by omega, fun _ => ⟨X, cx, rfl, hrx⟩, fun h => by omega⟩⟩
      go_simp
    rcases i with _ | i
    · refine done_any (fun _ _ h => h) (fun _ _ _ _ h => h) rfl ?_
      intro dn a8 w8 hS hd ho hn
      obtain ⟨_, n12, h12⟩ := hn 10 12 (by kernel_rfl) rfl
      obtain ⟨X, cx, rfl, hrx⟩ := h12.2.1 (.inr rfl)
      clear ho hn
      refine ⟨wanted_free rfl, .int .i64 0, ?_, ⟨fun h => by omega, fun h => by omega, fun h => by omega, fun _ => rfl⟩⟩
      go_simp
    rcases i with _ | i
    · refine done_any (fun _ _ h => h) (fun _ _ _ _ h => h) rfl ?_
      intro dn a8 w8 hS hd ho hn
      obtain ⟨_, n23, h23⟩ := hn 11 23 (by kernel_rfl) rfl
      obtain ⟨X, cx, rfl, hrx⟩ := h23.2.2.1 (.inl rfl)
      clear ho hn
      refine ⟨wanted_free rfl, .slice X 128 cx, ?_, ⟨fun h => by omega, fun h => by omega, fun _ => ⟨X, cx, rfl, hrx⟩, fun h => by omega⟩⟩
      go_simp
    rcases i with _ | i
    · refine done_any (fun _ _ h => h) (fun _ _ _ _ h => h) rfl ?_
      intro dn a8 w8 hS hd ho hn
      obtain ⟨_, n24, h24⟩ := hn 12 24 (by kernel_rfl) rfl
      obtain rfl := h24.2.2.2 (.inl rfl)
      clear ho hn
      refine ⟨wanted_free rfl, .int .i64 0, ?_, ⟨fun h => by omega, fun h => by omega, fun h => by omega, fun _ => rfl⟩⟩
      go_simp
    omega
  · intro done fv w5 hS5 hR5 hall
    obtain ⟨A5, c5, hv5, hr5⟩ := (hR5 13 5 rfl).2.2.1 (.inr rfl)
    have hv6 := (hR5 14 6 rfl).2.2.2 (.inr rfl)
    have hb5 : Below wr.heap.size wr w5 := hS5
    clear hR5 hS5 hall
    simp only [putAll, List.foldl_cons, List.foldl_nil, Act.put, List.setIfInBounds_toArray, List.set_cons_succ, List.set_cons_zero, hv5, hv6]
    go_wp2_with (go_at_call 17; refine (HLFT.out w5 hb5).mono ?_; rintro e _ ⟨rfl, nz, rfl⟩)
    have hb6 : Below wr.heap.size wr (w5.drewN nz) := hb5.trans ((below_drewN (Below.refl _ _) nz).mono hb5.size)
    have hr6 := hr5.drewN nz
    obtain ⟨w6, hw6⟩ : ∃ w6, w5.drewN nz = w6 := ⟨_, rfl⟩
    have hsz6 : w6.heap.size = w5.heap.size := by rw [← hw6]; rfl
    rw [hw6] at hb6 hr6 ⊢
    rw [← hsz6] at hr6
    have HST8 : Hid (JAt N w6.drew b (some ⟨d.b, 0, none⟩) (.slice A1 k c1) vs ⟨at_, M, ep, ls⟩ ∧ Keep d.foot w6 w6.drew ∧ ((fun _ : Nat => false) 12 = false → Lives N w0 w6.drew d s ∧ Reads w6.drew w6.drew.heap.size 1 A5 128 (O.map bv)) ∧ ((fun _ : Nat => false) 12 = true → Lives N w0 w6.drew d s1)) := Lib.hid ⟨(HJ.out.below hb6).below (Below.refl _ _).drew, Keep.of_below (Below.refl _ _).drew, fun _ => ⟨(HL.out.next HL.out.lt hb6).drew', hr6⟩, fun e => Bool.noConfusion e⟩
    have HB6 := Lib.hid hb6
    clear hr5 hr6 hb5 hb6 hw6 hsz6
    refine wp_region_done_on (fun dn W => JAt N W b (some ⟨d.b, 0, none⟩) (.slice A1 k c1) vs ⟨at_, M, ep, ls⟩ ∧ Keep d.foot w6 W ∧ (dn 12 = false → Lives N w0 W d s ∧ Reads W W.heap.size 1 A5 128 (O.map bv)) ∧ (dn 12 = true → Lives N w0 W d s1)) (fun _ i v _ => v = (([.pointer (some ⟨b, 0, none⟩), .pointer (some ⟨b, 0, none⟩), .pointer (some ⟨b, 1, none⟩), .pointer (some ⟨d.b, 0, none⟩), .pointer (some ⟨b, 0, none⟩), .pointer (some ⟨b, 0, none⟩), .pointer (some ⟨b, 2, none⟩), .int .i64 at_, .pointer (some ⟨b, 0, none⟩), .int .i64 (k : Int), .int .i64 a, .slice A5 128 c5, .int .i64 0, .int .i64 0] : List Value).getD i undef)) (by kernel_rfl) 66 rfl (by kernel_rfl) HST8.out ?_ ?_
    · intro i hi
      have hi2 : i < 14 := hi
      clear hi
      rcases i with _ | i
      · refine done_value (fun _ _ h => ⟨h.1, h.2.1, h.2.2.1, h.2.2.2⟩) (fun _ _ _ _ h => h) (.pointer (some ⟨b, 0, none⟩)) rfl ?_
        intro dn a8 w8 hS ho hn
        have o0 : a8.tmps[0]? = some _ := (ho 0 (by kernel_rfl)).trans rfl
        clear ho hn
        refine ⟨wanted_free rfl, ?_, rfl⟩
        go_simp
      rcases i with _ | i
      · refine done_value (fun _ _ h => ⟨h.1, h.2.1, h.2.2.1, h.2.2.2⟩) (fun _ _ _ _ h => h) (.pointer (some ⟨b, 0, none⟩)) rfl ?_
        intro dn a8 w8 hS ho hn
        obtain ⟨_, n31, h31⟩ := hn 0 31 (by kernel_rfl) rfl
        obtain rfl := h31
        clear ho hn
        refine ⟨wanted_free rfl, ?_, rfl⟩
        go_simp
      rcases i with _ | i
      · refine done_value (fun _ _ h => ⟨h.1, h.2.1, h.2.2.1, h.2.2.2⟩) (fun _ _ _ _ h => h) (.pointer (some ⟨b, 1, none⟩)) rfl ?_
        intro dn a8 w8 hS ho hn
        obtain ⟨_, n32, h32⟩ := hn 1 32 (by kernel_rfl) rfl
        obtain rfl := h32
        clear ho hn
        refine ⟨wanted_free rfl, ?_, rfl⟩
        go_simp
      rcases i with _ | i
      · refine done_value (fun _ _ h => ⟨h.1, h.2.1, h.2.2.1, h.2.2.2⟩) (fun _ _ _ _ h => h) (.pointer (some ⟨d.b, 0, none⟩)) rfl ?_
        intro dn a8 w8 hS ho hn
        obtain ⟨_, n33, h33⟩ := hn 2 33 (by kernel_rfl) rfl
        obtain rfl := h33
        clear ho hn
        refine ⟨wanted_free rfl, ?_, rfl⟩
        have x1 := hS.1.blk.cell 1
        go_simp
      rcases i with _ | i
      · refine done_value (fun _ _ h => ⟨h.1, h.2.1, h.2.2.1, h.2.2.2⟩) (fun _ _ _ _ h => h) (.pointer (some ⟨b, 0, none⟩)) rfl ?_
        intro dn a8 w8 hS ho hn
        have o0 : a8.tmps[0]? = some _ := (ho 0 (by kernel_rfl)).trans rfl
        clear ho hn
        refine ⟨wanted_free rfl, ?_, rfl⟩
        go_simp
      rcases i with _ | i
      · refine done_value (fun _ _ h => ⟨h.1, h.2.1, h.2.2.1, h.2.2.2⟩) (fun _ _ _ _ h => h) (.pointer (some ⟨b, 0, none⟩)) rfl ?_
        intro dn a8 w8 hS ho hn
        obtain ⟨_, n35, h35⟩ := hn 4 35 (by kernel_rfl) rfl
        obtain rfl := h35
        clear ho hn
        refine ⟨wanted_free rfl, ?_, rfl⟩
        go_simp
      rcases i with _ | i
      · refine done_value (fun _ _ h => ⟨h.1, h.2.1, h.2.2.1, h.2.2.2⟩) (fun _ _ _ _ h => h) (.pointer (some ⟨b, 2, none⟩)) rfl ?_
        intro dn a8 w8 hS ho hn
        obtain ⟨_, n36, h36⟩ := hn 5 36 (by kernel_rfl) rfl
        obtain rfl := h36
        clear ho hn
        refine ⟨wanted_free rfl, ?_, rfl⟩
        go_simp
      rcases i with _ | i
      · refine done_value (fun _ _ h => ⟨h.1, h.2.1, h.2.2.1, h.2.2.2⟩) (fun _ _ _ _ h => h) (.int .i64 at_) rfl ?_
        intro dn a8 w8 hS ho hn
        obtain ⟨_, n37, h37⟩ := hn 6 37 (by kernel_rfl) rfl
        obtain rfl := h37
        clear ho hn
        refine ⟨wanted_free rfl, ?_, rfl⟩
        have x2 := hS.1.blk.cell 2
        go_simp
      rcases i with _ | i
      · refine done_value (fun _ _ h => ⟨h.1, h.2.1, h.2.2.1, h.2.2.2⟩) (fun _ _ _ _ h => h) (.pointer (some ⟨b, 0, none⟩)) rfl ?_
        intro dn a8 w8 hS ho hn
        have o0 : a8.tmps[0]? = some _ := (ho 0 (by kernel_rfl)).trans rfl
        clear ho hn
        refine ⟨wanted_free rfl, ?_, rfl⟩
        go_simp
      rcases i with _ | i
      · refine done_call 16 #[.pointer (some ⟨b, 0, none⟩)] rfl ?_
        intro dn a8 w8 hS hd hx ho hn
        obtain ⟨_, n39, rfl⟩ := hn 8 39 (by kernel_rfl) rfl
        clear ho hn
        refine ⟨wanted_free rfl, by go_simp, ?_⟩
        refine (jlen_any hS.1).mono ?_
        rintro e w9 ⟨rfl, rfl⟩
        exact ⟨_, rfl, ⟨hS.1, hS.2.1, hS.2.2.1, hS.2.2.2⟩, by show Value.int .i64 (ls.length : Int) = _; rw [HKL.out]; rfl, fun j u _ _ h => h⟩
      rcases i with _ | i
      · refine done_value (fun _ _ h => ⟨h.1, h.2.1, h.2.2.1, h.2.2.2⟩) (fun _ _ _ _ h => h) (.int .i64 a) rfl ?_
        intro dn a8 w8 hS ho hn
        obtain ⟨_, n38, h38⟩ := hn 7 38 (by kernel_rfl) rfl
        obtain rfl := h38
        obtain ⟨_, n40, h40⟩ := hn 9 40 (by kernel_rfl) rfl
        obtain rfl := h40
        clear ho hn
        refine ⟨wanted_free rfl, ?_, rfl⟩
        obtain ⟨hak, hakb⟩ := HAK.out
        go_simp
      rcases i with _ | i
      · refine done_value (fun _ _ h => ⟨h.1, h.2.1, h.2.2.1, h.2.2.2⟩) (fun _ _ _ _ h => h) (.slice A5 128 c5) rfl ?_
        intro dn a8 w8 hS ho hn
        have o5 : a8.tmps[5]? = some _ := (ho 5 (by kernel_rfl)).trans rfl
        clear ho hn
        refine ⟨wanted_free rfl, ?_, rfl⟩
        go_simp
      rcases i with _ | i
      · refine done_call 38 #[.pointer (some ⟨d.b, 0, none⟩), .int .i64 a, .slice A5 128 c5] rfl ?_
        intro dn a8 w8 hS hd hx ho hn
        obtain ⟨_, n34, rfl⟩ := hn 3 34 (by kernel_rfl) rfl
        obtain ⟨_, n41, rfl⟩ := hn 10 41 (by kernel_rfl) rfl
        obtain ⟨_, n42, rfl⟩ := hn 11 42 (by kernel_rfl) rfl
        clear ho hn
        refine ⟨wanted_free rfl, by go_simp, ?_⟩
        obtain ⟨hL8, hR8⟩ := hS.2.2.1 hd
        refine (lwrite a A5 128 c5 O hL8 HOL.out hR8 HFEW.out HWE.out HWS.out).mono ?_
        rintro e w9 ⟨rfl, hL9, hk9⟩
        obtain ⟨kv, hdk⟩ := hL8.dk
        exact ⟨_, rfl, ⟨hS.1.disk hdk hk9, hS.2.1.trans hk9 (fun _ _ e => e), fun e => Bool.noConfusion e, fun _ => hL9⟩, rfl, fun j u _ _ h => h⟩
      rcases i with _ | i
      · refine done_value (fun _ _ h => ⟨h.1, h.2.1, h.2.2.1, h.2.2.2⟩) (fun _ _ _ _ h => h) (.int .i64 0) rfl ?_
        intro dn a8 w8 hS ho hn
        obtain ⟨_, n43, h43⟩ := hn 12 43 (by kernel_rfl) rfl
        obtain rfl := h43
        clear ho hn
        refine ⟨wanted_free rfl, ?_, rfl⟩
        go_simp
      omega
    · intro done2 fv2 w7 hS7 hR7 hall2
      have hv7 : fv2 7 = .int .i64 0 := hR7 13 7 rfl
      have hL7 := hS7.2.2.2 (hall2 12 (by decide))
      have hJ7 := hS7.1
      have hk7 : Keep d.foot wr w7 := (Keep.of_below (S := d.foot) HB6.out).trans hS7.2.1 (fun _ _ e => e)
      have x1 := hJ7.blk.cell 1
      have HFL := Lib.hid (lflush hL7 (er := 0) (by rw [HUP.out]; rfl) HFS.out)
      have HL7 := Lib.hid hL7
      have HJ7 := Lib.hid hJ7
      have HK7 := Lib.hid hk7
      clear hR7 hS7 hall2 HST8 hL7 hJ7 hk7
      simp only [putAll, List.foldl_cons, List.foldl_nil, Act.put, List.setIfInBounds_toArray, List.set_cons_succ, List.set_cons_zero, hv7]
      go_wp2_with (go_at_call 39; refine HFL.out.mono ?_; rintro e w9 ⟨rfl, hL9, hk9⟩)
      have hJ9 : JAt N w9 b (some ⟨d.b, 0, none⟩) (.slice A1 k c1) vs ⟨at_, M, ep, ls⟩ := by
        obtain ⟨kv, hd⟩ := HL7.out.dk
        exact HJ7.out.disk hd hk9
      have hk19 : Keep d.foot wr w9 := HK7.out.trans hk9 (fun _ _ e => e)
      have hrd9 : Reads w9 w9.heap.size 1 A n (l.map bv) := reads_keep HR.out hk19 HSEP.out
      have HCL := Lib.hid (jclone_any A n c l w9.drew HLEN.out (by omega) hrd9)
      have HJ14 := Lib.hid hJ9
      have HL9 := Lib.hid hL9
      have HK19 := Lib.hid hk19
      clear hJ9 hk19 hL9 hk9 x1 hrd9
      refine wp_region_done_on (S14 N w9 b (some ⟨d.b, 0, none⟩) (.slice A1 k c1) vs ⟨at_, M, ep, ls⟩ l) (R14 N b (some ⟨d.b, 0, none⟩) ⟨at_, M, ep, ls⟩ l n [.pointer (some ⟨b, 0, none⟩), .pointer (some ⟨b, 0, none⟩), .pointer (some ⟨b, 0, none⟩), .pointer (some ⟨b, 5, none⟩), .slice A1 k c1, .slice A n c, undef, undef, undef, .pointer (some ⟨b, 0, none⟩), .pointer (some ⟨b, 5, none⟩)]) (by kernel_rfl) 66 rfl (by kernel_rfl) (S14.start HJ14.out) ?_ ?_
      · intro i hi
        have hi2 : i < 12 := hi
        clear hi
        rcases i with _ | i
        · refine done_value (fun _ _ h => ⟨h.1, h.2.1, h.2.2.1, h.2.2.2.1, h.2.2.2.2.1, h.2.2.2.2.2.1, h.2.2.2.2.2.2.1, h.2.2.2.2.2.2.2⟩) (fun _ _ _ _ h => h) (.pointer (some ⟨b, 0, none⟩)) rfl ?_
          intro dn a8 w8 hS ho hn
          have o0 : a8.tmps[0]? = some _ := (ho 0 (by kernel_rfl)).trans rfl
          clear ho hn
          refine ⟨wanted_free rfl, ?_, R14.const (by decide) (by decide) (by decide) rfl⟩
          go_simp
        rcases i with _ | i
        · refine done_value (fun _ _ h => ⟨h.1, h.2.1, h.2.2.1, h.2.2.2.1, h.2.2.2.2.1, h.2.2.2.2.2.1, h.2.2.2.2.2.2.1, h.2.2.2.2.2.2.2⟩) (fun _ _ _ _ h => h) (.pointer (some ⟨b, 0, none⟩)) rfl ?_
          intro dn a8 w8 hS ho hn
          have o0 : a8.tmps[0]? = some _ := (ho 0 (by kernel_rfl)).trans rfl
          clear ho hn
          refine ⟨wanted_free rfl, ?_, R14.const (by decide) (by decide) (by decide) rfl⟩
          go_simp
        rcases i with _ | i
        · refine done_value (fun _ _ h => ⟨h.1, h.2.1, h.2.2.1, h.2.2.2.1, h.2.2.2.2.1, h.2.2.2.2.2.1, h.2.2.2.2.2.2.1, h.2.2.2.2.2.2.2⟩) (fun _ _ _ _ h => h) (.pointer (some ⟨b, 0, none⟩)) rfl ?_
          intro dn a8 w8 hS ho hn
          obtain ⟨_, n56, h56⟩ := hn 1 56 (by kernel_rfl) rfl
          obtain rfl := h56.1 (by decide) (by decide) (by decide)
          clear ho hn
          refine ⟨wanted_free rfl, ?_, R14.const (by decide) (by decide) (by decide) rfl⟩
          go_simp
        rcases i with _ | i
        · refine done_value (fun _ _ h => ⟨h.1, h.2.1, h.2.2.1, h.2.2.2.1, h.2.2.2.2.1, h.2.2.2.2.2.1, h.2.2.2.2.2.2.1, h.2.2.2.2.2.2.2⟩) (fun _ _ _ _ h => h) (.pointer (some ⟨b, 5, none⟩)) rfl ?_
          intro dn a8 w8 hS ho hn
          obtain ⟨_, n57, h57⟩ := hn 2 57 (by kernel_rfl) rfl
          obtain rfl := h57.1 (by decide) (by decide) (by decide)
          clear ho hn
          refine ⟨wanted_free rfl, ?_, R14.const (by decide) (by decide) (by decide) rfl⟩
          go_simp
        rcases i with _ | i
        · refine done_read (fun _ _ h => ⟨h.1, h.2.1, h.2.2.1, h.2.2.2.1, h.2.2.2.2.1, h.2.2.2.2.2.1, h.2.2.2.2.2.2.1, h.2.2.2.2.2.2.2⟩) (fun _ _ _ _ h => h) (.slice A1 k c1) rfl ?_
          intro dn a8 w8 hS hx ho hn
          obtain ⟨_, n58, h58⟩ := hn 3 58 (by kernel_rfl) rfl
          obtain rfl := h58.1 (by decide) (by decide) (by decide)
          clear ho hn
          refine ⟨wanted_free rfl, ?_, R14.const (by decide) (by decide) (by decide) rfl⟩
          have h8 : dn 8 = false := hx 8 (by kernel_rfl)
          have x5 := (hS.2.2.1 h8).blk.cell 5
          go_simp
        rcases i with _ | i
        · refine done_value (fun _ _ h => ⟨h.1, h.2.1, h.2.2.1, h.2.2.2.1, h.2.2.2.2.1, h.2.2.2.2.2.1, h.2.2.2.2.2.2.1, h.2.2.2.2.2.2.2⟩) (fun _ _ _ _ h => h) (.slice A n c) rfl ?_
          intro dn a8 w8 hS ho hn
          have o1 : a8.tmps[1]? = some _ := (ho 1 (by kernel_rfl)).trans rfl
          clear ho hn
          refine ⟨wanted_free rfl, ?_, R14.const (by decide) (by decide) (by decide) rfl⟩
          go_simp
        rcases i with _ | i
        · refine done_call 40 #[.slice A n c] rfl ?_
          intro dn a8 w8 hS hd hx ho hn
          obtain ⟨_, n60, h60⟩ := hn 5 60 (by kernel_rfl) rfl
          obtain rfl := h60.1 (by decide) (by decide) (by decide)
          clear ho hn
          refine ⟨wanted_free rfl, by go_simp, ?_⟩
          exact S14.clone HCL.out hS hd
        rcases i with _ | i
        · refine done_make rfl ?_
          intro dn a8 w8 hS hd hx ho hn
          obtain ⟨_, n61, h61⟩ := hn 6 61 (by kernel_rfl) rfl
          obtain ⟨X, cx, rfl, hv6⟩ := S14.cloned h61 hd
          clear ho hn
          refine ⟨wanted_free rfl, ?_⟩
          exact ⟨_, _, (by go_simp), S14.built hS hd hv6⟩
        rcases i with _ | i
        · refine done_make rfl ?_
          intro dn a8 w8 hS hd hx ho hn
          obtain ⟨_, n59, h59⟩ := hn 4 59 (by kernel_rfl) rfl
          obtain rfl := h59.1 (by decide) (by decide) (by decide)
          obtain ⟨_, n62, h62⟩ := hn 7 62 (by kernel_rfl) rfl
          refine ⟨wanted_free rfl, ?_⟩
          obtain ⟨v9, w9, hrun, hrest⟩ := S14.appended hS hd h62 HLT.out 44
          exact ⟨v9, w9, exec_append _ _ 44 rfl (eval_of n59) (eval_of n62) hrun, hrest⟩
        rcases i with _ | i
        · refine done_value (fun _ _ h => ⟨h.1, h.2.1, h.2.2.1, h.2.2.2.1, h.2.2.2.2.1, h.2.2.2.2.2.1, h.2.2.2.2.2.2.1, h.2.2.2.2.2.2.2⟩) (fun _ _ _ _ h => h) (.pointer (some ⟨b, 0, none⟩)) rfl ?_
          intro dn a8 w8 hS ho hn
          obtain ⟨_, n55, h55⟩ := hn 0 55 (by kernel_rfl) rfl
          obtain rfl := h55.1 (by decide) (by decide) (by decide)
          clear ho hn
          refine ⟨wanted_free rfl, ?_, R14.const (by decide) (by decide) (by decide) rfl⟩
          go_simp
        rcases i with _ | i
        · refine done_value (fun _ _ h => ⟨h.1, h.2.1, h.2.2.1, h.2.2.2.1, h.2.2.2.2.1, h.2.2.2.2.2.1, h.2.2.2.2.2.2.1, h.2.2.2.2.2.2.2⟩) (fun _ _ _ _ h => h) (.pointer (some ⟨b, 5, none⟩)) rfl ?_
          intro dn a8 w8 hS ho hn
          obtain ⟨_, n64, h64⟩ := hn 9 64 (by kernel_rfl) rfl
          obtain rfl := h64.1 (by decide) (by decide) (by decide)
          clear ho hn
          refine ⟨wanted_free rfl, ?_, R14.const (by decide) (by decide) (by decide) rfl⟩
          go_simp
        rcases i with _ | i
        · refine done_store rfl rfl ?_
          intro dn a8 w8 hS hd hx ho hn
          obtain ⟨_, n65, h65⟩ := hn 10 65 (by kernel_rfl) rfl
          obtain rfl := h65.1 (by decide) (by decide) (by decide)
          obtain ⟨_, n63, h63⟩ := hn 8 63 (by kernel_rfl) rfl
          obtain ⟨A9, n9, c9, rfl⟩ := S14.sliced h63 hd
          have y5 := (S14.boxed hS hd h63).1
          have y5f := (S14.boxed hS hd h63).2
          clear ho hn
          refine ⟨wanted_free rfl, ?_⟩
          exact ⟨_, (by go_simp), S14.stored hS hd h63 rfl⟩
        omega
      · intro done3 fv3 w10 hS10 hR10 hall3
        have HF := Lib.hid (And.intro (hS10.2.2.2.2.1 (hall3 11 (by decide))) hS10.1)
        clear hR10 hS10 hall3
        simp only [putAll, List.foldl_cons, List.foldl_nil, Act.put, List.setIfInBounds_toArray, List.set_cons_succ, List.set_cons_zero]
        go_wp2
        go_ret
        exact ⟨rfl, jrow_disk HL9.out HJ14.out HF.out.2, HF.out.1, (HK19.out.more (fun _ _ e => .inl e)).trans HF.out.2 (fun _ _ e => .inr e)⟩
end Go.Proofs.Ytddhldmeknmgpaa.journal

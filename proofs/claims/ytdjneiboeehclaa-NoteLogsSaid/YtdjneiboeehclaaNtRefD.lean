/-
  The document's own Decode for layer 9.
-/
import Derived.Test.YtdjneiboeehclaaNtRef
namespace Go.Proofs.Ytdjneiboeehclaa.note
open Go.RowKit Go.Proofs.Ytdjneiboeehclaa.crc Go.Proofs.Ytdjneiboeehclaa.root

set_option maxHeartbeats 2000000 in
theorem r9dec_short (A : Option Addr) (c n : Nat) (w : World) (h1 : n ≠ 17) :
    Calls Try.prog 12 #[.slice A n c] w fun e w' => e = .returned (.tuple #[nv noN, .int .i64 90]) ∧ Below w.heap.size w w' := by
  have hx := Blk.new w 23 #[.int .i64 0, .int .i64 0, .int .i64 0, .int .i64 0]
  have hb0 : Below w.heap.size w (w.alloc (.cells #[.int .i64 0, .int .i64 0, .int .i64 0, .int .i64 0] 23)) := (Below.refl _ _).alloc (Nat.le_refl _) _
  have hd : ((n : Int) != 17) = true := by rw [bne_iff_ne]; omega
  have HX := Lib.hid hx
  have HB0 := Lib.hid hb0
  clear hx hb0 h1
  go_enter Try.func12, Try.ntmps12
  go_wp2
  refine bodyPost_ret (results_note2 rfl rfl rfl HX.out) rfl ?_
  exact ⟨rfl, HB0.out⟩

set_option maxRecDepth 100000 in
set_option maxHeartbeats 4000000 in
theorem r9dec_long (ad : Addr) (c : Nat) (l : List UInt8) (w : World) (hr : Reads w w.heap.size 1 (some ad) 17 (l.map bv)) (hl : l.length = 17) (hc : 17 ≤ c ∧ c ≤ 9223372036854775807) :
    Calls Try.prog 12 #[.slice (some ad) 17 c] w fun e w' => e = .returned (.tuple #[nv (decN l), .int .i64 (decErrN l)]) ∧ Below w.heap.size w w' := by
  obtain ⟨w0, hw0⟩ : ∃ w0, w.alloc (.cells #[.int .i64 0, .int .i64 0, .int .i64 0, .int .i64 0] 23) = w0 := ⟨_, rfl⟩
  have hx0 : Blk w0 w.heap.size 23 #[.int .i64 0, .int .i64 0, .int .i64 0, .int .i64 0] := by rw [← hw0]; exact Blk.new w _ _
  have hb0 : Below w.heap.size w w0 := by rw [← hw0]; exact (Below.refl _ _).alloc (Nat.le_refl _) _
  have HX := Lib.hid hx0
  have HB := Lib.hid hb0
  obtain ⟨l1, hl1⟩ : ∃ x, l.drop 1 = x := ⟨_, rfl⟩
  obtain ⟨l5, hl5⟩ : ∃ x, l1.drop 4 = x := ⟨_, rfl⟩
  obtain ⟨l9, hl9⟩ : ∃ x, l5.drop 4 = x := ⟨_, rfl⟩
  obtain ⟨nk, hk⟩ : ∃ x, num (l.take 1) = x := ⟨_, rfl⟩
  obtain ⟨na, ha⟩ : ∃ x, num (l1.take 4) = x := ⟨_, rfl⟩
  obtain ⟨nb, hb⟩ : ∃ x, num (l5.take 4) = x := ⟨_, rfl⟩
  obtain ⟨nn, hn⟩ : ∃ x, num (l9.take 8) = x := ⟨_, rfl⟩
  obtain ⟨sn, hsn⟩ : ∃ x, sgn nn = x := ⟨_, rfl⟩
  have hcand : candN l = ⟨(nk : Int), (na : Int), (nb : Int), sn⟩ := by
    unfold candN
    rw [hk, hl1, hl5, hl9, ha, hb, hn, hsn]
  have sub : ∀ (a m : Nat), 0 < m → 0 < a → a + m ≤ 17 → ∀ W, Below w.heap.size w W → Reads W W.heap.size 1 (some (ad.add a)) m (((l.drop a).take m).map bv) := fun a m h0 ha h W hb => by
    have h1 := ((hr.below hb).more hb.size).cut (k := a) (cap := c) (by omega) hc.1
    rw [if_neg (by omega), Nat.mul_one, ← List.map_drop] at h1
    exact h1.front (k := m) (by omega)
  have d1 : l.drop 1 = l1 := hl1
  have d5 : l.drop 5 = l5 := by rw [← hl5, ← d1, List.drop_drop]
  have d9 : l.drop 9 = l9 := by rw [← hl9, ← d5, List.drop_drop]
  have HCN : Hid (17 ≤ c ∧ c ≤ 9223372036854775807) := Lib.hid hc
  have CB : Hid (∀ W, Below w.heap.size w W → W.cell? ad = some (.int .u8 (nk : Int))) := Lib.hid (fun W hW => by
    obtain ⟨ad', u, e, _, hu, hcc⟩ := ((hr.below hW).more hW.size).at_ (k := 0) (by omega)
    injection e with e
    subst e
    have e0 : ad.add 0 = ad := by unfold Addr.add; rw [if_pos rfl]
    rw [e0] at hcc
    rw [hcc, ← hu, List.getElem?_map, List.getElem?_eq_getElem (by omega)]
    show some (bv l[0]) = _
    have e1 : l.take 1 = [l[0]] := by
      rw [List.take_succ_eq_append_getElem (by omega)]
      rfl
    rw [← hk, e1]
    simp [bv, num])
  have HWA : Hid (∀ W, Below w.heap.size w W → Calls Try.prog 35 #[.slice (some ⟨ad.block, ad.off + 1, none⟩) 4 (c - 1)] W fun e w' => e = .returned (.int .u64 (na : Int)) ∧ W = w') := Lib.hid (fun W hW => by
    exact whole_at W _ _ 4 na (l1.take 4) (by have := sub 1 4 (by omega) (by omega) (by omega) W hW; rw [d1] at this; exact this) (by rw [List.length_take, ← d1, List.length_drop]; omega) (by omega) ha)
  have HWB : Hid (∀ W, Below w.heap.size w W → Calls Try.prog 35 #[.slice (some ⟨ad.block, ad.off + 5, none⟩) 4 (c - 5)] W fun e w' => e = .returned (.int .u64 (nb : Int)) ∧ W = w') := Lib.hid (fun W hW => by
    exact whole_at W _ _ 4 nb (l5.take 4) (by have := sub 5 4 (by omega) (by omega) (by omega) W hW; rw [d5] at this; exact this) (by rw [List.length_take, ← d5, List.length_drop]; omega) (by omega) hb)
  have HWN : Hid (∀ W, Below w.heap.size w W → Calls Try.prog 35 #[.slice (some ⟨ad.block, ad.off + 9, none⟩) 8 (c - 9)] W fun e w' => e = .returned (.int .u64 (nn : Int)) ∧ W = w') := Lib.hid (fun W hW => by
    exact whole_at W _ _ 8 nn (l9.take 8) (by have := sub 9 8 (by omega) (by omega) (by omega) W hW; rw [d9] at this; exact this) (by rw [List.length_take, ← d9, List.length_drop]; omega) (by omega) hn)
  have hkb : nk < 256 := by rw [← hk]; exact num_take_lt _ 1
  have hab : na < 4294967296 := by rw [← ha]; exact num_take_lt _ 4
  have hbb : nb < 4294967296 := by rw [← hb]; exact num_take_lt _ 4
  have HK9 : Hid (IntKind.i64.wrap (nk : Int) = (nk : Int)) := Lib.hid (by rw [IntKind.wrap_i64]; omega)
  have HA9 : Hid (IntKind.i64.wrap (na : Int) = (na : Int)) := Lib.hid (by rw [IntKind.wrap_i64]; omega)
  have HB9 : Hid (IntKind.i64.wrap (nb : Int) = (nb : Int)) := Lib.hid (by rw [IntKind.wrap_i64]; omega)
  have HN9 : Hid (IntKind.i64.wrap (nn : Int) = sn) := Lib.hid (by rw [IntKind.wrap_i64, ← hsn]; unfold sgn wrap64; rfl)
  have hgood : goodN l = okN (candN l) := by unfold goodN; rw [decide_eq_true hl, Bool.true_and]
  have hcf := candN_fine l
  have hback : okN (candN l) = true → encN (candN l) = l := enc_cand hl
  unfold decN decErrN
  rw [hgood]
  rw [hcand] at hcf hback ⊢
  obtain ⟨okc, hok⟩ : ∃ b, okN ⟨(nk : Int), (na : Int), (nb : Int), sn⟩ = b := ⟨_, rfl⟩
  have ENC := Lib.hid (fun W => r9encode_any ⟨(nk : Int), (na : Int), (nb : Int), sn⟩ W hcf)
  unfold errN outN at ENC
  rw [hok] at ENC hback ⊢
  have HBK := Lib.hid hback
  have HRL := Lib.hid (fun W (hb : Below w.heap.size w W) => conv_reads c ((hr.below hb)))
  have HLL := Lib.hid hl
  clear hok hback hgood hr hcand hk ha hb hn hsn hl1 hl5 hl9 sub d1 d5 d9 hx0 hb0 hl hc hcf
  go_enter Try.func12, Try.ntmps12
  go_wp2_with fail
  obtain ⟨W12, hW12⟩ : ∃ W, w0.drew.alloc (.cells #[.int .i64 0, .int .i64 0, .int .i64 0, .int .i64 0] 23) = W := ⟨_, rfl⟩
  obtain ⟨W13, hW13⟩ : ∃ W, (((W12.setCell ⟨w0.heap.size, 0, none⟩ (.int .i64 (nk : Int))).setCell ⟨w0.heap.size, 1, none⟩ (.int .i64 (na : Int))).setCell ⟨w0.heap.size, 2, none⟩ (.int .i64 (nb : Int))).setCell ⟨w0.heap.size, 3, none⟩ (.int .i64 sn) = W := ⟨_, rfl⟩
  have hx12 : Blk W12 w0.heap.size 23 #[.int .i64 0, .int .i64 0, .int .i64 0, .int .i64 0] := by rw [← hW12]; exact Blk.new w0.drew _ _
  have hB12 : Below w0.heap.size w0 W12 := by rw [← hW12]; exact (Below.refl _ w0).drew.alloc (Nat.le_refl _) _
  have hx13 : Blk W13 w0.heap.size 23 #[.int .i64 (nk : Int), .int .i64 (na : Int), .int .i64 (nb : Int), .int .i64 sn] := by rw [← hW13]; exact blk_note _ _ _ _ hx12
  have hB13 : Below w0.heap.size w0 W13 := by rw [← hW13]; exact hB12.trans ((keep_note W12 w0.heap.size _ _ _ _).below hB12.size (fun i hi e => by omega))
  have PK : Hid (∀ dn, Below w.heap.size w (pick3 w0.drew W12 W13 17 18 dn)) := Lib.hid (pick3_all HB.out.drew (HB.out.trans (hB12.mono HB.out.size)) (HB.out.trans (hB13.mono HB.out.size)))
  obtain ⟨q, hq⟩ : ∃ q, w0.heap.size = q := ⟨_, rfl⟩
  rw [hq] at hW13 hx12 hx13
  have HG : Hid (W12.cell? ⟨q, 0, none⟩ = some (.int .i64 0) ∧ W12.cell? ⟨q, 1, none⟩ = some (.int .i64 0) ∧ W12.cell? ⟨q, 2, none⟩ = some (.int .i64 0) ∧ W12.cell? ⟨q, 3, none⟩ = some (.int .i64 0) ∧ W12.frozen? ⟨q, 0, none⟩ = false ∧ W12.frozen? ⟨q, 1, none⟩ = false ∧ W12.frozen? ⟨q, 2, none⟩ = false ∧ W12.frozen? ⟨q, 3, none⟩ = false) := Lib.hid ⟨hx12.cell 0, hx12.cell 1, hx12.cell 2, hx12.cell 3, hx12.frozen 0, hx12.frozen 1, hx12.frozen 2, hx12.frozen 3⟩
  have HQ := Lib.hid hq
  have HW12 := Lib.hid hW12
  have HW13 := Lib.hid hW13
  have HX13 : Hid (Blk W13 q 23 #[.int .i64 (nk : Int), .int .i64 (na : Int), .int .i64 (nb : Int), .int .i64 sn]) := Lib.hid hx13
  have HXW : Hid (Blk W13 w.heap.size 23 #[.int .i64 0, .int .i64 0, .int .i64 0, .int .i64 0]) := Lib.hid (HX.out.below hB13 HX.out.lt)
  have HB13 := Lib.hid (HB.out.trans (hB13.mono HB.out.size))
  clear hW12 hW13 hx12 hB12 hx13 hB13 hq hw0
  refine wp_region_done_on (fun dn W => W = pick3 w0.drew W12 W13 17 18 dn) (fun dn i v _ => v = ([.slice (some ad) 17 c, .pointer (some ad), .int .u8 (nk : Int), .int .i64 (nk : Int), .slice (some ad) 17 c, .slice (some ⟨ad.block, ad.off + 1, none⟩) 4 (c - 1), .int .u64 (na : Int), .int .i64 (na : Int), .slice (some ad) 17 c, .slice (some ⟨ad.block, ad.off + 5, none⟩) 4 (c - 5), .int .u64 (nb : Int), .int .i64 (nb : Int), .slice (some ad) 17 c, .slice (some ⟨ad.block, ad.off + 9, none⟩) 8 (c - 9), .int .u64 (nn : Int), .int .i64 sn, .agg #[.int .i64 (nk : Int), .int .i64 (na : Int), .int .i64 (nb : Int), .int .i64 sn], .pointer (some ⟨q, 0, none⟩)] : List Value).getD i undef ∧ (i = 17 → dn 17 = true)) (by kernel_rfl) 44 rfl (by kernel_rfl) (rfl) ?_ ?_
  · intro i hi
    have hi2 : i < 19 := hi
    clear hi
    rcases i with _ | i
    · refine done_value (fun _ _ h => h) (fun dn j u w h => ⟨h.1, fun e => by have := h.2 e; simp [upd, this]⟩) (.slice (some ad) 17 c) rfl ?_
      intro dn a8 w8 hS ho hn
      have o0 : a8.tmps[0]? = some _ := (ho 0 (by kernel_rfl)).trans rfl
      clear ho hn
      refine ⟨wanted_free rfl, ?_, rfl, fun e => absurd e (by decide)⟩
      go_simp
    rcases i with _ | i
    · refine done_value (fun _ _ h => h) (fun dn j u w h => ⟨h.1, fun e => by have := h.2 e; simp [upd, this]⟩) (.pointer (some ad)) rfl ?_
      intro dn a8 w8 hS ho hn
      obtain ⟨_, n11, rfl, fa11⟩ := hn 0 11 (by kernel_rfl) rfl
      clear ho hn
      refine ⟨wanted_free rfl, ?_, rfl, fun e => absurd e (by decide)⟩
      go_simp
    rcases i with _ | i
    · refine done_value (fun _ _ h => h) (fun dn j u w h => ⟨h.1, fun e => by have := h.2 e; simp [upd, this]⟩) (.int .u8 (nk : Int)) rfl ?_
      intro dn a8 w8 hS ho hn
      obtain ⟨_, n12, rfl, fa12⟩ := hn 1 12 (by kernel_rfl) rfl
      clear ho hn
      refine ⟨wanted_free rfl, ?_, rfl, fun e => absurd e (by decide)⟩
      have hS2 : w8 = pick3 w0.drew W12 W13 17 18 dn := hS
      subst hS2
      have cb := CB.out _ (PK.out dn)
      go_simp
    rcases i with _ | i
    · refine done_value (fun _ _ h => h) (fun dn j u w h => ⟨h.1, fun e => by have := h.2 e; simp [upd, this]⟩) (.int .i64 (nk : Int)) rfl ?_
      intro dn a8 w8 hS ho hn
      obtain ⟨_, n13, rfl, fa13⟩ := hn 2 13 (by kernel_rfl) rfl
      clear ho hn
      refine ⟨wanted_free rfl, ?_, rfl, fun e => absurd e (by decide)⟩
      go_simp
      exact HK9.out
    rcases i with _ | i
    · refine done_value (fun _ _ h => h) (fun dn j u w h => ⟨h.1, fun e => by have := h.2 e; simp [upd, this]⟩) (.slice (some ad) 17 c) rfl ?_
      intro dn a8 w8 hS ho hn
      have o0 : a8.tmps[0]? = some _ := (ho 0 (by kernel_rfl)).trans rfl
      clear ho hn
      refine ⟨wanted_free rfl, ?_, rfl, fun e => absurd e (by decide)⟩
      go_simp
    rcases i with _ | i
    · refine done_value (fun _ _ h => h) (fun dn j u w h => ⟨h.1, fun e => by have := h.2 e; simp [upd, this]⟩) (.slice (some ⟨ad.block, ad.off + 1, none⟩) 4 (c - 1)) rfl ?_
      intro dn a8 w8 hS ho hn
      obtain ⟨_, n15, rfl, fa15⟩ := hn 4 15 (by kernel_rfl) rfl
      clear ho hn
      refine ⟨wanted_free rfl, ?_, rfl, fun e => absurd e (by decide)⟩
      have hcn := HCN.out
      have h5 : (5 : Int) ≤ (c : Int) := (by omega)
      have h9 : (9 : Int) ≤ (c : Int) := (by omega)
      have h17 : (17 : Int) ≤ (c : Int) := (by omega)
      have h1n : ¬ c = 1 := (by omega)
      have h5n : ¬ c = 5 := (by omega)
      have h9n : ¬ c = 9 := (by omega)
      go_simp
    rcases i with _ | i
    · refine done_call 35 #[.slice (some ⟨ad.block, ad.off + 1, none⟩) 4 (c - 1)] rfl ?_
      intro dn a8 w8 hS hd hx ho hn
      obtain ⟨_, n16, rfl, fa16⟩ := hn 5 16 (by kernel_rfl) rfl
      clear ho hn
      refine ⟨wanted_free rfl, by go_simp, ?_⟩
      have hS2 : w8 = pick3 w0.drew W12 W13 17 18 dn := hS
      subst hS2
      refine (HWA.out _ (PK.out dn)).mono ?_
      rintro e w9 ⟨rfl, rfl⟩
      exact ⟨_, rfl, rfl, ⟨rfl, fun e => absurd e (by decide)⟩, fun j u _ _ h => ⟨h.1, fun e => by have := h.2 e; simp [upd, this]⟩⟩
    rcases i with _ | i
    · refine done_value (fun _ _ h => h) (fun dn j u w h => ⟨h.1, fun e => by have := h.2 e; simp [upd, this]⟩) (.int .i64 (na : Int)) rfl ?_
      intro dn a8 w8 hS ho hn
      obtain ⟨_, n17, rfl, fa17⟩ := hn 6 17 (by kernel_rfl) rfl
      clear ho hn
      refine ⟨wanted_free rfl, ?_, rfl, fun e => absurd e (by decide)⟩
      go_simp
      exact HA9.out
    rcases i with _ | i
    · refine done_value (fun _ _ h => h) (fun dn j u w h => ⟨h.1, fun e => by have := h.2 e; simp [upd, this]⟩) (.slice (some ad) 17 c) rfl ?_
      intro dn a8 w8 hS ho hn
      have o0 : a8.tmps[0]? = some _ := (ho 0 (by kernel_rfl)).trans rfl
      clear ho hn
      refine ⟨wanted_free rfl, ?_, rfl, fun e => absurd e (by decide)⟩
      go_simp
    rcases i with _ | i
    · refine done_value (fun _ _ h => h) (fun dn j u w h => ⟨h.1, fun e => by have := h.2 e; simp [upd, this]⟩) (.slice (some ⟨ad.block, ad.off + 5, none⟩) 4 (c - 5)) rfl ?_
      intro dn a8 w8 hS ho hn
      obtain ⟨_, n19, rfl, fa19⟩ := hn 8 19 (by kernel_rfl) rfl
      clear ho hn
      refine ⟨wanted_free rfl, ?_, rfl, fun e => absurd e (by decide)⟩
      have hcn := HCN.out
      have h5 : (5 : Int) ≤ (c : Int) := (by omega)
      have h9 : (9 : Int) ≤ (c : Int) := (by omega)
      have h17 : (17 : Int) ≤ (c : Int) := (by omega)
      have h1n : ¬ c = 1 := (by omega)
      have h5n : ¬ c = 5 := (by omega)
      have h9n : ¬ c = 9 := (by omega)
      go_simp
    rcases i with _ | i
    · refine done_call 35 #[.slice (some ⟨ad.block, ad.off + 5, none⟩) 4 (c - 5)] rfl ?_
      intro dn a8 w8 hS hd hx ho hn
      obtain ⟨_, n20, rfl, fa20⟩ := hn 9 20 (by kernel_rfl) rfl
      clear ho hn
      refine ⟨wanted_free rfl, by go_simp, ?_⟩
      have hS2 : w8 = pick3 w0.drew W12 W13 17 18 dn := hS
      subst hS2
      refine (HWB.out _ (PK.out dn)).mono ?_
      rintro e w9 ⟨rfl, rfl⟩
      exact ⟨_, rfl, rfl, ⟨rfl, fun e => absurd e (by decide)⟩, fun j u _ _ h => ⟨h.1, fun e => by have := h.2 e; simp [upd, this]⟩⟩
    rcases i with _ | i
    · refine done_value (fun _ _ h => h) (fun dn j u w h => ⟨h.1, fun e => by have := h.2 e; simp [upd, this]⟩) (.int .i64 (nb : Int)) rfl ?_
      intro dn a8 w8 hS ho hn
      obtain ⟨_, n21, rfl, fa21⟩ := hn 10 21 (by kernel_rfl) rfl
      clear ho hn
      refine ⟨wanted_free rfl, ?_, rfl, fun e => absurd e (by decide)⟩
      go_simp
      exact HB9.out
    rcases i with _ | i
    · refine done_value (fun _ _ h => h) (fun dn j u w h => ⟨h.1, fun e => by have := h.2 e; simp [upd, this]⟩) (.slice (some ad) 17 c) rfl ?_
      intro dn a8 w8 hS ho hn
      have o0 : a8.tmps[0]? = some _ := (ho 0 (by kernel_rfl)).trans rfl
      clear ho hn
      refine ⟨wanted_free rfl, ?_, rfl, fun e => absurd e (by decide)⟩
      go_simp
    rcases i with _ | i
    · refine done_value (fun _ _ h => h) (fun dn j u w h => ⟨h.1, fun e => by have := h.2 e; simp [upd, this]⟩) (.slice (some ⟨ad.block, ad.off + 9, none⟩) 8 (c - 9)) rfl ?_
      intro dn a8 w8 hS ho hn
      obtain ⟨_, n23, rfl, fa23⟩ := hn 12 23 (by kernel_rfl) rfl
      clear ho hn
      refine ⟨wanted_free rfl, ?_, rfl, fun e => absurd e (by decide)⟩
      have hcn := HCN.out
      have h5 : (5 : Int) ≤ (c : Int) := (by omega)
      have h9 : (9 : Int) ≤ (c : Int) := (by omega)
      have h17 : (17 : Int) ≤ (c : Int) := (by omega)
      have h1n : ¬ c = 1 := (by omega)
      have h5n : ¬ c = 5 := (by omega)
      have h9n : ¬ c = 9 := (by omega)
      go_simp
    rcases i with _ | i
    · refine done_call 35 #[.slice (some ⟨ad.block, ad.off + 9, none⟩) 8 (c - 9)] rfl ?_
      intro dn a8 w8 hS hd hx ho hn
      obtain ⟨_, n24, rfl, fa24⟩ := hn 13 24 (by kernel_rfl) rfl
      clear ho hn
      refine ⟨wanted_free rfl, by go_simp, ?_⟩
      have hS2 : w8 = pick3 w0.drew W12 W13 17 18 dn := hS
      subst hS2
      refine (HWN.out _ (PK.out dn)).mono ?_
      rintro e w9 ⟨rfl, rfl⟩
      exact ⟨_, rfl, rfl, ⟨rfl, fun e => absurd e (by decide)⟩, fun j u _ _ h => ⟨h.1, fun e => by have := h.2 e; simp [upd, this]⟩⟩
    rcases i with _ | i
    · refine done_value (fun _ _ h => h) (fun dn j u w h => ⟨h.1, fun e => by have := h.2 e; simp [upd, this]⟩) (.int .i64 sn) rfl ?_
      intro dn a8 w8 hS ho hn
      obtain ⟨_, n25, rfl, fa25⟩ := hn 14 25 (by kernel_rfl) rfl
      clear ho hn
      refine ⟨wanted_free rfl, ?_, rfl, fun e => absurd e (by decide)⟩
      go_simp
      exact HN9.out
    rcases i with _ | i
    · refine done_value (fun _ _ h => h) (fun dn j u w h => ⟨h.1, fun e => by have := h.2 e; simp [upd, this]⟩) (.agg #[.int .i64 (nk : Int), .int .i64 (na : Int), .int .i64 (nb : Int), .int .i64 sn]) rfl ?_
      intro dn a8 w8 hS ho hn
      obtain ⟨_, n14, rfl, fa14⟩ := hn 3 14 (by kernel_rfl) rfl
      obtain ⟨_, n18, rfl, fa18⟩ := hn 7 18 (by kernel_rfl) rfl
      obtain ⟨_, n22, rfl, fa22⟩ := hn 11 22 (by kernel_rfl) rfl
      obtain ⟨_, n26, rfl, fa26⟩ := hn 15 26 (by kernel_rfl) rfl
      clear ho hn
      refine ⟨wanted_free rfl, ?_, rfl, fun e => absurd e (by decide)⟩
      go_simp
    rcases i with _ | i
    · refine done_make rfl ?_
      intro dn a8 w8 hS hd hx ho hn
      clear ho hn
      refine ⟨wanted_free rfl, ?_⟩
      have h12 : dn 17 = false := hd
      have h13 : dn 18 = false := hx 18 (by kernel_rfl)
      have hS2 : w8 = w0.drew := by { have h : w8 = pick3 w0.drew W12 W13 17 18 dn := hS; unfold pick3 at h; rw [h13, h12] at h; exact h }
      subst hS2
      refine ⟨.pointer (some ⟨w0.heap.size, 0, none⟩), W12, (by rw [← HW12.out]; clear hS; go_simp), (by show W12 = pick3 w0.drew W12 W13 17 18 (upd dn 17); unfold pick3; rw [show upd dn 17 18 = false from h13, show upd dn 17 17 = true from rfl]; rfl), ⟨by rw [HQ.out]; rfl, fun _ => rfl⟩, fun j u _ _ h => ⟨h.1, fun e => by have := h.2 e; simp [upd, this]⟩⟩
    rcases i with _ | i
    · refine done_store rfl rfl ?_
      intro dn a8 w8 hS hd hx ho hn
      obtain ⟨_, n4, hR4⟩ := hn 17 4 (by kernel_rfl) rfl
      obtain ⟨_, n27, rfl, fa27⟩ := hn 16 27 (by kernel_rfl) rfl
      clear ho hn
      refine ⟨wanted_free rfl, ?_⟩
      obtain ⟨rfl, fa4⟩ := hR4
      have h13 : dn 18 = false := hd
      have h12 : dn 17 = true := fa4 rfl
      have hS2 : w8 = W12 := by { have h : w8 = pick3 w0.drew W12 W13 17 18 dn := hS; unfold pick3 at h; rw [h13, h12] at h; exact h }
      clear hS
      obtain ⟨g0, g1, g2, g3, f0, f1, f2, f3⟩ := HG.out
      rw [← hS2] at g0 g1 g2 g3 f0 f1 f2 f3
      refine ⟨W13, (by rw [← HW13.out, ← hS2]; clear hS2; go_simp), (by show W13 = pick3 w0.drew W12 W13 17 18 (upd dn 18); unfold pick3; rw [show upd dn 18 18 = true from rfl]; rfl), ⟨rfl, fun e => absurd e (by decide)⟩, fun j u _ _ h => ⟨h.1, fun e => by have := h.2 e; simp [upd, this]⟩⟩
    omega
  · intro done f w9 hS hR hall
    obtain rfl : w9 = W13 := by
      have h : w9 = pick3 w0.drew W12 W13 17 18 done := hS
      unfold pick3 at h
      rw [hall 18 (by decide)] at h
      exact h
    have h4 : f 4 = _ := (hR 17 4 rfl).1
    simp only [putAll, List.foldl_cons, List.foldl_nil, Act.put, List.setIfInBounds_toArray, List.set_cons_succ, List.set_cons_zero, h4, List.getD_cons_zero, List.getD_cons_succ]
    clear hR h4 hS hall
    have y := HX13.out
    have y0 := y.cell 0; have y1 := y.cell 1; have y2 := y.cell 2; have y3 := y.cell 3
    clear y
    have HFR : ∀ w2 : World, Below w9.heap.size w9 w2 → Blk w2 w.heap.size 23 #[.int .i64 0, .int .i64 0, .int .i64 0, .int .i64 0] ∧ Blk w2 q 23 #[.int .i64 (nk : Int), .int .i64 (na : Int), .int .i64 (nb : Int), .int .i64 sn] ∧ Below w.heap.size w w2 := fun w2 b => ⟨HXW.out.below b HXW.out.lt, HX13.out.below b HX13.out.lt, HB13.out.trans (b.mono HB13.out.size)⟩
    have HFR := Lib.hid HFR
    cases okc
    · simp only [Bool.false_eq_true, if_false] at ENC ⊢
      unfold nv at *
      go_wp2_with (go_at_call 10; refine (ENC.out _).mono ?_; rintro e w2 ⟨v, rfl, g⟩; obtain ⟨A2, c2, rfl, o2, b2⟩ := gives_len g rfl
                   obtain ⟨hx2, hy2, hb2⟩ := HFR.out w2 b2
                   have x0 := hx2.cell 0; have x1 := hx2.cell 1; have x2 := hx2.cell 2; have x3 := hx2.cell 3; have f0 := hx2.frozen 0; have f1 := hx2.frozen 1; have f2 := hx2.frozen 2; have f3 := hx2.frozen 3
                   have HX2 := Lib.hid hx2; have HB2 := Lib.hid hb2
                   clear g o2 b2 hb2 hx2 hy2)
      refine bodyPost_ret (results_note2 rfl rfl rfl (blk_note _ _ _ _ HX2.out)) rfl ?_
      have hk := keep_note w2 w.heap.size (.int .i64 0) (.int .i64 0) (.int .i64 0) (.int .i64 0)
      exact ⟨rfl, HB2.out.trans (hk.below HB2.out.size (fun i hi e => by omega))⟩
    · have hbk := HBK.out rfl
      rw [hbk] at ENC
      simp only [if_true] at ENC ⊢
      have ll : (l == l) = true := by simp
      clear hbk
      unfold nv at *
      go_wp2_with (go_at_call 10; refine (ENC.out _).mono ?_; rintro e w2 ⟨v, rfl, g⟩; obtain ⟨A2, c2, rfl, o2, b2⟩ := gives_len g HLL.out
                   obtain ⟨hx2, hy2, hb2⟩ := HFR.out w2 b2
                   have cva := conv_reads c2 (Reads.of_own o2); have cvb := HRL.out w2 hb2
                   have x0 := hx2.cell 0; have x1 := hx2.cell 1; have x2 := hx2.cell 2; have x3 := hx2.cell 3; have f0 := hx2.frozen 0; have f1 := hx2.frozen 1; have f2 := hx2.frozen 2; have f3 := hx2.frozen 3
                   have z0 := hy2.cell 0; have z1 := hy2.cell 1; have z2 := hy2.cell 2; have z3 := hy2.cell 3
                   have HX2 := Lib.hid hx2; have HB2 := Lib.hid hb2
                   clear g o2 b2 hb2 hx2 hy2)
      refine bodyPost_ret (results_note2 rfl rfl rfl (blk_note _ _ _ _ HX2.out)) rfl ?_
      have hk := keep_note w2 w.heap.size (.int .i64 (nk : Int)) (.int .i64 (na : Int)) (.int .i64 (nb : Int)) (.int .i64 sn)
      exact ⟨rfl, HB2.out.trans (hk.below HB2.out.size (fun i hi e => by omega))⟩

theorem r9decode_any (A : Option Addr) (c n : Nat) (l : List UInt8) (w : World) (hl : l.length = n) (hr : Reads w w.heap.size 1 A n (l.map bv)) (hc : n ≤ c ∧ c ≤ 9223372036854775807) :
    Calls Try.prog 12 #[.slice A n c] w fun e w' => e = .returned (.tuple #[nv (decN l), .int .i64 (decErrN l)]) ∧ Below w.heap.size w w' := by
  subst hl
  by_cases h1 : l.length = 17
  · obtain ⟨ad, rfl, _⟩ := hr.2 (by omega)
    rw [h1] at hr hc ⊢
    exact r9dec_long ad c l w hr h1 hc
  · have hg : goodN l = false := by unfold goodN; rw [decide_eq_false h1, Bool.false_and]
    have hd : decN l = noN := by unfold decN; rw [hg]; rfl
    have he : decErrN l = 90 := by unfold decErrN; rw [hg]; rfl
    rw [hd, he]
    exact r9dec_short A c l.length w h1
end Go.Proofs.Ytdjneiboeehclaa.note

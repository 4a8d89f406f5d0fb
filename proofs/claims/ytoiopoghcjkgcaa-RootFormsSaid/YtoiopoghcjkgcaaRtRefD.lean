/-
  The document's own Decode for layer 6.
-/
import Derived.Test.YtoiopoghcjkgcaaRtRef
import Derived.Test.YtoiopoghcjkgcaaDone
namespace Go.Proofs.Ytoiopoghcjkgcaa.root
open Go.RowKit Go.Proofs.Ytoiopoghcjkgcaa.crc

/-- The worlds of a drawn region that turns memory twice, one behind the other. -/
def pick3 (W0 W1 W2 : World) (a b : Nat) (dn : Nat → Bool) : World := if dn b = true then W2 else if dn a = true then W1 else W0
theorem pick3_all {W0 W1 W2 : World} {a b : Nat} {P : World → Prop} (h0 : P W0) (h1 : P W1) (h2 : P W2) (dn : Nat → Bool) : P (pick3 W0 W1 W2 a b dn) := by
  unfold pick3
  split
  · exact h2
  · split
    · exact h1
    · exact h0
theorem whole_at (w : World) (A : Option Addr) (c m x : Nat) (l : List UInt8) (hr : Reads w w.heap.size 1 A m (l.map bv)) (hm : l.length = m) (h8 : m ≤ 8) (hx : num l = x) :
    Calls Try.prog 23 #[.slice A m c] w fun e w' => e = .returned (.int .u64 (x : Int)) ∧ w = w' := by
  subst hm hx
  exact whole_any w A c l hr h8

set_option maxHeartbeats 2000000 in
theorem r6dec_short (A : Option Addr) (c n : Nat) (w : World) (h1 : n ≠ 128) :
    Calls Try.prog 9 #[.slice A n c] w fun e w' => e = .returned (.tuple #[rtv noR, .int .i64 60]) ∧ Below w.heap.size w w' := by
  have hx := Blk.new w 25 #[.int .u64 0, .int .i64 0, .int .u32 0]
  have hb0 : Below w.heap.size w (w.alloc (.cells #[.int .u64 0, .int .i64 0, .int .u32 0] 25)) := (Below.refl _ _).alloc (Nat.le_refl _) _
  have hd : ((n : Int) != 128) = true := by rw [bne_iff_ne]; omega
  have HX := Lib.hid hx
  have HB0 := Lib.hid hb0
  clear hx hb0 h1
  go_enter Try.func9, Try.ntmps9
  go_wp2
  refine bodyPost_ret (results_root2 rfl rfl rfl HX.out) rfl ?_
  exact ⟨rfl, HB0.out⟩

set_option maxRecDepth 100000 in
set_option maxHeartbeats 4000000 in
theorem r6dec_long (ad : Addr) (c : Nat) (l : List UInt8) (w : World) (hr : Reads w w.heap.size 1 (some ad) 128 (l.map bv)) (hl : l.length = 128) (hc : 128 ≤ c ∧ c ≤ 9223372036854775807) :
    Calls Try.prog 9 #[.slice (some ad) 128 c] w fun e w' => e = .returned (.tuple #[rtv (decR l), .int .i64 (decErrR l)]) ∧ Below w.heap.size w w' := by
  obtain ⟨w0, hw0⟩ : ∃ w0, w.alloc (.cells #[.int .u64 0, .int .i64 0, .int .u32 0] 25) = w0 := ⟨_, rfl⟩
  have hx0 : Blk w0 w.heap.size 25 #[.int .u64 0, .int .i64 0, .int .u32 0] := by rw [← hw0]; exact Blk.new w _ _
  have hb0 : Below w.heap.size w w0 := by rw [← hw0]; exact (Below.refl _ _).alloc (Nat.le_refl _) _
  have HX := Lib.hid hx0
  have HB := Lib.hid hb0
  obtain ⟨l4, hl4⟩ : ∃ x, l.drop 4 = x := ⟨_, rfl⟩
  obtain ⟨l12, hl12⟩ : ∃ x, l4.drop 8 = x := ⟨_, rfl⟩
  obtain ⟨l16, hl16⟩ : ∃ x, l12.drop 4 = x := ⟨_, rfl⟩
  obtain ⟨nf, hf⟩ : ∃ x, num (l4.take 8) = x := ⟨_, rfl⟩
  obtain ⟨nm, hm⟩ : ∃ x, num (l12.take 4) = x := ⟨_, rfl⟩
  obtain ⟨ns, hs⟩ : ∃ x, num (l16.take 4) = x := ⟨_, rfl⟩
  have hcand : candR l = ⟨nf, (nm : Int), ns⟩ := by
    unfold candR
    rw [hl4, hl12, hl16, hf, hm, hs]
  have sub : ∀ (a m : Nat), 0 < m → 0 < a → a + m ≤ 128 → ∀ W, Below w.heap.size w W → Reads W W.heap.size 1 (some (ad.add a)) m (((l.drop a).take m).map bv) := fun a m h0 ha h W hb => by
    have h1 := ((hr.below hb).more hb.size).cut (k := a) (cap := c) (by omega) hc.1
    rw [if_neg (by omega), Nat.mul_one, ← List.map_drop] at h1
    exact h1.front (k := m) (by omega)
  have d4 : l.drop 4 = l4 := hl4
  have d12 : l.drop 12 = l12 := by rw [← hl12, ← d4, List.drop_drop]
  have d16 : l.drop 16 = l16 := by rw [← hl16, ← d12, List.drop_drop]
  have HCN : Hid (128 ≤ c ∧ c ≤ 9223372036854775807) := Lib.hid hc
  have HWF : Hid (∀ W, Below w.heap.size w W → Calls Try.prog 23 #[.slice (some ⟨ad.block, ad.off + 4, none⟩) 8 (c - 4)] W fun e w' => e = .returned (.int .u64 (nf : Int)) ∧ W = w') := Lib.hid (fun W hb => by
    exact whole_at W _ _ 8 nf (l4.take 8) (by have := sub 4 8 (by omega) (by omega) (by omega) W hb; rw [d4] at this; exact this) (by rw [List.length_take, ← d4, List.length_drop]; omega) (by omega) hf)
  have HWM : Hid (∀ W, Below w.heap.size w W → Calls Try.prog 23 #[.slice (some ⟨ad.block, ad.off + 12, none⟩) 4 (c - 12)] W fun e w' => e = .returned (.int .u64 (nm : Int)) ∧ W = w') := Lib.hid (fun W hb => by
    exact whole_at W _ _ 4 nm (l12.take 4) (by have := sub 12 4 (by omega) (by omega) (by omega) W hb; rw [d12] at this; exact this) (by rw [List.length_take, ← d12, List.length_drop]; omega) (by omega) hm)
  have HWS : Hid (∀ W, Below w.heap.size w W → Calls Try.prog 23 #[.slice (some ⟨ad.block, ad.off + 16, none⟩) 4 (c - 16)] W fun e w' => e = .returned (.int .u64 (ns : Int)) ∧ W = w') := Lib.hid (fun W hb => by
    exact whole_at W _ _ 4 ns (l16.take 4) (by have := sub 16 4 (by omega) (by omega) (by omega) W hb; rw [d16] at this; exact this) (by rw [List.length_take, ← d16, List.length_drop]; omega) (by omega) hs)
  have hfb : nf < 18446744073709551616 := by rw [← hf]; exact num_take_lt _ 8
  have hmb : nm < 4294967296 := by rw [← hm]; exact num_take_lt _ 4
  have hsb : ns < 4294967296 := by rw [← hs]; exact num_take_lt _ 4
  have HM9 : Hid (IntKind.i64.wrap (nm : Int) = (nm : Int)) := Lib.hid (by rw [IntKind.wrap_i64]; omega)
  have HS9 : Hid (IntKind.u32.wrap (ns : Int) = (ns : Int)) := Lib.hid (by unfold IntKind.wrap; simp [IntKind.signed, IntKind.bits]; omega)
  have hgood : goodR l = (okR (candR l) && (sectR (candR l) == l)) := by unfold goodR; rw [decide_eq_true hl, Bool.true_and]
  have hcf := candR_fine l
  unfold decR decErrR
  rw [hgood]
  rw [hcand] at hcf ⊢
  have ENC := Lib.hid (fun W => r6encode_any ⟨nf, (nm : Int), ns⟩ W hcf)
  have HRL := Lib.hid (fun W (hb : Below w.heap.size w W) => conv_reads c ((hr.below hb)))
  have HSL := Lib.hid (sectR_length ⟨nf, (nm : Int), ns⟩)
  unfold errR outR at ENC
  obtain ⟨dR, hdR⟩ : ∃ x, (if (okR ⟨nf, (nm : Int), ns⟩ && (sectR ⟨nf, (nm : Int), ns⟩ == l)) = true then (⟨nf, (nm : Int), ns⟩ : RV) else noR) = x := ⟨_, rfl⟩
  obtain ⟨dE, hdE⟩ : ∃ x, (if (okR ⟨nf, (nm : Int), ns⟩ && (sectR ⟨nf, (nm : Int), ns⟩ == l)) = true then (0 : Int) else 60) = x := ⟨_, rfl⟩
  rw [hdR, hdE]
  have HDR := Lib.hid hdR
  have HDE := Lib.hid hdE
  clear hdR hdE
  clear hgood hr hcand hf hm hs hl4 hl12 hl16 sub d4 d12 d16 hx0 hb0 hl hc hcf
  go_enter Try.func9, Try.ntmps9
  go_wp2_with fail
  obtain ⟨W12, hW12⟩ : ∃ W, w0.drew.alloc (.cells #[.int .u64 0, .int .i64 0, .int .u32 0] 25) = W := ⟨_, rfl⟩
  obtain ⟨W13, hW13⟩ : ∃ W, ((W12.setCell ⟨w0.heap.size, 0, none⟩ (.int .u64 (nf : Int))).setCell ⟨w0.heap.size, 1, none⟩ (.int .i64 (nm : Int))).setCell ⟨w0.heap.size, 2, none⟩ (.int .u32 (ns : Int)) = W := ⟨_, rfl⟩
  have hx12 : Blk W12 w0.heap.size 25 #[.int .u64 0, .int .i64 0, .int .u32 0] := by rw [← hW12]; exact Blk.new w0.drew _ _
  have hB12 : Below w0.heap.size w0 W12 := by rw [← hW12]; exact (Below.refl _ w0).drew.alloc (Nat.le_refl _) _
  have hx13 : Blk W13 w0.heap.size 25 #[.int .u64 (nf : Int), .int .i64 (nm : Int), .int .u32 (ns : Int)] := by rw [← hW13]; exact blk_root _ _ _ hx12
  have hB13 : Below w0.heap.size w0 W13 := by rw [← hW13]; exact hB12.trans ((keep_root W12 w0.heap.size _ _ _).below hB12.size (fun i hi e => by omega))
  have PK : Hid (∀ dn, Below w.heap.size w (pick3 w0.drew W12 W13 12 13 dn)) := Lib.hid (pick3_all HB.out.drew (HB.out.trans (hB12.mono HB.out.size)) (HB.out.trans (hB13.mono HB.out.size)))
  have HG : Hid (W12.cell? ⟨w0.heap.size, 0, none⟩ = some (.int .u64 0) ∧ W12.cell? ⟨w0.heap.size, 1, none⟩ = some (.int .i64 0) ∧ W12.cell? ⟨w0.heap.size, 2, none⟩ = some (.int .u32 0) ∧ W12.frozen? ⟨w0.heap.size, 0, none⟩ = false ∧ W12.frozen? ⟨w0.heap.size, 1, none⟩ = false ∧ W12.frozen? ⟨w0.heap.size, 2, none⟩ = false) := Lib.hid ⟨hx12.cell 0, hx12.cell 1, hx12.cell 2, hx12.frozen 0, hx12.frozen 1, hx12.frozen 2⟩
  obtain ⟨q, hq⟩ : ∃ q, w0.heap.size = q := ⟨_, rfl⟩
  have HQ := Lib.hid hq
  have HW12 := Lib.hid hW12
  have HW13 := Lib.hid hW13
  have HX13 := Lib.hid hx13
  have HB13 := Lib.hid (HB.out.trans (hB13.mono HB.out.size))
  have HXW := Lib.hid ((HX.out.below hB13 HX.out.lt))
  have hqw : Hid (w.heap.size < q) := Lib.hid (by rw [← hq]; exact HX.out.lt)
  clear hx12 hB12 hx13 hB13 hW12 hW13 hw0
  rw [hq] at HW13 HG HX13
  clear hq
  refine wp_region_done_on (fun dn W => W = pick3 w0.drew W12 W13 12 13 dn) (fun dn i v _ => v = ([.slice (some ad) 128 c, .slice (some ⟨ad.block, ad.off + 4, none⟩) 8 (c - 4), .int .u64 (nf : Int), .slice (some ad) 128 c, .slice (some ⟨ad.block, ad.off + 12, none⟩) 4 (c - 12), .int .u64 (nm : Int), .int .i64 (nm : Int), .slice (some ad) 128 c, .slice (some ⟨ad.block, ad.off + 16, none⟩) 4 (c - 16), .int .u64 (ns : Int), .int .u32 (ns : Int), .agg #[.int .u64 (nf : Int), .int .i64 (nm : Int), .int .u32 (ns : Int)], .pointer (some ⟨q, 0, none⟩)] : List Value).getD i undef ∧ (i = 12 → dn 12 = true)) (by kernel_rfl) 39 rfl (by kernel_rfl) (rfl) ?_ ?_
  · intro i hi
    have hi2 : i < 14 := hi
    clear hi
    rcases i with _ | i
    · refine done_value (fun _ _ h => h) (fun dn j u w h => ⟨h.1, fun e => by have := h.2 e; simp [upd, this]⟩) (.slice (some ad) 128 c) rfl ?_
      intro dn a8 w8 hS ho hn
      have o0 : a8.tmps[0]? = some _ := (ho 0 (by kernel_rfl)).trans rfl
      clear ho hn
      refine ⟨wanted_free rfl, ?_, rfl, fun e => absurd e (by decide)⟩
      go_simp
    rcases i with _ | i
    · refine done_value (fun _ _ h => h) (fun dn j u w h => ⟨h.1, fun e => by have := h.2 e; simp [upd, this]⟩) (.slice (some ⟨ad.block, ad.off + 4, none⟩) 8 (c - 4)) rfl ?_
      intro dn a8 w8 hS ho hn
      obtain ⟨_, n11, rfl, fa11⟩ := hn 0 11 (by kernel_rfl) rfl
      clear ho hn
      refine ⟨wanted_free rfl, ?_, rfl, fun e => absurd e (by decide)⟩
      have hcn := HCN.out
      have h12 : (12 : Int) ≤ (c : Int) := (by omega)
      have h16 : (16 : Int) ≤ (c : Int) := (by omega)
      have h20 : (20 : Int) ≤ (c : Int) := (by omega)
      have h4 : ¬ c = 4 := (by omega)
      have h12n : ¬ c = 12 := (by omega)
      have h16n : ¬ c = 16 := (by omega)
      go_simp
    rcases i with _ | i
    · refine done_call 23 #[.slice (some ⟨ad.block, ad.off + 4, none⟩) 8 (c - 4)] rfl ?_
      intro dn a8 w8 hS hd hx ho hn
      obtain ⟨_, n12, rfl, fa12⟩ := hn 1 12 (by kernel_rfl) rfl
      clear ho hn
      refine ⟨wanted_free rfl, by go_simp, ?_⟩
      have hS2 : w8 = pick3 w0.drew W12 W13 12 13 dn := hS
      subst hS2
      refine (HWF.out _ (PK.out dn)).mono ?_
      rintro e w9 ⟨rfl, rfl⟩
      exact ⟨_, rfl, rfl, ⟨rfl, fun e => absurd e (by decide)⟩, fun j u _ _ h => ⟨h.1, fun e => by have := h.2 e; simp [upd, this]⟩⟩
    rcases i with _ | i
    · refine done_value (fun _ _ h => h) (fun dn j u w h => ⟨h.1, fun e => by have := h.2 e; simp [upd, this]⟩) (.slice (some ad) 128 c) rfl ?_
      intro dn a8 w8 hS ho hn
      have o0 : a8.tmps[0]? = some _ := (ho 0 (by kernel_rfl)).trans rfl
      clear ho hn
      refine ⟨wanted_free rfl, ?_, rfl, fun e => absurd e (by decide)⟩
      go_simp
    rcases i with _ | i
    · refine done_value (fun _ _ h => h) (fun dn j u w h => ⟨h.1, fun e => by have := h.2 e; simp [upd, this]⟩) (.slice (some ⟨ad.block, ad.off + 12, none⟩) 4 (c - 12)) rfl ?_
      intro dn a8 w8 hS ho hn
      obtain ⟨_, n14, rfl, fa14⟩ := hn 3 14 (by kernel_rfl) rfl
      clear ho hn
      refine ⟨wanted_free rfl, ?_, rfl, fun e => absurd e (by decide)⟩
      have hcn := HCN.out
      have h12 : (12 : Int) ≤ (c : Int) := (by omega)
      have h16 : (16 : Int) ≤ (c : Int) := (by omega)
      have h20 : (20 : Int) ≤ (c : Int) := (by omega)
      have h4 : ¬ c = 4 := (by omega)
      have h12n : ¬ c = 12 := (by omega)
      have h16n : ¬ c = 16 := (by omega)
      go_simp
    rcases i with _ | i
    · refine done_call 23 #[.slice (some ⟨ad.block, ad.off + 12, none⟩) 4 (c - 12)] rfl ?_
      intro dn a8 w8 hS hd hx ho hn
      obtain ⟨_, n15, rfl, fa15⟩ := hn 4 15 (by kernel_rfl) rfl
      clear ho hn
      refine ⟨wanted_free rfl, by go_simp, ?_⟩
      have hS2 : w8 = pick3 w0.drew W12 W13 12 13 dn := hS
      subst hS2
      refine (HWM.out _ (PK.out dn)).mono ?_
      rintro e w9 ⟨rfl, rfl⟩
      exact ⟨_, rfl, rfl, ⟨rfl, fun e => absurd e (by decide)⟩, fun j u _ _ h => ⟨h.1, fun e => by have := h.2 e; simp [upd, this]⟩⟩
    rcases i with _ | i
    · refine done_value (fun _ _ h => h) (fun dn j u w h => ⟨h.1, fun e => by have := h.2 e; simp [upd, this]⟩) (.int .i64 (nm : Int)) rfl ?_
      intro dn a8 w8 hS ho hn
      obtain ⟨_, n16, rfl, fa16⟩ := hn 5 16 (by kernel_rfl) rfl
      clear ho hn
      refine ⟨wanted_free rfl, ?_, rfl, fun e => absurd e (by decide)⟩
      go_simp
      exact HM9.out
    rcases i with _ | i
    · refine done_value (fun _ _ h => h) (fun dn j u w h => ⟨h.1, fun e => by have := h.2 e; simp [upd, this]⟩) (.slice (some ad) 128 c) rfl ?_
      intro dn a8 w8 hS ho hn
      have o0 : a8.tmps[0]? = some _ := (ho 0 (by kernel_rfl)).trans rfl
      clear ho hn
      refine ⟨wanted_free rfl, ?_, rfl, fun e => absurd e (by decide)⟩
      go_simp
    rcases i with _ | i
    · refine done_value (fun _ _ h => h) (fun dn j u w h => ⟨h.1, fun e => by have := h.2 e; simp [upd, this]⟩) (.slice (some ⟨ad.block, ad.off + 16, none⟩) 4 (c - 16)) rfl ?_
      intro dn a8 w8 hS ho hn
      obtain ⟨_, n18, rfl, fa18⟩ := hn 7 18 (by kernel_rfl) rfl
      clear ho hn
      refine ⟨wanted_free rfl, ?_, rfl, fun e => absurd e (by decide)⟩
      have hcn := HCN.out
      have h12 : (12 : Int) ≤ (c : Int) := (by omega)
      have h16 : (16 : Int) ≤ (c : Int) := (by omega)
      have h20 : (20 : Int) ≤ (c : Int) := (by omega)
      have h4 : ¬ c = 4 := (by omega)
      have h12n : ¬ c = 12 := (by omega)
      have h16n : ¬ c = 16 := (by omega)
      go_simp
    rcases i with _ | i
    · refine done_call 23 #[.slice (some ⟨ad.block, ad.off + 16, none⟩) 4 (c - 16)] rfl ?_
      intro dn a8 w8 hS hd hx ho hn
      obtain ⟨_, n19, rfl, fa19⟩ := hn 8 19 (by kernel_rfl) rfl
      clear ho hn
      refine ⟨wanted_free rfl, by go_simp, ?_⟩
      have hS2 : w8 = pick3 w0.drew W12 W13 12 13 dn := hS
      subst hS2
      refine (HWS.out _ (PK.out dn)).mono ?_
      rintro e w9 ⟨rfl, rfl⟩
      exact ⟨_, rfl, rfl, ⟨rfl, fun e => absurd e (by decide)⟩, fun j u _ _ h => ⟨h.1, fun e => by have := h.2 e; simp [upd, this]⟩⟩
    rcases i with _ | i
    · refine done_value (fun _ _ h => h) (fun dn j u w h => ⟨h.1, fun e => by have := h.2 e; simp [upd, this]⟩) (.int .u32 (ns : Int)) rfl ?_
      intro dn a8 w8 hS ho hn
      obtain ⟨_, n20, rfl, fa20⟩ := hn 9 20 (by kernel_rfl) rfl
      clear ho hn
      refine ⟨wanted_free rfl, ?_, rfl, fun e => absurd e (by decide)⟩
      go_simp
      exact HS9.out
    rcases i with _ | i
    · refine done_value (fun _ _ h => h) (fun dn j u w h => ⟨h.1, fun e => by have := h.2 e; simp [upd, this]⟩) (.agg #[.int .u64 (nf : Int), .int .i64 (nm : Int), .int .u32 (ns : Int)]) rfl ?_
      intro dn a8 w8 hS ho hn
      obtain ⟨_, n13, rfl, fa13⟩ := hn 2 13 (by kernel_rfl) rfl
      obtain ⟨_, n17, rfl, fa17⟩ := hn 6 17 (by kernel_rfl) rfl
      obtain ⟨_, n21, rfl, fa21⟩ := hn 10 21 (by kernel_rfl) rfl
      clear ho hn
      refine ⟨wanted_free rfl, ?_, rfl, fun e => absurd e (by decide)⟩
      go_simp
    rcases i with _ | i
    · refine done_make rfl ?_
      intro dn a8 w8 hS hd hx ho hn
      clear ho hn
      refine ⟨wanted_free rfl, ?_⟩
      have h12 : dn 12 = false := hd
      have h13 : dn 13 = false := hx 13 (by kernel_rfl)
      have hS2 : w8 = w0.drew := by { have h : w8 = pick3 w0.drew W12 W13 12 13 dn := hS; unfold pick3 at h; rw [h13, h12] at h; exact h }
      subst hS2
      refine ⟨.pointer (some ⟨w0.heap.size, 0, none⟩), W12, (by rw [← HW12.out]; clear hS; go_simp), (by show W12 = pick3 w0.drew W12 W13 12 13 (upd dn 12); unfold pick3; rw [show upd dn 12 13 = false from h13, show upd dn 12 12 = true from rfl]; rfl), ⟨by rw [HQ.out]; rfl, fun _ => rfl⟩, fun j u _ _ h => ⟨h.1, fun e => by have := h.2 e; simp [upd, this]⟩⟩
    rcases i with _ | i
    · refine done_store rfl rfl ?_
      intro dn a8 w8 hS hd hx ho hn
      obtain ⟨_, n4, hR4⟩ := hn 12 4 (by kernel_rfl) rfl
      obtain ⟨_, n22, rfl, fa22⟩ := hn 11 22 (by kernel_rfl) rfl
      clear ho hn
      refine ⟨wanted_free rfl, ?_⟩
      obtain ⟨rfl, fa4⟩ := hR4
      have h13 : dn 13 = false := hd
      have h12 : dn 12 = true := fa4 rfl
      have hS2 : w8 = W12 := by { have h : w8 = pick3 w0.drew W12 W13 12 13 dn := hS; unfold pick3 at h; rw [h13, h12] at h; exact h }
      clear hS
      obtain ⟨g0, g1, g2, f0, f1, f2⟩ := HG.out
      rw [← hS2] at g0 g1 g2 f0 f1 f2
      refine ⟨W13, (by rw [← HW13.out, ← hS2]; clear hS2; go_simp), (by show W13 = pick3 w0.drew W12 W13 12 13 (upd dn 13); unfold pick3; rw [show upd dn 13 13 = true from rfl]; rfl), ⟨rfl, fun e => absurd e (by decide)⟩, fun j u _ _ h => ⟨h.1, fun e => by have := h.2 e; simp [upd, this]⟩⟩
    omega
  · intro done f w9 hS hR hall
    obtain rfl : w9 = W13 := by
      have h : w9 = pick3 w0.drew W12 W13 12 13 done := hS
      unfold pick3 at h
      rw [hall 13 (by decide)] at h
      exact h
    have h4 : f 4 = _ := (hR 12 4 rfl).1
    simp only [putAll, List.foldl_cons, List.foldl_nil, Act.put, List.setIfInBounds_toArray, List.set_cons_succ, List.set_cons_zero, h4, List.getD_cons_zero, List.getD_cons_succ]
    clear hR h4 hS hall
    have y := HX13.out
    have y0 := y.cell 0; have y1 := y.cell 1; have y2 := y.cell 2
    clear y
    obtain ⟨okc, hok⟩ : ∃ b, okR ⟨nf, (nm : Int), ns⟩ = b := ⟨_, rfl⟩
    rw [hok] at ENC HDR HDE
    clear hok
    generalize sectR ⟨nf, (nm : Int), ns⟩ = BT at *
    have HFR : ∀ w2 : World, Below w9.heap.size w9 w2 → Blk w2 w.heap.size 25 #[.int .u64 0, .int .i64 0, .int .u32 0] ∧ Blk w2 q 25 #[.int .u64 (nf : Int), .int .i64 (nm : Int), .int .u32 (ns : Int)] ∧ Below w.heap.size w w2 := fun w2 b => ⟨HXW.out.below b HXW.out.lt, HX13.out.below b HX13.out.lt, HB13.out.trans (b.mono HB13.out.size)⟩
    have HFR := Lib.hid HFR
    cases okc
    · simp only [Bool.false_eq_true, if_false, Bool.false_and] at ENC HDR HDE
      unfold rtv at *
      go_wp2_with (go_at_call 7; refine (ENC.out _).mono ?_; rintro e w2 ⟨v, rfl, g⟩; obtain ⟨A2, c2, rfl, o2, b2⟩ := gives_len g rfl
                   obtain ⟨hx2, hy2, hb2⟩ := HFR.out w2 b2
                   have x0 := hx2.cell 0; have x1 := hx2.cell 1; have x2 := hx2.cell 2; have f0 := hx2.frozen 0; have f1 := hx2.frozen 1; have f2 := hx2.frozen 2
                   have HX2 := Lib.hid hx2; have HB2 := Lib.hid hb2
                   clear g o2 b2 hb2 hx2 hy2)
      refine bodyPost_ret (results_root2 rfl rfl rfl (blk_root _ _ _ HX2.out)) rfl ?_
      have hk := keep_root w2 w.heap.size (.int .u64 0) (.int .i64 0) (.int .u32 0)
      exact ⟨by rw [← HDR.out, ← HDE.out]; rfl, HB2.out.trans (hk.below HB2.out.size (fun i hi e => by omega))⟩
    · simp only [if_true, Bool.true_and] at ENC HDR HDE
      cases heq : BT == l
      · rw [heq] at HDR HDE
        simp only [Bool.false_eq_true, if_false] at HDR HDE
        unfold rtv at *
        go_wp2_with (go_at_call 7; refine (ENC.out _).mono ?_; rintro e w2 ⟨v, rfl, g⟩; obtain ⟨A2, c2, rfl, o2, b2⟩ := gives_len g HSL.out
                     obtain ⟨hx2, hy2, hb2⟩ := HFR.out w2 b2
                     have cva := conv_reads c2 (Reads.of_own o2); have cvb := HRL.out w2 hb2
                     have x0 := hx2.cell 0; have x1 := hx2.cell 1; have x2 := hx2.cell 2; have f0 := hx2.frozen 0; have f1 := hx2.frozen 1; have f2 := hx2.frozen 2
                     have HX2 := Lib.hid hx2; have HB2 := Lib.hid hb2
                     clear g o2 b2 hb2 hx2 hy2)
        refine bodyPost_ret (results_root2 rfl rfl rfl (blk_root _ _ _ HX2.out)) rfl ?_
        have hk := keep_root w2 w.heap.size (.int .u64 0) (.int .i64 0) (.int .u32 0)
        exact ⟨by rw [← HDR.out, ← HDE.out]; rfl, HB2.out.trans (hk.below HB2.out.size (fun i hi e => by omega))⟩
      · rw [heq] at HDR HDE
        simp only [if_true] at HDR HDE
        unfold rtv at *
        go_wp2_with (go_at_call 7; refine (ENC.out _).mono ?_; rintro e w2 ⟨v, rfl, g⟩; obtain ⟨A2, c2, rfl, o2, b2⟩ := gives_len g HSL.out
                     obtain ⟨hx2, hy2, hb2⟩ := HFR.out w2 b2
                     have cva := conv_reads c2 (Reads.of_own o2); have cvb := HRL.out w2 hb2
                     have x0 := hx2.cell 0; have x1 := hx2.cell 1; have x2 := hx2.cell 2; have f0 := hx2.frozen 0; have f1 := hx2.frozen 1; have f2 := hx2.frozen 2
                     have z0 := hy2.cell 0; have z1 := hy2.cell 1; have z2 := hy2.cell 2
                     have HX2 := Lib.hid hx2; have HB2 := Lib.hid hb2
                     clear g o2 b2 hb2 hx2 hy2)
        refine bodyPost_ret (results_root2 rfl rfl rfl (blk_root _ _ _ HX2.out)) rfl ?_
        have hk := keep_root w2 w.heap.size (.int .u64 (nf : Int)) (.int .i64 (nm : Int)) (.int .u32 (ns : Int))
        exact ⟨by rw [← HDR.out, ← HDE.out]; rfl, HB2.out.trans (hk.below HB2.out.size (fun i hi e => by omega))⟩

theorem r6decode_any (A : Option Addr) (c n : Nat) (l : List UInt8) (w : World) (hl : l.length = n) (hr : Reads w w.heap.size 1 A n (l.map bv)) (hc : n ≤ c ∧ c ≤ 9223372036854775807) :
    Calls Try.prog 9 #[.slice A n c] w fun e w' => e = .returned (.tuple #[rtv (decR l), .int .i64 (decErrR l)]) ∧ Below w.heap.size w w' := by
  subst hl
  by_cases h1 : l.length = 128
  · obtain ⟨ad, rfl, _⟩ := hr.2 (by omega)
    rw [h1] at hr hc ⊢
    exact r6dec_long ad c l w hr h1 hc
  · have hg : goodR l = false := by unfold goodR; rw [decide_eq_false h1, Bool.false_and]
    have hd : decR l = noR := by unfold decR; rw [hg]; rfl
    have he : decErrR l = 60 := by unfold decErrR; rw [hg]; rfl
    rw [hd, he]
    exact r6dec_short A c l.length w h1

end Go.Proofs.Ytoiopoghcjkgcaa.root

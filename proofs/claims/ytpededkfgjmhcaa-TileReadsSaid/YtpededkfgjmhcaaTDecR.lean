/-
  The document's own Decode for layer 5.
-/
import Derived.Test.YtpededkfgjmhcaaTSndR
import Derived.Test.YtpededkfgjmhcaaTEncR
import Derived.Test.YtpededkfgjmhcaaTCand
import Derived.Test.YtpededkfgjmhcaaDone
namespace Go.Proofs.Ytpededkfgjmhcaa.tile
open Go.RowKit Go.Proofs.Ytpededkfgjmhcaa.crc Go.Proofs.Ytpededkfgjmhcaa.crcSeals Go.Proofs.Ytpededkfgjmhcaa.crcJoins

/-- The worlds of a drawn region that turns memory twice, one behind the other. -/
def pick3 (W0 W1 W2 : World) (a b : Nat) (dn : Nat → Bool) : World := if dn b = true then W2 else if dn a = true then W1 else W0
theorem pick3_all {W0 W1 W2 : World} {a b : Nat} {P : World → Prop} (h0 : P W0) (h1 : P W1) (h2 : P W2) (dn : Nat → Bool) : P (pick3 W0 W1 W2 a b dn) := by
  unfold pick3
  split
  · exact h2
  · split
    · exact h1
    · exact h0

def pick4 (W0 W1 W2 W3 : World) (a b c : Nat) (dn : Nat → Bool) : World := if dn c = true then W3 else if dn b = true then W2 else if dn a = true then W1 else W0
theorem pick4_all {W0 W1 W2 W3 : World} {a b c : Nat} {P : World → Prop} (h0 : P W0) (h1 : P W1) (h2 : P W2) (h3 : P W3) (dn : Nat → Bool) : P (pick4 W0 W1 W2 W3 a b c dn) := by
  unfold pick4
  split
  · exact h3
  · split
    · exact h2
    · split
      · exact h1
      · exact h0
theorem whole_at (w : World) (A : Option Addr) (c m x : Nat) (l : List UInt8) (hr : Reads w w.heap.size 1 A m (l.map bv)) (hm : l.length = m) (h8 : m ≤ 8) (hx : num l = x) :
    Calls Try.prog 38 #[.slice A m c] w fun e w' => e = .returned (.int .u64 (x : Int)) ∧ w = w' := by
  subst hm hx
  exact whole_any w A c l hr h8
theorem num_lt' (l : List UInt8) (k B : Nat) (h : l.length ≤ k) (hB : 256 ^ k ≤ B) : num l < B :=
  Nat.lt_of_lt_of_le (num_lt l) (Nat.le_trans (Nat.pow_le_pow_right (by omega) h) hB)

/-- How many elements bytes tell of. -/
def cntT (l : List UInt8) : Nat := num (((((l.drop 3).drop 1).drop 8).drop 4).take 4)
theorem cnt_bytes {t : TV} {s : Int} (hok : okT t s = true) : cntT (bytesT t s.toNat) = t.el.length := by
  obtain ⟨hs, h1, h2, h3, h4, h5, _⟩ := okT_of hok
  have e : bytesT t s.toNat = [81, 84, 1] ++ (be 1 t.kind.toNat ++ (be 8 t.file.toNat ++ (be 4 t.no.toNat ++ (be 4 t.el.length ++ (elsB t.el ++ (List.replicate (s.toNat * 128 - 4 - (20 + 8 * t.el.length)) 0 ++ four (sum (bitsB (bodyT t s.toNat))))))))) := by
    show bodyT t s.toNat ++ four _ = _
    conv => lhs; arg 1; unfold bodyT headT
    simp only [List.append_assoc]
  have d3 : ∀ r : List UInt8, ([81, 84, 1] ++ r).drop 3 = r := fun r => rfl
  have hel : t.el.length < 4294967296 := by omega
  unfold cntT
  rw [e, d3, List.drop_left' (be_length ..), List.drop_left' (be_length ..), List.drop_left' (be_length ..), List.take_left' (be_length ..), num_be, Nat.mod_eq_of_lt (show t.el.length < 256 ^ 4 by omega)]
theorem good_count {l : List UInt8} (h : goodB l = true) : (cntT l : Int) ≤ fitT (secs l) := by
  obtain ⟨_, h2, h3, h4⟩ := good_sound h
  have hc := cnt_bytes h2
  rw [Int.toNat_natCast, h3] at hc
  rw [hc]
  unfold okT at h2
  simp only [Bool.and_eq_true, decide_eq_true_eq] at h2
  exact h2.2.1

set_option maxRecDepth 100000 in
set_option maxHeartbeats 4000000 in
theorem r5decode_unsound (A : Option Addr) (c n : Nat) (l : List UInt8) (w : World) (hl : l.length = n) (hr : Reads w w.heap.size 1 A n (l.map bv)) (hc : n ≤ c ∧ c ≤ 9223372036854775807) (hn : n ≤ 140737488355000) (hs : soundB l = false) :
    Calls Try.prog 16 #[.slice A n c] w fun e w' => e = .returned (.tuple #[.agg #[.int .i64 0, .int .i64 0, .int .i64 0, .slice none 0 0], .int .i64 50]) ∧ Below w.heap.size w w' := by
  have hb0 : Below w.heap.size w (w.alloc (.cells #[.int .i64 0, .int .i64 0, .int .i64 0, .slice none 0 0] 24)) := (Below.refl _ _).alloc (Nat.le_refl _) _
  have hx0 := Blk.new w 24 #[.int .i64 0, .int .i64 0, .int .i64 0, .slice none 0 0]
  have HS := Lib.hid (r5sound_any A c n l (w.alloc (.cells #[.int .i64 0, .int .i64 0, .int .i64 0, .slice none 0 0] 24)) hl ((hr.below hb0).more hb0.size) hc hn)
  rw [hs] at HS
  have HB := Lib.hid hb0
  have HX := Lib.hid hx0
  clear hr hb0 hx0 hl hs
  go_enter Try.func16, Try.ntmps16
  go_wp2_with (go_at_call 18; (with_reducible refine HS.out.mono ?_); rintro e w2 ⟨rfl, b2⟩; have hx2 := HX.out.below b2 HX.out.lt; have x0 := hx2.cell 0; have x1 := hx2.cell 1; have x2 := hx2.cell 2; have x3 := hx2.cell 3; have f0 := hx2.frozen 0; have f1 := hx2.frozen 1; have f2 := hx2.frozen 2; have f3 := hx2.frozen 3; have HX2 := Lib.hid hx2; have B2 := Lib.hid (HB.out.trans (b2.mono HB.out.size)); clear b2 hx2)
  refine bodyPost_ret (results_tile2 rfl rfl rfl (blk_tile _ _ _ _ HX2.out)) rfl ?_
  have hk := keep_tile w2 w.heap.size (.int .i64 0) (.int .i64 0) (.int .i64 0) (.slice none 0 0)
  exact ⟨rfl, B2.out.trans (hk.below B2.out.size (fun i hi e => by omega))⟩

set_option maxRecDepth 100000 in
set_option maxHeartbeats 4000000 in
theorem r5decode_sound (ad : Addr) (c n S : Nat) (l : List UInt8) (w : World) (hl : l.length = n) (hr : Reads w w.heap.size 1 (some ad) n (l.map bv)) (hc : n ≤ c ∧ c ≤ 9223372036854775807) (hn : n = 128 * S) (hS : 1 ≤ S ∧ S ≤ 64) (hs : soundB l = true) :
    Calls Try.prog 16 #[.slice (some ad) n c] w fun e w' => ∃ A' c', e = .returned (.tuple #[tv (decT l) A' (decT l).el.length c', .int .i64 (decErr l)]) ∧ TEl w' (decT l) A' (decT l).el.length ∧ Below w.heap.size w w' := by
  have hb0 : Below w.heap.size w (w.alloc (.cells #[.int .i64 0, .int .i64 0, .int .i64 0, .slice none 0 0] 24)) := (Below.refl _ _).alloc (Nat.le_refl _) _
  have hx0 := Blk.new w 24 #[.int .i64 0, .int .i64 0, .int .i64 0, .slice none 0 0]
  have hsd := r5sound_any (some ad) c n l (w.alloc (.cells #[.int .i64 0, .int .i64 0, .int .i64 0, .slice none 0 0] 24)) hl ((hr.below hb0).more hb0.size) hc (by omega)
  rw [hs] at hsd
  have HSD := Lib.hid hsd
  have HB := Lib.hid hb0
  have HX := Lib.hid hx0
  -- the head's numbers
  obtain ⟨l3, hl3⟩ : ∃ x, l.drop 3 = x := ⟨_, rfl⟩
  obtain ⟨l4, hl4⟩ : ∃ x, l3.drop 1 = x := ⟨_, rfl⟩
  obtain ⟨l12, hl12⟩ : ∃ x, l4.drop 8 = x := ⟨_, rfl⟩
  obtain ⟨l16, hl16⟩ : ∃ x, l12.drop 4 = x := ⟨_, rfl⟩
  obtain ⟨l20, hl20⟩ : ∃ x, l16.drop 4 = x := ⟨_, rfl⟩
  obtain ⟨nk, hk⟩ : ∃ x, num (l3.take 1) = x := ⟨_, rfl⟩
  obtain ⟨nf, hf⟩ : ∃ x, num (l4.take 8) = x := ⟨_, rfl⟩
  obtain ⟨nm, hm⟩ : ∃ x, num (l12.take 4) = x := ⟨_, rfl⟩
  obtain ⟨cn, hcn⟩ : ∃ x, num (l16.take 4) = x := ⟨_, rfl⟩
  have hcand : candT l = ⟨wrap64 (nf : Int), (nm : Int), (nk : Int), chunks cn l20⟩ := by
    unfold candT
    rw [hl3, hl4, hl12, hl16, hl20, hk, hf, hm, hcn]
  have hcnt : cntT l = cn := by unfold cntT; rw [hl3, hl4, hl12, hl16, hcn]
  have sub : ∀ (a m : Nat), a + m ≤ n → ∀ W, Below w.heap.size w W → Reads W W.heap.size 1 (some (ad.add a)) m (((l.drop a).take m).map bv) := fun a m h W hb => by
    rcases Nat.eq_zero_or_pos m with h0 | h0
    · subst h0
      exact ⟨by simp, fun h => absurd h (by omega)⟩
    · have h1 := ((hr.below hb).more hb.size).cut (k := a) (cap := c) (by omega) hc.1
      rw [if_neg (by omega), Nat.mul_one, ← List.map_drop] at h1
      exact h1.front (k := m) (by omega)
  have d4 : l.drop 4 = l4 := by rw [← hl4, ← hl3, List.drop_drop]
  have d12 : l.drop 12 = l12 := by rw [← hl12, ← d4, List.drop_drop]
  have d16 : l.drop 16 = l16 := by rw [← hl16, ← d12, List.drop_drop]
  have d20 : l.drop 20 = l20 := by rw [← hl20, ← d16, List.drop_drop]
  have hl20n : l20.length = n - 20 := by rw [← d20, List.length_drop, hl]
  have HCN : Hid (128 ≤ c ∧ 128 ≤ n ∧ n ≤ c ∧ c ≤ 9223372036854775807) := Lib.hid (by omega)
  have HWF : Hid (∀ W, Below w.heap.size w W → Calls Try.prog 38 #[.slice (some ⟨ad.block, ad.off + 4, none⟩) 8 (c - 4)] W fun e w' => e = .returned (.int .u64 (nf : Int)) ∧ W = w') := Lib.hid (fun W hb => by
    exact whole_at W _ _ 8 nf (l4.take 8) (by have := sub 4 8 (by omega) W hb; rw [d4] at this; exact this) (by rw [List.length_take, ← d4, List.length_drop]; omega) (by omega) hf)
  have HWM : Hid (∀ W, Below w.heap.size w W → Calls Try.prog 38 #[.slice (some ⟨ad.block, ad.off + 12, none⟩) 4 (c - 12)] W fun e w' => e = .returned (.int .u64 (nm : Int)) ∧ W = w') := Lib.hid (fun W hb => by
    exact whole_at W _ _ 4 nm (l12.take 4) (by have := sub 12 4 (by omega) W hb; rw [d12] at this; exact this) (by rw [List.length_take, ← d12, List.length_drop]; omega) (by omega) hm)
  have HWC : Hid (∀ W, Below w.heap.size w W → Calls Try.prog 38 #[.slice (some ⟨ad.block, ad.off + 16, none⟩) 4 (c - 16)] W fun e w' => e = .returned (.int .u64 (cn : Int)) ∧ W = w') := Lib.hid (fun W hb => by
    exact whole_at W _ _ 4 cn (l16.take 4) (by have := sub 16 4 (by omega) W hb; rw [d16] at this; exact this) (by rw [List.length_take, ← d16, List.length_drop]; omega) (by omega) hcn)
  have HWE : Hid (∀ (j : Nat), 20 + 8 * j + 8 ≤ n → ∀ W, Below w.heap.size w W → Calls Try.prog 38 #[.slice (some (ad.add (20 + 8 * j))) 8 (c - (20 + 8 * j))] W fun e w' => e = .returned (.int .u64 (num ((l20.drop (8 * j)).take 8) : Nat)) ∧ W = w') := Lib.hid (fun j hj W hb => by
    exact whole_at W _ _ 8 _ ((l20.drop (8 * j)).take 8) (by have := sub (20 + 8 * j) 8 (by omega) W hb; rw [← List.drop_drop, d20] at this; exact this) (by rw [List.length_take, List.length_drop, hl20n]; omega) (by omega) rfl)
  have HK0 : Hid (∀ W, Below w.heap.size w W → W.cell? ⟨ad.block, ad.off + 3, none⟩ = some (.int .u8 (nk : Int))) := Lib.hid (fun W hb => by
    have h3 : l3 ≠ [] := fun e => by have := congrArg List.length e; rw [← hl3, List.length_drop] at this; simp at this; omega
    obtain ⟨x, r, hxr⟩ := List.exists_cons_of_ne_nil h3
    have hx3 : l[3]? = some x := by
      have : (l.drop 3)[0]? = some x := by rw [hl3, hxr]; rfl
      rwa [List.getElem?_drop] at this
    have hnk : nk = x.toNat := by rw [← hk, hxr]; simp [num]
    obtain ⟨ad', e, _, hcell⟩ := (hr.below hb).2 (by omega)
    injection e with e
    subst e
    have := hcell 3 (bv x) (by rw [List.getElem?_map, hx3]; rfl)
    rw [hnk]
    exact this)
  have hfb : nf < 18446744073709551616 := by rw [← hf]; exact num_lt' _ 8 _ (by rw [List.length_take]; omega) (by decide)
  have hmb : nm < 4294967296 := by rw [← hm]; exact num_lt' _ 4 _ (by rw [List.length_take]; omega) (by decide)
  have hkb : nk < 256 := by rw [← hk]; exact num_lt' _ 1 _ (by rw [List.length_take]; omega) (by decide)
  have hcb : cn < 4294967296 := by rw [← hcn]; exact num_lt' _ 4 _ (by rw [List.length_take]; omega) (by decide)
  have HF9 : Hid (IntKind.i64.wrap (nf : Int) = wrap64 (nf : Int)) := Lib.hid (by rw [IntKind.wrap_i64]; unfold wrap64; omega)
  have HM9 : Hid (IntKind.i64.wrap (nm : Int) = (nm : Int)) := Lib.hid (by rw [IntKind.wrap_i64]; omega)
  have HK8 : Hid (IntKind.i64.wrap (nk : Int) = (nk : Int)) := Lib.hid (by rw [IntKind.wrap_i64]; omega)
  have HNS := Lib.hid hn
  have hn8 : 128 ≤ n ∧ n ≤ 8192 := by omega
  clear hn hsd hb0 hx0 hl3 hl4 hl12 hl16 hl20 hk hf hm hcn sub d4 d12 d16 d20
  go_enter Try.func16, Try.ntmps16
  go_wp2_with (go_at_call 18; (with_reducible refine HSD.out.mono ?_); rintro e w2 ⟨rfl, b2⟩; have N2 := Lib.hid b2)
  obtain ⟨W13, hW13⟩ : ∃ W, w2.drew.alloc (.cells #[.int .i64 0, .int .i64 0, .int .i64 0, .slice none 0 0] 24) = W := ⟨_, rfl⟩
  obtain ⟨W14, hW14⟩ : ∃ W, (((W13.setCell ⟨w2.heap.size, 0, none⟩ (.int .i64 (wrap64 (nf : Int)))).setCell ⟨w2.heap.size, 1, none⟩ (.int .i64 (nm : Int))).setCell ⟨w2.heap.size, 2, none⟩ (.int .i64 (nk : Int))).setCell ⟨w2.heap.size, 3, none⟩ (.slice none 0 0) = W := ⟨_, rfl⟩
  have hB2 := HB.out.trans (b2.mono HB.out.size)
  have hx13 : Blk W13 w2.heap.size 24 #[.int .i64 0, .int .i64 0, .int .i64 0, .slice none 0 0] := by rw [← hW13]; exact Blk.new w2.drew _ _
  have hB13 : Below w2.heap.size w2 W13 := by rw [← hW13]; exact (Below.refl _ w2).drew.alloc (Nat.le_refl _) _
  have hx14 : Blk W14 w2.heap.size 24 #[.int .i64 (wrap64 (nf : Int)), .int .i64 (nm : Int), .int .i64 (nk : Int), .slice none 0 0] := by rw [← hW14]; exact blk_tile _ _ _ _ hx13
  have hB14 : Below w2.heap.size w2 W14 := by rw [← hW14]; exact hB13.trans ((keep_tile W13 w2.heap.size _ _ _ _).below hB13.size (fun i hi e => by omega))
  have PK4 : Hid (∀ dn, Below w.heap.size w (pick3 w2.drew W13 W14 13 14 dn)) := Lib.hid (pick3_all hB2.drew (hB2.trans (hB13.mono hB2.size)) (hB2.trans (hB14.mono hB2.size)))
  have HK9 := HK0
  have HG : Hid (W13.cell? ⟨w2.heap.size, 0, none⟩ = some (.int .i64 0) ∧ W13.cell? ⟨w2.heap.size, 1, none⟩ = some (.int .i64 0) ∧ W13.cell? ⟨w2.heap.size, 2, none⟩ = some (.int .i64 0) ∧ W13.cell? ⟨w2.heap.size, 3, none⟩ = some (.slice none 0 0) ∧ W13.frozen? ⟨w2.heap.size, 0, none⟩ = false ∧ W13.frozen? ⟨w2.heap.size, 1, none⟩ = false ∧ W13.frozen? ⟨w2.heap.size, 2, none⟩ = false ∧ W13.frozen? ⟨w2.heap.size, 3, none⟩ = false) := Lib.hid ⟨hx13.cell 0, hx13.cell 1, hx13.cell 2, hx13.cell 3, hx13.frozen 0, hx13.frozen 1, hx13.frozen 2, hx13.frozen 3⟩
  obtain ⟨q, hq⟩ : ∃ q, w2.heap.size = q := ⟨_, rfl⟩
  have HQ := Lib.hid hq
  have HW13 := Lib.hid hW13
  have HW14 := Lib.hid hW14
  have HX14 := Lib.hid hx14
  have HB2 := Lib.hid hB2
  have HB14 := Lib.hid hB14
  clear b2 hB2 hx13 hB13 hx14 hB14 hW13 hW14
  rw [hq] at HW14 HG HX14
  clear hq
  refine wp_region_done_on (fun dn W => W = pick3 w2.drew W13 W14 13 14 dn) (fun dn i v _ => v = ([.slice (some ad) n c, .slice (some ⟨ad.block, ad.off + 4, none⟩) 8 (c - 4), .int .u64 (nf : Int), .int .i64 (wrap64 (nf : Int)), .slice (some ad) n c, .slice (some ⟨ad.block, ad.off + 12, none⟩) 4 (c - 12), .int .u64 (nm : Int), .int .i64 (nm : Int), .slice (some ad) n c, .pointer (some ⟨ad.block, ad.off + 3, none⟩), .int .u8 (nk : Int), .int .i64 (nk : Int), .agg #[.int .i64 (wrap64 (nf : Int)), .int .i64 (nm : Int), .int .i64 (nk : Int), .slice none 0 0], .pointer (some ⟨q, 0, none⟩)] : List Value).getD i undef ∧ (i = 13 → dn 13 = true)) (by kernel_rfl) 78 rfl (by kernel_rfl) (rfl) ?_ ?_
  · intro i hi
    have hi2 : i < 15 := hi
    clear hi
    rcases i with _ | i
    · refine done_value (fun _ _ h => h) (fun dn j u w h => ⟨h.1, fun e => by have := h.2 e; simp [upd, this]⟩) (.slice (some ad) n c) rfl ?_
      intro dn a8 w8 hS ho hn
      have o0 : a8.tmps[0]? = some _ := (ho 0 (by kernel_rfl)).trans rfl
      clear ho hn
      refine ⟨wanted_free rfl, ?_, rfl, fun e => absurd e (by decide)⟩
      go_simp
    rcases i with _ | i
    · refine done_value (fun _ _ h => h) (fun dn j u w h => ⟨h.1, fun e => by have := h.2 e; simp [upd, this]⟩) (.slice (some ⟨ad.block, ad.off + 4, none⟩) 8 (c - 4)) rfl ?_
      intro dn a8 w8 hS ho hn
      obtain ⟨_, n15, rfl, fa15⟩ := hn 0 15 (by kernel_rfl) rfl
      clear ho hn
      refine ⟨wanted_free rfl, ?_, rfl, fun e => absurd e (by decide)⟩
      have hcn := HCN.out
      have h12 : (12 : Int) ≤ (c : Int) := (by omega)
      have h16 : (16 : Int) ≤ (c : Int) := (by omega)
      have h4 : ¬ c = 4 := (by omega)
      have h12n : ¬ c = 12 := (by omega)
      go_simp
    rcases i with _ | i
    · refine done_call 38 #[.slice (some ⟨ad.block, ad.off + 4, none⟩) 8 (c - 4)] rfl ?_
      intro dn a8 w8 hS hd hx ho hn
      obtain ⟨_, n16, rfl, fa16⟩ := hn 1 16 (by kernel_rfl) rfl
      clear ho hn
      refine ⟨wanted_free rfl, by go_simp, ?_⟩
      have hS2 : w8 = pick3 w2.drew W13 W14 13 14 dn := hS
      subst hS2
      refine (HWF.out _ (PK4.out dn)).mono ?_
      rintro e w9 ⟨rfl, rfl⟩
      exact ⟨_, rfl, rfl, ⟨rfl, fun e => absurd e (by decide)⟩, fun j u _ _ h => ⟨h.1, fun e => by have := h.2 e; simp [upd, this]⟩⟩
    rcases i with _ | i
    · refine done_value (fun _ _ h => h) (fun dn j u w h => ⟨h.1, fun e => by have := h.2 e; simp [upd, this]⟩) (.int .i64 (wrap64 (nf : Int))) rfl ?_
      intro dn a8 w8 hS ho hn
      obtain ⟨_, n17, rfl, fa17⟩ := hn 2 17 (by kernel_rfl) rfl
      clear ho hn
      refine ⟨wanted_free rfl, ?_, rfl, fun e => absurd e (by decide)⟩
      go_simp
      exact HF9.out
    rcases i with _ | i
    · refine done_value (fun _ _ h => h) (fun dn j u w h => ⟨h.1, fun e => by have := h.2 e; simp [upd, this]⟩) (.slice (some ad) n c) rfl ?_
      intro dn a8 w8 hS ho hn
      have o0 : a8.tmps[0]? = some _ := (ho 0 (by kernel_rfl)).trans rfl
      clear ho hn
      refine ⟨wanted_free rfl, ?_, rfl, fun e => absurd e (by decide)⟩
      go_simp
    rcases i with _ | i
    · refine done_value (fun _ _ h => h) (fun dn j u w h => ⟨h.1, fun e => by have := h.2 e; simp [upd, this]⟩) (.slice (some ⟨ad.block, ad.off + 12, none⟩) 4 (c - 12)) rfl ?_
      intro dn a8 w8 hS ho hn
      obtain ⟨_, n19, rfl, fa19⟩ := hn 4 19 (by kernel_rfl) rfl
      clear ho hn
      refine ⟨wanted_free rfl, ?_, rfl, fun e => absurd e (by decide)⟩
      have hcn := HCN.out
      have h12 : (12 : Int) ≤ (c : Int) := (by omega)
      have h16 : (16 : Int) ≤ (c : Int) := (by omega)
      have h4 : ¬ c = 4 := (by omega)
      have h12n : ¬ c = 12 := (by omega)
      go_simp
    rcases i with _ | i
    · refine done_call 38 #[.slice (some ⟨ad.block, ad.off + 12, none⟩) 4 (c - 12)] rfl ?_
      intro dn a8 w8 hS hd hx ho hn
      obtain ⟨_, n20, rfl, fa20⟩ := hn 5 20 (by kernel_rfl) rfl
      clear ho hn
      refine ⟨wanted_free rfl, by go_simp, ?_⟩
      have hS2 : w8 = pick3 w2.drew W13 W14 13 14 dn := hS
      subst hS2
      refine (HWM.out _ (PK4.out dn)).mono ?_
      rintro e w9 ⟨rfl, rfl⟩
      exact ⟨_, rfl, rfl, ⟨rfl, fun e => absurd e (by decide)⟩, fun j u _ _ h => ⟨h.1, fun e => by have := h.2 e; simp [upd, this]⟩⟩
    rcases i with _ | i
    · refine done_value (fun _ _ h => h) (fun dn j u w h => ⟨h.1, fun e => by have := h.2 e; simp [upd, this]⟩) (.int .i64 (nm : Int)) rfl ?_
      intro dn a8 w8 hS ho hn
      obtain ⟨_, n21, rfl, fa21⟩ := hn 6 21 (by kernel_rfl) rfl
      clear ho hn
      refine ⟨wanted_free rfl, ?_, rfl, fun e => absurd e (by decide)⟩
      go_simp
      exact HM9.out
    rcases i with _ | i
    · refine done_value (fun _ _ h => h) (fun dn j u w h => ⟨h.1, fun e => by have := h.2 e; simp [upd, this]⟩) (.slice (some ad) n c) rfl ?_
      intro dn a8 w8 hS ho hn
      have o0 : a8.tmps[0]? = some _ := (ho 0 (by kernel_rfl)).trans rfl
      clear ho hn
      refine ⟨wanted_free rfl, ?_, rfl, fun e => absurd e (by decide)⟩
      go_simp
    rcases i with _ | i
    · refine done_value (fun _ _ h => h) (fun dn j u w h => ⟨h.1, fun e => by have := h.2 e; simp [upd, this]⟩) (.pointer (some ⟨ad.block, ad.off + 3, none⟩)) rfl ?_
      intro dn a8 w8 hS ho hn
      obtain ⟨_, n23, rfl, fa23⟩ := hn 8 23 (by kernel_rfl) rfl
      clear ho hn
      refine ⟨wanted_free rfl, ?_, rfl, fun e => absurd e (by decide)⟩
      have hcn := HCN.out
      have h3 : ¬ (n : Int) ≤ 3 := (by omega)
      have h3n : ¬ n ≤ 3 := (by omega)
      go_simp
    rcases i with _ | i
    · refine done_value (fun _ _ h => h) (fun dn j u w h => ⟨h.1, fun e => by have := h.2 e; simp [upd, this]⟩) (.int .u8 (nk : Int)) rfl ?_
      intro dn a8 w8 hS ho hn
      obtain ⟨_, n24, rfl, fa24⟩ := hn 9 24 (by kernel_rfl) rfl
      clear ho hn
      refine ⟨wanted_free rfl, ?_, rfl, fun e => absurd e (by decide)⟩
      have h1 := HK9.out _ (PK4.out dn)
      go_simp
    rcases i with _ | i
    · refine done_value (fun _ _ h => h) (fun dn j u w h => ⟨h.1, fun e => by have := h.2 e; simp [upd, this]⟩) (.int .i64 (nk : Int)) rfl ?_
      intro dn a8 w8 hS ho hn
      obtain ⟨_, n25, rfl, fa25⟩ := hn 10 25 (by kernel_rfl) rfl
      clear ho hn
      refine ⟨wanted_free rfl, ?_, rfl, fun e => absurd e (by decide)⟩
      go_simp
      exact HK8.out
    rcases i with _ | i
    · refine done_value (fun _ _ h => h) (fun dn j u w h => ⟨h.1, fun e => by have := h.2 e; simp [upd, this]⟩) (.agg #[.int .i64 (wrap64 (nf : Int)), .int .i64 (nm : Int), .int .i64 (nk : Int), .slice none 0 0]) rfl ?_
      intro dn a8 w8 hS ho hn
      obtain ⟨_, n18, rfl, fa18⟩ := hn 3 18 (by kernel_rfl) rfl
      obtain ⟨_, n22, rfl, fa22⟩ := hn 7 22 (by kernel_rfl) rfl
      obtain ⟨_, n26, rfl, fa26⟩ := hn 11 26 (by kernel_rfl) rfl
      clear ho hn
      refine ⟨wanted_free rfl, ?_, rfl, fun e => absurd e (by decide)⟩
      go_simp
    rcases i with _ | i
    · refine done_make rfl ?_
      intro dn a8 w8 hS hd hx ho hn
      clear ho hn
      refine ⟨wanted_free rfl, ?_⟩
      have h13 : dn 13 = false := hd
      have h14 : dn 14 = false := hx 14 (by kernel_rfl)
      have hS2 : w8 = w2.drew := by { have h : w8 = pick3 w2.drew W13 W14 13 14 dn := hS; unfold pick3 at h; rw [h14, h13] at h; exact h }
      subst hS2
      refine ⟨.pointer (some ⟨w2.heap.size, 0, none⟩), W13, (by rw [← HW13.out]; clear hS; go_simp), (by show W13 = pick3 w2.drew W13 W14 13 14 (upd dn 13); unfold pick3; rw [show upd dn 13 14 = false from h14, show upd dn 13 13 = true from rfl]; rfl), ⟨by rw [HQ.out]; rfl, fun _ => rfl⟩, fun j u _ _ h => ⟨h.1, fun e => by have := h.2 e; simp [upd, this]⟩⟩
    rcases i with _ | i
    · refine done_store rfl rfl ?_
      intro dn a8 w8 hS hd hx ho hn
      obtain ⟨_, n5, hR5⟩ := hn 13 5 (by kernel_rfl) rfl
      obtain ⟨_, n27, rfl, fa27⟩ := hn 12 27 (by kernel_rfl) rfl
      clear ho hn
      refine ⟨wanted_free rfl, ?_⟩
      obtain ⟨rfl, fa5⟩ := hR5
      have h14 : dn 14 = false := hd
      have h13 : dn 13 = true := fa5 rfl
      have hS2 : w8 = W13 := by { have h : w8 = pick3 w2.drew W13 W14 13 14 dn := hS; unfold pick3 at h; rw [h14, h13] at h; exact h }
      clear hS
      obtain ⟨g0, g1, g2, g3, f0, f1, f2, f3⟩ := HG.out
      rw [← hS2] at g0 g1 g2 g3 f0 f1 f2 f3
      refine ⟨W14, (by rw [← HW14.out, ← hS2]; clear hS2; go_simp), (by show W14 = pick3 w2.drew W13 W14 13 14 (upd dn 14); unfold pick3; rw [show upd dn 14 14 = true from rfl]; rfl), ⟨rfl, fun e => absurd e (by decide)⟩, fun j u _ _ h => ⟨h.1, fun e => by have := h.2 e; simp [upd, this]⟩⟩
    omega
  · intro done f w9 hS hR hall
    obtain rfl : w9 = W14 := by
      have h : w9 = pick3 w2.drew W13 W14 13 14 done := hS
      unfold pick3 at h
      rw [hall 14 (by decide)] at h
      exact h
    have h5 : f 5 = _ := (hR 13 5 rfl).1
    simp only [putAll, List.foldl_cons, List.foldl_nil, Act.put, List.setIfInBounds_toArray, List.set_cons_succ, List.set_cons_zero, h5, List.getD_cons_zero, List.getD_cons_succ]
    clear hR h5 hS hall
    have hW14 : Below w.heap.size w w9 := HB2.out.trans (HB14.out.mono HB2.out.size)
    have HW9 := Lib.hid hW14
    have HFT := Lib.hid (fun W => r5fit_any ((n : Int) / 128) W)
    have hnS : ((n : Int) / 128) = (S : Int) := by have := HNS.out; omega
    have HNSS := Lib.hid hnS
    have hsec : secs l = S := secs_of (by rw [hl]; exact HNS.out) hS
    have HBAD : Hid (fitT (S : Int) < (cn : Int) → decT l = noT ∧ decErr l = 50) := Lib.hid (fun h => by
      have hg : goodB l = false := by
        cases hg : goodB l
        · rfl
        · have := good_count hg
          rw [hcnt, hsec] at this
          omega
      exact ⟨by unfold decT; rw [hg]; rfl, by unfold decErr; rw [hg]; rfl⟩)
    have HGD : Hid (goodB l = (okT ⟨wrap64 (nf : Int), (nm : Int), (nk : Int), chunks cn l20⟩ (S : Int) && (bytesT ⟨wrap64 (nf : Int), (nm : Int), (nk : Int), chunks cn l20⟩ S == l))) := Lib.hid (by unfold goodB; rw [hcand, hsec, decide_eq_true (show S ≠ 0 by omega), Bool.true_and])
    have HFI : Hid (TV.Fine ⟨wrap64 (nf : Int), (nm : Int), (nk : Int), chunks cn l20⟩) := Lib.hid (by rw [← hcand]; exact cand_fine l)
    have HCA := Lib.hid hcand
    have HXW := Lib.hid ((HX.out.below N2.out HX.out.lt).below HB14.out ((HX.out.below N2.out HX.out.lt).lt))
    have HL20 := Lib.hid hl20n
    have HRL := Lib.hid (fun W (hb : Below w.heap.size w W) => conv_reads c ((hr.below hb)))
    have hqw : w.heap.size < q := by
      have h1 := HX.out.lt
      have h2 := N2.out.size
      have h3 := HQ.out
      omega
    rw [hnS] at HFT
    have hF0 : fitT (S : Int) = (((S * 128 - 24) / 8 : Nat) : Int) := by
      unfold fitT
      rw [if_pos (inT_iff.2 (by omega))]
      omega
    have HF0 := Lib.hid hF0
    obtain ⟨F, hFF⟩ : ∃ F, fitT (S : Int) = F := ⟨_, rfl⟩
    rw [hFF] at HFT HBAD HF0
    clear hW14 hFF hsec hcnt hF0 hs hl hr hnS hcand hl20n HSD HX
    by_cases hgt : F < (cn : Int)
    · have hd : decide (F < (cn : Int)) = true := decide_eq_true hgt
      obtain ⟨hdt, hde⟩ := HBAD.out hgt
      have HDT := Lib.hid hdt
      have HDE := Lib.hid hde
      have hxr := HXW.out
      have x0 := hxr.cell 0; have x1 := hxr.cell 1; have x2 := hxr.cell 2; have x3 := hxr.cell 3; have f0 := hxr.frozen 0; have f1 := hxr.frozen 1; have f2 := hxr.frozen 2; have f3 := hxr.frozen 3
      clear hdt hde hgt hxr
      have hns := HNSS.out
      go_wp2_with (first
        | (go_at_call 38; (with_reducible refine (HWC.out w9 HW9.out).mono ?_); rintro e _ ⟨rfl, rfl⟩)
        | (go_at_call 13; (with_reducible refine (HFT.out w9).mono ?_); rintro e _ ⟨rfl, rfl⟩))
      refine bodyPost_ret (results_tile2 rfl rfl rfl (blk_tile _ _ _ _ HXW.out)) rfl ?_
      have hk := keep_tile w9 w.heap.size (.int .i64 0) (.int .i64 0) (.int .i64 0) (.slice none 0 0)
      rw [HDT.out, HDE.out]
      exact ⟨none, 0, rfl, ⟨rfl, Reads.none_, by unfold noT; simp, noT_fine⟩, HW9.out.trans (hk.below HW9.out.size (fun i hi e => by omega))⟩
    · have hd : decide (F < (cn : Int)) = false := decide_eq_false hgt
      have hcn20 : 8 * cn ≤ l20.length := by have := HL20.out; have := HF0.out; have := HNS.out; omega
      have hns := HNSS.out
      go_wp2_with (first
        | (go_at_call 38; (with_reducible refine (HWC.out w9 HW9.out).mono ?_); rintro e _ ⟨rfl, rfl⟩)
        | (go_at_call 13; (with_reducible refine (HFT.out w9).mono ?_); rintro e _ ⟨rfl, rfl⟩))
      obtain ⟨N, hN⟩ : ∃ N, N = w9 := ⟨_, rfl⟩
      rw [← hN] at HXW HW9 HX14 ⊢
      have hqN : q < N.heap.size := HX14.out.lt
      have HQN := Lib.hid hqN
      clear hN hgt hd hqN
      obtain ⟨i0, hi, hz0, hz1, hz2⟩ := info_parts infoI64
      go_loopw [7] (fun i wr => ∃ (j : Nat) (A8 : Option Addr) (c8 : Nat), j ≤ cn ∧ i = .int .i64 ((j : Nat) : Int) ∧ Blk wr q 24 #[.int .i64 (wrap64 (nf : Int)), .int .i64 (nm : Int), .int .i64 (nk : Int), .slice A8 j c8] ∧ wr.ownsRow N.heap.size 2 1 (.slice A8 j c8) j ((chunks j l20).map iv) ∧ Keep (fun i => i = q) N wr) (fun i _ => cn - (intOf i).toNat)
      case atStart => exact ⟨0, none, 0, Nat.zero_le _, rfl, HX14.out, World.ownsRow_nil _ _ _ _, Keep.refl _ _⟩
      case round =>
        obtain ⟨j, A8, c8, hj, rfl, hT, hO, hK⟩ := hrel
        by_cases hlt : j < cn
        · have hsn := chunks_snoc j l20 (by omega)
          obtain ⟨nx, hnx⟩ : ∃ x, num ((l20.drop (8 * j)).take 8) = x := ⟨_, rfl⟩
          obtain ⟨p, hp⟩ : ∃ p, 20 + 8 * j = p := ⟨_, rfl⟩
          have hpn : p + 8 ≤ n := by have := HL20.out; omega
          have hwx := HWE.out j (by omega)
          rw [hnx, hp] at hwx
          rw [hnx] at hsn
          have hnb : nx < 18446744073709551616 := by rw [← hnx]; exact num_lt' _ 8 _ (by rw [List.length_take]; omega) (by decide)
          have hmap : (chunks (j + 1) l20).map iv = (chunks j l20).map iv ++ [.int .i64 (wrap64 (nx : Int))] := by rw [hsn, List.map_append]; rfl
          have hsz := hK.size
          obtain ⟨W12, hW12⟩ : ∃ W, wr.drew.alloc (.cells #[.int .i64 (wrap64 (nx : Int))] 2) = W := ⟨_, rfl⟩
          have hO12 : W12.ownsRow N.heap.size 2 1 (.slice A8 j c8) j ((chunks j l20).map iv) := by rw [← hW12]; exact (World.ownsRow.drew hO).alloc _
          have hr12 : Reads W12 W12.heap.size 1 (some ⟨wr.heap.size, 0, none⟩) 1 [.int .i64 (wrap64 (nx : Int))] := by
            rw [← hW12]
            exact reads_row wr.drew _ 2 _ 1 rfl rfl
          have hs12 : W12.heap.size = wr.heap.size + 1 := by rw [← hW12]; exact World.size_alloc _ _
          have hb12 : Below wr.heap.size wr W12 := by rw [← hW12]; exact (Below.refl _ wr).drew.alloc (Nat.le_refl _) _
          obtain ⟨v9, W13, hrun, hO13, hg13, _⟩ := run_append_any (P := Try.prog) (w := W12) N.heap.size 22 22 2 i0 (.int .i64 0) 1 8 Try.underlying22 hi hz0 hz1 hz2 rfl (by decide) _ j _ hO12 _ _ 1 1 _ hr12 (fun u hu => by rw [List.mem_singleton.1 hu]; rfl) (by unfold maxLen; omega) (by omega) (by omega)
          rw [← hmap] at hO13
          obtain ⟨A9, c9, rfl⟩ : ∃ A' c', v9 = .slice A' (j + 1) c' := by
            rcases hO13.2 with ⟨_, h0⟩ | ⟨g, cap, cur, e, _⟩
            · omega
            · exact ⟨_, cap, e⟩
          have hk13 : Keep (fun i => N.heap.size ≤ i) W12 W13 := (Keep.refl _ _).grown hg13 (fun g e _ => (own_is hO12 g e).1)
          have hkw : Keep (fun i => N.heap.size ≤ i) wr W13 := (Keep.of_below (S := fun i => N.heap.size ≤ i) hb12).trans hk13 (fun _ _ h => h)
          have hT12 := hT.below hb12 hT.lt
          have hT13 := hkw.blk hT (by have := HQN.out; omega)
          obtain ⟨W15, hW15⟩ : ∃ W, W13.setCell ⟨q, 3, none⟩ (.slice A9 (j + 1) c9) = W := ⟨_, rfl⟩
          have hk15 : Keep (fun i => i = q) W13 W15 := by rw [← hW15]; exact (Keep.refl _ _).setCell _ _ (fun _ => rfl)
          have hT15 : Blk W15 q 24 #[.int .i64 (wrap64 (nf : Int)), .int .i64 (nm : Int), .int .i64 (nk : Int), .slice A9 (j + 1) c9] := by rw [← hW15]; exact hT13.set_ 3 _
          have hO15 := hk15.own hO13 (fun g e e2 => by have := (own_is hO13 g e).1; have := HQN.out; omega)
          have hKN13 : Keep (fun i => i = q) N W13 := hK.trans hkw (fun i hi e => by omega)
          have hKN15 : Keep (fun i => i = q) N W15 := hKN13.trans hk15 (fun _ _ h => h)
          have hKN12 : Keep (fun i => i = q) N W12 := hK.trans (Keep.of_below (S := fun i => i = q) hb12) (fun _ _ h => h)
          have below_of : ∀ W, Keep (fun i => i = q) N W → Below w.heap.size w W := fun W h => HW9.out.trans (h.below HW9.out.size (fun i hi e => by omega))
          have PKB : Hid (∀ dn, Below w.heap.size w (pick4 wr.drew W12 W13 W15 12 13 15 dn)) := Lib.hid (pick4_all (below_of _ hK).drew (below_of _ hKN12) (below_of _ hKN13) (below_of _ hKN15))
          have HRD : Hid (∀ dn : Nat → Bool, dn 13 = false → dn 15 = false → (pick4 wr.drew W12 W13 W15 12 13 15 dn).cell? ⟨q, 3, none⟩ = some (.slice A8 j c8)) := Lib.hid (fun dn h13 h15 => by
            unfold pick4
            rw [h15, h13]
            simp only [Bool.false_eq_true, if_false]
            split
            · exact hT12.cell 3
            · exact hT.cell 3)
          have HG3 : Hid (W13.cell? ⟨q, 3, none⟩ = some (.slice A8 j c8) ∧ W13.frozen? ⟨q, 3, none⟩ = false) := Lib.hid ⟨hT13.cell 3, hT13.frozen 3⟩
          have HRUN := Lib.hid hrun
          have HW12 := Lib.hid hW12
          have HW15 := Lib.hid hW15
          have HP1 : Hid ((20 : Int) + 8 * (j : Int) = (p : Int)) := Lib.hid (by omega)
          obtain ⟨p8, hp8⟩ : ∃ p8, p + 8 = p8 := ⟨_, rfl⟩
          have HP8 : Hid ((28 : Int) + 8 * (j : Int) = (p8 : Int)) := Lib.hid (by omega)
          have HPB : Hid (p ≤ p8 ∧ p8 ≤ c ∧ p8 - p = 8 ∧ ¬ c = p) := Lib.hid (by omega)
          have HFX : Hid (IntKind.i64.wrap (nx : Int) = wrap64 (nx : Int)) := Lib.hid (by rw [IntKind.wrap_i64]; unfold wrap64; omega)
          have HW8 : Hid (IntKind.i64.wrap (8 * (j : Int)) = 8 * (j : Int)) := Lib.hid (by rw [IntKind.wrap_i64]; have := HL20.out; omega)
          have HWP : Hid (IntKind.i64.wrap (p : Int) = (p : Int)) := Lib.hid (by rw [IntKind.wrap_i64]; omega)
          have HWP8 : Hid (IntKind.i64.wrap (p8 : Int) = (p8 : Int)) := Lib.hid (by rw [IntKind.wrap_i64]; omega)
          have HWX := Lib.hid hwx
          have HT15 := Lib.hid hT15
          have HO15 := Lib.hid hO15
          have HK15 := Lib.hid hKN15
          have hjb : j ≤ 9000 := by have := HL20.out; omega
          clear hT hO hK hsn hnx hp hpn hwx hnb hmap hsz hW12 hO12 hr12 hs12 hb12 hrun hO13 hg13 hk13 hkw hT12 hT13 hW15 hk15 hT15 hO15 hKN13 hKN15 hKN12 below_of hp8
          go_wp2
          refine wp_region_done_on (fun dn W => W = pick4 wr.drew W12 W13 W15 12 13 15 dn) (fun dn i v _ => v = ([.pointer (some ⟨q, 3, none⟩), .slice A8 j c8, .slice (some ad) n c, .int .i64 (j : Int), .int .i64 (8 * (j : Int)), .int .i64 (p : Int), .int .i64 (j : Int), .int .i64 (8 * (j : Int)), .int .i64 (p8 : Int), .slice (some (ad.add p)) 8 (c - p), .int .u64 (nx : Int), .int .i64 (wrap64 (nx : Int)), .slice (some ⟨wr.heap.size, 0, none⟩) 1 1, .slice A9 (j + 1) c9, .pointer (some ⟨q, 3, none⟩)] : List Value).getD i undef ∧ (i = 12 → dn 12 = true) ∧ (i = 13 → dn 13 = true)) (by kernel_rfl) 78 rfl (by kernel_rfl) (rfl) ?_ ?_
          · intro i hi
            have hi2 : i < 16 := hi
            clear hi
            rcases i with _ | i
            · refine done_value (fun _ _ h => h) (fun dn j u w h => ⟨h.1, fun e => by have := h.2.1 e; simp [upd, this], fun e => by have := h.2.2 e; simp [upd, this]⟩) (.pointer (some ⟨q, 3, none⟩)) rfl ?_
              intro dn a8 w8 hS ho hn
              have o5 : a8.tmps[5]? = some _ := (ho 5 (by kernel_rfl)).trans rfl
              clear ho hn
              refine ⟨wanted_free rfl, ?_, rfl, fun e => absurd e (by decide), fun e => absurd e (by decide)⟩
              go_simp
            rcases i with _ | i
            · refine done_read (fun _ _ h => h) (fun dn j u w h => ⟨h.1, fun e => by have := h.2.1 e; simp [upd, this], fun e => by have := h.2.2 e; simp [upd, this]⟩) (.slice A8 j c8) rfl ?_
              intro dn a8 w8 hS hx ho hn
              obtain ⟨_, n44, rfl, fa44⟩ := hn 0 44 (by kernel_rfl) rfl
              clear ho hn
              refine ⟨wanted_free rfl, ?_, rfl, fun e => absurd e (by decide), fun e => absurd e (by decide)⟩
              have h15 : dn 15 = false := hx 15 (by kernel_rfl)
              have h13 : dn 13 = false := hx 13 (by kernel_rfl)
              have h1 := HRD.out dn h13 h15
              have hS2 : w8 = pick4 wr.drew W12 W13 W15 12 13 15 dn := hS
              subst hS2
              clear hS
              go_simp
            rcases i with _ | i
            · refine done_value (fun _ _ h => h) (fun dn j u w h => ⟨h.1, fun e => by have := h.2.1 e; simp [upd, this], fun e => by have := h.2.2 e; simp [upd, this]⟩) (.slice (some ad) n c) rfl ?_
              intro dn a8 w8 hS ho hn
              have o0 : a8.tmps[0]? = some _ := (ho 0 (by kernel_rfl)).trans rfl
              clear ho hn
              refine ⟨wanted_free rfl, ?_, rfl, fun e => absurd e (by decide), fun e => absurd e (by decide)⟩
              go_simp
            rcases i with _ | i
            · refine done_value (fun _ _ h => h) (fun dn j u w h => ⟨h.1, fun e => by have := h.2.1 e; simp [upd, this], fun e => by have := h.2.2 e; simp [upd, this]⟩) (.int .i64 (j : Int)) rfl ?_
              intro dn a8 w8 hS ho hn
              have o7 : a8.tmps[7]? = some _ := (ho 7 (by kernel_rfl)).trans rfl
              clear ho hn
              refine ⟨wanted_free rfl, ?_, rfl, fun e => absurd e (by decide), fun e => absurd e (by decide)⟩
              go_simp
            rcases i with _ | i
            · refine done_value (fun _ _ h => h) (fun dn j u w h => ⟨h.1, fun e => by have := h.2.1 e; simp [upd, this], fun e => by have := h.2.2 e; simp [upd, this]⟩) (.int .i64 (8 * (j : Int))) rfl ?_
              intro dn a8 w8 hS ho hn
              obtain ⟨_, n47, rfl, fa47⟩ := hn 3 47 (by kernel_rfl) rfl
              clear ho hn
              refine ⟨wanted_free rfl, ?_, rfl, fun e => absurd e (by decide), fun e => absurd e (by decide)⟩
              go_simp
              exact HW8.out
            rcases i with _ | i
            · refine done_value (fun _ _ h => h) (fun dn j u w h => ⟨h.1, fun e => by have := h.2.1 e; simp [upd, this], fun e => by have := h.2.2 e; simp [upd, this]⟩) (.int .i64 (p : Int)) rfl ?_
              intro dn a8 w8 hS ho hn
              obtain ⟨_, n48, rfl, fa48⟩ := hn 4 48 (by kernel_rfl) rfl
              clear ho hn
              refine ⟨wanted_free rfl, ?_, rfl, fun e => absurd e (by decide), fun e => absurd e (by decide)⟩
              have hq1 := HP1.out
              go_simp
              exact HWP.out
            rcases i with _ | i
            · refine done_value (fun _ _ h => h) (fun dn j u w h => ⟨h.1, fun e => by have := h.2.1 e; simp [upd, this], fun e => by have := h.2.2 e; simp [upd, this]⟩) (.int .i64 (j : Int)) rfl ?_
              intro dn a8 w8 hS ho hn
              have o7 : a8.tmps[7]? = some _ := (ho 7 (by kernel_rfl)).trans rfl
              clear ho hn
              refine ⟨wanted_free rfl, ?_, rfl, fun e => absurd e (by decide), fun e => absurd e (by decide)⟩
              go_simp
            rcases i with _ | i
            · refine done_value (fun _ _ h => h) (fun dn j u w h => ⟨h.1, fun e => by have := h.2.1 e; simp [upd, this], fun e => by have := h.2.2 e; simp [upd, this]⟩) (.int .i64 (8 * (j : Int))) rfl ?_
              intro dn a8 w8 hS ho hn
              obtain ⟨_, n50, rfl, fa50⟩ := hn 6 50 (by kernel_rfl) rfl
              clear ho hn
              refine ⟨wanted_free rfl, ?_, rfl, fun e => absurd e (by decide), fun e => absurd e (by decide)⟩
              go_simp
              exact HW8.out
            rcases i with _ | i
            · refine done_value (fun _ _ h => h) (fun dn j u w h => ⟨h.1, fun e => by have := h.2.1 e; simp [upd, this], fun e => by have := h.2.2 e; simp [upd, this]⟩) (.int .i64 (p8 : Int)) rfl ?_
              intro dn a8 w8 hS ho hn
              obtain ⟨_, n51, rfl, fa51⟩ := hn 7 51 (by kernel_rfl) rfl
              clear ho hn
              refine ⟨wanted_free rfl, ?_, rfl, fun e => absurd e (by decide), fun e => absurd e (by decide)⟩
              have hq1 := HP8.out
              go_simp
              exact HWP8.out
            rcases i with _ | i
            · refine done_value (fun _ _ h => h) (fun dn j u w h => ⟨h.1, fun e => by have := h.2.1 e; simp [upd, this], fun e => by have := h.2.2 e; simp [upd, this]⟩) (.slice (some (ad.add p)) 8 (c - p)) rfl ?_
              intro dn a8 w8 hS ho hn
              obtain ⟨_, n46, rfl, fa46⟩ := hn 2 46 (by kernel_rfl) rfl
              obtain ⟨_, n49, rfl, fa49⟩ := hn 5 49 (by kernel_rfl) rfl
              obtain ⟨_, n52, rfl, fa52⟩ := hn 8 52 (by kernel_rfl) rfl
              clear ho hn
              refine ⟨wanted_free rfl, ?_, rfl, fun e => absurd e (by decide), fun e => absurd e (by decide)⟩
              have b1 := HPB.out
              go_simp
            rcases i with _ | i
            · refine done_call 38 #[.slice (some (ad.add p)) 8 (c - p)] rfl ?_
              intro dn a8 w8 hS hd hx ho hn
              obtain ⟨_, n53, rfl, fa53⟩ := hn 9 53 (by kernel_rfl) rfl
              clear ho hn
              refine ⟨wanted_free rfl, by go_simp, ?_⟩
              have hS2 : w8 = pick4 wr.drew W12 W13 W15 12 13 15 dn := hS
              subst hS2
              refine (HWX.out _ (PKB.out dn)).mono ?_
              rintro e w9 ⟨rfl, rfl⟩
              exact ⟨_, rfl, rfl, ⟨rfl, fun e => absurd e (by decide), fun e => absurd e (by decide)⟩, fun j u _ _ h => ⟨h.1, fun e => by have := h.2.1 e; simp [upd, this], fun e => by have := h.2.2 e; simp [upd, this]⟩⟩
            rcases i with _ | i
            · refine done_value (fun _ _ h => h) (fun dn j u w h => ⟨h.1, fun e => by have := h.2.1 e; simp [upd, this], fun e => by have := h.2.2 e; simp [upd, this]⟩) (.int .i64 (wrap64 (nx : Int))) rfl ?_
              intro dn a8 w8 hS ho hn
              obtain ⟨_, n54, rfl, fa54⟩ := hn 10 54 (by kernel_rfl) rfl
              clear ho hn
              refine ⟨wanted_free rfl, ?_, rfl, fun e => absurd e (by decide), fun e => absurd e (by decide)⟩
              go_simp
              exact HFX.out
            rcases i with _ | i
            · refine done_make rfl ?_
              intro dn a8 w8 hS hd hx ho hn
              obtain ⟨_, n55, rfl, fa55⟩ := hn 11 55 (by kernel_rfl) rfl
              clear ho hn
              refine ⟨wanted_free rfl, ?_⟩
              have h12 : dn 12 = false := hd
              have h13 : dn 13 = false := hx 13 (by kernel_rfl)
              have h15 : dn 15 = false := hx 15 (by kernel_rfl)
              have hS2 : w8 = wr.drew := by { have h : w8 = pick4 wr.drew W12 W13 W15 12 13 15 dn := hS; unfold pick4 at h; rw [h15, h13, h12] at h; exact h }
              subst hS2
              refine ⟨.slice (some ⟨wr.heap.size, 0, none⟩) 1 1, W12, (by rw [← HW12.out]; clear hS; go_simp), (by show W12 = pick4 wr.drew W12 W13 W15 12 13 15 (upd dn 12); unfold pick4; rw [show upd dn 12 15 = false from h15, show upd dn 12 13 = false from h13, show upd dn 12 12 = true from rfl]; rfl), ⟨rfl, fun _ => rfl, fun e => absurd e (by decide)⟩, fun j u _ _ h => ⟨h.1, fun e => by have := h.2.1 e; simp [upd, this], fun e => by have := h.2.2 e; simp [upd, this]⟩⟩
            rcases i with _ | i
            · refine done_make rfl ?_
              intro dn a8 w8 hS hd hx ho hn
              obtain ⟨_, n45, rfl, fa45⟩ := hn 1 45 (by kernel_rfl) rfl
              obtain ⟨_, n56, hR56⟩ := hn 12 56 (by kernel_rfl) rfl
              clear ho hn
              refine ⟨wanted_free rfl, ?_⟩
              obtain ⟨rfl, fa56, _⟩ := hR56
              have h12 : dn 12 = true := fa56 rfl
              have h13 : dn 13 = false := hd
              have h15 : dn 15 = false := hx 15 (by kernel_rfl)
              have hS2 : w8 = W12 := by { have h : w8 = pick4 wr.drew W12 W13 W15 12 13 15 dn := hS; unfold pick4 at h; rw [h15, h13, h12] at h; exact h }
              subst hS2
              exact ⟨.slice A9 (j + 1) c9, W13, exec_append _ _ 22 rfl (eval_of n45) (eval_of n56) HRUN.out, (by show W13 = pick4 wr.drew w8 W13 W15 12 13 15 (upd dn 13); unfold pick4; rw [show upd dn 13 15 = false from h15, show upd dn 13 13 = true from rfl]; rfl), ⟨rfl, fun e => absurd e (by decide), fun _ => rfl⟩, fun j u _ _ h => ⟨h.1, fun e => by have := h.2.1 e; simp [upd, this], fun e => by have := h.2.2 e; simp [upd, this]⟩⟩
            rcases i with _ | i
            · refine done_value (fun _ _ h => h) (fun dn j u w h => ⟨h.1, fun e => by have := h.2.1 e; simp [upd, this], fun e => by have := h.2.2 e; simp [upd, this]⟩) (.pointer (some ⟨q, 3, none⟩)) rfl ?_
              intro dn a8 w8 hS ho hn
              have o5 : a8.tmps[5]? = some _ := (ho 5 (by kernel_rfl)).trans rfl
              clear ho hn
              refine ⟨wanted_free rfl, ?_, rfl, fun e => absurd e (by decide), fun e => absurd e (by decide)⟩
              go_simp
            rcases i with _ | i
            · refine done_store rfl rfl ?_
              intro dn a8 w8 hS hd hx ho hn
              obtain ⟨_, n58, rfl, fa58⟩ := hn 14 58 (by kernel_rfl) rfl
              obtain ⟨_, n57, hR57⟩ := hn 13 57 (by kernel_rfl) rfl
              clear ho hn
              refine ⟨wanted_free rfl, ?_⟩
              obtain ⟨rfl, _, fa57⟩ := hR57
              have h15 : dn 15 = false := hd
              have h13 : dn 13 = true := fa57 rfl
              have hS2 : w8 = W13 := by { have h : w8 = pick4 wr.drew W12 W13 W15 12 13 15 dn := hS; unfold pick4 at h; rw [h15, h13] at h; exact h }
              clear hS
              obtain ⟨g3, f3⟩ := HG3.out
              rw [← hS2] at g3 f3
              refine ⟨W15, (by rw [← HW15.out, ← hS2]; clear hS2; go_simp), (by show W15 = pick4 wr.drew W12 W13 W15 12 13 15 (upd dn 15); unfold pick4; rw [show upd dn 15 15 = true from rfl]; rfl), ⟨rfl, fun e => absurd e (by decide), fun e => absurd e (by decide)⟩, fun j u _ _ h => ⟨h.1, fun e => by have := h.2.1 e; simp [upd, this], fun e => by have := h.2.2 e; simp [upd, this]⟩⟩
            omega
          · intro done fv w5 hS5 hR5 hall
            obtain rfl : w5 = W15 := by
              have h : w5 = pick4 wr.drew W12 W13 W15 12 13 15 done := hS5
              unfold pick4 at h
              rw [hall 15 (by decide)] at h
              exact h
            simp only [putAll, List.foldl_cons, List.foldl_nil, Act.put, List.setIfInBounds_toArray, List.set_cons_succ, List.set_cons_zero]
            clear hR5 hS5 hall
            go_wp2
            exact ⟨⟨j + 1, A9, c9, by omega, by go_num, HT15.out, HO15.out, HK15.out⟩, by simp [intOf]; omega⟩
        · obtain rfl : cn = j := by omega
          have hlen : (chunks cn l20).length = cn := by have := hO.1; simpa using this
          have hTE : TEl wr ⟨wrap64 (nf : Int), (nm : Int), (nk : Int), chunks cn l20⟩ A8 cn := ⟨hlen, Reads.of_own hO, by have := HL20.out; omega, HFI.out⟩
          have hbw : Below w.heap.size w wr := HW9.out.trans (hK.below HW9.out.size (fun i hi e => by omega))
          have hxr : Blk wr w.heap.size 24 #[.int .i64 0, .int .i64 0, .int .i64 0, .slice none 0 0] := hK.blk HXW.out (by omega)
          have hen := r5encode_any ⟨wrap64 (nf : Int), (nm : Int), (nk : Int), chunks cn l20⟩ (S : Int) A8 cn c8 wr hTE
          have y0 := hT.cell 0
          have y1 := hT.cell 1
          have y2 := hT.cell 2
          have y3 := hT.cell 3
          have HT := Lib.hid hT
          have HO := Lib.hid hO
          have HTE := Lib.hid hTE
          have HBW := Lib.hid hbw
          have HXR := Lib.hid hxr
          have HLEN := Lib.hid hlen
          have HNW : Hid (w.heap.size < N.heap.size) := Lib.hid (by have := HQN.out; omega)
          obtain ⟨T, hTT⟩ : ∃ T : TV, T = ⟨wrap64 (nf : Int), (nm : Int), (nk : Int), chunks cn l20⟩ := ⟨_, rfl⟩
          have hgd := HGD.out
          have hca := HCA.out
          have e0 : T.file = wrap64 (nf : Int) := by rw [hTT]
          have e1 : T.no = (nm : Int) := by rw [hTT]
          have e2 : T.kind = (nk : Int) := by rw [hTT]
          have e3 : T.el = chunks cn l20 := by rw [hTT]
          rw [← hTT] at hgd hca hen HTE
          unfold tv at hen
          rw [e0, e1, e2] at hen
          have HE0 := Lib.hid e0
          have HE1 := Lib.hid e1
          have HE2 := Lib.hid e2
          have HE3 := Lib.hid e3
          obtain ⟨L, hL⟩ : ∃ L, outT T (S : Int) = L := ⟨_, rfl⟩
          obtain ⟨m, hm⟩ : ∃ m, L.length = m := ⟨_, rfl⟩
          obtain ⟨er, her⟩ : ∃ er, errT T (S : Int) = er := ⟨_, rfl⟩
          rw [hL, hm, her] at hen
          have HE := Lib.hid hen
          have hgb : (er = 0 ∨ er = 50) ∧ goodB l = (er == 0 && L == l) := by
            rw [hgd, ← hL, ← her]
            unfold errT outT
            cases okT T (S : Int) <;> simp
          obtain ⟨hor, hgb⟩ := hgb
          have htl := tl
          clear hT hO hK hlen hTE hbw hxr hen hTT hgd hca e0 e1 e2 e3 hL hm her
          have HDN : Hid (goodB l = false → decT l = noT ∧ decErr l = 50) := Lib.hid (fun hg => ⟨by unfold decT; rw [hg]; rfl, by unfold decErr; rw [hg]; rfl⟩)
          rcases hor with rfl | rfl
          · obtain ⟨b, hb⟩ : ∃ b, (L == l) = b := ⟨_, rfl⟩
            have hb2 : (L != l) = !b := by rw [← hb]; rfl
            have hgb2 : goodB l = b := by rw [hgb, hb]; rfl
            clear hgb
            cases b
            · obtain ⟨hdt, hde⟩ := HDN.out hgb2
              have HDT := Lib.hid hdt
              have HDE := Lib.hid hde
              clear hdt hde hgb2
              go_wp2_with (go_at_call 10; (with_reducible refine HE.out.mono ?_); rintro e w7 ⟨A7, c7, rfl, o7, b7⟩; have hx7 := HXR.out.below b7 HXR.out.lt; have x0 := hx7.cell 0; have x1 := hx7.cell 1; have x2 := hx7.cell 2; have x3 := hx7.cell 3; have f0 := hx7.frozen 0; have f1 := hx7.frozen 1; have f2 := hx7.frozen 2; have f3 := hx7.frozen 3; have ht7 := HT.out.below b7 HT.out.lt; have y0 := ht7.cell 0; have y1 := ht7.cell 1; have y2 := ht7.cell 2; have y3 := ht7.cell 3; have cva := conv_reads c7 (Reads.of_own o7); have cvb := HRL.out w7 (HBW.out.trans (b7.mono HBW.out.size)); have HX7 := Lib.hid hx7; have HB7 := Lib.hid (HBW.out.trans (b7.mono HBW.out.size)); have B7 := Lib.hid b7; clear b7 o7 hx7 ht7)
              refine bodyPost_ret (results_tile2 rfl rfl rfl (blk_tile _ _ _ _ HX7.out)) rfl ?_
              have hk := keep_tile w7 w.heap.size (.int .i64 0) (.int .i64 0) (.int .i64 0) (.slice none 0 0)
              rw [HDT.out, HDE.out]
              exact ⟨none, 0, rfl, ⟨rfl, Reads.none_, by unfold noT; simp, noT_fine⟩, HB7.out.trans (hk.below HB7.out.size (fun i hi e => by omega))⟩
            · have hdt : decT l = candT l := by unfold decT; rw [hgb2]; rfl
              have hde : decErr l = 0 := by unfold decErr; rw [hgb2]; rfl
              have HDT := Lib.hid hdt
              have HDE := Lib.hid hde
              clear hdt hde hgb2
              go_wp2_with (go_at_call 10; (with_reducible refine HE.out.mono ?_); rintro e w7 ⟨A7, c7, rfl, o7, b7⟩; have hx7 := HXR.out.below b7 HXR.out.lt; have x0 := hx7.cell 0; have x1 := hx7.cell 1; have x2 := hx7.cell 2; have x3 := hx7.cell 3; have f0 := hx7.frozen 0; have f1 := hx7.frozen 1; have f2 := hx7.frozen 2; have f3 := hx7.frozen 3; have ht7 := HT.out.below b7 HT.out.lt; have y0 := ht7.cell 0; have y1 := ht7.cell 1; have y2 := ht7.cell 2; have y3 := ht7.cell 3; have cva := conv_reads c7 (Reads.of_own o7); have cvb := HRL.out w7 (HBW.out.trans (b7.mono HBW.out.size)); have HX7 := Lib.hid hx7; have HB7 := Lib.hid (HBW.out.trans (b7.mono HBW.out.size)); have B7 := Lib.hid b7; clear b7 o7 hx7 ht7)
              refine bodyPost_ret (results_tile2 rfl rfl rfl (blk_tile _ _ _ _ HX7.out)) rfl ?_
              have hk := keep_tile w7 w.heap.size (.int .i64 (wrap64 (nf : Int))) (.int .i64 (nm : Int)) (.int .i64 (nk : Int)) (.slice A8 cn c8)
              have ho7 := own_stay HO.out B7.out
              have ho := hk.own ho7 (fun g e e2 => by have := (own_is ho7 g e).1; have := HNW.out; omega)
              have hcT : candT l = T := by rw [HCA.out, ← HE0.out, ← HE1.out, ← HE2.out, ← HE3.out]
              rw [HDT.out, HDE.out, hcT]
              have hel : T.el.length = cn := HTE.out.len
              refine ⟨A8, c8, by unfold tv; rw [hel, HE0.out, HE1.out, HE2.out]; rfl, ⟨rfl, ?_, by rw [hel]; exact HTE.out.big, HTE.out.fine⟩, HB7.out.trans (hk.below HB7.out.size (fun i hi e => by omega))⟩
              rw [hel, HE3.out]
              exact Reads.of_own ho
          · have hgb2 : goodB l = false := hgb
            obtain ⟨hdt, hde⟩ := HDN.out hgb2
            have HDT := Lib.hid hdt
            have HDE := Lib.hid hde
            clear hdt hde hgb2 hgb
            go_wp2_with (go_at_call 10; (with_reducible refine HE.out.mono ?_); rintro e w7 ⟨A7, c7, rfl, o7, b7⟩; have hx7 := HXR.out.below b7 HXR.out.lt; have x0 := hx7.cell 0; have x1 := hx7.cell 1; have x2 := hx7.cell 2; have x3 := hx7.cell 3; have f0 := hx7.frozen 0; have f1 := hx7.frozen 1; have f2 := hx7.frozen 2; have f3 := hx7.frozen 3; have ht7 := HT.out.below b7 HT.out.lt; have y0 := ht7.cell 0; have y1 := ht7.cell 1; have y2 := ht7.cell 2; have y3 := ht7.cell 3; have cva := conv_reads c7 (Reads.of_own o7); have cvb := HRL.out w7 (HBW.out.trans (b7.mono HBW.out.size)); have HX7 := Lib.hid hx7; have HB7 := Lib.hid (HBW.out.trans (b7.mono HBW.out.size)); have B7 := Lib.hid b7; clear b7 o7 hx7 ht7)
            refine bodyPost_ret (results_tile2 rfl rfl rfl (blk_tile _ _ _ _ HX7.out)) rfl ?_
            have hk := keep_tile w7 w.heap.size (.int .i64 0) (.int .i64 0) (.int .i64 0) (.slice none 0 0)
            rw [HDT.out, HDE.out]
            exact ⟨none, 0, rfl, ⟨rfl, Reads.none_, by unfold noT; simp, noT_fine⟩, HB7.out.trans (hk.below HB7.out.size (fun i hi e => by omega))⟩

theorem r5decode_any (A : Option Addr) (c n : Nat) (l : List UInt8) (w : World) (hl : l.length = n) (hr : Reads w w.heap.size 1 A n (l.map bv)) (hc : n ≤ c ∧ c ≤ 9223372036854775807) (hn : n ≤ 140737488355000) :
    Calls Try.prog 16 #[.slice A n c] w fun e w' => ∃ A' c', e = .returned (.tuple #[tv (decT l) A' (decT l).el.length c', .int .i64 (decErr l)]) ∧ TEl w' (decT l) A' (decT l).el.length ∧ Below w.heap.size w w' := by
  by_cases hs : soundB l = true
  · have h0 : secs l ≠ 0 := by
      intro h
      unfold soundB at hs
      rw [h] at hs
      simp at hs
    obtain ⟨h1, h2, h3⟩ := secs_some h0
    obtain ⟨ad, rfl, _⟩ := hr.2 (by omega)
    exact r5decode_sound ad c n (secs l) l w hl hr hc (by omega) ⟨h2, h3⟩ hs
  · have hs : soundB l = false := by simpa using hs
    have hg : goodB l = false := by
      cases hg : goodB l
      · rfl
      · rw [(good_sound hg).1] at hs
        exact absurd hs (by decide)
    have hdt : decT l = noT := by unfold decT; rw [hg]; rfl
    have hde : decErr l = 50 := by unfold decErr; rw [hg]; rfl
    rw [hdt, hde]
    refine (r5decode_unsound A c n l w hl hr hc hn hs).mono ?_
    rintro e w' ⟨rfl, hb⟩
    exact ⟨none, 0, rfl, ⟨rfl, Reads.none_, by unfold noT; simp, noT_fine⟩, hb⟩

end Go.Proofs.Ytpededkfgjmhcaa.tile

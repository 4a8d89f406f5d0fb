/-
  The walk of the statement TileWrites: how many elements fit, whether any tile may be, and its bytes, or the error, are the document's; the tile stays.
-/
import Derived.Test.YtpededkfgjmhcaaTLaw
import Derived.Test.YtpededkfgjmhcaaTEncR
namespace Go.Proofs.Ytpededkfgjmhcaa.tileWrites
open Go.RowKit Go.Proofs.Ytpededkfgjmhcaa.crc Go.Proofs.Ytpededkfgjmhcaa.crcSeals Go.Proofs.Ytpededkfgjmhcaa.crcJoins Go.Proofs.Ytpededkfgjmhcaa.tile

theorem own_none64 (w : World) (base : Nat) (hb : base ≤ w.heap.size) : (w.alloc (.cells #[] 2)).ownsRow base 2 1 (.slice (some ⟨w.heap.size, 0, none⟩) 0 0) 0 [] :=
  ⟨rfl, .inr ⟨w.heap.size, 0, #[], rfl, hb, heap_alloc_new w _, Nat.le_refl _, by unfold maxLen; omega, rfl, rfl⟩⟩
theorem cells5 {w : World} {q : Nat} {x y z u : Value} (hb : Blk w q 24 #[x, y, z, u]) : ∀ W, Below w.heap.size w W → W.cell? ⟨q, 0, none⟩ = some x ∧ W.cell? ⟨q, 1, none⟩ = some y ∧ W.cell? ⟨q, 2, none⟩ = some z ∧ W.cell? ⟨q, 3, none⟩ = some u := fun W h => by
  have hb := hb.below h hb.lt
  exact ⟨hb.cell 0, hb.cell 1, hb.cell 2, hb.cell 3⟩

section
variable (t : TV) (s : Int) (A : Option Addr) (n c : Nat) (w : World)

set_option maxRecDepth 100000 in
set_option maxHeartbeats 4000000 in
theorem walk_big (h : 1500 < n) (hn : n ≤ 9223372036854775807) :
    Calls Try.prog 3 #[tv t A n c, .int .i64 s] w fun e w' => e = .returned (.bool true) ∧ Below w.heap.size w w' := by
  have hd : decide ((1500 : Int) < (n : Int)) = true := decide_eq_true (by omega)
  unfold tv
  go_enter Try.func3, Try.ntmps3
  go_wp2
  go_ret
  exact ⟨rfl, (Below.refl _ _).alloc (Nat.le_refl _) _⟩

/-- What stands once the copy is made: both tiles in their boxes. -/
structure Two (w W : World) (t : TV) (A A2 : Option Addr) (n c c2 : Nat) : Prop where
  frame : Below w.heap.size w W
  bt : Blk W w.heap.size 24 #[.int .i64 t.file, .int .i64 t.no, .int .i64 t.kind, .slice A n c]
  bx : Blk W (w.heap.size + 1) 24 #[.int .i64 t.file, .int .i64 t.no, .int .i64 t.kind, .slice A2 n c2]
  el : TEl W t A2 n
theorem two_of {w w2 : World} {t : TV} {A : Option Addr} {n c : Nat} {v : Value} (ht : TEl w t A n)
    (hown : w2.ownsRow (w.heap.size + 2) 2 1 v n (t.el.map iv))
    (hg : (((w.alloc (.cells #[.int .i64 t.file, .int .i64 t.no, .int .i64 t.kind, .slice A n c] 24)).alloc (.cells #[.int .i64 t.file, .int .i64 t.no, .int .i64 t.kind, .slice A n c] 24)).alloc (.cells #[] 2)).grownBy w2 (Value.slice (some ⟨w.heap.size + 2, 0, none⟩) 0 0).ownBlock) :
    ∃ A2 c2, v = .slice A2 n c2 ∧ w2.cell? ⟨w.heap.size + 1, 3, none⟩ = some (.slice A n c) ∧ w2.frozen? ⟨w.heap.size + 1, 3, none⟩ = false ∧ Two w (w2.setCell ⟨w.heap.size + 1, 3, none⟩ v) t A A2 n c c2 := by
  obtain ⟨W0, hW0⟩ : ∃ W0, ((w.alloc (.cells #[.int .i64 t.file, .int .i64 t.no, .int .i64 t.kind, .slice A n c] 24)).alloc (.cells #[.int .i64 t.file, .int .i64 t.no, .int .i64 t.kind, .slice A n c] 24)) = W0 := ⟨_, rfl⟩
  have hs0 : W0.heap.size = w.heap.size + 2 := by rw [← hW0]; simp
  have hb0 : Below w.heap.size w W0 := by rw [← hW0]; exact ((Below.refl _ _).alloc (Nat.le_refl _) _).alloc (by simp) _
  have h1 : Blk W0 w.heap.size 24 #[.int .i64 t.file, .int .i64 t.no, .int .i64 t.kind, .slice A n c] := by rw [← hW0]; exact (Blk.new w _ _).alloc _
  have h2 : Blk W0 (w.heap.size + 1) 24 #[.int .i64 t.file, .int .i64 t.no, .int .i64 t.kind, .slice A n c] := by
    rw [← hW0]
    have := Blk.new (w.alloc (.cells #[.int .i64 t.file, .int .i64 t.no, .int .i64 t.kind, .slice A n c] 24)) 24 #[.int .i64 t.file, .int .i64 t.no, .int .i64 t.kind, .slice A n c]
    simpa only [World.size_alloc] using this
  rw [hW0] at hg
  have hk : Below W0.heap.size W0 w2 := ((Below.refl _ W0).alloc (Nat.le_refl _) _).grown hg (by simp) (fun k e => by simp [Value.ownBlock] at e; omega)
  have g1 := h1.below hk h1.lt
  have g2 := h2.below hk h2.lt
  obtain ⟨A2, c2, rfl⟩ : ∃ A2 c2, v = .slice A2 n c2 := by
    rcases hown.2 with ⟨e, h0⟩ | ⟨g, cap, cur, e, _⟩
    · subst h0; exact ⟨none, 0, e⟩
    · exact ⟨_, cap, e⟩
  have hset : Keep (fun i => i = w.heap.size + 1) w2 (w2.setCell ⟨w.heap.size + 1, 3, none⟩ (.slice A2 n c2)) := (Keep.refl _ _).setCell _ _ (fun _ => rfl)
  have ho := hset.own hown (fun g e e2 => by have := (own_is hown g e).1; omega)
  have hsz := hk.size
  refine ⟨A2, c2, rfl, g2.cell 3, g2.frozen 3, ⟨(hb0.trans (hk.mono (by omega))).trans (hset.below (by omega) (fun i hi e => by omega)), hset.blk g1 (by omega), g2.set_ 3 _, ⟨ht.len, Reads.of_own ho, ht.big, ht.fine⟩⟩⟩

set_option maxRecDepth 100000 in
set_option maxHeartbeats 4000000 in
theorem walk_small (ht : TEl w t A n) (h : n ≤ 1500) :
    Calls Try.prog 3 #[tv t A n c, .int .i64 s] w fun e w' => e = .returned (.bool true) ∧ Below w.heap.size w w' := by
  have hd : decide ((1500 : Int) < (n : Int)) = false := decide_eq_false (by omega)
  obtain ⟨i0, hi, hz0, hz1, hz2⟩ := info_parts infoI64
  have HT := Lib.hid ht
  obtain ⟨er, her⟩ : ∃ er, errT t s = er := ⟨_, rfl⟩
  obtain ⟨L, hL⟩ : ∃ L, outT t s = L := ⟨_, rfl⟩
  obtain ⟨m, hm⟩ : ∃ m, L.length = m := ⟨_, rfl⟩
  have HE : Hid (∀ (A2 : Option Addr) (c2 : Nat) (W : World), TEl W t A2 n → Calls Try.prog 9 #[tv t A2 n c2, .int .i64 s] W fun e w' => ∃ A' c', e = .returned (.tuple #[.slice A' m c', .int .i64 er]) ∧ w'.ownsRow W.heap.size 5 1 (.slice A' m c') m (L.map bv) ∧ Below W.heap.size W w') := Lib.hid (fun A2 c2 W h => by
    have he := tencode_any t s A2 n c2 W h
    rw [her, hL] at he
    refine he.mono ?_
    rintro e w' ⟨v, rfl, g⟩
    obtain ⟨A', c', rfl, ho, hb⟩ := gives_len g hm
    exact ⟨A', c', rfl, ho, hb⟩)
  have HR : Hid (∀ (A2 : Option Addr) (c2 : Nat) (W : World), TEl W t A2 n → Calls Try.prog 10 #[tv t A2 n c2, .int .i64 s] W fun e w' => ∃ A' c', e = .returned (.tuple #[.slice A' m c', .int .i64 er]) ∧ w'.ownsRow W.heap.size 5 1 (.slice A' m c') m (L.map bv) ∧ Below W.heap.size W w') := Lib.hid (fun A2 c2 W h => by
    have he := r5encode_any t s A2 n c2 W h
    rw [her, hL, hm] at he
    exact he)
  have HK : Hid (∀ (A2 : Option Addr) (c2 : Nat) (W : World), TEl W t A2 n → Calls Try.prog 11 #[tv t A2 n c2, .int .i64 s] W fun e w' => e = .returned (.int .i64 er) ∧ Below W.heap.size W w') := Lib.hid (fun A2 c2 W h => by
    have he := tcheck_any t s A2 n c2 W h
    rwa [her] at he)
  have HF1 := Lib.hid (fun W => tfit_any s W)
  have HF2 := Lib.hid (fun W => r5fit_any s W)
  generalize fitT s = F at *
  have HS := Lib.hid (same_is (sameT_refl t))
  have HTL := Lib.hid tl
  have hO0 : ((((w.alloc (.cells #[.int .i64 t.file, .int .i64 t.no, .int .i64 t.kind, .slice A n c] 24)).alloc (.cells #[.int .i64 t.file, .int .i64 t.no, .int .i64 t.kind, .slice A n c] 24)).alloc (.cells #[] 2))).ownsRow (w.heap.size + 2) 2 1 (.slice (some ⟨w.heap.size + 2, 0, none⟩) 0 0) 0 [] := by
    have := own_none64 ((w.alloc (.cells #[.int .i64 t.file, .int .i64 t.no, .int .i64 t.kind, .slice A n c] 24)).alloc (.cells #[.int .i64 t.file, .int .i64 t.no, .int .i64 t.kind, .slice A n c] 24)) (w.heap.size + 2) (by simp)
    simpa only [World.size_alloc] using this
  have HO0 := Lib.hid hO0
  have HRD : Hid (Reads (((w.alloc (.cells #[.int .i64 t.file, .int .i64 t.no, .int .i64 t.kind, .slice A n c] 24)).alloc (.cells #[.int .i64 t.file, .int .i64 t.no, .int .i64 t.kind, .slice A n c] 24)).alloc (.cells #[] 2)) w.heap.size 1 A n (t.el.map iv)) := Lib.hid (ht.reads.below ((((Below.refl _ w).alloc (Nat.le_refl _) _).alloc (by simp) _).alloc (by simp; omega) _))
  clear ht her hL hm hO0
  unfold tv at HE HR HK HS ⊢
  go_enter Try.func3, Try.ntmps3
  go_wp2_with (first
    | (at_builtin; refine wpList_append_any _ rfl _ _ 22 rfl (w.heap.size + 2) 2 i0 (.int .i64 0) 1 8 Try.underlying22 hi hz0 hz1 hz2 rfl (by decide) _ 0 [] rfl HO0.out w.heap.size A n c (t.el.map iv) rfl HRD.out (iv_one _) (by unfold maxLen; omega) (by omega) (by simp) ?_; intro v2 w2 o2 g2 _; rw [Nat.zero_add, List.nil_append] at o2; obtain ⟨A2, c2, rfl, q0, q1, h2⟩ := two_of HT.out o2 g2; have H2 := Lib.hid h2; have z0 := h2.bx.cell 0; have z1 := h2.bx.cell 1; have z2 := h2.bx.cell 2; have z3 := h2.bx.cell 3; clear o2 g2 h2))
  obtain ⟨wb, hwb⟩ : ∃ wb, w2.setCell ⟨w.heap.size + 1, 3, none⟩ (.slice A2 n c2) = wb := ⟨_, rfl⟩
  rw [hwb] at H2 ⊢
  have hxt := cells5 H2.out.bt
  have hxx := cells5 H2.out.bx
  have HXT := Lib.hid hxt
  have HXX := Lib.hid hxx
  have HTT := Lib.hid (fun W (h : Below wb.heap.size wb W) => HT.out.below (H2.out.frame.trans (h.mono H2.out.frame.size)))
  have HTX := Lib.hid (fun W (h : Below wb.heap.size wb W) => H2.out.el.below h)
  have htl := HTL.out
  have hll : (L == L) = true := by simp
  clear hwb hxt hxx q0 q1 z0 z1 z2 z3 HO0 HRD
  go_wp2_with (first
    | (go_at_call 9; (with_reducible refine (HE.out A2 c2 wb H2.out.el).mono ?_); rintro e w4 ⟨A4, c4, rfl, o4, b4⟩; have K4 := Lib.hid b4; have O4 := Lib.hid o4; obtain ⟨x0, x1, x2, x3⟩ := HXT.out w4 b4; clear o4 b4)
    | (go_at_call 10; (with_reducible refine (HR.out A c w4 (HTT.out w4 K4.out)).mono ?_); rintro e w5 ⟨A5, c5, rfl, o5, b5⟩; have K5 := Lib.hid (K4.out.trans (b5.mono K4.out.size)); have cva := conv_reads c4 (Reads.of_own (own_stay O4.out b5)); have cvb := conv_reads c5 (Reads.of_own o5); obtain ⟨z0, z1, z2, z3⟩ := HXX.out w5 (K4.out.trans (b5.mono K4.out.size)); clear o5 b5)
    | (go_at_call 11; (with_reducible refine (HK.out A2 c2 w5 (HTX.out w5 K5.out)).mono ?_); rintro e w6 ⟨rfl, b6⟩; have K6 := Lib.hid (K5.out.trans (b6.mono K5.out.size)); obtain ⟨x0, x1, x2, x3⟩ := HXT.out w6 (K5.out.trans (b6.mono K5.out.size)); obtain ⟨z0, z1, z2, z3⟩ := HXX.out w6 (K5.out.trans (b6.mono K5.out.size)); clear b6)
    | (go_at_call 12; (with_reducible refine (HF1.out _).mono ?_); rintro e _ ⟨rfl, rfl⟩)
    | (go_at_call 13; (with_reducible refine (HF2.out _).mono ?_); rintro e _ ⟨rfl, rfl⟩)
    | (go_at_call 14; (with_reducible refine (HS.out A2 A n n c2 c w6 (HTX.out w6 K6.out) (HTT.out w6 K6.out)).mono ?_); rintro e w7 ⟨rfl, b7⟩; have K7 := Lib.hid (K6.out.trans (b7.mono K6.out.size)); clear b7))
  go_ret
  exact ⟨rfl, H2.out.frame.trans (K7.out.mono H2.out.frame.size)⟩
end
/-- As the end calls it. -/
theorem call {W : World} (t : TV) (A : Option Addr) (c : Nat) (ht : TEl W t A t.el.length) (s : Int) (_ : -9223372036854775808 ≤ s) (_ : s ≤ 9223372036854775807) (w : World) (hw : W = w := by rfl) :
    Calls Try.prog 3 #[tv t A t.el.length c, .int .i64 s] w fun e w' => e = .returned (.bool true) ∧ Below w.heap.size w w' := by
  subst hw
  by_cases h : 1500 < t.el.length
  · exact walk_big t s A _ c W h ht.big
  · exact walk_small t s A _ c W ht (by omega)
end Go.Proofs.Ytpededkfgjmhcaa.tileWrites

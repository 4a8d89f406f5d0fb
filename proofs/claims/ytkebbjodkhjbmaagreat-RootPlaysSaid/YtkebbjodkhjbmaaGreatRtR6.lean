/-
  The given root (layer 6) over a given disk: Both, Load, Save; two lists of roots.
-/
import Derived.Test.YtkebbjodkhjbmaaGreatRtLaw
import Derived.Test.YtkebbjodkhjbmaaGreatRtRefD
import Derived.Test.YtkebbjodkhjbmaaGreatKDoB
namespace Go.Proofs.YtkebbjodkhjbmaaGreat.root
open Go.RowKit Go.Proofs.YtkebbjodkhjbmaaGreat.crc

/-- How the given disk's sectors 0 and 1 read. -/
def GAt (w : World) (b : Nat) (er : Nat → Int) (L : Nat → List UInt8) : Prop :=
  ∀ W, Below w.heap.size w W → ∀ k : Nat, k < 2 → Calls Tryz.prog 140 #[.pointer (some ⟨b, 0, none⟩), .int .i64 (k : Int)] W fun e w' => ∃ v, e = .returned (.tuple #[v, .int .i64 (er k)]) ∧ Gives W w' v (L k)
theorem GAt.next {w w' : World} {b : Nat} {er : Nat → Int} {L : Nat → List UInt8} (h : GAt w b er L) (hb : Below w.heap.size w w') : GAt w' b er L := fun W hW => h W (hb.trans (hW.mono hb.size))
theorem gat_rl {Z : Aside} {w : World} {r : RAt} {t : RSt} (h : RL Z w r t) : GAt w r.b (fun k => readErr3 t (k : Int)) (fun k => readOut3 t (k : Int)) := fun W hW k hk => by
  obtain ⟨kv, vs, ws, hd⟩ := h.below hW
  letI : Aside := Z
  exact rread_any (k : Int) (by omega) (by omega) hd

abbrev Rd2 (w : World) (b : Nat) (k : Int) (l : List UInt8) : Prop :=
  ∀ W, Below w.heap.size w W → Calls Tryz.prog 140 #[.pointer (some ⟨b, 0, none⟩), .int .i64 k] W fun e w' => ∃ A c, e = .returned (.tuple #[.slice A l.length c, .int .i64 0]) ∧ Reads w' w'.heap.size 1 A l.length (l.map bv) ∧ (l.length ≤ c ∧ c ≤ 9223372036854775807) ∧ Below W.heap.size W w'
abbrev Dc2 (l : List UInt8) (x : RV) (er : Int) : Prop :=
  ∀ W A c, Reads W W.heap.size 1 A l.length (l.map bv) → (l.length ≤ c ∧ c ≤ 9223372036854775807) → Calls Tryz.prog 141 #[.slice A l.length c] W fun e w' => e = .returned (.tuple #[.agg #[.int .u64 (x.n : Int), .int .i64 x.len, .int .u32 (x.sm : Int)], .int .i64 er]) ∧ Below W.heap.size W w'
def BothAns (w : World) (R : List RV) (e : Ending) (w' : World) : Prop := ∃ A c, e = .returned (.tuple #[.slice A R.length c, .int .i64 0]) ∧ Reads w' w'.heap.size 3 A R.length (rowsR R) ∧ (0 < R.length → ∃ g, A = some ⟨g, 0, none⟩) ∧ Below w.heap.size w w'
theorem reads_blkN {w : World} {g size n : Nat} {t : TypeId} {cs : Array Value} (h : Blk w g t cs) (hn : cs.toList.length = n * size) : Reads w w.heap.size size (some ⟨g, 0, none⟩) n cs.toList :=
  ⟨hn, fun _ => ⟨_, rfl, h.lt, fun j u hu => by
    have hp : (⟨g, 0, none⟩ : Addr).add j = ⟨g, j, none⟩ := by unfold Addr.add; split <;> simp_all
    rw [hp, h.cell, ← Array.getElem?_toList]
    exact hu⟩⟩
theorem blk_new1 (w : World) (o : Obj) (t : TypeId) (cs : Array Value) : Blk ((w.alloc o).alloc (.cells cs t)) (w.heap.size + 1) t cs := by
  have h := Blk.new (w.alloc o) t cs
  rwa [World.size_alloc] at h
theorem dc2_of (l : List UInt8) : Dc2 l (decR l) (decErrR l) := fun W A c hr hc => r6decode_any A c l.length l W rfl hr hc
theorem rd2_of {w : World} {b : Nat} {er : Nat → Int} {L : Nat → List UInt8} (h : GAt w b er L) (k : Nat) (hk : k < 2) (he : er k = 0) : Rd2 w b (k : Int) (L k) := fun W hW => by
  have := h W hW k hk
  rw [he] at this
  refine this.mono ?_
  rintro e w' ⟨v, rfl, A, c, rfl, ho, hb⟩
  exact ⟨A, c, rfl, Reads.of_own ho, own_cap ho, hb⟩

set_option maxRecDepth 100000 in
set_option maxHeartbeats 4000000 in
theorem r6both_eet {w : World} {b : Nat} {la lb : List UInt8} (xn yn : Nat) (xl yl : Int) (xs ys : Nat) (px : (xn : Int) % 2 = 0) (py : (yn : Int) % 2 = 1) (hg : decide (yn < xn) = true) (HA : Rd2 w b 0 la) (HB : Rd2 w b 1 lb) (DA : Dc2 la ⟨xn, xl, xs⟩ 0) (DB : Dc2 lb ⟨yn, yl, ys⟩ 0) :
    Calls Tryz.prog 88 #[.pointer (some ⟨b, 0, none⟩)] w (BothAns w [⟨xn, xl, xs⟩, ⟨yn, yl, ys⟩]) := by
  have ha := Lib.hid HA
  have hb := Lib.hid HB
  have da := Lib.hid DA
  have db := Lib.hid DB
  clear HA HB DA DB
  go_enter Tryz.func88, Tryz.ntmps88
  go_wp2_with (first
    | (go_at_call 141; (have l0 := B3.out; clear l0); (with_reducible refine (db.out (w3.alloc (.cells #[.int .u64 (xn : Int), .int .i64 xl, .int .u32 (xs : Int)] 35)) A2 c2 (((R2.out.below (S23.out)).more S23.out.size |>.alloc (Nat.le_refl _) _).more (by simp)) CP2.out).mono ?_); rintro e w4 ⟨rfl, b4⟩; have B4 := Lib.hid ((B3.out.alloc (by have := B3.out.size; omega) (.cells #[.int .u64 (xn : Int), .int .i64 xl, .int .u32 (xs : Int)] 35)).trans (b4.mono (by have := B3.out.size; simp; omega))); have hx4 := (Blk.new w3 35 #[.int .u64 (xn : Int), .int .i64 xl, .int .u32 (xs : Int)]).below b4 (by simp); have hx5 := hx4.alloc (.cells #[.int .u64 (yn : Int), .int .i64 yl, .int .u32 (ys : Int)] 35); have e0 := hx5.cell 0; have e1 := hx5.cell 1; have e2 := hx5.cell 2; clear hx4 hx5 b4)
    | (go_at_call 141; (have l0 := B2.out; clear l0); (with_reducible refine (da.out w2 A1 c1 ((R1.out.below S12.out).more S12.out.size) CP1.out).mono ?_); rintro e w3 ⟨rfl, b3⟩; have B3 := Lib.hid (B2.out.trans (b3.mono B2.out.size)); have S23 := Lib.hid b3; clear b3)
    | (go_at_call 140; (have l0 := B1.out; clear l0); (with_reducible refine (hb.out w1 B1.out).mono ?_); rintro e w2 ⟨A2, c2, rfl, r2, cp2, b2⟩; have B2 := Lib.hid (B1.out.trans (b2.mono B1.out.size)); have S12 := Lib.hid b2; have R2 := Lib.hid r2; have CP2 := Lib.hid cp2; clear b2 r2 cp2)
    | (go_at_call 140; (with_reducible refine (ha.out w (Below.refl _ _)).mono ?_); rintro e w1 ⟨A1, c1, rfl, r1, cp1, b1⟩; have B1 := Lib.hid b1; have R1 := Lib.hid r1; have CP1 := Lib.hid cp1; clear b1 r1 cp1))
  go_ret2
  exact ⟨_, _, rfl, reads_blkN (blk_new1 _ _ 35 #[.int .u64 (xn : Int), .int .i64 xl, .int .u32 (xs : Int), .int .u64 (yn : Int), .int .i64 yl, .int .u32 (ys : Int)]) rfl, fun _ => ⟨_, rfl⟩, (B4.out.alloc B4.out.size _).alloc (by have := B4.out.size; simp; omega) _⟩

set_option maxRecDepth 100000 in
set_option maxHeartbeats 4000000 in
theorem r6both_eef {w : World} {b : Nat} {la lb : List UInt8} (xn yn : Nat) (xl yl : Int) (xs ys : Nat) (px : (xn : Int) % 2 = 0) (py : (yn : Int) % 2 = 1) (hg : decide (yn < xn) = false) (HA : Rd2 w b 0 la) (HB : Rd2 w b 1 lb) (DA : Dc2 la ⟨xn, xl, xs⟩ 0) (DB : Dc2 lb ⟨yn, yl, ys⟩ 0) :
    Calls Tryz.prog 88 #[.pointer (some ⟨b, 0, none⟩)] w (BothAns w [⟨yn, yl, ys⟩, ⟨xn, xl, xs⟩]) := by
  have ha := Lib.hid HA
  have hb := Lib.hid HB
  have da := Lib.hid DA
  have db := Lib.hid DB
  clear HA HB DA DB
  go_enter Tryz.func88, Tryz.ntmps88
  go_wp2_with (first
    | (go_at_call 141; (have l0 := B3.out; clear l0); (with_reducible refine (db.out (w3.alloc (.cells #[.int .u64 (xn : Int), .int .i64 xl, .int .u32 (xs : Int)] 35)) A2 c2 (((R2.out.below (S23.out)).more S23.out.size |>.alloc (Nat.le_refl _) _).more (by simp)) CP2.out).mono ?_); rintro e w4 ⟨rfl, b4⟩; have B4 := Lib.hid ((B3.out.alloc (by have := B3.out.size; omega) (.cells #[.int .u64 (xn : Int), .int .i64 xl, .int .u32 (xs : Int)] 35)).trans (b4.mono (by have := B3.out.size; simp; omega))); have hx4 := (Blk.new w3 35 #[.int .u64 (xn : Int), .int .i64 xl, .int .u32 (xs : Int)]).below b4 (by simp); have hx5 := hx4.alloc (.cells #[.int .u64 (yn : Int), .int .i64 yl, .int .u32 (ys : Int)] 35); have e0 := hx5.cell 0; have e1 := hx5.cell 1; have e2 := hx5.cell 2; clear hx4 hx5 b4)
    | (go_at_call 141; (have l0 := B2.out; clear l0); (with_reducible refine (da.out w2 A1 c1 ((R1.out.below S12.out).more S12.out.size) CP1.out).mono ?_); rintro e w3 ⟨rfl, b3⟩; have B3 := Lib.hid (B2.out.trans (b3.mono B2.out.size)); have S23 := Lib.hid b3; clear b3)
    | (go_at_call 140; (have l0 := B1.out; clear l0); (with_reducible refine (hb.out w1 B1.out).mono ?_); rintro e w2 ⟨A2, c2, rfl, r2, cp2, b2⟩; have B2 := Lib.hid (B1.out.trans (b2.mono B1.out.size)); have S12 := Lib.hid b2; have R2 := Lib.hid r2; have CP2 := Lib.hid cp2; clear b2 r2 cp2)
    | (go_at_call 140; (with_reducible refine (ha.out w (Below.refl _ _)).mono ?_); rintro e w1 ⟨A1, c1, rfl, r1, cp1, b1⟩; have B1 := Lib.hid b1; have R1 := Lib.hid r1; have CP1 := Lib.hid cp1; clear b1 r1 cp1))
  go_ret2
  exact ⟨_, _, rfl, reads_blkN (blk_new1 _ _ 35 #[.int .u64 (yn : Int), .int .i64 yl, .int .u32 (ys : Int), .int .u64 (xn : Int), .int .i64 xl, .int .u32 (xs : Int)]) rfl, fun _ => ⟨_, rfl⟩, (B4.out.alloc B4.out.size _).alloc (by have := B4.out.size; simp; omega) _⟩

set_option maxRecDepth 100000 in
set_option maxHeartbeats 4000000 in
theorem r6both_ep {w : World} {b : Nat} {la lb : List UInt8} (xn yn : Nat) (xl yl : Int) (xs ys : Nat) (px : (xn : Int) % 2 = 0) (py : (yn : Int) % 2 = 0) (HA : Rd2 w b 0 la) (HB : Rd2 w b 1 lb) (DA : Dc2 la ⟨xn, xl, xs⟩ 0) (DB : Dc2 lb ⟨yn, yl, ys⟩ 0) :
    Calls Tryz.prog 88 #[.pointer (some ⟨b, 0, none⟩)] w (BothAns w [⟨xn, xl, xs⟩]) := by
  have ha := Lib.hid HA
  have hb := Lib.hid HB
  have da := Lib.hid DA
  have db := Lib.hid DB
  clear HA HB DA DB
  go_enter Tryz.func88, Tryz.ntmps88
  go_wp2_with (first
    | (go_at_call 141; (have l0 := B3.out; clear l0); (with_reducible refine (db.out (w3.alloc (.cells #[.int .u64 (xn : Int), .int .i64 xl, .int .u32 (xs : Int)] 35)) A2 c2 (((R2.out.below (S23.out)).more S23.out.size |>.alloc (Nat.le_refl _) _).more (by simp)) CP2.out).mono ?_); rintro e w4 ⟨rfl, b4⟩; have B4 := Lib.hid ((B3.out.alloc (by have := B3.out.size; omega) (.cells #[.int .u64 (xn : Int), .int .i64 xl, .int .u32 (xs : Int)] 35)).trans (b4.mono (by have := B3.out.size; simp; omega))); have hx4 := (Blk.new w3 35 #[.int .u64 (xn : Int), .int .i64 xl, .int .u32 (xs : Int)]).below b4 (by simp); have hx5 := hx4.alloc (.cells #[.int .u64 (yn : Int), .int .i64 yl, .int .u32 (ys : Int)] 35); have e0 := hx5.cell 0; have e1 := hx5.cell 1; have e2 := hx5.cell 2; clear hx4 hx5 b4)
    | (go_at_call 141; (have l0 := B2.out; clear l0); (with_reducible refine (da.out w2 A1 c1 ((R1.out.below S12.out).more S12.out.size) CP1.out).mono ?_); rintro e w3 ⟨rfl, b3⟩; have B3 := Lib.hid (B2.out.trans (b3.mono B2.out.size)); have S23 := Lib.hid b3; clear b3)
    | (go_at_call 140; (have l0 := B1.out; clear l0); (with_reducible refine (hb.out w1 B1.out).mono ?_); rintro e w2 ⟨A2, c2, rfl, r2, cp2, b2⟩; have B2 := Lib.hid (B1.out.trans (b2.mono B1.out.size)); have S12 := Lib.hid b2; have R2 := Lib.hid r2; have CP2 := Lib.hid cp2; clear b2 r2 cp2)
    | (go_at_call 140; (with_reducible refine (ha.out w (Below.refl _ _)).mono ?_); rintro e w1 ⟨A1, c1, rfl, r1, cp1, b1⟩; have B1 := Lib.hid b1; have R1 := Lib.hid r1; have CP1 := Lib.hid cp1; clear b1 r1 cp1))
  go_ret2
  exact ⟨_, _, rfl, reads_blkN (blk_new1 _ _ 35 #[.int .u64 (xn : Int), .int .i64 xl, .int .u32 (xs : Int)]) rfl, fun _ => ⟨_, rfl⟩, (B4.out.alloc B4.out.size _).alloc (by have := B4.out.size; simp; omega) _⟩

set_option maxRecDepth 100000 in
set_option maxHeartbeats 4000000 in
theorem r6both_en {w : World} {b : Nat} {la lb : List UInt8} (xn yn : Nat) (xl yl : Int) (xs ys : Nat) (px : (xn : Int) % 2 = 0) (HA : Rd2 w b 0 la) (HB : Rd2 w b 1 lb) (DA : Dc2 la ⟨xn, xl, xs⟩ 0) (DB : Dc2 lb ⟨yn, yl, ys⟩ 60) :
    Calls Tryz.prog 88 #[.pointer (some ⟨b, 0, none⟩)] w (BothAns w [⟨xn, xl, xs⟩]) := by
  have ha := Lib.hid HA
  have hb := Lib.hid HB
  have da := Lib.hid DA
  have db := Lib.hid DB
  clear HA HB DA DB
  go_enter Tryz.func88, Tryz.ntmps88
  go_wp2_with (first
    | (go_at_call 141; (have l0 := B3.out; clear l0); (with_reducible refine (db.out (w3.alloc (.cells #[.int .u64 (xn : Int), .int .i64 xl, .int .u32 (xs : Int)] 35)) A2 c2 (((R2.out.below (S23.out)).more S23.out.size |>.alloc (Nat.le_refl _) _).more (by simp)) CP2.out).mono ?_); rintro e w4 ⟨rfl, b4⟩; have B4 := Lib.hid ((B3.out.alloc (by have := B3.out.size; omega) (.cells #[.int .u64 (xn : Int), .int .i64 xl, .int .u32 (xs : Int)] 35)).trans (b4.mono (by have := B3.out.size; simp; omega))); have hx4 := (Blk.new w3 35 #[.int .u64 (xn : Int), .int .i64 xl, .int .u32 (xs : Int)]).below b4 (by simp); have hx5 := hx4.alloc (.cells #[.int .u64 (yn : Int), .int .i64 yl, .int .u32 (ys : Int)] 35); have e0 := hx5.cell 0; have e1 := hx5.cell 1; have e2 := hx5.cell 2; clear hx4 hx5 b4)
    | (go_at_call 141; (have l0 := B2.out; clear l0); (with_reducible refine (da.out w2 A1 c1 ((R1.out.below S12.out).more S12.out.size) CP1.out).mono ?_); rintro e w3 ⟨rfl, b3⟩; have B3 := Lib.hid (B2.out.trans (b3.mono B2.out.size)); have S23 := Lib.hid b3; clear b3)
    | (go_at_call 140; (have l0 := B1.out; clear l0); (with_reducible refine (hb.out w1 B1.out).mono ?_); rintro e w2 ⟨A2, c2, rfl, r2, cp2, b2⟩; have B2 := Lib.hid (B1.out.trans (b2.mono B1.out.size)); have S12 := Lib.hid b2; have R2 := Lib.hid r2; have CP2 := Lib.hid cp2; clear b2 r2 cp2)
    | (go_at_call 140; (with_reducible refine (ha.out w (Below.refl _ _)).mono ?_); rintro e w1 ⟨A1, c1, rfl, r1, cp1, b1⟩; have B1 := Lib.hid b1; have R1 := Lib.hid r1; have CP1 := Lib.hid cp1; clear b1 r1 cp1))
  go_ret2
  exact ⟨_, _, rfl, reads_blkN (blk_new1 _ _ 35 #[.int .u64 (xn : Int), .int .i64 xl, .int .u32 (xs : Int)]) rfl, fun _ => ⟨_, rfl⟩, (B4.out.alloc B4.out.size _).alloc (by have := B4.out.size; simp; omega) _⟩

set_option maxRecDepth 100000 in
set_option maxHeartbeats 4000000 in
theorem r6both_pe {w : World} {b : Nat} {la lb : List UInt8} (xn yn : Nat) (xl yl : Int) (xs ys : Nat) (px : (xn : Int) % 2 = 1) (py : (yn : Int) % 2 = 1) (HA : Rd2 w b 0 la) (HB : Rd2 w b 1 lb) (DA : Dc2 la ⟨xn, xl, xs⟩ 0) (DB : Dc2 lb ⟨yn, yl, ys⟩ 0) :
    Calls Tryz.prog 88 #[.pointer (some ⟨b, 0, none⟩)] w (BothAns w [⟨yn, yl, ys⟩]) := by
  have ha := Lib.hid HA
  have hb := Lib.hid HB
  have da := Lib.hid DA
  have db := Lib.hid DB
  clear HA HB DA DB
  go_enter Tryz.func88, Tryz.ntmps88
  go_wp2_with (first
    | (go_at_call 141; (have l0 := B3.out; clear l0); (with_reducible refine (db.out (w3.alloc (.cells #[.int .u64 (xn : Int), .int .i64 xl, .int .u32 (xs : Int)] 35)) A2 c2 (((R2.out.below (S23.out)).more S23.out.size |>.alloc (Nat.le_refl _) _).more (by simp)) CP2.out).mono ?_); rintro e w4 ⟨rfl, b4⟩; have B4 := Lib.hid ((B3.out.alloc (by have := B3.out.size; omega) (.cells #[.int .u64 (xn : Int), .int .i64 xl, .int .u32 (xs : Int)] 35)).trans (b4.mono (by have := B3.out.size; simp; omega))); have hx4 := (Blk.new w3 35 #[.int .u64 (xn : Int), .int .i64 xl, .int .u32 (xs : Int)]).below b4 (by simp); have hx5 := hx4.alloc (.cells #[.int .u64 (yn : Int), .int .i64 yl, .int .u32 (ys : Int)] 35); have e0 := hx5.cell 0; have e1 := hx5.cell 1; have e2 := hx5.cell 2; clear hx4 hx5 b4)
    | (go_at_call 141; (have l0 := B2.out; clear l0); (with_reducible refine (da.out w2 A1 c1 ((R1.out.below S12.out).more S12.out.size) CP1.out).mono ?_); rintro e w3 ⟨rfl, b3⟩; have B3 := Lib.hid (B2.out.trans (b3.mono B2.out.size)); have S23 := Lib.hid b3; clear b3)
    | (go_at_call 140; (have l0 := B1.out; clear l0); (with_reducible refine (hb.out w1 B1.out).mono ?_); rintro e w2 ⟨A2, c2, rfl, r2, cp2, b2⟩; have B2 := Lib.hid (B1.out.trans (b2.mono B1.out.size)); have S12 := Lib.hid b2; have R2 := Lib.hid r2; have CP2 := Lib.hid cp2; clear b2 r2 cp2)
    | (go_at_call 140; (with_reducible refine (ha.out w (Below.refl _ _)).mono ?_); rintro e w1 ⟨A1, c1, rfl, r1, cp1, b1⟩; have B1 := Lib.hid b1; have R1 := Lib.hid r1; have CP1 := Lib.hid cp1; clear b1 r1 cp1))
  go_ret2
  exact ⟨_, _, rfl, reads_blkN (blk_new1 _ _ 35 #[.int .u64 (yn : Int), .int .i64 yl, .int .u32 (ys : Int)]) rfl, fun _ => ⟨_, rfl⟩, (B4.out.alloc B4.out.size _).alloc (by have := B4.out.size; simp; omega) _⟩

set_option maxRecDepth 100000 in
set_option maxHeartbeats 4000000 in
theorem r6both_pp {w : World} {b : Nat} {la lb : List UInt8} (xn yn : Nat) (xl yl : Int) (xs ys : Nat) (px : (xn : Int) % 2 = 1) (py : (yn : Int) % 2 = 0) (HA : Rd2 w b 0 la) (HB : Rd2 w b 1 lb) (DA : Dc2 la ⟨xn, xl, xs⟩ 0) (DB : Dc2 lb ⟨yn, yl, ys⟩ 0) :
    Calls Tryz.prog 88 #[.pointer (some ⟨b, 0, none⟩)] w (BothAns w []) := by
  have ha := Lib.hid HA
  have hb := Lib.hid HB
  have da := Lib.hid DA
  have db := Lib.hid DB
  clear HA HB DA DB
  go_enter Tryz.func88, Tryz.ntmps88
  go_wp2_with (first
    | (go_at_call 141; (have l0 := B3.out; clear l0); (with_reducible refine (db.out (w3.alloc (.cells #[.int .u64 (xn : Int), .int .i64 xl, .int .u32 (xs : Int)] 35)) A2 c2 (((R2.out.below (S23.out)).more S23.out.size |>.alloc (Nat.le_refl _) _).more (by simp)) CP2.out).mono ?_); rintro e w4 ⟨rfl, b4⟩; have B4 := Lib.hid ((B3.out.alloc (by have := B3.out.size; omega) (.cells #[.int .u64 (xn : Int), .int .i64 xl, .int .u32 (xs : Int)] 35)).trans (b4.mono (by have := B3.out.size; simp; omega))); have hx4 := (Blk.new w3 35 #[.int .u64 (xn : Int), .int .i64 xl, .int .u32 (xs : Int)]).below b4 (by simp); have hx5 := hx4.alloc (.cells #[.int .u64 (yn : Int), .int .i64 yl, .int .u32 (ys : Int)] 35); have e0 := hx5.cell 0; have e1 := hx5.cell 1; have e2 := hx5.cell 2; clear hx4 hx5 b4)
    | (go_at_call 141; (have l0 := B2.out; clear l0); (with_reducible refine (da.out w2 A1 c1 ((R1.out.below S12.out).more S12.out.size) CP1.out).mono ?_); rintro e w3 ⟨rfl, b3⟩; have B3 := Lib.hid (B2.out.trans (b3.mono B2.out.size)); have S23 := Lib.hid b3; clear b3)
    | (go_at_call 140; (have l0 := B1.out; clear l0); (with_reducible refine (hb.out w1 B1.out).mono ?_); rintro e w2 ⟨A2, c2, rfl, r2, cp2, b2⟩; have B2 := Lib.hid (B1.out.trans (b2.mono B1.out.size)); have S12 := Lib.hid b2; have R2 := Lib.hid r2; have CP2 := Lib.hid cp2; clear b2 r2 cp2)
    | (go_at_call 140; (with_reducible refine (ha.out w (Below.refl _ _)).mono ?_); rintro e w1 ⟨A1, c1, rfl, r1, cp1, b1⟩; have B1 := Lib.hid b1; have R1 := Lib.hid r1; have CP1 := Lib.hid cp1; clear b1 r1 cp1))
  go_ret2
  exact ⟨none, 0, rfl, Reads.none_, fun h => absurd h (by decide), B4.out.alloc B4.out.size _⟩

set_option maxRecDepth 100000 in
set_option maxHeartbeats 4000000 in
theorem r6both_pn {w : World} {b : Nat} {la lb : List UInt8} (xn yn : Nat) (xl yl : Int) (xs ys : Nat) (px : (xn : Int) % 2 = 1) (HA : Rd2 w b 0 la) (HB : Rd2 w b 1 lb) (DA : Dc2 la ⟨xn, xl, xs⟩ 0) (DB : Dc2 lb ⟨yn, yl, ys⟩ 60) :
    Calls Tryz.prog 88 #[.pointer (some ⟨b, 0, none⟩)] w (BothAns w []) := by
  have ha := Lib.hid HA
  have hb := Lib.hid HB
  have da := Lib.hid DA
  have db := Lib.hid DB
  clear HA HB DA DB
  go_enter Tryz.func88, Tryz.ntmps88
  go_wp2_with (first
    | (go_at_call 141; (have l0 := B3.out; clear l0); (with_reducible refine (db.out (w3.alloc (.cells #[.int .u64 (xn : Int), .int .i64 xl, .int .u32 (xs : Int)] 35)) A2 c2 (((R2.out.below (S23.out)).more S23.out.size |>.alloc (Nat.le_refl _) _).more (by simp)) CP2.out).mono ?_); rintro e w4 ⟨rfl, b4⟩; have B4 := Lib.hid ((B3.out.alloc (by have := B3.out.size; omega) (.cells #[.int .u64 (xn : Int), .int .i64 xl, .int .u32 (xs : Int)] 35)).trans (b4.mono (by have := B3.out.size; simp; omega))); have hx4 := (Blk.new w3 35 #[.int .u64 (xn : Int), .int .i64 xl, .int .u32 (xs : Int)]).below b4 (by simp); have hx5 := hx4.alloc (.cells #[.int .u64 (yn : Int), .int .i64 yl, .int .u32 (ys : Int)] 35); have e0 := hx5.cell 0; have e1 := hx5.cell 1; have e2 := hx5.cell 2; clear hx4 hx5 b4)
    | (go_at_call 141; (have l0 := B2.out; clear l0); (with_reducible refine (da.out w2 A1 c1 ((R1.out.below S12.out).more S12.out.size) CP1.out).mono ?_); rintro e w3 ⟨rfl, b3⟩; have B3 := Lib.hid (B2.out.trans (b3.mono B2.out.size)); have S23 := Lib.hid b3; clear b3)
    | (go_at_call 140; (have l0 := B1.out; clear l0); (with_reducible refine (hb.out w1 B1.out).mono ?_); rintro e w2 ⟨A2, c2, rfl, r2, cp2, b2⟩; have B2 := Lib.hid (B1.out.trans (b2.mono B1.out.size)); have S12 := Lib.hid b2; have R2 := Lib.hid r2; have CP2 := Lib.hid cp2; clear b2 r2 cp2)
    | (go_at_call 140; (with_reducible refine (ha.out w (Below.refl _ _)).mono ?_); rintro e w1 ⟨A1, c1, rfl, r1, cp1, b1⟩; have B1 := Lib.hid b1; have R1 := Lib.hid r1; have CP1 := Lib.hid cp1; clear b1 r1 cp1))
  go_ret2
  exact ⟨none, 0, rfl, Reads.none_, fun h => absurd h (by decide), B4.out.alloc B4.out.size _⟩

set_option maxRecDepth 100000 in
set_option maxHeartbeats 4000000 in
theorem r6both_ne {w : World} {b : Nat} {la lb : List UInt8} (xn yn : Nat) (xl yl : Int) (xs ys : Nat) (py : (yn : Int) % 2 = 1) (HA : Rd2 w b 0 la) (HB : Rd2 w b 1 lb) (DA : Dc2 la ⟨xn, xl, xs⟩ 60) (DB : Dc2 lb ⟨yn, yl, ys⟩ 0) :
    Calls Tryz.prog 88 #[.pointer (some ⟨b, 0, none⟩)] w (BothAns w [⟨yn, yl, ys⟩]) := by
  have ha := Lib.hid HA
  have hb := Lib.hid HB
  have da := Lib.hid DA
  have db := Lib.hid DB
  clear HA HB DA DB
  go_enter Tryz.func88, Tryz.ntmps88
  go_wp2_with (first
    | (go_at_call 141; (have l0 := B3.out; clear l0); (with_reducible refine (db.out (w3.alloc (.cells #[.int .u64 (xn : Int), .int .i64 xl, .int .u32 (xs : Int)] 35)) A2 c2 (((R2.out.below (S23.out)).more S23.out.size |>.alloc (Nat.le_refl _) _).more (by simp)) CP2.out).mono ?_); rintro e w4 ⟨rfl, b4⟩; have B4 := Lib.hid ((B3.out.alloc (by have := B3.out.size; omega) (.cells #[.int .u64 (xn : Int), .int .i64 xl, .int .u32 (xs : Int)] 35)).trans (b4.mono (by have := B3.out.size; simp; omega))); have hx4 := (Blk.new w3 35 #[.int .u64 (xn : Int), .int .i64 xl, .int .u32 (xs : Int)]).below b4 (by simp); have hx5 := hx4.alloc (.cells #[.int .u64 (yn : Int), .int .i64 yl, .int .u32 (ys : Int)] 35); have e0 := hx5.cell 0; have e1 := hx5.cell 1; have e2 := hx5.cell 2; clear hx4 hx5 b4)
    | (go_at_call 141; (have l0 := B2.out; clear l0); (with_reducible refine (da.out w2 A1 c1 ((R1.out.below S12.out).more S12.out.size) CP1.out).mono ?_); rintro e w3 ⟨rfl, b3⟩; have B3 := Lib.hid (B2.out.trans (b3.mono B2.out.size)); have S23 := Lib.hid b3; clear b3)
    | (go_at_call 140; (have l0 := B1.out; clear l0); (with_reducible refine (hb.out w1 B1.out).mono ?_); rintro e w2 ⟨A2, c2, rfl, r2, cp2, b2⟩; have B2 := Lib.hid (B1.out.trans (b2.mono B1.out.size)); have S12 := Lib.hid b2; have R2 := Lib.hid r2; have CP2 := Lib.hid cp2; clear b2 r2 cp2)
    | (go_at_call 140; (with_reducible refine (ha.out w (Below.refl _ _)).mono ?_); rintro e w1 ⟨A1, c1, rfl, r1, cp1, b1⟩; have B1 := Lib.hid b1; have R1 := Lib.hid r1; have CP1 := Lib.hid cp1; clear b1 r1 cp1))
  go_ret2
  exact ⟨_, _, rfl, reads_blkN (blk_new1 _ _ 35 #[.int .u64 (yn : Int), .int .i64 yl, .int .u32 (ys : Int)]) rfl, fun _ => ⟨_, rfl⟩, (B4.out.alloc B4.out.size _).alloc (by have := B4.out.size; simp; omega) _⟩

set_option maxRecDepth 100000 in
set_option maxHeartbeats 4000000 in
theorem r6both_np {w : World} {b : Nat} {la lb : List UInt8} (xn yn : Nat) (xl yl : Int) (xs ys : Nat) (py : (yn : Int) % 2 = 0) (HA : Rd2 w b 0 la) (HB : Rd2 w b 1 lb) (DA : Dc2 la ⟨xn, xl, xs⟩ 60) (DB : Dc2 lb ⟨yn, yl, ys⟩ 0) :
    Calls Tryz.prog 88 #[.pointer (some ⟨b, 0, none⟩)] w (BothAns w []) := by
  have ha := Lib.hid HA
  have hb := Lib.hid HB
  have da := Lib.hid DA
  have db := Lib.hid DB
  clear HA HB DA DB
  go_enter Tryz.func88, Tryz.ntmps88
  go_wp2_with (first
    | (go_at_call 141; (have l0 := B3.out; clear l0); (with_reducible refine (db.out (w3.alloc (.cells #[.int .u64 (xn : Int), .int .i64 xl, .int .u32 (xs : Int)] 35)) A2 c2 (((R2.out.below (S23.out)).more S23.out.size |>.alloc (Nat.le_refl _) _).more (by simp)) CP2.out).mono ?_); rintro e w4 ⟨rfl, b4⟩; have B4 := Lib.hid ((B3.out.alloc (by have := B3.out.size; omega) (.cells #[.int .u64 (xn : Int), .int .i64 xl, .int .u32 (xs : Int)] 35)).trans (b4.mono (by have := B3.out.size; simp; omega))); have hx4 := (Blk.new w3 35 #[.int .u64 (xn : Int), .int .i64 xl, .int .u32 (xs : Int)]).below b4 (by simp); have hx5 := hx4.alloc (.cells #[.int .u64 (yn : Int), .int .i64 yl, .int .u32 (ys : Int)] 35); have e0 := hx5.cell 0; have e1 := hx5.cell 1; have e2 := hx5.cell 2; clear hx4 hx5 b4)
    | (go_at_call 141; (have l0 := B2.out; clear l0); (with_reducible refine (da.out w2 A1 c1 ((R1.out.below S12.out).more S12.out.size) CP1.out).mono ?_); rintro e w3 ⟨rfl, b3⟩; have B3 := Lib.hid (B2.out.trans (b3.mono B2.out.size)); have S23 := Lib.hid b3; clear b3)
    | (go_at_call 140; (have l0 := B1.out; clear l0); (with_reducible refine (hb.out w1 B1.out).mono ?_); rintro e w2 ⟨A2, c2, rfl, r2, cp2, b2⟩; have B2 := Lib.hid (B1.out.trans (b2.mono B1.out.size)); have S12 := Lib.hid b2; have R2 := Lib.hid r2; have CP2 := Lib.hid cp2; clear b2 r2 cp2)
    | (go_at_call 140; (with_reducible refine (ha.out w (Below.refl _ _)).mono ?_); rintro e w1 ⟨A1, c1, rfl, r1, cp1, b1⟩; have B1 := Lib.hid b1; have R1 := Lib.hid r1; have CP1 := Lib.hid cp1; clear b1 r1 cp1))
  go_ret2
  exact ⟨none, 0, rfl, Reads.none_, fun h => absurd h (by decide), B4.out.alloc B4.out.size _⟩

set_option maxRecDepth 100000 in
set_option maxHeartbeats 4000000 in
theorem r6both_nn {w : World} {b : Nat} {la lb : List UInt8} (xn yn : Nat) (xl yl : Int) (xs ys : Nat) (HA : Rd2 w b 0 la) (HB : Rd2 w b 1 lb) (DA : Dc2 la ⟨xn, xl, xs⟩ 60) (DB : Dc2 lb ⟨yn, yl, ys⟩ 60) :
    Calls Tryz.prog 88 #[.pointer (some ⟨b, 0, none⟩)] w (BothAns w []) := by
  have ha := Lib.hid HA
  have hb := Lib.hid HB
  have da := Lib.hid DA
  have db := Lib.hid DB
  clear HA HB DA DB
  go_enter Tryz.func88, Tryz.ntmps88
  go_wp2_with (first
    | (go_at_call 141; (have l0 := B3.out; clear l0); (with_reducible refine (db.out (w3.alloc (.cells #[.int .u64 (xn : Int), .int .i64 xl, .int .u32 (xs : Int)] 35)) A2 c2 (((R2.out.below (S23.out)).more S23.out.size |>.alloc (Nat.le_refl _) _).more (by simp)) CP2.out).mono ?_); rintro e w4 ⟨rfl, b4⟩; have B4 := Lib.hid ((B3.out.alloc (by have := B3.out.size; omega) (.cells #[.int .u64 (xn : Int), .int .i64 xl, .int .u32 (xs : Int)] 35)).trans (b4.mono (by have := B3.out.size; simp; omega))); have hx4 := (Blk.new w3 35 #[.int .u64 (xn : Int), .int .i64 xl, .int .u32 (xs : Int)]).below b4 (by simp); have hx5 := hx4.alloc (.cells #[.int .u64 (yn : Int), .int .i64 yl, .int .u32 (ys : Int)] 35); have e0 := hx5.cell 0; have e1 := hx5.cell 1; have e2 := hx5.cell 2; clear hx4 hx5 b4)
    | (go_at_call 141; (have l0 := B2.out; clear l0); (with_reducible refine (da.out w2 A1 c1 ((R1.out.below S12.out).more S12.out.size) CP1.out).mono ?_); rintro e w3 ⟨rfl, b3⟩; have B3 := Lib.hid (B2.out.trans (b3.mono B2.out.size)); have S23 := Lib.hid b3; clear b3)
    | (go_at_call 140; (have l0 := B1.out; clear l0); (with_reducible refine (hb.out w1 B1.out).mono ?_); rintro e w2 ⟨A2, c2, rfl, r2, cp2, b2⟩; have B2 := Lib.hid (B1.out.trans (b2.mono B1.out.size)); have S12 := Lib.hid b2; have R2 := Lib.hid r2; have CP2 := Lib.hid cp2; clear b2 r2 cp2)
    | (go_at_call 140; (with_reducible refine (ha.out w (Below.refl _ _)).mono ?_); rintro e w1 ⟨A1, c1, rfl, r1, cp1, b1⟩; have B1 := Lib.hid b1; have R1 := Lib.hid r1; have CP1 := Lib.hid cp1; clear b1 r1 cp1))
  go_ret2
  exact ⟨none, 0, rfl, Reads.none_, fun h => absurd h (by decide), B4.out.alloc B4.out.size _⟩


theorem parity (n : Nat) (p : Nat) (h : n % 2 = p) : (n : Int) % 2 = (p : Int) := by omega
theorem dec_good {l : List UInt8} (h : goodR l = true) : decR l = candR l ∧ decErrR l = 0 := by
  unfold decR decErrR
  rw [h]
  exact ⟨rfl, rfl⟩
theorem dec_bad {l : List UInt8} (h : goodR l = false) : decErrR l = 60 := by
  unfold decErrR
  rw [h]
  rfl
theorem r6both_ok {w : World} {b : Nat} {la lb : List UInt8} (HA : Rd2 w b 0 la) (HB : Rd2 w b 1 lb) :
    Calls Tryz.prog 88 #[.pointer (some ⟨b, 0, none⟩)] w (BothAns w (sortR ((if countsR 0 la = true then [candR la] else []) ++ (if countsR 1 lb = true then [candR lb] else [])))) := by
  have DA := dc2_of la
  have DB := dc2_of lb
  obtain ⟨X, hX⟩ : ∃ X, decR la = X := ⟨_, rfl⟩
  obtain ⟨Y, hY⟩ : ∃ Y, decR lb = Y := ⟨_, rfl⟩
  rw [hX] at DA
  rw [hY] at DB
  have ca : (goodR la = true ∧ X.n % 2 = 0 ∧ decErrR la = 0 ∧ countsR 0 la = true ∧ candR la = X) ∨ (goodR la = true ∧ X.n % 2 = 1 ∧ decErrR la = 0 ∧ countsR 0 la = false) ∨ (decErrR la = 60 ∧ countsR 0 la = false) := by
    cases h : goodR la
    · exact .inr (.inr ⟨dec_bad h, by unfold countsR; rw [h]; rfl⟩)
    · obtain ⟨e1, e2⟩ := dec_good h
      rw [hX] at e1
      rcases Nat.mod_two_eq_zero_or_one X.n with hp | hp
      · exact .inl ⟨rfl, hp, e2, by unfold countsR; rw [h, ← e1, decide_eq_true hp]; rfl, e1.symm⟩
      · exact .inr (.inl ⟨rfl, hp, e2, by unfold countsR; rw [h, ← e1, decide_eq_false (by omega)]; rfl⟩)
  have cb : (goodR lb = true ∧ Y.n % 2 = 1 ∧ decErrR lb = 0 ∧ countsR 1 lb = true ∧ candR lb = Y) ∨ (goodR lb = true ∧ Y.n % 2 = 0 ∧ decErrR lb = 0 ∧ countsR 1 lb = false) ∨ (decErrR lb = 60 ∧ countsR 1 lb = false) := by
    cases h : goodR lb
    · exact .inr (.inr ⟨dec_bad h, by unfold countsR; rw [h]; rfl⟩)
    · obtain ⟨e1, e2⟩ := dec_good h
      rw [hY] at e1
      rcases Nat.mod_two_eq_zero_or_one Y.n with hp | hp
      · exact .inr (.inl ⟨rfl, hp, e2, by unfold countsR; rw [h, ← e1, decide_eq_false (by omega)]; rfl⟩)
      · exact .inl ⟨rfl, hp, e2, by unfold countsR; rw [h, ← e1, decide_eq_true hp]; rfl, e1.symm⟩
  obtain ⟨xn, xl, xs⟩ := X
  obtain ⟨yn, yl, ys⟩ := Y
  rcases ca with ⟨_, pa, ea, ka, va⟩ | ⟨_, pa, ea, ka⟩ | ⟨ea, ka⟩ <;> rcases cb with ⟨_, pb, eb, kb, vb⟩ | ⟨_, pb, eb, kb⟩ | ⟨eb, kb⟩
  · rw [ea] at DA
    rw [eb] at DB
    rw [ka, kb, va, vb, if_pos rfl, if_pos rfl]
    have pa2 : xn % 2 = 0 := pa
    have pb2 : yn % 2 = 1 := pb
    show Calls _ _ _ _ (BothAns w (sortR [⟨xn, xl, xs⟩, ⟨yn, yl, ys⟩]))
    rw [sortR_two]
    by_cases hg : yn < xn
    · rw [if_neg (show ¬ xn < yn by omega)]
      exact r6both_eet xn yn xl yl xs ys (parity _ _ pa) (parity _ _ pb) (decide_eq_true hg) HA HB DA DB
    · rw [if_pos (show xn < yn by omega)]
      exact r6both_eef xn yn xl yl xs ys (parity _ _ pa) (parity _ _ pb) (decide_eq_false hg) HA HB DA DB
  · rw [ea] at DA
    rw [eb] at DB
    rw [ka, kb, va, if_pos rfl, if_neg (by decide)]
    exact r6both_ep xn yn xl yl xs ys (parity _ _ pa) (parity _ _ pb) HA HB DA DB
  · rw [ea] at DA
    rw [eb] at DB
    rw [ka, kb, va, if_pos rfl, if_neg (by decide)]
    exact r6both_en xn yn xl yl xs ys (parity _ _ pa) HA HB DA DB
  · rw [ea] at DA
    rw [eb] at DB
    rw [ka, kb, vb, if_neg (by decide), if_pos rfl]
    exact r6both_pe xn yn xl yl xs ys (parity _ _ pa) (parity _ _ pb) HA HB DA DB
  · rw [ea] at DA
    rw [eb] at DB
    rw [ka, kb, if_neg (by decide), if_neg (by decide)]
    exact r6both_pp xn yn xl yl xs ys (parity _ _ pa) (parity _ _ pb) HA HB DA DB
  · rw [ea] at DA
    rw [eb] at DB
    rw [ka, kb, if_neg (by decide), if_neg (by decide)]
    exact r6both_pn xn yn xl yl xs ys (parity _ _ pa) HA HB DA DB
  · rw [ea] at DA
    rw [eb] at DB
    rw [ka, kb, vb, if_neg (by decide), if_pos rfl]
    exact r6both_ne xn yn xl yl xs ys (parity _ _ pb) HA HB DA DB
  · rw [ea] at DA
    rw [eb] at DB
    rw [ka, kb, if_neg (by decide), if_neg (by decide)]
    exact r6both_np xn yn xl yl xs ys (parity _ _ pb) HA HB DA DB
  · rw [ea] at DA
    rw [eb] at DB
    rw [ka, kb, if_neg (by decide), if_neg (by decide)]
    exact r6both_nn xn yn xl yl xs ys HA HB DA DB

set_option maxRecDepth 100000 in
set_option maxHeartbeats 2000000 in
theorem r6both_any {w : World} {b : Nat} {er : Nat → Int} {L : Nat → List UInt8} (h : GAt w b er L) {E : Int} {R : List RV} (hE : bothE er = E) (hR : bothL er L = R) :
    Calls Tryz.prog 88 #[.pointer (some ⟨b, 0, none⟩)] w fun e w' => ∃ A c, e = .returned (.tuple #[.slice A R.length c, .int .i64 E]) ∧ Reads w' w'.heap.size 3 A R.length (rowsR R) ∧ (0 < R.length → ∃ g, A = some ⟨g, 0, none⟩) ∧ Below w.heap.size w w' := by
  by_cases h0 : er 0 = 0
  · by_cases h1 : er 1 = 0
    · obtain rfl : E = 0 := by rw [← hE]; unfold bothE; rw [if_pos h0, h1]
      have : R = sortR ((if countsR 0 (L 0) = true then [candR (L 0)] else []) ++ (if countsR 1 (L 1) = true then [candR (L 1)] else [])) := by
        rw [← hR]
        unfold bothL
        rw [hE, if_pos rfl]
        rfl
      rw [this]
      have := r6both_ok (rd2_of h 0 (by omega) h0) (rd2_of h 1 (by omega) h1)
      exact this
    · have e1 : er 1 = E := by rw [← hE]; unfold bothE; rw [if_pos h0]
      obtain rfl : R = [] := by rw [← hR]; unfold bothL; rw [if_neg (by rw [hE, ← e1]; exact h1)]
      have ha0 : Rd2 w b 0 (L 0) := rd2_of h 0 (by omega) h0
      have hb0 : ∀ W, Below w.heap.size w W → Calls Tryz.prog 140 #[.pointer (some ⟨b, 0, none⟩), .int .i64 1] W fun e w' => ∃ v, e = .returned (.tuple #[v, .int .i64 (er 1)]) ∧ Gives W w' v (L 1) := fun W hW => h W hW 1 (by omega)
      have ha := Lib.hid ha0
      have hb := Lib.hid hb0
      clear ha0 hb0
      rw [e1] at hb h1
      have hn0 : (E != 0) = true := by rw [bne_iff_ne]; exact h1
      clear h h0 h1 hE hR e1
      go_enter Tryz.func88, Tryz.ntmps88
      go_wp2_with (first
        | (go_at_call 140; (have l0 := B1.out; clear l0); refine (hb.out w1 B1.out).mono ?_; rintro e w2 ⟨v2, rfl, A2, c2, rfl, o2, b2⟩; have B2 := Lib.hid (B1.out.trans (b2.mono B1.out.size)); clear o2 b2)
        | (go_at_call 140; (with_reducible refine (ha.out w (Below.refl _ _)).mono ?_); rintro e w1 ⟨A1, c1, rfl, r1, cp1, b1⟩; have B1 := Lib.hid b1; clear b1 r1 cp1))
      go_ret2
      exact ⟨none, 0, rfl, Reads.none_, fun h => absurd h (by decide), B2.out⟩
  · have e0 : er 0 = E := by rw [← hE]; unfold bothE; rw [if_neg h0]
    obtain rfl : R = [] := by rw [← hR]; unfold bothL; rw [if_neg (by rw [hE, ← e0]; exact h0)]
    have ha := Lib.hid (h w (Below.refl _ _) 0 (by omega))
    rw [e0] at ha h0
    have hn0 : (E != 0) = true := by rw [bne_iff_ne]; exact h0
    clear h h0 hE hR e0
    go_enter Tryz.func88, Tryz.ntmps88
    go_wp2_with (go_at_call 140; refine ha.out.mono ?_; rintro e w1 ⟨v1, rfl, A1, c1, rfl, o1, b1⟩; have B1 := Lib.hid b1; clear b1 o1)
    go_ret2
    exact ⟨none, 0, rfl, Reads.none_, fun h => absurd h (by decide), B1.out⟩

theorem reads_root {w : World} {g n : Nat} {r : RV} {xs : List Value} (h : Reads w w.heap.size 3 (some ⟨g, 0, none⟩) (n + 1) (encR r ++ xs)) :
    w.cell? ⟨g, 0, none⟩ = some (.int .u64 (r.n : Int)) ∧ w.cell? ⟨g, 1, none⟩ = some (.int .i64 r.len) ∧ w.cell? ⟨g, 2, none⟩ = some (.int .u32 (r.sm : Int)) := by
  obtain ⟨ad, e, _, hc⟩ := h.2 (by omega)
  injection e with e
  subst e
  have hp : ∀ j, (⟨g, 0, none⟩ : Addr).add j = ⟨g, j, none⟩ := fun j => by unfold Addr.add; split <;> simp_all
  have h0 := hc 0 _ rfl
  have h1 := hc 1 _ rfl
  have h2 := hc 2 _ rfl
  rw [hp] at h0 h1 h2
  exact ⟨h0, h1, h2⟩
set_option maxRecDepth 100000 in
set_option maxHeartbeats 4000000 in
theorem r6load_any {w : World} {b : Nat} {er : Nat → Int} {L : Nat → List UInt8} (h : GAt w b er L) {E : Int} {r : RV} (hE : bothE er = E) (hr : (bothL er L).headD noR = r) :
    Calls Tryz.prog 86 #[.pointer (some ⟨b, 0, none⟩)] w fun e w' => e = .returned (.tuple #[rtv r, .int .i64 E]) ∧ Below w.heap.size w w' := by
  obtain ⟨w0, hw0⟩ : ∃ w0, w.alloc (.cells #[.int .u64 0, .int .i64 0, .int .u32 0] 35) = w0 := ⟨_, rfl⟩
  have hx0 : Blk w0 w.heap.size 35 #[.int .u64 0, .int .i64 0, .int .u32 0] := by rw [← hw0]; exact Blk.new w _ _
  have hb0 : Below w.heap.size w w0 := by rw [← hw0]; exact (Below.refl _ _).alloc (Nat.le_refl _) _
  obtain ⟨R, hR⟩ : ∃ R, bothL er L = R := ⟨_, rfl⟩
  have hB := r6both_any (h.next hb0) hE hR
  have hne : E ≠ 0 → R = [] := fun h => by rw [← hR]; unfold bothL; rw [hE, if_neg h]
  rw [hR] at hr
  have HX := Lib.hid hx0
  have HB0 := Lib.hid hb0
  have HNE := Lib.hid hne
  clear hx0 hb0 h hR hne hE
  unfold rtv
  rcases R with _ | ⟨r0, rs⟩
  · have hr' : noR = r := hr
    subst hr'
    have HB := Lib.hid hB
    simp only [List.length_nil] at HB
    clear hB hr HNE
    by_cases h0 : E = 0
    · subst h0
      go_enter Tryz.func86, Tryz.ntmps86
      go_wp2_with (go_at_call 88; refine HB.out.mono ?_; rintro e w1 ⟨A, c, rfl, _, _, b1⟩; clear hw0; have hx1 := HX.out.below b1 HX.out.lt; have x0 := hx1.cell 0; have x1 := hx1.cell 1; have x2 := hx1.cell 2; have f0 := hx1.frozen 0; have f1 := hx1.frozen 1; have f2 := hx1.frozen 2; have HX1 := Lib.hid hx1; have B1 := Lib.hid (HB0.out.trans (b1.mono HB0.out.size)); clear hx1 b1)
      refine bodyPost_ret (results_root2 rfl rfl rfl (blk_root _ _ _ HX1.out)) rfl ?_
      have hk := keep_root w1 w.heap.size (.int .u64 0) (.int .i64 0) (.int .u32 0)
      exact ⟨rfl, B1.out.trans (hk.below B1.out.size (fun i hi e => by omega))⟩
    · have hn0 : (E != 0) = true := by rw [bne_iff_ne]; exact h0
      clear h0
      go_enter Tryz.func86, Tryz.ntmps86
      go_wp2_with (go_at_call 88; refine HB.out.mono ?_; rintro e w1 ⟨A, c, rfl, _, _, b1⟩; clear hw0; have hx1 := HX.out.below b1 HX.out.lt; have x0 := hx1.cell 0; have x1 := hx1.cell 1; have x2 := hx1.cell 2; have f0 := hx1.frozen 0; have f1 := hx1.frozen 1; have f2 := hx1.frozen 2; have HX1 := Lib.hid hx1; have B1 := Lib.hid (HB0.out.trans (b1.mono HB0.out.size)); clear hx1 b1)
      refine bodyPost_ret (results_root2 rfl rfl rfl (blk_root _ _ _ HX1.out)) rfl ?_
      have hk := keep_root w1 w.heap.size (.int .u64 0) (.int .i64 0) (.int .u32 0)
      exact ⟨rfl, B1.out.trans (hk.below B1.out.size (fun i hi e => by omega))⟩
  · obtain rfl : r0 = r := hr
    obtain rfl : E = 0 := by
      rcases Decidable.em (E = 0) with h | h
      · exact h
      · have := HNE.out h
        cases this
    have HB := Lib.hid hB
    simp only [List.length_cons] at HB
    clear hB HNE
    generalize rs.length = m at *
    go_enter Tryz.func86, Tryz.ntmps86
    go_wp2_with (go_at_call 88; refine HB.out.mono ?_; rintro e w1 ⟨A, c, rfl, o1, hg, b1⟩; clear hw0; obtain ⟨g, rfl⟩ := hg (by omega); obtain ⟨y0, y1, y2⟩ := reads_root (xs := rowsR rs) o1; have hx1 := HX.out.below b1 HX.out.lt; have x0 := hx1.cell 0; have x1 := hx1.cell 1; have x2 := hx1.cell 2; have f0 := hx1.frozen 0; have f1 := hx1.frozen 1; have f2 := hx1.frozen 2; have HX1 := Lib.hid hx1; have B1 := Lib.hid (HB0.out.trans (b1.mono HB0.out.size)); clear hx1 b1 o1 hg)
    refine bodyPost_ret (results_root2 rfl rfl rfl (blk_root _ _ _ HX1.out)) rfl ?_
    have hk := keep_root w1 w.heap.size (.int .u64 r0.n) (.int .i64 r0.len) (.int .u32 r0.sm)
    exact ⟨rfl, B1.out.trans (hk.below B1.out.size (fun i hi e => by omega))⟩

end Go.Proofs.YtkebbjodkhjbmaaGreat.root

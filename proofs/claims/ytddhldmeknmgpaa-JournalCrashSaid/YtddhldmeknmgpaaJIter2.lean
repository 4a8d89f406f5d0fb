/-
  The journal of layer 8: the iterator of a journal's sectors, each with the record that it tells and the error of reading it.
-/
import Derived.Test.YtddhldmeknmgpaaJIter
import Derived.Test.YtddhldmeknmgpaaOpen
namespace Go.Proofs.Ytddhldmeknmgpaa.journal
open Go.RowKit Go.Proofs.Ytddhldmeknmgpaa.crc Go.Proofs.Ytddhldmeknmgpaa.root

/-- A disk (or none) that answers so wherever it is read, whatever is laid behind it. -/
structure Src (p : Option Addr) (D : World → Prop) (er : Int → Int) (L : Int → List UInt8) : Prop where
  stay : ∀ W W', D W → Below W.heap.size W W' → D W'
  read : ∀ (a : Int) W, D W → Calls Try.prog 21 #[.pointer p, .int .i64 a] W fun e w' => ∃ A c, e = .returned (.tuple #[.slice A (L a).length c, .int .i64 (er a)]) ∧ Reads w' w'.heap.size 1 A (L a).length ((L a).map bv) ∧ Below W.heap.size W w'

/-- What stands of a Read's answer. -/
def RdV (m : Nat) (l : List UInt8) (E : Int) (vs : List Value) (i : Nat) (v : Value) (W : World) : Prop :=
  (i < 10 → v = vs.getD i undef) ∧ ((i = 10 ∨ i = 11) → ∃ A c, v = .tuple #[.slice A m c, .int .i64 E] ∧ Reads W W.heap.size 1 A m (l.map bv)) ∧ ((i = 12 ∨ i = 14) → ∃ A c, v = .slice A m c ∧ Reads W W.heap.size 1 A m (l.map bv)) ∧ ((i = 13 ∨ i = 15) → v = .int .i64 E)
theorem RdV.below {m i : Nat} {l : List UInt8} {E : Int} {vs : List Value} {v : Value} {W W' : World} (h : RdV m l E vs i v W) (hb : Below W.heap.size W W') : RdV m l E vs i v W' :=
  ⟨h.1, fun e => by obtain ⟨A, c, e1, e2⟩ := h.2.1 e; exact ⟨A, c, e1, (e2.below hb).more hb.size⟩, fun e => by obtain ⟨A, c, e1, e2⟩ := h.2.2.1 e; exact ⟨A, c, e1, (e2.below hb).more hb.size⟩, h.2.2.2⟩

def recV (l : List UInt8) (x : Option Addr × Nat) : Value := .agg #[.int .u64 (decJ l).ep, .int .u64 (decJ l).n, .slice x.1 (decJ l).pl.length x.2]
def adr (at_ : Int) (k : Nat) : Int := IntKind.i64.wrap (at_ + (k : Int))
def jvAt (er : Int → Int) (L : Int → List UInt8) (at_ : Int) (k : Nat) (x : Option Addr × Nat) : Array Value := #[recV (L (adr at_ k)) x, .int .i64 (er (adr at_ k))]
def jvPre (C b M : Nat) (p : Option Addr) (at_ : Int) (D : World → Prop) (k : Nat) (W : World) : Prop := k ≤ M ∧ (W.cell? ⟨C, 0, none⟩ = some (.pointer (some ⟨b, 0, none⟩)) ∧ W.cell? ⟨b, 1, none⟩ = some (.pointer p) ∧ W.cell? ⟨b, 2, none⟩ = some (.int .i64 at_) ∧ W.cell? ⟨b, 3, none⟩ = some (.int .i64 (M : Int))) ∧ D W
def jvX (L : Int → List UInt8) (at_ : Int) (M k : Nat) (x : Option Addr × Nat) (W W' : World) : Prop := k < M ∧ W'.ownsRow W.heap.size 5 1 (.slice x.1 (decJ (L (adr at_ k))).pl.length x.2) (decJ (L (adr at_ k))).pl.length ((decJ (L (adr at_ k))).pl.map bv) ∧ Below W.heap.size W W'
def jvZ (M k : Nat) (W W' : World) : Prop := k = M ∧ W' = W

theorem jsectors_any (q : Option Addr) (w : World) : Calls Try.prog 60 #[.pointer q] w fun e w' => e = .returned (.func (.func 70) #[] #[.pointer (some ⟨w.heap.size, 0, none⟩)]) ∧ w.alloc (.cells #[.pointer q] 38) = w' := by
  go_enter Try.func60, Try.ntmps60
  go_wp2
  go_ret
  exact ⟨rfl, rfl⟩

section
attribute [local go_sem] Oper.semAt_some
set_option maxRecDepth 100000 in
set_option maxHeartbeats 4000000 in
theorem jsectors_moves (n : Nat) (h1 : 1 ≤ n) (C b M : Nat) {p : Option Addr} {at_ : Int} {D : World → Prop} {er : Int → Int} {L : Int → List UInt8} (hS : Src p D er L) (hM : (M : Int) ≤ 9223372036854775807) (w : World) :
    SeqMovesV Fence.wide n Try.prog 70 #[.pointer (some ⟨C, 0, none⟩)] (jvAt er L at_) (jvPre C b M p at_ D) (jvX L at_ M) (jvZ M) w := by
  intro lp J Jm Jx Jz W hW hP hX hZ hY h0
  obtain ⟨_, ⟨x0, x1, x2, x3⟩, hD0⟩ := hP 0 W h0
  have HP := Lib.hid hP
  have HX := Lib.hid hX
  have HZ := Lib.hid hZ
  have HY := Lib.hid hY
  have H0 := Lib.hid h0
  have HS := Lib.hid hS
  have HM := Lib.hid hM
  have hfw : Fence.wide.fn 21 := trivial
  have hfx : Fence.wide.fn 11 := trivial
  clear hP hX hZ hY h0 hW hS hD0
  refine callsIn_of_wp Try.func70 rfl trivial ?_ rfl
  simp only [Try.ntmps70, List.size_toArray, List.length_cons, List.length_nil, Nat.reduceAdd, Nat.reduceSub, Array.replicate_succ, Array.replicate_zero, List.push_toArray, List.append_toArray, List.nil_append, List.cons_append]
  gi_wp2
  gi_loopw [11] (fun q wr => ∃ k : Nat, q = .int .i64 (k : Int) ∧ k ≤ M ∧ J k wr) (fun i _ => M + 1 - (RowKit.intOf i).toNat)
  case atStart => exact ⟨0, rfl, Nat.zero_le _, H0.out⟩
  case round =>
    obtain ⟨k, rfl, hkM, hJ⟩ := hrel
    obtain ⟨_, hcs, hD⟩ := HP.out k wr hJ
    have HJ := Lib.hid hJ
    have HD := Lib.hid hD
    have HCS := Lib.hid hcs
    obtain ⟨a, ha⟩ : ∃ a, adr at_ k = a := ⟨_, rfl⟩
    have ha' : IntKind.i64.wrap (at_ + (k : Int)) = a := ha
    obtain ⟨E, hE⟩ : ∃ E, er a = E := ⟨_, rfl⟩
    obtain ⟨m, hm⟩ : ∃ m, (L a).length = m := ⟨_, rfl⟩
    by_cases hk : k < M
    · have hd : (k : Int) < (M : Int) := by omega
      have HC : Hid (∀ W, Below wr.heap.size wr W → W.cell? ⟨C, 0, none⟩ = some (.pointer (some ⟨b, 0, none⟩)) ∧ W.cell? ⟨b, 1, none⟩ = some (.pointer p) ∧ W.cell? ⟨b, 2, none⟩ = some (.int .i64 at_) ∧ W.cell? ⟨b, 3, none⟩ = some (.int .i64 (M : Int))) := Lib.hid (fun W hb => by
        obtain ⟨c0, c1, c2, c3⟩ := HCS.out
        have keep : ∀ (u : Addr) (v : Value), wr.cell? u = some v → W.cell? u = some v := fun u v hu => (World.cell?_of_block (hb.block u.block (lt_of_cell hu))).trans hu
        exact ⟨keep _ _ c0, keep _ _ c1, keep _ _ c2, keep _ _ c3⟩)
      have HRD : Hid (∀ W, Below wr.heap.size wr W → Calls Try.prog 21 #[.pointer p, .int .i64 a] W fun e w' => ∃ A c, e = .returned (.tuple #[.slice A m c, .int .i64 E]) ∧ Reads w' w'.heap.size 1 A m ((L a).map bv) ∧ Below W.heap.size W w') := Lib.hid (fun W hb => by
        have := HS.out.read a W (HS.out.stay _ _ HD.out hb)
        rw [hE, hm] at this
        exact this)
      have HK := Lib.hid hk
      have HA := Lib.hid ha
      have HE := Lib.hid hE
      have HML := Lib.hid hm
      clear hk hm hE ha hkM hJ hD hcs x0 x1 x2 x3
      gi_wp2
      refine wpIn_region_done_on (fun _ W => Below wr.heap.size wr W) (fun _ i v W => RdV m (L a) E [.pointer (some ⟨b, 0, none⟩), .pointer (some ⟨b, 0, none⟩), .pointer (some ⟨b, 1, none⟩), .pointer p, .pointer (some ⟨b, 0, none⟩), .pointer (some ⟨b, 0, none⟩), .pointer (some ⟨b, 2, none⟩), .int .i64 at_, .int .i64 ((k : Nat) : Int), .int .i64 a] i v W) (by kernel_rfl) 44 rfl (by kernel_rfl) ((Below.refl _ wr).drew) ?_ ?_
      · intro i hi
        have hi2 : i < 16 := hi
        clear hi
        rcases i with _ | i
        · refine doneIn_value (fun _ _ h => h) (fun _ _ _ _ h => h) (.pointer (some ⟨b, 0, none⟩)) rfl (fun _ => rfl) ?_
          intro dn a8 w8 hS hd ho hn
          have o1 : a8.tmps[1]? = some _ := (ho 1 (by kernel_rfl)).trans rfl
          clear ho hn
          refine ⟨wanted_free rfl, ?_, ⟨fun _ => rfl, fun h => by omega, fun h => by omega, fun h => by omega⟩⟩
          obtain ⟨x0, x1, x2, x3⟩ := HC.out w8 hS
          go_simp
        rcases i with _ | i
        · refine doneIn_value (fun _ _ h => h) (fun _ _ _ _ h => h) (.pointer (some ⟨b, 0, none⟩)) rfl (fun _ => rfl) ?_
          intro dn a8 w8 hS hd ho hn
          obtain ⟨_, n15, h15⟩ := hn 0 15 (by kernel_rfl) rfl
          obtain rfl := h15.1 (by decide)
          clear ho hn
          refine ⟨wanted_free rfl, ?_, ⟨fun _ => rfl, fun h => by omega, fun h => by omega, fun h => by omega⟩⟩
          go_simp
        rcases i with _ | i
        · refine doneIn_value (fun _ _ h => h) (fun _ _ _ _ h => h) (.pointer (some ⟨b, 1, none⟩)) rfl (fun _ => rfl) ?_
          intro dn a8 w8 hS hd ho hn
          obtain ⟨_, n16, h16⟩ := hn 1 16 (by kernel_rfl) rfl
          obtain rfl := h16.1 (by decide)
          clear ho hn
          refine ⟨wanted_free rfl, ?_, ⟨fun _ => rfl, fun h => by omega, fun h => by omega, fun h => by omega⟩⟩
          go_simp
        rcases i with _ | i
        · refine doneIn_value (fun _ _ h => h) (fun _ _ _ _ h => h) (.pointer p) rfl (fun _ => rfl) ?_
          intro dn a8 w8 hS hd ho hn
          obtain ⟨_, n17, h17⟩ := hn 2 17 (by kernel_rfl) rfl
          obtain rfl := h17.1 (by decide)
          clear ho hn
          refine ⟨wanted_free rfl, ?_, ⟨fun _ => rfl, fun h => by omega, fun h => by omega, fun h => by omega⟩⟩
          obtain ⟨x0, x1, x2, x3⟩ := HC.out w8 hS
          go_simp
        rcases i with _ | i
        · refine doneIn_value (fun _ _ h => h) (fun _ _ _ _ h => h) (.pointer (some ⟨b, 0, none⟩)) rfl (fun _ => rfl) ?_
          intro dn a8 w8 hS hd ho hn
          have o1 : a8.tmps[1]? = some _ := (ho 1 (by kernel_rfl)).trans rfl
          clear ho hn
          refine ⟨wanted_free rfl, ?_, ⟨fun _ => rfl, fun h => by omega, fun h => by omega, fun h => by omega⟩⟩
          obtain ⟨x0, x1, x2, x3⟩ := HC.out w8 hS
          go_simp
        rcases i with _ | i
        · refine doneIn_value (fun _ _ h => h) (fun _ _ _ _ h => h) (.pointer (some ⟨b, 0, none⟩)) rfl (fun _ => rfl) ?_
          intro dn a8 w8 hS hd ho hn
          obtain ⟨_, n19, h19⟩ := hn 4 19 (by kernel_rfl) rfl
          obtain rfl := h19.1 (by decide)
          clear ho hn
          refine ⟨wanted_free rfl, ?_, ⟨fun _ => rfl, fun h => by omega, fun h => by omega, fun h => by omega⟩⟩
          go_simp
        rcases i with _ | i
        · refine doneIn_value (fun _ _ h => h) (fun _ _ _ _ h => h) (.pointer (some ⟨b, 2, none⟩)) rfl (fun _ => rfl) ?_
          intro dn a8 w8 hS hd ho hn
          obtain ⟨_, n20, h20⟩ := hn 5 20 (by kernel_rfl) rfl
          obtain rfl := h20.1 (by decide)
          clear ho hn
          refine ⟨wanted_free rfl, ?_, ⟨fun _ => rfl, fun h => by omega, fun h => by omega, fun h => by omega⟩⟩
          go_simp
        rcases i with _ | i
        · refine doneIn_value (fun _ _ h => h) (fun _ _ _ _ h => h) (.int .i64 at_) rfl (fun _ => rfl) ?_
          intro dn a8 w8 hS hd ho hn
          obtain ⟨_, n21, h21⟩ := hn 6 21 (by kernel_rfl) rfl
          obtain rfl := h21.1 (by decide)
          clear ho hn
          refine ⟨wanted_free rfl, ?_, ⟨fun _ => rfl, fun h => by omega, fun h => by omega, fun h => by omega⟩⟩
          obtain ⟨x0, x1, x2, x3⟩ := HC.out w8 hS
          go_simp
        rcases i with _ | i
        · refine doneIn_value (fun _ _ h => h) (fun _ _ _ _ h => h) (.int .i64 ((k : Nat) : Int)) rfl (fun _ => rfl) ?_
          intro dn a8 w8 hS hd ho hn
          have o3 : a8.tmps[3]? = some _ := (ho 3 (by kernel_rfl)).trans rfl
          clear ho hn
          refine ⟨wanted_free rfl, ?_, ⟨fun _ => rfl, fun h => by omega, fun h => by omega, fun h => by omega⟩⟩
          go_simp
        rcases i with _ | i
        · refine doneIn_value (fun _ _ h => h) (fun _ _ _ _ h => h) (.int .i64 a) rfl (fun _ => rfl) ?_
          intro dn a8 w8 hS hd ho hn
          obtain ⟨_, n22, h22⟩ := hn 7 22 (by kernel_rfl) rfl
          obtain rfl := h22.1 (by decide)
          obtain ⟨_, n23, h23⟩ := hn 8 23 (by kernel_rfl) rfl
          obtain rfl := h23.1 (by decide)
          clear ho hn
          refine ⟨wanted_free rfl, ?_, ⟨fun _ => rfl, fun h => by omega, fun h => by omega, fun h => by omega⟩⟩
          go_simp
        rcases i with _ | i
        · refine doneIn_call 21 #[.pointer p, .int .i64 a] rfl (fun _ => rfl) ?_
          intro dn a8 w8 hS hd ho hn
          obtain ⟨_, n18, h18⟩ := hn 3 18 (by kernel_rfl) rfl
          obtain rfl := h18.1 (by decide)
          obtain ⟨_, n24, h24⟩ := hn 9 24 (by kernel_rfl) rfl
          obtain rfl := h24.1 (by decide)
          clear ho hn
          refine ⟨wanted_free rfl, by go_simp, ?_⟩
          refine (HRD.out w8 hS).mono ?_
          rintro e w9 ⟨A, c, rfl, hr, hb⟩
          exact ⟨_, rfl, (show Below wr.heap.size wr w8 from hS).trans (hb.mono (show Below wr.heap.size wr w8 from hS).size), ⟨fun h => by omega, fun _ => ⟨A, c, rfl, hr⟩, fun h => by omega, fun h => by omega⟩, fun j u _ _ h => h.below hb⟩
        rcases i with _ | i
        · refine doneIn_any (fun _ _ h => h) (fun _ _ _ _ h => h) rfl (fun _ => rfl) ?_
          intro dn a8 w8 hS hd ho hn
          obtain ⟨_, n25, h25⟩ := hn 10 25 (by kernel_rfl) rfl
          obtain ⟨A, c, rfl, hr⟩ := h25.2.1 (.inl rfl)
          clear ho hn
          refine ⟨wanted_free rfl, .tuple #[.slice A m c, .int .i64 E], ?_, ⟨fun h => by omega, fun _ => ⟨A, c, rfl, hr⟩, fun h => by omega, fun h => by omega⟩⟩
          go_simp
        rcases i with _ | i
        · refine doneIn_any (fun _ _ h => h) (fun _ _ _ _ h => h) rfl (fun _ => rfl) ?_
          intro dn a8 w8 hS hd ho hn
          obtain ⟨_, n14, h14⟩ := hn 11 14 (by kernel_rfl) rfl
          obtain ⟨A, c, rfl, hr⟩ := h14.2.1 (.inr rfl)
          clear ho hn
          refine ⟨wanted_free rfl, .slice A m c, ?_, ⟨fun h => by omega, fun h => by omega, fun _ => ⟨A, c, rfl, hr⟩, fun h => by omega⟩⟩
          go_simp
        rcases i with _ | i
        · refine doneIn_any (fun _ _ h => h) (fun _ _ _ _ h => h) rfl (fun _ => rfl) ?_
          intro dn a8 w8 hS hd ho hn
          obtain ⟨_, n14, h14⟩ := hn 11 14 (by kernel_rfl) rfl
          obtain ⟨A, c, rfl, hr⟩ := h14.2.1 (.inr rfl)
          clear ho hn
          refine ⟨wanted_free rfl, .int .i64 E, ?_, ⟨fun h => by omega, fun h => by omega, fun h => by omega, fun _ => rfl⟩⟩
          go_simp
        rcases i with _ | i
        · refine doneIn_any (fun _ _ h => h) (fun _ _ _ _ h => h) rfl (fun _ => rfl) ?_
          intro dn a8 w8 hS hd ho hn
          obtain ⟨_, n26, h26⟩ := hn 12 26 (by kernel_rfl) rfl
          obtain ⟨A, c, rfl, hr⟩ := h26.2.2.1 (.inl rfl)
          clear ho hn
          refine ⟨wanted_free rfl, .slice A m c, ?_, ⟨fun h => by omega, fun h => by omega, fun _ => ⟨A, c, rfl, hr⟩, fun h => by omega⟩⟩
          go_simp
        rcases i with _ | i
        · refine doneIn_any (fun _ _ h => h) (fun _ _ _ _ h => h) rfl (fun _ => rfl) ?_
          intro dn a8 w8 hS hd ho hn
          obtain ⟨_, n27, h27⟩ := hn 13 27 (by kernel_rfl) rfl
          obtain rfl := h27.2.2.2 (.inl rfl)
          clear ho hn
          refine ⟨wanted_free rfl, .int .i64 E, ?_, ⟨fun h => by omega, fun h => by omega, fun h => by omega, fun _ => rfl⟩⟩
          go_simp
        omega
      · intro dn fv w5 hS5 hR5 hall
        obtain ⟨A, c, hv4, hr5⟩ := (hR5 14 4 rfl).2.2.1 (.inr rfl)
        have hv5 := (hR5 15 5 rfl).2.2.2 (.inr rfl)
        have hb5 : Below wr.heap.size wr w5 := hS5
        clear hR5 hS5 hall
        simp only [putAll, List.foldl_cons, List.foldl_nil, Act.put, List.setIfInBounds_toArray, List.set_cons_succ, List.set_cons_zero, hv4, hv5]
        have hba : Below w5.heap.size w5 (w5.alloc (.cells #[.int .u64 0, .int .u64 0, .slice none 0 0] 69)) := (Below.refl _ _).alloc (Nat.le_refl _) _
        have HDC := Lib.hid (jdecode_any A c m (L a) _ HML.out ((hr5.below hba).more hba.size))
        obtain ⟨pn, hpn⟩ : ∃ n, (decJ (L a)).pl.length = n := ⟨_, rfl⟩
        have HPN := Lib.hid hpn
        have HB5 := Lib.hid hb5
        have HXB := Lib.hid (Blk.new w5 69 #[.int .u64 0, .int .u64 0, .slice none 0 0])
        have HBA := Lib.hid hba
        clear hr5 hba hb5 hpn
        gi_wp2_with (first
          | (gi_at_call 11; refine (callsIn_wide.2 HDC.out).mono ?_; rintro e w6 ⟨v, rfl, g⟩; obtain ⟨A6, c6, rfl, o6, b6⟩ := gives_len g HPN.out
             have hx6 := HXB.out.below b6 (by simp)
             have x0 := hx6.cell 0; have x1 := hx6.cell 1; have x2 := hx6.cell 2; have f0 := hx6.frozen 0; have f1 := hx6.frozen 1; have f2 := hx6.frozen 2
             have hb9 := blk_three (.int .u64 (decJ (L a)).ep) (.int .u64 (decJ (L a)).n) (.slice A6 pn c6) hx6
             have k9 := keep_three w6 w5.heap.size (.int .u64 (decJ (L a)).ep) (.int .u64 (decJ (L a)).n) (.slice A6 pn c6)
             obtain ⟨W9, hW9⟩ : ∃ W9, (((w6.setCell ⟨w5.heap.size, 0, none⟩ (.int .u64 (decJ (L a)).ep)).setCell ⟨w5.heap.size, 1, none⟩ (.int .u64 (decJ (L a)).n)).setCell ⟨w5.heap.size, 2, none⟩ (.slice A6 pn c6)) = W9 := ⟨_, rfl⟩
             rw [hW9] at hb9 k9
             have y0 := hb9.cell 0; have y1 := hb9.cell 1; have y2 := hb9.cell 2
             have b59 : Below w5.heap.size w5 W9 := (HBA.out.trans (b6.mono (by simp))).trans (k9.below (by have := b6.size; simp at this; omega) (fun i hi e => by omega))
             have b9 : Below wr.heap.size wr W9 := HB5.out.trans (b59.mono HB5.out.size)
             have o9 : W9.ownsRow wr.heap.size 5 1 (.slice A6 pn c6) pn ((decJ (L a)).pl.map bv) := own_mono (k9.own o6 (fun g e e2 => by have := (own_is o6 g e).1; simp at this; omega)) (by have := HB5.out.size; simp; omega)
             obtain ⟨fn, tmps, assign, body, hy, hR⟩ := HY.out k (A6, c6) W9 (HX.out k _ wr W9 HJ.out ⟨HK.out, by rw [HA.out, HPN.out]; exact o9, b9⟩)
             have HRO := Lib.hid hR
             unfold jvAt recV at hy
             rw [HA.out, HE.out, HPN.out] at hy
             clear g o6 b6 hx6 hb9 k9 b59 b9 o9 hR))
        refine HRO.out.mono ?_
        rintro e W3 (⟨rfl, hJ3⟩ | ⟨rfl, hJx3⟩)
        · gi_wp2
          go_roundw
          case rel => exact ⟨k + 1, by go_num, by have := HK.out; omega, hJ3⟩
          case measure => have := HK.out; simp [RowKit.intOf]; omega
        · gi_wp2
          refine bodyPost_ret (results_none rfl _ _ _) rfl ?_
          exact ⟨⟨_, rfl⟩, .inl hJx3⟩
    · obtain rfl : k = M := by omega
      have HE := Lib.hid (HZ.out k wr wr HJ.out ⟨rfl, rfl⟩)
      clear hk hkM hE hm ha
      gi_wp2
      go_end0
      exact ⟨⟨_, rfl⟩, .inr HE.out⟩
end
end Go.Proofs.Ytddhldmeknmgpaa.journal

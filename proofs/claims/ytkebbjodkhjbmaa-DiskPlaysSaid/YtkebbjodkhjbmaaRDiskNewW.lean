/-
  The given disk of layer 3: New.
-/
import Derived.Test.YtkebbjodkhjbmaaRDiskNew
import Derived.Test.YtkebbjodkhjbmaaRtDec
import Derived.Test.YtkebbjodkhjbmaaDone
namespace Go.Proofs.Ytkebbjodkhjbmaa
open Go.RowKit Go.Proofs.Ytkebbjodkhjbmaa.root Go.Proofs.Ytkebbjodkhjbmaa.crc

def pick5 (W0 W1 W2 W3 W4 : World) (a b c d : Nat) (dn : Nat → Bool) : World := if dn d = true then W4 else if dn c = true then W3 else if dn b = true then W2 else if dn a = true then W1 else W0

theorem wpList_append_run {ops : Array Oper} {rest : List Oper} {o : Oper} {a : Act} {Q : Exit → Act → World → Prop} {w w' : World} {u y v' : Value} (hgd : o.guard = none) (s x : Operand) (t : TypeId)
    (ho : o.op = .call { callee := .builtin .append, args := #[s, x], argTypes := #[t, t] }) (hs : a.eval s = u) (hx : a.eval x = y) (hrun : (Builtin.append_ #[t, t] o.type #[u, y]).run Try.prog w = .ok v' w') (h : wpList Try.prog ops Q rest (a.put o.dst v') w') : wpList Try.prog ops Q (o :: rest) a w :=
  wpList_plain hgd fun _ hK => by
    unfold Oper.wp execOp
    simp only [ho, resolve, invoke, builtin, Sem.run_bind, Sem.run_pure, Result.andThen_ok, List.map_toArray, List.map_cons, List.map_nil, hs, hx, hrun]
    exact hK _ _ h

set_option maxRecDepth 100000 in
set_option maxHeartbeats 2000000 in
theorem rnew_any [Aside] (hz : ∀ k, ¬ Aside.out k) (n : Nat) (w : World) (h1 : 1 ≤ n) (h2 : n ≤ 4096) :
    Calls Try.prog 6 #[.int .i64 (n : Int)] w fun e w' => ∃ b gS gC cS cC vs ws, e = .returned (.tuple #[.pointer (some ⟨b, 0, none⟩), .int .i64 0]) ∧ RD w' b gS gC cS cC (.slice none 0 0) vs ws (newSt3 n) ∧ Below w.heap.size w w' ∧ (∀ k, rfoot b gS gC k → w.heap.size ≤ k) := by
  obtain ⟨CZ, hCZ⟩ := zeros_made (m := 128) (by omega) 128 rfl
  have HMK := Lib.hid (fun W => (hCZ W).1)
  have HZ := Lib.hid (fun W => (hCZ W).2)
  clear hCZ
  go_enter Try.func6, Try.ntmps6
  go_wp2
  obtain ⟨b, hb⟩ : ∃ b, w.heap.size = b := ⟨_, rfl⟩
  obtain ⟨wn, hwn⟩ : ∃ wn, w.alloc (.cells #[.slice none 0 0, .slice none 0 0, .int .i64 0, .slice none 0 0, .int .i64 0, .int .i64 0, .int .i64 0, .bool false] 42) = wn := ⟨_, rfl⟩
  have hn0 : RN w wn b 0 0 (.slice none 0 0) (.slice none 0 0) [] [] := by
    rw [← hwn, ← hb]
    exact ⟨(Below.refl _ _).alloc (Nat.le_refl _) _, Nat.le_refl _, Blk.new w _ _, World.ownsRow_nil _ _ _ _, World.ownsRow_nil _ _ _ _, fun g e => (by cases (show (none : Option Nat) = some g from e)), ⟨rfl, fun i l hl => by simp at hl⟩, ⟨rfl, fun i l hl => by simp at hl⟩⟩
  rw [hwn, hb]
  have HN0 := Lib.hid hn0
  have HB := Lib.hid hb
  clear hwn hn0 hb
  go_loopw [5] (fun i wr => ∃ (k : Nat) (vS vC : Value) (vs ws : List Value), k ≤ n ∧ i = .int .i64 (k : Int) ∧ RN w wr b k k vS vC vs ws) (fun i _ => n - (intOf i).toNat)
  case atStart => exact ⟨0, _, _, _, _, Nat.zero_le _, rfl, HN0.out⟩
  case round =>
    obtain ⟨k, vS, vC, vs, ws, hk, rfl, hn⟩ := hrel
    by_cases hlt : k < n
    · obtain ⟨AS, cS, rfl⟩ := own_slice3 hn.sOwn
      obtain ⟨AC, cC, rfl⟩ := own_slice3 hn.cOwn
      obtain ⟨W5, hW5⟩ : ∃ W5, wr.drew.alloc (.cells CZ 5) = W5 := ⟨_, rfl⟩
      obtain ⟨W6, hW6⟩ : ∃ W6, W5.alloc (.cells #[.slice (some ⟨wr.heap.size, 0, none⟩) 128 128] 33) = W6 := ⟨_, rfl⟩
      have hb5 : Below wr.heap.size wr W5 := by rw [← hW5]; exact (Below.refl _ wr).drew.alloc (Nat.le_refl _) _
      have hb6 : Below wr.heap.size wr W6 := by rw [← hW6]; exact hb5.alloc hb5.size _
      have ho5 : W5.ownsRow wr.heap.size 5 1 (.slice (some ⟨wr.heap.size, 0, none⟩) 128 128) 128 ((List.replicate 128 (0 : UInt8)).map bv) := by rw [← hW5]; exact HZ.out wr.drew
      have hh6 : Head W6 5 ((List.replicate 128 (0 : UInt8)).map bv) (.slice (some ⟨wr.heap.size, 0, none⟩) 128 128) := by
        rw [← hW6]
        exact (Head.own ho5).keep (Keep.of_below (S := fun _ => False) ((Below.refl _ W5).alloc (Nat.le_refl _) _)) (fun _ e => e.elim)
      have hu6 : W6.cell? ⟨W5.heap.size, 0, none⟩ = some (.slice (some ⟨wr.heap.size, 0, none⟩) 128 128) := by rw [← hW6]; exact (Blk.new W5 _ _).cell 0
      obtain ⟨v9, W7, hrun, hn7, hb7⟩ := hn.pushS hb6 40 ⟨W5.heap.size, 0, none⟩ 1 (.slice (some ⟨wr.heap.size, 0, none⟩) 128 128) hu6 rfl hh6 (by omega)
      obtain ⟨W10, hW10⟩ : ∃ W10, W7.setCell ⟨b, 0, none⟩ v9 = W10 := ⟨_, rfl⟩
      rw [hW10] at hn7
      obtain ⟨A9, c9, hv9⟩ := own_slice3 hn7.sOwn
      subst hv9
      have hbk5 : Blk W5 b 42 _ := hn.blk.below hb5 hn.blk.lt
      have hbk6 : Blk W6 b 42 _ := hn.blk.below hb6 hn.blk.lt
      have HRC : Hid (∀ dn : Nat → Bool, dn 10 = false → (pick5 wr.drew W5 W6 W7 W10 5 6 7 10 dn).cell? ⟨b, 0, none⟩ = some (.slice AS k cS)) := Lib.hid (fun dn h10 => by
        unfold pick5
        rw [h10]
        simp only [Bool.false_eq_true, if_false]
        split
        · exact hb7.cell 0
        · split
          · exact hbk6.cell 0
          · split
            · exact hbk5.cell 0
            · exact hn.blk.cell 0)
      have HG3 : Hid (W7.cell? ⟨b, 0, none⟩ = some (.slice AS k cS) ∧ W7.frozen? ⟨b, 0, none⟩ = false) := Lib.hid ⟨hb7.cell 0, hb7.frozen 0⟩
      have HRUN := Lib.hid hrun
      have HW5 := Lib.hid hW5
      have HW6 := Lib.hid hW6
      have HW10 := Lib.hid hW10
      have HN7 := Lib.hid hn7
      clear hW5 hW6 hb5 hb6 ho5 hh6 hu6 hrun hb7 hW10 hbk5 hbk6 hn7 hn
      go_wp2
      refine wp_region_done_on (fun dn W => W = pick5 wr.drew W5 W6 W7 W10 5 6 7 10 dn ∧ (dn 6 = true → dn 5 = true) ∧ (dn 7 = true → dn 6 = true) ∧ (dn 10 = true → dn 7 = true)) (fun dn i v _ => v = ([.pointer (some ⟨b, 0, none⟩), .pointer (some ⟨b, 0, none⟩), .pointer (some ⟨b, 0, none⟩), .pointer (some ⟨b, 0, none⟩), .slice AS k cS, .slice (some ⟨wr.heap.size, 0, none⟩) 128 128, .slice (some ⟨W5.heap.size, 0, none⟩) 1 1, .slice A9 (k + 1) c9, .pointer (some ⟨b, 0, none⟩), .pointer (some ⟨b, 0, none⟩)] : List Value).getD i undef ∧ (i = 5 → dn 5 = true) ∧ (i = 6 → dn 6 = true) ∧ (i = 7 → dn 7 = true)) (by kernel_rfl) 39 rfl (by kernel_rfl) (⟨rfl, fun e => e, fun e => e, fun e => e⟩) ?_ ?_
      · intro i hi
        have hi2 : i < 11 := hi
        clear hi
        rcases i with _ | i
        · refine done_value (fun _ _ h => h) (fun dn j u w h => ⟨h.1, fun e => by have := h.2.1 e; simp [upd, this], fun e => by have := h.2.2.1 e; simp [upd, this], fun e => by have := h.2.2.2 e; simp [upd, this]⟩) (.pointer (some ⟨b, 0, none⟩)) rfl ?_
          intro dn a8 w8 hS ho hn
          have o4 : a8.tmps[4]? = some _ := (ho 4 (by kernel_rfl)).trans rfl
          clear ho hn
          refine ⟨wanted_free rfl, ?_, rfl, fun e => absurd e (by decide), fun e => absurd e (by decide), fun e => absurd e (by decide)⟩
          go_simp
        rcases i with _ | i
        · refine done_value (fun _ _ h => h) (fun dn j u w h => ⟨h.1, fun e => by have := h.2.1 e; simp [upd, this], fun e => by have := h.2.2.1 e; simp [upd, this], fun e => by have := h.2.2.2 e; simp [upd, this]⟩) (.pointer (some ⟨b, 0, none⟩)) rfl ?_
          intro dn a8 w8 hS ho hn
          have o4 : a8.tmps[4]? = some _ := (ho 4 (by kernel_rfl)).trans rfl
          clear ho hn
          refine ⟨wanted_free rfl, ?_, rfl, fun e => absurd e (by decide), fun e => absurd e (by decide), fun e => absurd e (by decide)⟩
          go_simp
        rcases i with _ | i
        · refine done_value (fun _ _ h => h) (fun dn j u w h => ⟨h.1, fun e => by have := h.2.1 e; simp [upd, this], fun e => by have := h.2.2.1 e; simp [upd, this], fun e => by have := h.2.2.2 e; simp [upd, this]⟩) (.pointer (some ⟨b, 0, none⟩)) rfl ?_
          intro dn a8 w8 hS ho hn
          obtain ⟨_, n20, rfl, fa20⟩ := hn 1 20 (by kernel_rfl) rfl
          clear ho hn
          refine ⟨wanted_free rfl, ?_, rfl, fun e => absurd e (by decide), fun e => absurd e (by decide), fun e => absurd e (by decide)⟩
          go_simp
        rcases i with _ | i
        · refine done_value (fun _ _ h => h) (fun dn j u w h => ⟨h.1, fun e => by have := h.2.1 e; simp [upd, this], fun e => by have := h.2.2.1 e; simp [upd, this], fun e => by have := h.2.2.2 e; simp [upd, this]⟩) (.pointer (some ⟨b, 0, none⟩)) rfl ?_
          intro dn a8 w8 hS ho hn
          obtain ⟨_, n21, rfl, fa21⟩ := hn 2 21 (by kernel_rfl) rfl
          clear ho hn
          refine ⟨wanted_free rfl, ?_, rfl, fun e => absurd e (by decide), fun e => absurd e (by decide), fun e => absurd e (by decide)⟩
          go_simp
        rcases i with _ | i
        · refine done_read (fun _ _ h => h) (fun dn j u w h => ⟨h.1, fun e => by have := h.2.1 e; simp [upd, this], fun e => by have := h.2.2.1 e; simp [upd, this], fun e => by have := h.2.2.2 e; simp [upd, this]⟩) (.slice AS k cS) rfl ?_
          intro dn a8 w8 hS hx ho hn
          obtain ⟨_, n22, rfl, fa22⟩ := hn 3 22 (by kernel_rfl) rfl
          clear ho hn
          refine ⟨wanted_free rfl, ?_, rfl, fun e => absurd e (by decide), fun e => absurd e (by decide), fun e => absurd e (by decide)⟩
          have h7 : dn 7 = false := hx 7 (by kernel_rfl)
          have h10 : dn 10 = false := Bool.eq_false_iff.2 (fun e => (by have h0 := hS.2.2.2 e; rw [h7] at h0; cases h0))
          have h1 := HRC.out dn h10
          have hS2 : w8 = pick5 wr.drew W5 W6 W7 W10 5 6 7 10 dn := hS.1
          subst hS2
          clear hS
          go_simp
        rcases i with _ | i
        · refine done_make rfl ?_
          intro dn a8 w8 hS hd hx ho hn
          clear ho hn
          refine ⟨wanted_free rfl, ?_⟩
          have h5 : dn 5 = false := hd
          have h6 : dn 6 = false := Bool.eq_false_iff.2 (fun e => (by have h0 := hS.2.1 e; rw [h5] at h0; cases h0))
          have h7 : dn 7 = false := Bool.eq_false_iff.2 (fun e => (by have h0 := hS.2.2.1 e; rw [h6] at h0; cases h0))
          have h10 : dn 10 = false := Bool.eq_false_iff.2 (fun e => (by have h0 := hS.2.2.2 e; rw [h7] at h0; cases h0))
          have i6 := hS.2.1
          have i7 := hS.2.2.1
          have i10 := hS.2.2.2
          have hS2 : w8 = wr.drew := by { have h : w8 = pick5 wr.drew W5 W6 W7 W10 5 6 7 10 dn := hS.1; unfold pick5 at h; rw [h10, h7, h6, h5] at h; exact h }
          subst hS2
          have hmk := HMK.out wr.drew
          refine ⟨.slice (some ⟨wr.heap.size, 0, none⟩) 128 128, W5, (by rw [← HW5.out]; clear hS i6 i7 i10; go_simp), ⟨(by show W5 = pick5 wr.drew W5 W6 W7 W10 5 6 7 10 (upd dn 5); unfold pick5; rw [show upd dn 5 10 = false from h10, show upd dn 5 7 = false from h7, show upd dn 5 6 = false from h6, show upd dn 5 5 = true from rfl]; rfl), fun _ => rfl, i7, i10⟩, ⟨rfl, fun _ => rfl, fun e => absurd e (by decide), fun e => absurd e (by decide)⟩, fun j u _ _ h => ⟨h.1, fun e => by have := h.2.1 e; simp [upd, this], fun e => by have := h.2.2.1 e; simp [upd, this], fun e => by have := h.2.2.2 e; simp [upd, this]⟩⟩
        rcases i with _ | i
        · refine done_make rfl ?_
          intro dn a8 w8 hS hd hx ho hn
          obtain ⟨_, n24, hR24⟩ := hn 5 24 (by kernel_rfl) rfl
          clear ho hn
          refine ⟨wanted_free rfl, ?_⟩
          obtain ⟨rfl, fa5, _, _⟩ := hR24
          have h5 : dn 5 = true := fa5 rfl
          have h6 : dn 6 = false := hd
          have h7 : dn 7 = false := Bool.eq_false_iff.2 (fun e => (by have h0 := hS.2.2.1 e; rw [h6] at h0; cases h0))
          have h10 : dn 10 = false := Bool.eq_false_iff.2 (fun e => (by have h0 := hS.2.2.2 e; rw [h7] at h0; cases h0))
          have i6 := hS.2.1
          have i7 := hS.2.2.1
          have i10 := hS.2.2.2
          have hS2 : w8 = W5 := by { have h : w8 = pick5 wr.drew W5 W6 W7 W10 5 6 7 10 dn := hS.1; unfold pick5 at h; rw [h10, h7, h6, h5] at h; exact h }
          subst hS2
          refine ⟨.slice (some ⟨w8.heap.size, 0, none⟩) 1 1, W6, (by rw [← HW6.out]; clear hS i6 i7 i10; go_simp), ⟨(by show W6 = pick5 wr.drew w8 W6 W7 W10 5 6 7 10 (upd dn 6); unfold pick5; rw [show upd dn 6 10 = false from h10, show upd dn 6 7 = false from h7, show upd dn 6 6 = true from rfl]; rfl), fun _ => h5, fun _ => rfl, i10⟩, ⟨rfl, fun e => absurd e (by decide), fun _ => rfl, fun e => absurd e (by decide)⟩, fun j u _ _ h => ⟨h.1, fun e => by have := h.2.1 e; simp [upd, this], fun e => by have := h.2.2.1 e; simp [upd, this], fun e => by have := h.2.2.2 e; simp [upd, this]⟩⟩
        rcases i with _ | i
        · refine done_make rfl ?_
          intro dn a8 w8 hS hd hx ho hn
          obtain ⟨_, n23, rfl, fa23⟩ := hn 4 23 (by kernel_rfl) rfl
          obtain ⟨_, n25, hR25⟩ := hn 6 25 (by kernel_rfl) rfl
          clear ho hn
          refine ⟨wanted_free rfl, ?_⟩
          obtain ⟨rfl, _, fa6, _⟩ := hR25
          have h6 : dn 6 = true := fa6 rfl
          have h7 : dn 7 = false := hd
          have h10 : dn 10 = false := Bool.eq_false_iff.2 (fun e => (by have h0 := hS.2.2.2 e; rw [h7] at h0; cases h0))
          have i6 := hS.2.1
          have i7 := hS.2.2.1
          have i10 := hS.2.2.2
          have hS2 : w8 = W6 := by { have h : w8 = pick5 wr.drew W5 W6 W7 W10 5 6 7 10 dn := hS.1; unfold pick5 at h; rw [h10, h7, h6] at h; exact h }
          subst hS2
          exact ⟨.slice A9 (k + 1) c9, W7, exec_append _ _ 40 rfl (eval_of n23) (eval_of n25) HRUN.out, ⟨(by show W7 = pick5 wr.drew W5 w8 W7 W10 5 6 7 10 (upd dn 7); unfold pick5; rw [show upd dn 7 10 = false from h10, show upd dn 7 7 = true from rfl]; rfl), i6, fun _ => h6, fun _ => rfl⟩, ⟨rfl, fun e => absurd e (by decide), fun e => absurd e (by decide), fun _ => rfl⟩, fun j u _ _ h => ⟨h.1, fun e => by have := h.2.1 e; simp [upd, this], fun e => by have := h.2.2.1 e; simp [upd, this], fun e => by have := h.2.2.2 e; simp [upd, this]⟩⟩
        rcases i with _ | i
        · refine done_value (fun _ _ h => h) (fun dn j u w h => ⟨h.1, fun e => by have := h.2.1 e; simp [upd, this], fun e => by have := h.2.2.1 e; simp [upd, this], fun e => by have := h.2.2.2 e; simp [upd, this]⟩) (.pointer (some ⟨b, 0, none⟩)) rfl ?_
          intro dn a8 w8 hS ho hn
          obtain ⟨_, n19, rfl, fa19⟩ := hn 0 19 (by kernel_rfl) rfl
          clear ho hn
          refine ⟨wanted_free rfl, ?_, rfl, fun e => absurd e (by decide), fun e => absurd e (by decide), fun e => absurd e (by decide)⟩
          go_simp
        rcases i with _ | i
        · refine done_value (fun _ _ h => h) (fun dn j u w h => ⟨h.1, fun e => by have := h.2.1 e; simp [upd, this], fun e => by have := h.2.2.1 e; simp [upd, this], fun e => by have := h.2.2.2 e; simp [upd, this]⟩) (.pointer (some ⟨b, 0, none⟩)) rfl ?_
          intro dn a8 w8 hS ho hn
          obtain ⟨_, n27, rfl, fa27⟩ := hn 8 27 (by kernel_rfl) rfl
          clear ho hn
          refine ⟨wanted_free rfl, ?_, rfl, fun e => absurd e (by decide), fun e => absurd e (by decide), fun e => absurd e (by decide)⟩
          go_simp
        rcases i with _ | i
        · refine done_store rfl rfl ?_
          intro dn a8 w8 hS hd hx ho hn
          obtain ⟨_, n28, rfl, fa28⟩ := hn 9 28 (by kernel_rfl) rfl
          obtain ⟨_, n26, hR26⟩ := hn 7 26 (by kernel_rfl) rfl
          clear ho hn
          refine ⟨wanted_free rfl, ?_⟩
          obtain ⟨rfl, _, _, fa7⟩ := hR26
          have h10 : dn 10 = false := hd
          have h7 : dn 7 = true := fa7 rfl
          have i6 := hS.2.1
          have i7 := hS.2.2.1
          have i10 := hS.2.2.2
          have hS2 : w8 = W7 := by { have h : w8 = pick5 wr.drew W5 W6 W7 W10 5 6 7 10 dn := hS.1; unfold pick5 at h; rw [h10, h7] at h; exact h }
          clear hS
          obtain ⟨g3, f3⟩ := HG3.out
          rw [← hS2] at g3 f3
          refine ⟨W10, (by rw [← HW10.out, ← hS2]; clear hS2 i6 i7 i10; go_simp), ⟨(by show W10 = pick5 wr.drew W5 W6 W7 W10 5 6 7 10 (upd dn 10); unfold pick5; rw [show upd dn 10 10 = true from rfl]; rfl), i6, i7, fun _ => h7⟩, ⟨rfl, fun e => absurd e (by decide), fun e => absurd e (by decide), fun e => absurd e (by decide)⟩, fun j u _ _ h => ⟨h.1, fun e => by have := h.2.1 e; simp [upd, this], fun e => by have := h.2.2.1 e; simp [upd, this], fun e => by have := h.2.2.2 e; simp [upd, this]⟩⟩
        omega
      · intro done fv w5 hS5 hR5 hall
        obtain rfl : w5 = W10 := by
          have h : w5 = pick5 wr.drew W5 W6 W7 W10 5 6 7 10 done := hS5.1
          unfold pick5 at h
          rw [hall 10 (by decide)] at h
          exact h
        simp only [putAll, List.foldl_cons, List.foldl_nil, Act.put, List.setIfInBounds_toArray, List.set_cons_succ, List.set_cons_zero]
        clear hR5 hS5 hall
        obtain ⟨vD, W8, hrun8, hn8, hb8⟩ := HN7.out.pushC (W2 := w5.alloc (.cells #[.slice none 0 0] 33)) ((Below.refl _ _).alloc (Nat.le_refl _) _) 40 ⟨w5.heap.size, 0, none⟩ 1 (.slice none 0 0) ((Blk.new w5 _ _).cell 0) rfl (Head.nil _ _) (by omega)
        obtain ⟨AD, cD, hvD⟩ := own_slice3 hn8.cOwn
        subst hvD
        have d1 : w5.cell? ⟨b, 1, none⟩ = some (.slice AC k cC) := HN7.out.blk.cell 1
        have HRUN8 := Lib.hid hrun8
        have HN8 := Lib.hid hn8
        have HB8 : Hid (W8.cell? ⟨b, 1, none⟩ = some (.slice AC k cC) ∧ W8.frozen? ⟨b, 1, none⟩ = false) := Lib.hid ⟨hb8.cell 1, hb8.frozen 1⟩
        have e1 : (w5.alloc (.cells #[.slice none 0 0] 33)).cell? ⟨b, 1, none⟩ = some (.slice AC k cC) := (HN7.out.blk.alloc _).cell 1
        clear hrun8 hn8 hb8
        go_wp2_with (at_builtin; refine wpList_append_run rfl _ _ 40 rfl rfl rfl HRUN8.out ?_; obtain ⟨g1, f1⟩ := HB8.out)
        exact ⟨⟨k + 1, _, _, _, _, by omega, by go_num, HN8.out⟩, by simp [intOf]; omega⟩
    · obtain rfl : k = n := by omega
      have HN := Lib.hid hn
      clear hn
      go_wp2
      go_ret2
      obtain ⟨gS, gC, cS, cC, hrd, hft⟩ := HN.out.done hz h1 h2
      exact ⟨b, gS, gC, cS, cC, vs, ws, rfl, hrd, HN.out.below, hft⟩
end Go.Proofs.Ytkebbjodkhjbmaa

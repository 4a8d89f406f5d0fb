/-
  The space of layer 4: how it lies in memory; its calls that only look.
-/
import Derived.Test.YtjndbibbfcmgiaaERuns
import Derived.Test.YtjndbibbfcmgiaaFence
import Derived.Test.YtjndbibbfcmgiaaHeads
import Derived.LaidEqlPtr
import Derived.BigQuiet
import Derived.Deep.QuietTactic
import Derived.Deep.MidRow
namespace Go.Proofs.Ytjndbibbfcmgiaa
open Go.RowKit

/-- A space's state: the first sector, and whether each is taken. -/
structure ESt where
  f : Nat
  L : List Bool
def ESt.to (s : ESt) : Nat := s.f + s.L.length
structure ESt.Ok (s : ESt) : Prop where
  few : s.f + s.L.length ≤ 4096

/-- Where a space lies: its own block, its sectors', and their slice's address and room. -/
structure SpAt where
  b : Nat
  g : Nat
  A : Option Addr
  c : Nat
def SpAt.foot (d : SpAt) (k : Nat) : Prop := k = d.b ∨ k = d.g

def bools (L : List Bool) : List Value := L.map Value.bool
theorem bools_one (L : List Bool) : ∀ u ∈ bools L, u.oneCell' = true := by
  intro u hu
  unfold bools at hu
  obtain ⟨x, _, rfl⟩ := List.mem_map.1 hu
  rfl

/-- The sectors' cells. -/
def RowB (w : World) (d : SpAt) (L : List Bool) : Prop :=
  0 < L.length → d.A = some ⟨d.g, 0, none⟩ ∧ d.b ≠ d.g ∧ ∃ cur, Blk w d.g 4 cur ∧ ∀ (k : Nat) (x : Bool), L[k]? = some x → cur[k]? = some (.bool x)

structure EK (w : World) (d : SpAt) (s : ESt) : Prop where
  ok : s.Ok
  blk : Blk w d.b 43 #[.pointer (some ⟨d.b, 0, none⟩), .int .i64 (s.f : Int), .int .i64 (s.to : Int), .slice d.A s.L.length d.c]
  cap : s.L.length ≤ d.c ∧ d.c ≤ 9223372036854775807
  row : RowB w d s.L
  gl : d.g < w.heap.size

theorem RowB.keep {w w' : World} {S : Nat → Prop} {d : SpAt} {L : List Bool} (h : RowB w d L) (hk : Keep S w w') (hg : ¬ S d.g) : RowB w' d L := fun h0 => by
  obtain ⟨e, hne, cur, hb, hc⟩ := h h0
  exact ⟨e, hne, cur, hk.blk hb hg, hc⟩
theorem EK.keep {w w' : World} {S : Nat → Prop} {d : SpAt} {s : ESt} (h : EK w d s) (hk : Keep S w w') (hf : ∀ k, d.foot k → ¬ S k) : EK w' d s :=
  ⟨h.ok, hk.blk h.blk (hf _ (.inl rfl)), h.cap, h.row.keep hk (hf _ (.inr rfl)), Nat.lt_of_lt_of_le h.gl hk.size⟩
theorem EK.below {w w' : World} {d : SpAt} {s : ESt} (h : EK w d s) (hb : Below w.heap.size w w') : EK w' d s :=
  h.keep (Keep.of_below (S := fun _ => False) hb) (fun _ _ h => h)
theorem EK.lt {w : World} {d : SpAt} {s : ESt} (h : EK w d s) : ∀ k, d.foot k → k < w.heap.size := by
  rintro k (rfl | rfl)
  · exact h.blk.lt
  · exact h.gl
theorem RowB.at_ {w : World} {d : SpAt} {L : List Bool} {k : Nat} {x : Bool} (h : RowB w d L) (hk : L[k]? = some x) : d.A = some ⟨d.g, 0, none⟩ ∧ w.cell? ⟨d.g, k, none⟩ = some (.bool x) ∧ w.frozen? ⟨d.g, k, none⟩ = false := by
  obtain ⟨e, _, cur, hb, hc⟩ := h (by have := (List.getElem?_eq_some_iff.1 hk).1; omega)
  exact ⟨e, (hb.cell k).trans (hc k x hk), hb.frozen k⟩

/-- No space: nil, or one that nobody made. -/
def EDead (w : World) (p : Option Addr) : Prop := p = none ∨ ∃ b, p = some ⟨b, 0, none⟩ ∧ w.cell? ⟨b, 0, none⟩ = some (.pointer none)
theorem EDead.below {w w' : World} {p : Option Addr} (h : EDead w p) (hb : Below w.heap.size w w') : EDead w' p := by
  rcases h with rfl | ⟨b, rfl, hc⟩
  · exact .inl rfl
  · refine .inr ⟨b, rfl, ?_⟩
    have hlt : b < w.heap.size := by
      rcases Nat.lt_or_ge b w.heap.size with hlt | hge
      · exact hlt
      · unfold World.cell? at hc
        rw [Array.getElem?_eq_none hge] at hc
        cases hc
    exact (hb.cell (p := ⟨b, 0, none⟩) hlt).trans hc

theorem run_eql_ptr_no {P : Program} (w : World) {tp te : TypeId} (a : Addr) (hp : P.underlying tp = some (.pointer te)) :
    (binOp .eql tp (.pointer none) (.pointer (some a))).run P w = .ok (.bool false) w := by
  have h : ∀ d : Nat, (Op.equalIn (d + 1) tp (.pointer none) (.pointer (some a))).run P w = .ok false w := fun d => by
    simp [Op.equalIn, run_underlying hp]
  simp only [binOp]
  simp [Op.equal, Op.maxDepth, h 9999]
theorem quiet_left {P : Program} {f : FuncId} {args : Array Value} {w : World} {n : Nat} {v : Value}
    (h : Calls P f args (w.drewN n) fun e w' => e = .returned v ∧ w.drewN n = w') : Calls P f args (w.drewN n) fun e w'' => e = .returned v ∧ ∃ m, w'' = w.drewN m :=
  h.mono fun _ _ ⟨he, hm⟩ => ⟨he, n, hm.symm⟩
theorem infoSp : (Try.prog.info? 43).map (fun i => i.size) = some 4 := by kernel_rfl

section
variable {w : World} {d : SpAt} {s : ESt}

set_option maxHeartbeats 1000000 in
theorem evalid_any (h : EK w d s) : Calls Try.prog 23 #[.pointer (some ⟨d.b, 0, none⟩)] w fun e w' => e = .returned (.bool true) ∧ w = w' := by
  have c0 : w.cell? ⟨d.b, 0, none⟩ = some (.pointer (some ⟨d.b, 0, none⟩)) := h.blk.cell 0
  obtain ⟨i0, hi0, _⟩ := Option.map_eq_some_iff.1 infoSp
  have q := fun w => run_eql_ptr_same (P := Try.prog) w (tp := 23) (te := 43) ⟨d.b, 0, none⟩ (by kernel_rfl) hi0
  clear h
  go_enter Try.func23, Try.ntmps23
  go_wp2
  go_ret
  exact ⟨rfl, rfl⟩
theorem evalid_dead (p : Option Addr) (w : World) (h : EDead w p) : Calls Try.prog 23 #[.pointer p] w fun e w' => e = .returned (.bool false) ∧ w = w' := by
  rcases h with rfl | ⟨b, rfl, c0⟩
  · go_enter Try.func23, Try.ntmps23
    go_wp2
    go_ret
    exact ⟨rfl, rfl⟩
  · have q := fun w => run_eql_ptr_no (P := Try.prog) w (tp := 23) (te := 43) ⟨b, 0, none⟩ (by kernel_rfl)
    go_enter Try.func23, Try.ntmps23
    go_wp2
    go_ret
    exact ⟨rfl, rfl⟩

theorem ebelongs_any (a : Int) (h : EK w d s) : Calls Try.prog 32 #[.pointer (some ⟨d.b, 0, none⟩), .int .i64 a] w fun e w' => e = .returned (.bool (decide ((s.f : Int) ≤ a ∧ a < (s.to : Int)))) ∧ w = w' := by
  have c1 : w.cell? ⟨d.b, 1, none⟩ = some (.int .i64 (s.f : Int)) := h.blk.cell 1
  have c2 : w.cell? ⟨d.b, 2, none⟩ = some (.int .i64 (s.to : Int)) := h.blk.cell 2
  clear h
  generalize s.to = t at *
  generalize s.f = f at *
  by_cases h0 : (f : Int) ≤ a
  · by_cases h1 : a < (t : Int)
    · rw [decide_eq_true ⟨h0, h1⟩]
      go_enter Try.func32, Try.ntmps32
      go_wp2
      go_ret
      exact ⟨rfl, rfl⟩
    · rw [decide_eq_false (fun h => h1 h.2)]
      go_enter Try.func32, Try.ntmps32
      go_wp2
      go_ret
      exact ⟨rfl, rfl⟩
  · rw [decide_eq_false (fun h => h0 h.1)]
    go_enter Try.func32, Try.ntmps32
    go_wp2
    go_ret
    exact ⟨rfl, rfl⟩

/-- Is an extent valid? -/
def coversE (s : ESt) (a n : Int) : Bool := decide (1 ≤ n ∧ ((s.f : Int) ≤ a ∧ a < (s.to : Int)) ∧ n ≤ (s.to : Int) - a)
set_option maxHeartbeats 2000000 in
theorem ecovers_any (a n : Int) (h : EK w d s) : Calls Try.prog 36 #[.pointer (some ⟨d.b, 0, none⟩), .agg #[.int .i64 a, .int .i64 n]] w fun e w' => e = .returned (.bool (coversE s a n)) ∧ Below w.heap.size w w' := by
  have hbx : Below w.heap.size w (w.alloc (.cells #[.int .i64 a, .int .i64 n] 33)) := (Below.refl _ _).alloc (Nat.le_refl _) _
  have hx := Blk.new w 33 #[.int .i64 a, .int .i64 n]
  have h1 := h.below hbx
  have x0 := hx.cell 0
  have x1 := hx.cell 1
  have c2 := h1.blk.cell 2
  have HBL : Hid (∀ k, Calls Try.prog 32 #[.pointer (some ⟨d.b, 0, none⟩), .int .i64 a] ((w.alloc (.cells #[.int .i64 a, .int .i64 n] 33)).drewN k) fun e w' => e = .returned (.bool (decide ((s.f : Int) ≤ a ∧ a < (s.to : Int)))) ∧ ((w.alloc (.cells #[.int .i64 a, .int .i64 n] 33)).drewN k) = w') := Lib.hid (fun k => ebelongs_any a (h1.below (below_drewN (Below.refl _ _) k)))
  have HBX := Lib.hid hbx
  have hfew := h.ok.few
  clear h h1 hx hbx
  unfold coversE
  have ht : s.to ≤ 4096 := hfew
  clear hfew
  generalize s.to = t at *
  generalize s.f = f at *
  by_cases hn : 1 ≤ n
  · by_cases hb : (f : Int) ≤ a ∧ a < (t : Int)
    · rw [decide_eq_true hb] at HBL
      by_cases hl : n ≤ (t : Int) - a
      · rw [decide_eq_true ⟨hn, hb, hl⟩]
        go_enter Try.func36, Try.ntmps36
        go_wp2
        go_quiet ((go_at_call 32; exact quiet_left (HBL.out _)))
        go_wp2
        go_ret
        exact ⟨rfl, below_drewN HBX.out _⟩
      · rw [decide_eq_false (fun h => hl h.2.2)]
        have hd2 : decide (n ≤ (t : Int) - a) = false := decide_eq_false hl
        go_enter Try.func36, Try.ntmps36
        go_wp2
        go_quiet ((go_at_call 32; exact quiet_left (HBL.out _)))
        go_wp2
        go_ret
        exact ⟨rfl, below_drewN HBX.out _⟩
    · rw [decide_eq_false hb] at HBL
      rw [decide_eq_false (fun h => hb h.2.1)]
      go_enter Try.func36, Try.ntmps36
      go_wp2
      go_quiet ((go_at_call 32; exact quiet_left (HBL.out _)))
      go_wp2
      go_ret
      exact ⟨rfl, below_drewN HBX.out _⟩
  · have hd : decide (1 ≤ n) = false := decide_eq_false hn
    rw [decide_eq_false (fun h => hn h.1)]
    go_enter Try.func36, Try.ntmps36
    go_wp2
    go_quiet (fail)
    go_wp2
    go_ret
    exact ⟨rfl, below_drewN HBX.out _⟩

set_option maxHeartbeats 2000000 in
/-- Has. -/
theorem ehas_any (a : Nat) (h : EK w d s) (ha : s.f ≤ a) : Calls Try.prog 21 #[.pointer (some ⟨d.b, 0, none⟩), .int .i64 (a : Int)] w fun e w' => e = .returned (.bool (s.L.getD (a - s.f) false)) ∧ Below w.heap.size w w' := by
  have HV : Hid (∀ k, Calls Try.prog 23 #[.pointer (some ⟨d.b, 0, none⟩)] (w.drewN k) fun e w' => e = .returned (.bool true) ∧ w.drewN k = w') := Lib.hid (fun k => evalid_any (h.below (below_drewN (Below.refl _ _) k)))
  have HBL : Hid (∀ k, Calls Try.prog 32 #[.pointer (some ⟨d.b, 0, none⟩), .int .i64 (a : Int)] (w.drewN k) fun e w' => e = .returned (.bool (decide ((s.f : Int) ≤ (a : Int) ∧ (a : Int) < (s.to : Int)))) ∧ w.drewN k = w') := Lib.hid (fun k => ebelongs_any (a : Int) (h.below (below_drewN (Below.refl _ _) k)))
  have c1 : w.cell? ⟨d.b, 1, none⟩ = some (.int .i64 (s.f : Int)) := h.blk.cell 1
  have c3 : w.cell? ⟨d.b, 3, none⟩ = some (.slice d.A s.L.length d.c) := h.blk.cell 3
  have hfew := h.ok.few
  by_cases hb : (a : Int) < (s.to : Int)
  · rw [decide_eq_true ⟨by omega, hb⟩] at HBL
    have hlt : a - s.f < s.L.length := by unfold ESt.to at hb; omega
    obtain ⟨e, cx, _⟩ := h.row.at_ (getD_some hlt)
    obtain ⟨k, hk⟩ : ∃ k, a - s.f = k := ⟨_, rfl⟩
    have hak : a = s.f + k := by omega
    rw [hk] at cx hlt ⊢
    subst hak
    rw [e] at c3
    generalize s.L.getD k false = x at *
    generalize s.L.length = n at *
    generalize s.f = f at *
    clear h hk e
    have hsub : ((f + k : Nat) : Int) - (f : Int) = (k : Int) := by omega
    go_enter Try.func21, Try.ntmps21
    go_wp2
    go_quiet (first | ((go_at_call 23; exact quiet_left (HV.out _))) | ((go_at_call 32; exact quiet_left (HBL.out _))))
    go_wp2
    go_ret
    exact ⟨rfl, below_drewN (Below.refl _ _) _⟩
  · rw [decide_eq_false (fun h => hb h.2)] at HBL
    have hd : s.L.getD (a - s.f) false = false := by
      rw [List.getD_eq_getElem?_getD, List.getElem?_eq_none (by unfold ESt.to at hb; omega)]
      rfl
    rw [hd]
    clear h
    go_enter Try.func21, Try.ntmps21
    go_wp2
    go_quiet (first | ((go_at_call 23; exact quiet_left (HV.out _))) | ((go_at_call 32; exact quiet_left (HBL.out _))))
    go_wp2
    go_ret
    exact ⟨rfl, below_drewN (Below.refl _ _) _⟩
def hasE (s : ESt) (a : Int) : Bool := if (s.f : Int) ≤ a then s.L.getD (a - s.f).toNat false else false
set_option maxHeartbeats 2000000 in
theorem ehas_all (a : Int) (h : EK w d s) : Calls Try.prog 21 #[.pointer (some ⟨d.b, 0, none⟩), .int .i64 a] w fun e w' => e = .returned (.bool (hasE s a)) ∧ Below w.heap.size w w' := by
  unfold hasE
  by_cases h0 : (s.f : Int) ≤ a
  · rw [if_pos h0]
    obtain ⟨n, rfl⟩ := Int.eq_ofNat_of_zero_le (a := a) (by omega)
    rw [show ((n : Int) - (s.f : Int)).toNat = n - s.f by omega]
    exact ehas_any n h (by omega)
  · rw [if_neg h0]
    have HV : Hid (∀ k, Calls Try.prog 23 #[.pointer (some ⟨d.b, 0, none⟩)] (w.drewN k) fun e w' => e = .returned (.bool true) ∧ w.drewN k = w') := Lib.hid (fun k => evalid_any (h.below (below_drewN (Below.refl _ _) k)))
    have HBL : Hid (∀ k, Calls Try.prog 32 #[.pointer (some ⟨d.b, 0, none⟩), .int .i64 a] (w.drewN k) fun e w' => e = .returned (.bool (decide ((s.f : Int) ≤ a ∧ a < (s.to : Int)))) ∧ w.drewN k = w') := Lib.hid (fun k => ebelongs_any a (h.below (below_drewN (Below.refl _ _) k)))
    rw [decide_eq_false (fun h => h0 h.1)] at HBL
    clear h
    go_enter Try.func21, Try.ntmps21
    go_wp2
    go_quiet (first | ((go_at_call 23; exact quiet_left (HV.out _))) | ((go_at_call 32; exact quiet_left (HBL.out _))))
    go_wp2
    go_ret
    exact ⟨rfl, below_drewN (Below.refl _ _) _⟩
theorem ehas_dead (p : Option Addr) (a : Int) (w : World) (h : EDead w p) : Calls Try.prog 21 #[.pointer p, .int .i64 a] w fun e w' => e = .returned (.bool false) ∧ Below w.heap.size w w' := by
  have HV : Hid (∀ k, Calls Try.prog 23 #[.pointer p] (w.drewN k) fun e w' => e = .returned (.bool false) ∧ w.drewN k = w') := Lib.hid (fun k => evalid_dead p _ (h.below (below_drewN (Below.refl _ _) k)))
  clear h
  go_enter Try.func21, Try.ntmps21
  go_wp2
  go_quiet ((go_at_call 23; exact quiet_left (HV.out _)))
  go_wp2
  go_ret
  exact ⟨rfl, below_drewN (Below.refl _ _) _⟩

set_option maxHeartbeats 1000000 in
/-- Where a state first stands in a list of them. -/
theorem eindex_any (A : Option Addr) (n c : Nat) (M : List Bool) (v : Bool) (w : World) (hl : M.length = n) (hr : Reads w w.heap.size 1 A n (bools M)) (hn : n ≤ 4096) :
    Calls Try.prog 34 #[.slice A n c, .bool v] w fun e w' => e = .returned (.int .i64 (if (M.takeWhile (fun x => x == !v)).length < n then (((M.takeWhile (fun x => x == !v)).length : Nat) : Int) else -1)) ∧ w = w' := by
  have HA := Lib.hid hr
  have HL := Lib.hid hl
  obtain ⟨R, hR⟩ : ∃ R : Int, (if (M.takeWhile (fun x => x == !v)).length < n then (((M.takeWhile (fun x => x == !v)).length : Nat) : Int) else -1) = R := ⟨_, rfl⟩
  rw [hR]
  have HRR := Lib.hid hR
  clear hr hl hR
  go_enter Try.func34, Try.ntmps34
  go_wp2
  go_loopw [8] (fun i wr => ∃ j, j ≤ n ∧ i = .int .i64 ((j : Nat) : Int) ∧ j ≤ (M.takeWhile (fun x => x == !v)).length ∧ wr = w) (fun i _ => n - (intOf i).toNat)
  case atStart => exact ⟨0, Nat.zero_le _, rfl, Nat.zero_le _, rfl⟩
  case round =>
    obtain ⟨j, hj, rfl, hni, rfl⟩ := hrel
    by_cases hlt : j < n
    · obtain ⟨ad, u, rfl, _, hu, cA⟩ := HA.out.at_ hlt
      have hjl : j < M.length := by have := HL.out; omega
      unfold bools at hu
      rw [List.getElem?_map, List.getElem?_eq_getElem hjl] at hu
      injection hu with hu
      subst hu
      have hyes : M[j] = v → (M.takeWhile (fun x => x == !v)).length = j := fun e => by
        rcases Nat.lt_or_ge j (M.takeWhile (fun x => x == !v)).length with h | h
        · obtain ⟨x, hx, hf⟩ := tw_at _ M j h
          rw [List.getElem?_eq_getElem hjl, e] at hx
          injection hx with hx
          subst hx
          cases v <;> cases hf
        · omega
      have hno : M[j] = !v → j + 1 ≤ (M.takeWhile (fun x => x == !v)).length := fun e => by
        refine tw_all _ M (j + 1) (by omega) (fun k x hk hx => ?_)
        rcases Nat.lt_or_ge k j with h | h
        · obtain ⟨y, hy, hf⟩ := tw_at (fun x => x == !v) M k (by omega)
          rw [hx] at hy
          injection hy with hy
          subst hy
          exact hf
        · obtain rfl : k = j := by omega
          rw [List.getElem?_eq_getElem hjl, e] at hx
          injection hx with hx
          subst hx
          exact beq_self_eq_true _
      generalize M[j] = y at *
      have HY := Lib.hid hyes
      have HN := Lib.hid hno
      clear hyes hno hni
      by_cases hxy : y = v
      · have hne : (v == y) = true := by simp [hxy]
        have HXY := Lib.hid hxy
        clear hxy
        go_wp2
        go_ret
        exact ⟨by rw [← HRR.out, HY.out HXY.out, if_pos hlt]; rfl, rfl⟩
      · have hne : (v == y) = false := by simpa using fun e => hxy e.symm
        have HXY : Hid (y = !v) := Lib.hid (by cases y <;> cases v <;> simp_all)
        clear hxy
        go_wp2
        exact ⟨⟨j + 1, by omega, by go_num, HN.out HXY.out, trivial⟩, by simp [intOf]; omega⟩
    · obtain rfl : j = n := by omega
      have HNI := Lib.hid hni
      clear hni
      go_wp2
      go_ret
      exact ⟨by rw [← HRR.out, if_neg (by have := HNI.out; omega)]; rfl, rfl⟩

/-- The iterator, before it is run. -/
theorem eruns_any (p : Option Addr) (a : Bool) (w : World) : Calls Try.prog 24 #[.pointer p, .bool a] w fun e w' => e = .returned (.func (.func 33) #[] #[.pointer (some ⟨w.heap.size, 0, none⟩), .pointer (some ⟨w.heap.size + 1, 0, none⟩)]) ∧
    w' = (w.alloc (.cells #[.pointer p] 23)).alloc (.cells #[.bool a] 4) := by
  go_enter Try.func24, Try.ntmps24
  go_wp2
  go_ret
  exact ⟨rfl, rfl⟩
end
end Go.Proofs.Ytjndbibbfcmgiaa

/-
  How a journal of layer 8 lies in memory; what is appended to its payloads; the calls that only look: valid, Len, Left, Epoch.
-/
import Derived.Test.YtddhldmeknmgpaaJDec2
import Derived.Test.YtddhldmeknmgpaaRDiskNewW
import Derived.Test.YtddhldmeknmgpaaKLaw
namespace Go.Proofs.Ytddhldmeknmgpaa.journal
open Go.RowKit Go.Proofs.Ytddhldmeknmgpaa.crc Go.Proofs.Ytddhldmeknmgpaa.root

structure JS where
  at_ : Int
  many : Nat
  ep : Nat
  ls : List (List UInt8)

structure JS.Fit (j : JS) : Prop where
  ls : j.ls.length ≤ j.many
  one : 1 ≤ j.many
  at_ : 0 ≤ j.at_
  top : j.at_ + (j.many : Int) ≤ 4096
  ep : j.ep < 18446744073709551616

/-- A journal at b, made since N, on the disk p; pv: its payloads' slice, vs: what that holds. -/
structure JAt (N : Nat) (w : World) (b : Nat) (p : Option Addr) (pv : Value) (vs : List Value) (j : JS) : Prop where
  lo : N ≤ b
  few : j.ls.length ≤ 4096
  blk : Blk w b 46 #[.pointer (some ⟨b, 0, none⟩), .pointer p, .int .i64 j.at_, .int .i64 (j.many : Int), .int .u64 (j.ep : Int), pv]
  own : w.ownsRow N 23 1 pv j.ls.length vs
  heads : Heads w j.ls vs

section
variable {N b : Nat} {w w' : World} {p : Option Addr} {pv : Value} {vs : List Value} {j : JS}

theorem JAt.keep {S : Nat → Prop} (h : JAt N w b p pv vs j) (hk : Keep S w w') (hb : ¬ S b) (hp : ∀ g, pv.ownBlock = some g → ¬ S g) (h8 : ∀ k, S k → ¬ Typ w k 5) : JAt N w' b p pv vs j :=
  ⟨h.lo, h.few, hk.blk h.blk hb, hk.own h.own (fun g e e2 => hp g e e2), h.heads.keep hk h8⟩
theorem JAt.below (h : JAt N w b p pv vs j) (hb : Below w.heap.size w w') : JAt N w' b p pv vs j :=
  h.keep (Keep.of_below (S := fun _ => False) hb) (fun e => e) (fun _ _ e => e) (fun _ e => e.elim)
theorem _root_.Go.Proofs.Ytddhldmeknmgpaa.DK.foot_not {w : World} {d : DAt} {kv : Value} {s : RSt} (h : DK w d kv s) {k : Nat} {t : TypeId} (hf : d.foot k) (ht : Typ w k t) (h1 : t ≠ 76) (h2 : t ≠ 80) : False := by
  rcases hf with rfl | rfl | rfl
  · exact h1 (ht.ne h.blk.typ)
  · obtain ⟨cur, hb, _⟩ := h.dur
    exact h2 (ht.ne hb.typ)
  · obtain ⟨es, clock, hm⟩ := h.cac.at_
    obtain ⟨cs, fr, e⟩ := ht
    rw [hm] at e
    cases e
/-- A disk's call leaves it. -/
theorem JAt.disk {d : DAt} {kv : Value} {s : RSt} (h : JAt N w b p pv vs j) (hd : DK w d kv s) (hk : Keep d.foot w w') : JAt N w' b p pv vs j := by
  refine h.keep hk (fun e => ?_) (fun g e e2 => ?_) (fun k hf => (hd.foot_typ k hf).2)
  · exact (hd.foot_not e h.blk.typ (by decide) (by decide)).elim
  · exact (hd.foot_not e2 (own_typ2 h.own g e).1 (by decide) (by decide)).elim
theorem JAt.lt (h : JAt N w b p pv vs j) : b < w.heap.size := h.blk.lt

theorem JAt.push {W W2 : World} {l : List UInt8} (h : JAt N W b p pv vs j) (k2 : Below W.heap.size W W2) (ty : TypeId) (ad : Addr) (m : Nat) (u : Value) (hu : W2.cell? ad = some u) (h1 : u.oneCell' = true) (hd : Head W2 5 (l.map bv) u) (hi : j.ls.length < 4096) :
    ∃ v' W3, (Builtin.append_ #[44, 44] ty #[pv, .slice (some ad) 1 m]).run Try.prog W2 = .ok v' W3 ∧ JAt N (W3.setCell ⟨b, 5, none⟩ v') b p v' (vs ++ [u]) { j with ls := j.ls ++ [l] } ∧ Blk W3 b 46 #[.pointer (some ⟨b, 0, none⟩), .pointer p, .int .i64 j.at_, .int .i64 (j.many : Int), .int .u64 (j.ep : Int), pv] ∧ W2.grownBy W3 pv.ownBlock ∧ (v'.ownBlock = pv.ownBlock ∨ v'.ownBlock = some W2.heap.size) ∧ W3.ownsRow N 23 1 v' (j.ls.length + 1) (vs ++ [u]) := by
  obtain ⟨i0, hin, hz0, hz1, hz2⟩ := info_parts info_rows
  have k0 : Keep (fun _ => False) W W2 := Keep.of_below k2
  have hN : N ≤ W.heap.size := by have := h.lo; have := h.blk.lt; omega
  have hs2 := k0.own h.own (fun _ _ e => e)
  have hb2 := k0.blk h.blk (fun e => e)
  have hu1 : ∀ q u', ([u] : List Value)[q]? = some u' → W2.cell? (ad.add q) = some u' := fun q u' hq => by
    rcases q with _ | q
    · have : ad.add 0 = ad := by unfold Addr.add; cases ad; simp
      rw [this]
      exact hu.trans hq
    · simp at hq
  obtain ⟨v', W3, hrun, hown, hg, _, hat⟩ := run_append_own_at (P := Try.prog) W2 N 44 ty 23 i0 (.slice none 0 0) 1 24 Try.underlying44 hin hz0 hz1 hz2 rfl (by decide) pv j.ls.length vs hs2 ad 1 m [u] rfl hu1 (fun u' hm => by rw [List.mem_singleton.1 hm]; exact h1) (by unfold maxLen; omega) (by omega) (Nat.le_trans hN k2.size)
  have kg : Keep (fun k => pv.ownBlock = some k) W2 W3 := (Keep.refl _ W2).grown hg (fun g e _ => e)
  have tS := own_typ2 hs2
  have hbS : ¬ pv.ownBlock = some b := fun e => absurd ((tS b e).1.ne hb2.typ) (by decide)
  have hb3 := kg.blk hb2 hbS
  have tV := own_typ2 hown
  have hbV : ¬ v'.ownBlock = some b := fun e => absurd ((tV b e).1.ne hb3.typ) (by decide)
  have kb : Keep (fun k => k = b) W3 (W3.setCell ⟨b, 5, none⟩ v') := (Keep.refl _ W3).setCell ⟨b, 5, none⟩ v' (fun _ => rfl)
  have n8 : ∀ k, pv.ownBlock = some k → ¬ Typ W2 k 5 := fun k e t => absurd ((tS k e).1.ne t) (by decide)
  have n8b : ∀ k, k = b → ¬ Typ W3 k 5 := fun k e t => by subst e; exact absurd (hb3.typ.ne t) (by decide)
  have e8 : ∀ k, (fun _ : Nat => False) k → ¬ Typ W k 5 := fun _ e => e.elim
  have hl : (j.ls ++ [l]).length = j.ls.length + 1 := by simp
  refine ⟨v', W3, hrun, ⟨h.lo, by show (j.ls ++ [l]).length ≤ 4096; rw [hl]; omega, hb3.set_ 5 v', ?_, ?_⟩, hb3, hg, hat, hown⟩
  · show (W3.setCell ⟨b, 5, none⟩ v').ownsRow N 23 1 v' (j.ls ++ [l]).length (vs ++ [u])
    rw [hl]
    exact kb.own hown (fun k e e2 => hbV (by rw [e, e2]))
  · exact (((h.heads.keep k0 e8).keep kg n8).snoc (hd.keep kg n8)).keep kb n8b

/-! ### The calls that only look -/
theorem jvalid_any (h : JAt N w b p pv vs j) : Calls Try.prog 37 #[.pointer (some ⟨b, 0, none⟩)] w fun e w' => e = .returned (.bool true) ∧ w = w' := by
  have x0 : w.cell? ⟨b, 0, none⟩ = some (.pointer (some ⟨b, 0, none⟩)) := h.blk.cell 0
  obtain ⟨i0, hi0⟩ : ∃ i0, Try.prog.info? 46 = some i0 := Option.isSome_iff_exists.1 (by kernel_rfl)
  have q := fun w => run_eql_ptr_same (P := Try.prog) w (tp := 38) (te := 46) ⟨b, 0, none⟩ (by kernel_rfl) hi0
  clear h
  go_enter Try.func37, Try.ntmps37
  go_wp2
  go_ret
  exact ⟨rfl, rfl⟩
theorem jvalid_nil (w : World) : Calls Try.prog 37 #[.pointer none] w fun e w' => e = .returned (.bool false) ∧ w = w' := by
  go_enter Try.func37, Try.ntmps37
  go_wp2
  go_ret
  exact ⟨rfl, rfl⟩
theorem jvalid_zero (w : World) (b : Nat) (hc : w.cell? ⟨b, 0, none⟩ = some (.pointer none)) : Calls Try.prog 37 #[.pointer (some ⟨b, 0, none⟩)] w fun e w' => e = .returned (.bool false) ∧ w = w' := by
  have q := fun w => run_eql_ptr_none (P := Try.prog) w (tp := 38) (te := 46) ⟨b, 0, none⟩ (by kernel_rfl)
  go_enter Try.func37, Try.ntmps37
  go_wp2
  go_ret
  exact ⟨rfl, rfl⟩
/-- No journal: none at all, or one that Open did not answer. -/
def Idle (w : World) (q : Option Addr) : Prop := q = none ∨ ∃ b, q = some ⟨b, 0, none⟩ ∧ w.cell? ⟨b, 0, none⟩ = some (.pointer none)
theorem jvalid_idle (w : World) (q : Option Addr) (h : Idle w q) : Calls Try.prog 37 #[.pointer q] w fun e w' => e = .returned (.bool false) ∧ w = w' := by
  rcases h with rfl | ⟨b, rfl, hc⟩
  · exact jvalid_nil w
  · exact jvalid_zero w b hc
theorem jlen_any (h : JAt N w b p pv vs j) : Calls Try.prog 16 #[.pointer (some ⟨b, 0, none⟩)] w fun e w' => e = .returned (.int .i64 (j.ls.length : Int)) ∧ w = w' := by
  have HV := Lib.hid (jvalid_any h)
  obtain ⟨A, c, rfl⟩ := own_slice3 h.own
  have x5 := h.blk.cell 5
  clear h
  go_enter Try.func16, Try.ntmps16
  go_wp2_with (go_at_call 37; refine HV.out.mono ?_; rintro e _ ⟨rfl, rfl⟩)
  go_ret
  exact ⟨rfl, rfl⟩
theorem jlen_idle (w : World) (q : Option Addr) (h : Idle w q) : Calls Try.prog 16 #[.pointer q] w fun e w' => e = .returned (.int .i64 0) ∧ w = w' := by
  have HV := Lib.hid (jvalid_idle w q h)
  clear h
  go_enter Try.func16, Try.ntmps16
  go_wp2_with (go_at_call 37; refine HV.out.mono ?_; rintro e _ ⟨rfl, rfl⟩)
  go_ret
  exact ⟨rfl, rfl⟩
theorem jleft_any {k : Nat} (h : JAt N w b p pv vs j) (hfit : j.Fit) (hk : j.many = j.ls.length + k) : Calls Try.prog 17 #[.pointer (some ⟨b, 0, none⟩)] w fun e w' => e = .returned (.int .i64 (k : Int)) ∧ ∃ n, w' = w.drewN n := by
  have HV := Lib.hid (jvalid_any h)
  obtain ⟨A, c, rfl⟩ := own_slice3 h.own
  have x5 := h.blk.cell 5
  have x3 := h.blk.cell 3
  have hm : (j.many : Int) - (j.ls.length : Int) = (k : Int) := by omega
  have hb1 := hfit.top
  have hb2 := hfit.at_
  have hb3 : (j.many : Int) ≤ 4096 := by omega
  have hb4 : (j.ls.length : Int) ≤ 4096 := by omega
  have hb5 : (k : Int) ≤ 4096 := by omega
  clear h hk hb1 hb2 hfit
  generalize (j.many : Int) = m at *
  generalize (j.ls.length) = n at *
  go_enter Try.func17, Try.ntmps17
  go_wp2_with (go_at_call 37; refine HV.out.mono ?_; rintro e _ ⟨rfl, rfl⟩)
  go_quiet (fail)
  go_wp2
  go_ret
  exact ⟨rfl, nq, rfl⟩
theorem jleft_idle (w : World) (q : Option Addr) (h : Idle w q) : Calls Try.prog 17 #[.pointer q] w fun e w' => e = .returned (.int .i64 0) ∧ w = w' := by
  have HV := Lib.hid (jvalid_idle w q h)
  clear h
  go_enter Try.func17, Try.ntmps17
  go_wp2_with (go_at_call 37; refine HV.out.mono ?_; rintro e _ ⟨rfl, rfl⟩)
  go_ret
  exact ⟨rfl, rfl⟩
theorem jepoch_any (h : JAt N w b p pv vs j) : Calls Try.prog 18 #[.pointer (some ⟨b, 0, none⟩)] w fun e w' => e = .returned (.int .u64 (j.ep : Int)) ∧ w = w' := by
  have HV := Lib.hid (jvalid_any h)
  have x4 := h.blk.cell 4
  clear h
  go_enter Try.func18, Try.ntmps18
  go_wp2_with (go_at_call 37; refine HV.out.mono ?_; rintro e _ ⟨rfl, rfl⟩)
  go_ret
  exact ⟨rfl, rfl⟩
theorem jepoch_idle (w : World) (q : Option Addr) (h : Idle w q) : Calls Try.prog 18 #[.pointer q] w fun e w' => e = .returned (.int .u64 0) ∧ w = w' := by
  have HV := Lib.hid (jvalid_idle w q h)
  clear h
  go_enter Try.func18, Try.ntmps18
  go_wp2_with (go_at_call 37; refine HV.out.mono ?_; rintro e _ ⟨rfl, rfl⟩)
  go_ret
  exact ⟨rfl, rfl⟩
end

/-! ### bytes.Clone -/
theorem jclone_any (A : Option Addr) (n c : Nat) (l : List UInt8) (w : World) (hl : l.length = n) (hn : n ≤ 140737488355000) (hr : Reads w w.heap.size 1 A n (l.map bv)) :
    Calls Try.prog 40 #[.slice A n c] w fun e w' => ∃ A' c', e = .returned (.slice A' n c') ∧ w'.ownsRow w.heap.size 5 1 (.slice A' n c') n (l.map bv) ∧ Below w.heap.size w w' := by
  rcases A with _ | ad
  · obtain rfl : n = 0 := by
      rcases Nat.eq_zero_or_pos n with h | h
      · exact h
      · obtain ⟨ad, e, _⟩ := hr.2 h
        cases e
    obtain rfl : l = [] := List.eq_nil_of_length_eq_zero hl
    have q := q24
    clear hr hl
    go_enter Try.func40, Try.ntmps40
    go_wp2
    go_ret
    exact ⟨none, 0, rfl, World.ownsRow_nil _ _ _ _, Below.refl _ _⟩
  · obtain ⟨i0, hi, hz0, hz1, hz2⟩ := info_parts infoU8
    have HO : Hid ((w.alloc (.cells #[] 5)).ownsRow w.heap.size 5 1 (.slice (some ⟨w.heap.size, 0, none⟩) 0 0) 0 (([] : List UInt8).map bv)) := Lib.hid (own_of_alloc w #[] [] 0 rfl rfl (by unfold maxLen; omega))
    have HR := Lib.hid (hr.alloc (Nat.le_refl _) (.cells #[] 5))
    have HB := Lib.hid ((Below.refl _ w).alloc (Nat.le_refl _) (.cells #[] 5))
    have HB2 : Hid (w.heap.size ≤ (w.alloc (.cells #[] 5)).heap.size) := Lib.hid (by simp)
    have q := q24
    have z5 : ∀ w, Sem.run Try.prog (Go.sizeOf 5) w = .ok 1 w := fun w => by simp [Go.sizeOf, typeInfo, hi, hz1]
    clear hr
    go_enter Try.func40, Try.ntmps40
    go_wp2_with (at_builtin; go_loud (refine wpList_append_any _ rfl _ _ 23 rfl w.heap.size 5 i0 (.int .u8 0) 1 1 Try.underlying23 hi hz0 hz1 hz2 rfl (by decide) _ 0 (([] : List UInt8).map bv) rfl HO.out _ (some ad) n c (l.map bv) rfl HR.out (bv_one l) (by unfold maxLen; omega) (by omega) HB2.out ?_); intro v7 w7 o7 g7 _; obtain ⟨A7, c7, rfl, p7, k7⟩ := app_out (p := n) HB.out HO.out o7 g7 (by omega) (List.nil_append l); have K7 := Lib.hid k7; have P7 := Lib.hid p7; clear o7 g7 p7 k7)
    go_ret
    exact ⟨A7, c7, rfl, P7.out, K7.out⟩
end Go.Proofs.Ytddhldmeknmgpaa.journal

/-
  The disk of layer 3: how it lies in memory; its calls that only look.
-/
import Derived.Test.YtddhldmeknmgpaaRDiskD
import Derived.Deep.MidRow
import Derived.LaidEqlPtr
import Derived.Laws.CopyOwn
import Derived.Maps.OwnSet
import Derived.Maps.RangeWalk
import Derived.Maps.Own
namespace Go.Proofs.Ytddhldmeknmgpaa
open Go.RowKit Go.Maps

/-- A sector's bytes as a value. -/
def secV (l : List UInt8) : Value := .agg (l.map bv).toArray
theorem bv_inj {a b : UInt8} (h : bv a = bv b) : a = b := by
  unfold bv at h
  injection h with _ h
  exact UInt8.toNat_inj.1 (by omega)
theorem mapbv_inj : ∀ {l k : List UInt8}, l.map bv = k.map bv → l = k
  | [], [], _ => rfl
  | [], _ :: _, h => by cases h
  | _ :: _, [], h => by cases h
  | a :: l, b :: k, h => by
    rw [List.map_cons, List.map_cons] at h
    injection h with h1 h2
    rw [bv_inj h1, mapbv_inj h2]
theorem secV_inj {l k : List UInt8} (h : secV l = secV k) : l = k := by
  unfold secV at h
  injection h with h
  exact mapbv_inj (by simpa using congrArg Array.toList h)

open Classical in
/-- How a sector's value reads in a map. -/
noncomputable def secR (v : Value) : Option (DataW Unit × List MemPlace) :=
  if h : ∃ l : List UInt8, l.length = 128 ∧ v = secV l then some (.lit (.string (Classical.choose h)), []) else none
theorem secR_mk {l : List UInt8} (hl : l.length = 128) : secR (secV l) = some (.lit (.string l), []) := by
  unfold secR
  have h : ∃ k : List UInt8, k.length = 128 ∧ secV l = secV k := ⟨l, hl, rfl⟩
  rw [dif_pos h, secV_inj (Classical.choose_spec h).2.symm]
theorem secR_inv {v : Value} {y : DataW Unit × List MemPlace} (h : secR v = some y) : ∃ l : List UInt8, l.length = 128 ∧ v = secV l ∧ y = (.lit (.string l), []) := by
  unfold secR at h
  split at h
  · rename_i hx
    injection h with h
    exact ⟨_, (Classical.choose_spec hx).1, (Classical.choose_spec hx).2, h.symm⟩
  · cases h

/-- The datum D has just what waits. -/
structure CacheIs (D : DataW Unit) (cache : List (List UInt8)) : Prop where
  yes : ∀ (k : Nat) (l : List UInt8), cache[k]? = some l → 0 < l.length → has D (.int .i64 (k : Int)) = true ∧ ∀ z, D.atKey (.int .i64 (k : Int)) z = .lit (.string l)
  only : ∀ x : Int, has D (.int .i64 x) = true → ∃ (k : Nat) (l : List UInt8), x = (k : Int) ∧ cache[k]? = some l ∧ 0 < l.length

/-- Where a disk lies: its own block, its sectors', its cache's; and how many sectors their slice has room for. -/
structure DAt where
  b : Nat
  g : Nat
  m : Nat
  cS : Nat

def DAt.foot (d : DAt) (k : Nat) : Prop := k = d.b ∨ k = d.g ∨ k = d.m

/-- Block g holds the sectors' bytes, one behind the other. -/
def Dur (w : World) (g cS : Nat) (ls : List (List UInt8)) : Prop :=
  ∃ cur, Blk w g 80 cur ∧ ls.length ≤ cS ∧ cur.size = cS * 128 ∧ ∀ (k : Nat) (l : List UInt8), ls[k]? = some l → ∀ (j : Nat) (x : UInt8), l[j]? = some x → cur[k * 128 + j]? = some (bv x)

def MapOf (w : World) (m : Nat) (cache : List (List UInt8)) : Prop := ∃ D, w.ownsMap Try.prog 3 secR m 4096 D ∧ CacheIs D cache

structure RSt.More (s : RSt) : Prop where
  many : 0 ≤ s.many ∧ s.many ≤ 9223372036854775807
  write : 0 ≤ s.write ∧ s.write ≤ 9223372036854775807
  torn : i64ok s.torn
  at_ : i64ok s.at_
  keep : ∀ x ∈ s.keep, i64ok x

structure DK (w : World) (d : DAt) (kv : Value) (s : RSt) : Prop where
  ok : s.Ok
  more : s.More
  some_ : 0 < s.stays.length
  blk : Blk w d.b 76 #[.pointer (some ⟨d.b, 0, none⟩), .slice (some ⟨d.g, 0, none⟩) s.stays.length d.cS, .map (some d.m), .int .i64 s.many, .bool s.down, .int .i64 s.write, kv, .int .i64 s.torn, .int .i64 s.at_]
  dur : Dur w d.g d.cS s.stays
  cac : MapOf w d.m s.cache
  kHead : Head w 3 (s.keep.map iv) kv

theorem MapOf.at_ {w : World} {m : Nat} {cache : List (List UInt8)} (h : MapOf w m cache) : ∃ es clock, w.heap[m]? = some (.map es clock) := by
  obtain ⟨D, ⟨es, clock, hb, _⟩, _⟩ := h
  exact ⟨es, clock, hb⟩
theorem MapOf.keep {w w' : World} {S : Nat → Prop} {m : Nat} {cache : List (List UInt8)} (h : MapOf w m cache) (hk : Keep S w w') (hS : ¬ S m) : MapOf w' m cache := by
  obtain ⟨D, ⟨es, clock, hb, F, hs, hD⟩, hC⟩ := h
  exact ⟨D, ⟨es, clock, (hk.block m (Array.getElem?_eq_some_iff.1 hb).1 hS).trans hb, F, hs, hD⟩, hC⟩
theorem Dur.keep {w w' : World} {S : Nat → Prop} {g cS : Nat} {ls : List (List UInt8)} (h : Dur w g cS ls) (hk : Keep S w w') (hS : ¬ S g) : Dur w' g cS ls := by
  obtain ⟨cur, hb, rest⟩ := h
  exact ⟨cur, hk.blk hb hS, rest⟩

theorem DK.b_ne_g {w : World} {d : DAt} {kv : Value} {s : RSt} (h : DK w d kv s) : d.b ≠ d.g := by
  obtain ⟨cur, hb, _⟩ := h.dur
  exact h.blk.ne_ hb (by decide)
theorem DK.b_ne_m {w : World} {d : DAt} {kv : Value} {s : RSt} (h : DK w d kv s) : d.b ≠ d.m := by
  intro e
  obtain ⟨es, clock, hm⟩ := h.cac.at_
  have hb := h.blk
  unfold Blk at hb
  rw [e, hm] at hb
  cases hb
theorem DK.g_ne_m {w : World} {d : DAt} {kv : Value} {s : RSt} (h : DK w d kv s) : d.g ≠ d.m := by
  intro e
  obtain ⟨es, clock, hm⟩ := h.cac.at_
  obtain ⟨cur, hb, _⟩ := h.dur
  unfold Blk at hb
  rw [e, hm] at hb
  cases hb

theorem DK.lt {w : World} {d : DAt} {kv : Value} {s : RSt} (h : DK w d kv s) : ∀ k, d.foot k → k < w.heap.size := by
  rintro k (rfl | rfl | rfl)
  · exact h.blk.lt
  · obtain ⟨cur, hb, _⟩ := h.dur
    exact hb.lt
  · obtain ⟨es, clock, hm⟩ := h.cac.at_
    exact (Array.getElem?_eq_some_iff.1 hm).1

/-- None of the disk's blocks holds numbers or bytes. -/
theorem DK.foot_typ {w : World} {d : DAt} {kv : Value} {s : RSt} (h : DK w d kv s) : ∀ k, d.foot k → ¬ Typ w k 3 ∧ ¬ Typ w k 5 := by
  rintro k (rfl | rfl | rfl)
  · exact ⟨fun e => absurd (h.blk.typ.ne e) (by decide), fun e => absurd (h.blk.typ.ne e) (by decide)⟩
  · obtain ⟨cur, hb, _⟩ := h.dur
    exact ⟨fun e => absurd (hb.typ.ne e) (by decide), fun e => absurd (hb.typ.ne e) (by decide)⟩
  · obtain ⟨es, clock, hm⟩ := h.cac.at_
    refine ⟨fun ⟨cs, fr, e⟩ => ?_, fun ⟨cs, fr, e⟩ => ?_⟩
    · rw [hm] at e; cases e
    · rw [hm] at e; cases e

/-- What does not touch the disk's blocks leaves it. -/
theorem DK.keep {w w' : World} {S : Nat → Prop} {d : DAt} {kv : Value} {s : RSt} (h : DK w d kv s) (hk : Keep S w w') (hf : ∀ k, d.foot k → ¬ S k) (hi : ∀ k, S k → ¬ Typ w k 3) : DK w' d kv s :=
  ⟨h.ok, h.more, h.some_, hk.blk h.blk (hf _ (.inl rfl)), h.dur.keep hk (hf _ (.inr (.inl rfl))), h.cac.keep hk (hf _ (.inr (.inr rfl))), h.kHead.keep hk hi⟩
theorem Head.keepA {w w' : World} {S : Nat → Prop} {t : TypeId} {xs : List Value} {v : Value} (h : Head w t xs v) (hk : Keep S w w') (hS : ∀ ad n c, v = .slice (some ad) n c → ¬ S ad.block) : Head w' t xs v := by
  obtain ⟨A, c, rfl, h1, h2, h3, h4⟩ := h
  have hn : ∀ ad, A = some ad → ¬ S ad.block := fun ad e => hS ad _ _ (by rw [e])
  exact ⟨A, c, rfl, h1, h2, (h3.keepS hk (Nat.le_refl _) hn).more hk.size, fun ad e => (h4 ad e).keep hk (hn ad e)⟩
theorem DK.keepA {w w' : World} {S : Nat → Prop} {d : DAt} {kv : Value} {s : RSt} (h : DK w d kv s) (hk : Keep S w w') (hf : ∀ k, d.foot k → ¬ S k) (hi : ∀ ad n c, kv = .slice (some ad) n c → ¬ S ad.block) : DK w' d kv s :=
  ⟨h.ok, h.more, h.some_, hk.blk h.blk (hf _ (.inl rfl)), h.dur.keep hk (hf _ (.inr (.inl rfl))), h.cac.keep hk (hf _ (.inr (.inr rfl))), h.kHead.keepA hk hi⟩
theorem DK.below {w w' : World} {d : DAt} {kv : Value} {s : RSt} (h : DK w d kv s) (hb : Below w.heap.size w w') : DK w' d kv s :=
  h.keep (Keep.of_below (S := fun _ => False) hb) (fun _ _ h => h) (fun _ h => h.elim)
theorem DK.drew {w : World} {d : DAt} {kv : Value} {s : RSt} (h : DK w d kv s) : DK w.drew d kv s := h.below (Below.refl _ _).drew

theorem run_eql_ptr_none {P : Program} (w : World) {tp te : TypeId} (a : Addr) (hp : P.underlying tp = some (.pointer te)) :
    (binOp .eql tp (.pointer none) (.pointer (some a))).run P w = .ok (.bool false) w := by
  have h : ∀ d : Nat, (Op.equalIn (d + 1) tp (.pointer none) (.pointer (some a))).run P w = .ok false w := fun d => by
    simp [Op.equalIn, run_underlying hp]
  simp only [binOp]
  simp [Op.equal, Op.maxDepth, h 9999]
theorem infoDk : (Try.prog.info? 76).map (fun i => i.size) = some 9 := by kernel_rfl

/-- No disk: nil, or one that nobody made. -/
def Dead (w : World) (p : Option Addr) : Prop := p = none ∨ ∃ b, p = some ⟨b, 0, none⟩ ∧ w.cell? ⟨b, 0, none⟩ = some (.pointer none)
theorem Dead.nil (w : World) : Dead w none := .inl rfl
theorem Dead.below {w w' : World} {p : Option Addr} (h : Dead w p) (hb : Below w.heap.size w w') : Dead w' p := by
  rcases h with rfl | ⟨b, rfl, hc⟩
  · exact .inl rfl
  · refine .inr ⟨b, rfl, ?_⟩
    have hlt : b < w.heap.size := by
      rcases Nat.lt_or_ge b w.heap.size with hlt | hge
      · exact hlt
      · unfold World.cell? at hc
        rw [Array.getElem?_eq_none hge] at hc
        cases hc
    exact (hb.cell (p := ⟨b, 0, none⟩) hlt).trans hc

section
variable {w : World} {d : DAt} {kv : Value} {s : RSt}

set_option maxHeartbeats 1000000 in
theorem dvalid_any (h : DK w d kv s) : Calls Try.prog 44 #[.pointer (some ⟨d.b, 0, none⟩)] w fun e w' => e = .returned (.bool true) ∧ w = w' := by
  have c0 : w.cell? ⟨d.b, 0, none⟩ = some (.pointer (some ⟨d.b, 0, none⟩)) := h.blk.cell 0
  obtain ⟨i0, hi0, _⟩ := Option.map_eq_some_iff.1 infoDk
  have q := fun w => run_eql_ptr_same (P := Try.prog) w (tp := 35) (te := 76) ⟨d.b, 0, none⟩ (by kernel_rfl) hi0
  clear h
  go_enter Try.func44, Try.ntmps44
  go_wp2
  go_ret
  exact ⟨rfl, rfl⟩
theorem dvalid_dead (p : Option Addr) (w : World) (h : Dead w p) : Calls Try.prog 44 #[.pointer p] w fun e w' => e = .returned (.bool false) ∧ w = w' := by
  rcases h with rfl | ⟨b, rfl, c0⟩
  · go_enter Try.func44, Try.ntmps44
    go_wp2
    go_ret
    exact ⟨rfl, rfl⟩
  · have q := fun w => run_eql_ptr_none (P := Try.prog) w (tp := 35) (te := 76) ⟨b, 0, none⟩ (by kernel_rfl)
    go_enter Try.func44, Try.ntmps44
    go_wp2
    go_ret
    exact ⟨rfl, rfl⟩

theorem dusable_any (h : DK w d kv s) : Calls Try.prog 42 #[.pointer (some ⟨d.b, 0, none⟩)] w fun e w' => e = .returned (.int .i64 (if s.down then 31 else 0)) ∧ w = w' := by
  have c4 : w.cell? ⟨d.b, 4, none⟩ = some (.bool s.down) := h.blk.cell 4
  have HV := Lib.hid (dvalid_any h)
  clear h
  cases hd : s.down
  all_goals
    rw [hd] at c4
    clear hd
    go_enter Try.func42, Try.ntmps42
    go_wp2_with (go_at_call 44; refine HV.out.mono ?_; rintro e _ ⟨rfl, rfl⟩)
    go_ret
    exact ⟨rfl, rfl⟩
theorem dusable_dead (p : Option Addr) (w : World) (h : Dead w p) : Calls Try.prog 42 #[.pointer p] w fun e w' => e = .returned (.int .i64 1) ∧ w = w' := by
  have HV := Lib.hid (dvalid_dead p w h)
  clear h
  go_enter Try.func42, Try.ntmps42
  go_wp2_with (go_at_call 44; refine HV.out.mono ?_; rintro e _ ⟨rfl, rfl⟩)
  go_ret
  exact ⟨rfl, rfl⟩

theorem dhas_any (a : Int) (h : DK w d kv s) : Calls Try.prog 43 #[.pointer (some ⟨d.b, 0, none⟩), .int .i64 a] w fun e w' => e = .returned (.bool (has3 s a)) ∧ w = w' := by
  have c1 : w.cell? ⟨d.b, 1, none⟩ = some (.slice (some ⟨d.g, 0, none⟩) s.stays.length d.cS) := h.blk.cell 1
  have hf := h.ok.few
  clear h
  unfold has3
  by_cases h0 : 0 ≤ a
  · by_cases h1 : a < (s.stays.length : Int)
    · rw [decide_eq_true ⟨h0, h1⟩]
      generalize s.stays.length = n at *
      go_enter Try.func43, Try.ntmps43
      go_wp2
      go_ret
      exact ⟨rfl, rfl⟩
    · rw [decide_eq_false (fun h => h1 h.2)]
      generalize s.stays.length = n at *
      go_enter Try.func43, Try.ntmps43
      go_wp2
      go_ret
      exact ⟨rfl, rfl⟩
  · rw [decide_eq_false (fun h => h0 h.1)]
    go_enter Try.func43, Try.ntmps43
    go_wp2
    go_ret
    exact ⟨rfl, rfl⟩

def takes3 (s : RSt) (a : Int) (n : Nat) : Bool := has3 s a && decide (n = 128)
theorem dtakes_any (a : Int) (A : Option Addr) (n c : Nat) (h : DK w d kv s) : Calls Try.prog 46 #[.pointer (some ⟨d.b, 0, none⟩), .int .i64 a, .slice A n c] w fun e w' => e = .returned (.bool (takes3 s a n)) ∧ w = w' := by
  have HH := Lib.hid (dhas_any a h)
  clear h
  unfold takes3
  cases hh : has3 s a
  · rw [hh] at HH
    clear hh
    go_enter Try.func46, Try.ntmps46
    go_wp2_with (go_at_call 43; refine HH.out.mono ?_; rintro e _ ⟨rfl, rfl⟩)
    go_ret
    exact ⟨rfl, rfl⟩
  · rw [hh] at HH
    clear hh
    by_cases hn : n = 128
    · subst hn
      go_enter Try.func46, Try.ntmps46
      go_wp2_with (go_at_call 43; refine HH.out.mono ?_; rintro e _ ⟨rfl, rfl⟩)
      go_ret
      exact ⟨rfl, rfl⟩
    · have hne : ((n : Int) == 128) = false := by rw [beq_eq_false_iff_ne]; omega
      rw [decide_eq_false hn]
      go_enter Try.func46, Try.ntmps46
      go_wp2_with (go_at_call 43; refine HH.out.mono ?_; rintro e _ ⟨rfl, rfl⟩)
      go_ret
      exact ⟨rfl, rfl⟩

/-- The cells of the disk's own block are laid anew. -/
theorem DK.self {w w' : World} {d : DAt} {kv kv' : Value} {s s' : RSt} (h : DK w d kv s) (hk : Keep (fun k => k = d.b) w w') (hs : s'.stays = s.stays) (hc : s'.cache = s.cache) (hm : s'.More)
    (hb : Blk w' d.b 76 #[.pointer (some ⟨d.b, 0, none⟩), .slice (some ⟨d.g, 0, none⟩) s.stays.length d.cS, .map (some d.m), .int .i64 s'.many, .bool s'.down, .int .i64 s'.write, kv', .int .i64 s'.torn, .int .i64 s'.at_])
    (hkv : Head w' 3 (s'.keep.map iv) kv') : DK w' d kv' s' :=
  ⟨⟨by rw [hs, hc]; exact h.ok.same, by rw [hs]; exact h.ok.few, by rw [hs]; exact h.ok.stay, by rw [hc]; exact h.ok.wait⟩, hm, by rw [hs]; exact h.some_, by rw [hs]; exact hb, by rw [hs]; exact h.dur.keep hk (fun e => h.b_ne_g e.symm), by rw [hc]; exact h.cac.keep hk (fun e => h.b_ne_m e.symm), hkv⟩

def bootSt (s : RSt) : RSt := { s with down := false }
theorem dboot_any (h : DK w d kv s) : Calls Try.prog 23 #[.pointer (some ⟨d.b, 0, none⟩)] w fun e w' => e = .returned (.int .i64 0) ∧ DK w' d kv (bootSt s) ∧ Keep (fun k => k = d.b) w w' := by
  have HV := Lib.hid (dvalid_any h)
  have c4 : w.cell? ⟨d.b, 4, none⟩ = some (.bool s.down) := h.blk.cell 4
  have f4 := h.blk.frozen 4
  have hb' := h.blk.set_ 4 (.bool false)
  have hk : Keep (fun k => k = d.b) w (w.setCell ⟨d.b, 4, none⟩ (.bool false)) := (Keep.refl _ w).setCell _ _ (fun _ => rfl)
  have HF : Hid (DK (w.setCell ⟨d.b, 4, none⟩ (.bool false)) d kv (bootSt s) ∧ Keep (fun k => k = d.b) w (w.setCell ⟨d.b, 4, none⟩ (.bool false))) :=
    ⟨h.self hk rfl rfl ⟨h.more.many, h.more.write, h.more.torn, h.more.at_, h.more.keep⟩ hb' (h.kHead.keep hk (fun k e => by subst e; exact (h.foot_typ _ (.inl rfl)).1)), hk⟩
  clear h hb' hk
  go_enter Try.func23, Try.ntmps23
  go_wp2_with (go_at_call 44; refine HV.out.mono ?_; rintro e _ ⟨rfl, rfl⟩)
  go_ret
  exact ⟨rfl, HF.out.1, HF.out.2⟩
theorem dboot_dead (p : Option Addr) (w : World) (h : Dead w p) : Calls Try.prog 23 #[.pointer p] w fun e w' => e = .returned (.int .i64 1) ∧ w = w' := by
  have HV := Lib.hid (dvalid_dead p w h)
  clear h
  go_enter Try.func23, Try.ntmps23
  go_wp2_with (go_at_call 44; refine HV.out.mono ?_; rintro e _ ⟨rfl, rfl⟩)
  go_ret
  exact ⟨rfl, rfl⟩
end

end Go.Proofs.Ytddhldmeknmgpaa
